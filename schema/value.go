package schema

import (
	"cmp"
	"strconv"
	"strings"

	"identity/api"
	"identity/codec"
	"identity/fold"
	"identity/name"
)

// Normal returns the normal form of a value of an attribute.
func Normal(s api.Schema, name, value string) (string, api.Errno) {
	a, ok := Type(s, name)
	if !ok {
		return "", api.ErrNone
	}
	return normal(a.Syntax, value)
}

// normal returns the normal form of a value with a syntax, or ErrType.
func normal(syntax api.Syntax, value string) (string, api.Errno) {
	form, ok := normalForm(syntax, value)
	if !ok || !fold.Clean(value) || !fold.Clean(form) {
		return "", api.ErrType
	}
	return form, api.OK
}

// normalForm returns the normal form of a value that has the syntax, and whether it has.
func normalForm(syntax api.Syntax, value string) (string, bool) {
	switch syntax {
	case api.TextSyntax:
		value = fold.Fold(value)
		fallthrough
	case api.ExactSyntax:
		return value, true
	case api.IntSyntax:
		n, ok := number(value)
		return codec.Int(n), ok
	case api.NameSyntax:
		clean, e := name.Clean(value)
		return clean, e == api.OK
	}
	return truth(value)
}

// number returns the number with these digits, among them leading zeros.
func number(value string) (int, bool) {
	if !digits(strings.TrimPrefix(value, "-")) {
		return 0, false
	}
	n, err := strconv.Atoi(value)
	return n, err == nil
}

// digits reports whether s consists of at least one digit, and of nothing else.
func digits(s string) bool {
	for i := range len(s) {
		if s[i] < '0' || s[i] > '9' {
			return false
		}
	}
	return s != ""
}

// truth returns the normal form of a value that stands for true or false.
func truth(value string) (string, bool) {
	switch fold.Lower(value) {
	case "true":
		return "TRUE", true
	case "false":
		return "FALSE", true
	}
	return "", false
}

// Compare compares two values of an attribute.
func Compare(s api.Schema, name, a, b string) (int, api.Errno) {
	t, ok := Type(s, name)
	if !ok {
		return 0, api.ErrNone
	}
	x, e := normal(t.Syntax, a)
	if e != api.OK {
		return 0, e
	}
	y, e := normal(t.Syntax, b)
	if e != api.OK {
		return 0, e
	}
	return compareForms(t.Syntax, x, y), api.OK
}

// compareForms compares two normal forms of a syntax.
func compareForms(syntax api.Syntax, x, y string) int {
	switch syntax {
	case api.IntSyntax:
		m, _ := codec.ReadInt(x)
		n, _ := codec.ReadInt(y)
		return cmp.Compare(m, n)
	case api.NameSyntax:
		return name.Compare(x, y)
	}
	return strings.Compare(x, y)
}
