package name

import (
	"strings"

	"identity/api"
	"identity/fold"
)

// marks are the bytes that a value contains only with the byte escape before them.
const (
	marks  = `,=+\`
	escape = '\\'
)

// Parse returns the components of a distinguished name, the most specific one first.
func Parse(s string) ([]api.Pair, api.Errno) {
	var l []api.Pair
	for more := s != ""; more; {
		var piece string
		piece, s, more = cut(s, ',')
		p, e := component(piece)
		if e != api.OK {
			return nil, e
		}
		// The error of a later piece counts before the limit, so all pieces
		// are read; one component too many is enough to remember.
		if len(l) <= api.MaxDepth {
			l = append(l, p)
		}
	}
	if len(l) > api.MaxDepth {
		return nil, api.ErrLimit
	}
	return l, api.OK
}

// cut divides s at the first separator that is not escaped.
func cut(s string, separator byte) (before, after string, found bool) {
	for i := 0; i < len(s); i++ {
		switch s[i] {
		case separator:
			return s[:i], s[i+1:], true
		case escape:
			i++
		}
	}
	return s, "", false
}

// component returns the component that is written in a piece of a name.
func component(piece string) (api.Pair, api.Errno) {
	left, right, found := cut(piece, '=')
	if !found {
		return api.Pair{}, api.ErrForm
	}
	value, ok := unescaped(fold.Trim(right))
	if !ok {
		return api.Pair{}, api.ErrForm
	}
	p := api.Pair{Key: fold.Trim(left), Value: value}
	if e := check(p); e != api.OK {
		return api.Pair{}, e
	}
	return p, api.OK
}

// check returns the error of a component.
func check(p api.Pair) api.Errno {
	switch {
	case !fold.Name(p.Key):
		return api.ErrName
	case !fold.Clean(p.Value):
		return api.ErrType
	}
	return api.OK
}

// unescaped returns the value that is written as s.
func unescaped(s string) (string, bool) {
	var b strings.Builder
	for i := 0; i < len(s); i++ {
		if s[i] == escape {
			i++
			if i == len(s) || !mark(s[i]) {
				return "", false
			}
		} else if mark(s[i]) {
			return "", false
		}
		b.WriteByte(s[i])
	}
	return b.String(), true
}

// escaped returns the way in which a value is written.
func escaped(value string) string {
	var b strings.Builder
	for i := range len(value) {
		if mark(value[i]) {
			b.WriteByte(escape)
		}
		b.WriteByte(value[i])
	}
	return b.String()
}

// mark reports whether c is one of the marks.
func mark(c byte) bool {
	return strings.IndexByte(marks, c) >= 0
}

// Format returns the normal form of a distinguished name with these components.
func Format(l []api.Pair) (string, api.Errno) {
	var b strings.Builder
	for i, p := range l {
		if e := check(p); e != api.OK {
			return "", e
		}
		if i > 0 {
			b.WriteByte(',')
		}
		b.WriteString(fold.Lower(p.Key))
		b.WriteByte('=')
		b.WriteString(escaped(fold.Fold(p.Value)))
	}
	if len(l) > api.MaxDepth {
		return "", api.ErrLimit
	}
	return b.String(), api.OK
}

// Clean returns the normal form of a distinguished name.
func Clean(s string) (string, api.Errno) {
	l, e := Parse(s)
	if e != api.OK {
		return "", e
	}
	return Format(l)
}

// Valid reports whether s is a distinguished name in normal form.
func Valid(s string) bool {
	_, ok := components(s)
	return ok
}

// components returns the components of a string in normal form.
func components(s string) ([]api.Pair, bool) {
	l, e := Parse(s)
	if e != api.OK {
		return nil, false
	}
	if t, e := Format(l); e != api.OK || t != s {
		return nil, false
	}
	return l, true
}
