package claims

import (
	"slices"
	"strings"

	"identity/api"
	"identity/codec"
)

// The places of the lines: those of strings come first, then those of lists,
// then those of numbers.
const (
	firstList   = 8
	firstNumber = 11
	lineCount   = 16
)

// lineKeys are the keys of the lines.
var lineKeys = [lineCount]string{
	"kind", "issuer", "subject", "client", "tenant", "id", "session", "nonce",
	"audience", "scopes", "actors",
	"issued", "notbefore", "expires", "authtime", "level",
}

// texts returns the strings of claims in the order of their lines.
func texts(c *api.Claims) []*string {
	return []*string{&c.Kind, &c.Issuer, &c.Subject, &c.Client, &c.Tenant, &c.ID, &c.Session, &c.Nonce}
}

// lists returns the lists of claims in the order of their lines.
func lists(c *api.Claims) []*[]string {
	return []*[]string{&c.Audience, &c.Scopes, &c.Actors}
}

// numbers returns the numbers of claims in the order of their lines.
func numbers(c *api.Claims) []*int {
	return []*int{&c.Issued, &c.NotBefore, &c.Expires, &c.AuthTime, &c.Level}
}

// Encode returns the text form of claims.
func Encode(c api.Claims) (string, api.Errno) {
	if e := Check(c); e != api.OK {
		return "", e
	}
	var b strings.Builder
	for i, value := range values(c) {
		b.WriteString(lineKeys[i] + "=" + value + "\n")
	}
	if b.Len() > api.MaxText {
		return "", api.ErrLimit
	}
	return b.String(), api.OK
}

// values returns the values of the lines of claims.
func values(c api.Claims) []string {
	return slices.Concat(
		forms(texts(&c), codec.Escape),
		forms(lists(&c), codec.Join),
		forms(numbers(&c), codec.Int),
	)
}

// forms returns the text forms of some fields.
func forms[T any](fields []*T, form func(T) string) []string {
	var l []string
	for _, field := range fields {
		l = append(l, form(*field))
	}
	return l
}

// Decode returns the claims with a text form.
func Decode(s string) (api.Claims, api.Errno) {
	if len(s) > api.MaxText {
		return api.Claims{}, api.ErrLimit
	}
	l, ok := cutLines(s)
	if !ok {
		return api.Claims{}, api.ErrForm
	}
	c, ok := read(l)
	// Claims with an error have no lines: Encode does not return any.
	if !ok || Check(c) != api.OK {
		return api.Claims{}, api.ErrForm
	}
	return c, api.OK
}

// cutLines returns the values of lines with the keys of claims.
func cutLines(s string) ([]string, bool) {
	var l []string
	for _, key := range lineKeys {
		line, rest, ended := strings.Cut(s, "\n")
		value, found := strings.CutPrefix(line, key+"=")
		if !ended || !found {
			return nil, false
		}
		l = append(l, value)
		s = rest
	}
	return l, s == ""
}

// read returns the claims whose lines have these values.
func read(l []string) (api.Claims, bool) {
	var c api.Claims
	ok := fill(texts(&c), l[:firstList], codec.Unescape) &&
		fill(lists(&c), l[firstList:firstNumber], codec.Split) &&
		fill(numbers(&c), l[firstNumber:], codec.ReadInt)
	return c, ok
}

// fill sets some fields to what their text forms mean, and reports whether all
// of them have a meaning.
func fill[T any](fields []*T, l []string, meaning func(string) (T, api.Errno)) bool {
	for i, field := range fields {
		value, e := meaning(l[i])
		if e != api.OK {
			return false
		}
		*field = value
	}
	return true
}
