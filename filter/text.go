package filter

import (
	"strings"

	"identity/api"
)

// The signs of the comparisons with a value.
const (
	equalSign   = "="
	atLeastSign = ">="
	atMostSign  = "<="
)

// wildcard stands for any value, and between the parts of a substring comparison.
const wildcard = "*"

// The states of the reader in a comparison.
const (
	inName  = iota // in the name, or before it
	inSign         // between the two bytes of a sign
	inValue        // after the sign
	outside        // after a byte that cannot be there
)

// Text returns the text form of a filter.
func Text(f api.Filter) (string, api.Errno) {
	if e := Check(f); e != api.OK {
		return "", e
	}
	s := text(f)
	if len(s) > api.MaxText {
		return "", api.ErrLimit
	}
	return s, api.OK
}

// text returns the text form of a node.
func text(f api.Filter) string {
	return "(" + body(f) + ")"
}

// body returns the text form of a node without its parentheses.
func body(f api.Filter) string {
	switch f.Kind {
	case api.AndFilter:
		return "&" + texts(f.Kids)
	case api.OrFilter:
		return "|" + texts(f.Kids)
	case api.NotFilter:
		return "!" + texts(f.Kids)
	case api.AtLeastFilter:
		return f.Name + atLeastSign + escaped(f.Value)
	case api.AtMostFilter:
		return f.Name + atMostSign + escaped(f.Value)
	case api.PresentFilter:
		return f.Name + equalSign + wildcard
	case api.SubstringFilter:
		return f.Name + equalSign + joined(f.Parts)
	}
	return f.Name + equalSign + escaped(f.Value)
}

// texts returns the text forms of nodes.
func texts(l []api.Filter) string {
	var b strings.Builder
	for _, f := range l {
		b.WriteString(text(f))
	}
	return b.String()
}

// joined returns the way in which parts are written.
func joined(parts []string) string {
	written := make([]string, len(parts))
	for i, part := range parts {
		written[i] = escaped(part)
	}
	return strings.Join(written, wildcard)
}

// escaped returns the way in which a value or a part is written.
func escaped(s string) string {
	return strings.NewReplacer(`(`, `\28`, `)`, `\29`, `*`, `\2a`, `\`, `\5c`).Replace(s)
}

// unescaped returns the value or part that is written as s, and whether there is one.
func unescaped(s string) (string, bool) {
	plain := strings.NewReplacer(`\28`, `(`, `\29`, `)`, `\2a`, `*`, `\5c`, `\`).Replace(s)
	return plain, escaped(plain) == s
}

// Parse returns the filter with a text form.
func Parse(s string) (api.Filter, api.Errno) {
	if len(s) > api.MaxText {
		return api.Filter{}, api.ErrLimit
	}
	r := reader{rest: s}
	f, ok := r.filter()
	if !ok || r.rest != "" {
		return api.Filter{}, api.ErrForm
	}
	if e := Check(f); e != api.OK {
		return api.Filter{}, e
	}
	return f, api.OK
}

// reader reads a text; rest is what it has not read.
type reader struct{ rest string }

// take reads a string if it comes next, and reports whether it does.
func (r *reader) take(next string) bool {
	rest, found := strings.CutPrefix(r.rest, next)
	r.rest = rest
	return found
}

// filter reads a filter, and reports whether there is one.
func (r *reader) filter() (api.Filter, bool) {
	if !r.take("(") {
		return api.Filter{}, false
	}
	f, ok := r.body()
	return f, ok && r.take(")")
}

// body reads what is between the parentheses of a filter.
func (r *reader) body() (api.Filter, bool) {
	switch {
	case r.take("&"):
		return r.list(api.AndFilter)
	case r.take("|"):
		return r.list(api.OrFilter)
	case r.take("!"):
		kid, ok := r.filter()
		return api.Filter{Kind: api.NotFilter, Kids: []api.Filter{kid}}, ok
	}
	return r.comparison()
}

// list reads any number of filters, and returns a node with them.
func (r *reader) list(kind api.FilterKind) (api.Filter, bool) {
	f := api.Filter{Kind: kind}
	for strings.HasPrefix(r.rest, "(") {
		kid, ok := r.filter()
		if !ok {
			return api.Filter{}, false
		}
		f.Kids = append(f.Kids, kid)
	}
	return f, true
}

// comparison reads a comparison.
func (r *reader) comparison() (api.Filter, bool) {
	// No parenthesis is a part of a comparison, so the first one follows it.
	end := strings.IndexAny(r.rest, "()")
	if end < 0 {
		return api.Filter{}, false
	}
	s := r.rest[:end]
	r.rest = r.rest[end:]
	state, read := inName, 0
	for read < len(s) && state != inValue && state != outside {
		state = after(state, s[read])
		read++
	}
	if state != inValue {
		return api.Filter{}, false
	}
	return compared(s[:read], s[read:])
}

// after returns the state after a byte in front of the value.
func after(state int, c byte) int {
	switch {
	case c == '=':
		return inValue
	case state == inSign:
		return outside
	case c == '<' || c == '>':
		return inSign
	case c == '*' || c == '\\':
		return outside
	}
	return inName
}

// compared returns the comparison of which these are the name with the sign,
// and the value as it is written.
func compared(head, value string) (api.Filter, bool) {
	name, kind := divided(head)
	if kind == api.EqualFilter && value == wildcard {
		return api.Filter{Kind: api.PresentFilter, Name: name}, true
	}
	var parts []string
	for _, written := range strings.Split(value, wildcard) {
		part, ok := unescaped(written)
		if !ok {
			return api.Filter{}, false
		}
		parts = append(parts, part)
	}
	switch {
	case len(parts) == 1:
		return api.Filter{Kind: kind, Name: name, Value: parts[0]}, true
	case kind == api.EqualFilter:
		return api.Filter{Kind: api.SubstringFilter, Name: name, Parts: parts}, true
	}
	return api.Filter{}, false
}

// divided returns the name before a sign, and the kind of the sign.
func divided(head string) (string, api.FilterKind) {
	if name, found := strings.CutSuffix(head, atLeastSign); found {
		return name, api.AtLeastFilter
	}
	if name, found := strings.CutSuffix(head, atMostSign); found {
		return name, api.AtMostFilter
	}
	return strings.TrimSuffix(head, equalSign), api.EqualFilter
}
