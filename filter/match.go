package filter

import (
	"slices"
	"strings"

	"identity/api"
	"identity/attrs"
	"identity/fold"
	"identity/schema"
)

// Match reports whether an entry satisfies a filter.
func Match(s api.Schema, f api.Filter, e api.Entry) bool {
	return Check(f) == api.OK && satisfies(s, f, e)
}

// satisfies reports whether an entry satisfies a filter without errors.
func satisfies(s api.Schema, f api.Filter, e api.Entry) bool {
	holds := func(kid api.Filter) bool { return satisfies(s, kid, e) }
	fails := func(kid api.Filter) bool { return !holds(kid) }
	switch f.Kind {
	case api.AndFilter:
		return !slices.ContainsFunc(f.Kids, fails)
	case api.OrFilter:
		return slices.ContainsFunc(f.Kids, holds)
	case api.NotFilter:
		return fails(f.Kids[0])
	}
	t, ok := schema.Type(s, f.Name)
	return ok && slices.ContainsFunc(attrs.Get(e.Attrs, f.Name), condition(s, t, f))
}

// condition returns whether a value satisfies a comparison with an attribute of this type.
func condition(s api.Schema, t api.AttrType, f api.Filter) func(value string) bool {
	switch f.Kind {
	case api.PresentFilter:
		return func(string) bool { return true }
	case api.SubstringFilter:
		return func(value string) bool {
			_, e := schema.Normal(s, f.Name, value)
			return e == api.OK && contains(t.Syntax, value, f.Parts)
		}
	}
	return func(value string) bool {
		n, e := schema.Compare(s, f.Name, value, f.Value)
		return e == api.OK && inOrder(f.Kind, n)
	}
}

// inOrder reports whether a comparison is satisfied by values that compare as n.
func inOrder(kind api.FilterKind, n int) bool {
	switch kind {
	case api.AtLeastFilter:
		return n >= 0
	case api.AtMostFilter:
		return n <= 0
	}
	return n == 0
}

// contains reports whether a value of a syntax consists of a beginning, parts and an end.
func contains(syntax api.Syntax, value string, parts []string) bool {
	switch syntax {
	case api.TextSyntax:
		return fold.Match(value, parts)
	case api.ExactSyntax:
		return containsExactly(value, parts)
	}
	return false
}

// containsExactly is contains for values that are compared byte by byte.
func containsExactly(value string, parts []string) bool {
	last := len(parts) - 1
	rest, found := strings.CutPrefix(value, parts[0])
	if !found {
		return false
	}
	// The end is cut off before the parts between are looked for, so that
	// none of them can overlap it.
	rest, found = strings.CutSuffix(rest, parts[last])
	for _, part := range parts[1:last] {
		if !found {
			return false
		}
		_, rest, found = strings.Cut(rest, part)
	}
	return found
}
