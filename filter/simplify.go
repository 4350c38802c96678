package filter

import (
	"slices"

	"identity/api"
)

// Simplify returns an equivalent filter whose negations apply to comparisons.
func Simplify(f api.Filter) api.Filter {
	if Check(f) != api.OK {
		return copied(f)
	}
	g := simplified(f, false)
	// The negations of many comparisons can be too many nodes.
	if Check(g) != api.OK {
		return copied(f)
	}
	return g
}

// simplified returns the filter f, or its negation, with the negations at the comparisons.
func simplified(f api.Filter, negated bool) api.Filter {
	switch {
	case f.Kind == api.NotFilter:
		return simplified(f.Kids[0], !negated)
	case comparison(f) && negated:
		return api.Filter{Kind: api.NotFilter, Kids: []api.Filter{copied(f)}}
	case comparison(f):
		return copied(f)
	}
	g := api.Filter{Kind: f.Kind}
	if negated {
		g.Kind = opposite(f.Kind)
	}
	for _, kid := range f.Kids {
		g.Kids = append(g.Kids, simplified(kid, negated))
	}
	return g
}

// opposite returns the kind of the negation of a conjunction or disjunction.
func opposite(kind api.FilterKind) api.FilterKind {
	if kind == api.AndFilter {
		return api.OrFilter
	}
	return api.AndFilter
}

// copied returns a filter that is equal to f and shares no memory with it.
func copied(f api.Filter) api.Filter {
	f.Parts = slices.Clone(f.Parts)
	f.Kids = slices.Clone(f.Kids)
	for i, kid := range f.Kids {
		f.Kids[i] = copied(kid)
	}
	return f
}
