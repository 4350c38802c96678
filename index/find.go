package index

import (
	"maps"
	"slices"

	"identity/api"
	"identity/name"
)

// Find returns the names of the entries in which an attribute has a value.
func (x *Index) Find(name, value string) ([]string, bool) {
	c, indexed := x.column(name)
	if !indexed {
		return nil, false
	}
	return c.with(value).list(), true
}

// Range returns the names of the entries in which an attribute has a value between two bounds.
func (x *Index) Range(name, low, high string) ([]string, bool) {
	c, indexed := x.column(name)
	if !indexed {
		return nil, false
	}
	return c.between(low, high).list(), true
}

// list returns the names of a set in order.
func (l nameSet) list() []string {
	return slices.SortedFunc(maps.Keys(l), name.Compare)
}

// Candidates returns names that contain all entries that satisfy a filter, if the index can tell.
func (x *Index) Candidates(f api.Filter) ([]string, bool) {
	if !x.made() {
		return nil, false
	}
	found, known := x.candidates(f)
	return found.list(), known
}

// candidates returns the set of the candidates for a filter, if the index can tell.
func (x *Index) candidates(f api.Filter) (nameSet, bool) {
	switch f.Kind {
	case api.AndFilter:
		return x.least(f.Kids)
	case api.OrFilter:
		return x.union(f.Kids)
	case api.EqualFilter, api.AtLeastFilter, api.AtMostFilter, api.PresentFilter:
		return x.compared(f)
	}
	return nil, false
}

// least returns the smallest set of candidates for one of some filters, if
// the index can tell for one.
func (x *Index) least(kids []api.Filter) (least nameSet, known bool) {
	for _, kid := range kids {
		found, ok := x.candidates(kid)
		if ok && (!known || len(found) < len(least)) {
			least, known = found, true
		}
	}
	return least, known
}

// union returns the candidates for one of some filters, if the index can tell for all.
func (x *Index) union(kids []api.Filter) (nameSet, bool) {
	all := nameSet{}
	for _, kid := range kids {
		found, known := x.candidates(kid)
		if !known {
			return nil, false
		}
		maps.Copy(all, found)
	}
	return all, true
}

// compared returns the candidates for a comparison, if its attribute is indexed.
func (x *Index) compared(f api.Filter) (nameSet, bool) {
	c, indexed := x.column(f.Name)
	if !indexed {
		return nil, false
	}
	switch {
	case f.Kind == api.PresentFilter:
		return c.all(), true
	case f.Kind == api.AtLeastFilter && f.Value != "":
		return c.between(f.Value, ""), true
	case f.Kind == api.AtMostFilter && f.Value != "":
		return c.between("", f.Value), true
	}
	// An empty value is not valid, and no entry has it.
	return c.with(f.Value), true
}
