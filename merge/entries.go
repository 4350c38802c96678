package merge

import (
	"maps"
	"slices"

	"identity/api"
	"identity/attrs"
	"identity/name"
)

// Live returns the identifiers of the entries that exist, in ascending order.
func (s *State) Live() []string {
	return s.ascending(func(id string) bool { return true })
}

// Conflicts returns the identifiers of the entries that lost their names to others.
func (s *State) Conflicts() []string {
	// The names tell less: a long one can be that of the owner and of a loser.
	return s.ascending(func(id string) bool { return s.owner(s.ownName(id)) != id })
}

// Orphans returns the identifiers of the entries whose parents do not exist.
func (s *State) Orphans() []string {
	return s.ascending(func(id string) bool { return !s.hasParent(s.displayed(id)) })
}

// ascending returns the identifiers of the live entries that satisfy a
// condition, in order.
func (s *State) ascending(wanted func(id string) bool) []string {
	if !s.made() {
		return nil
	}
	var l []string
	for _, ids := range s.named {
		for _, id := range ids {
			if wanted(id) {
				l = append(l, id)
			}
		}
	}
	slices.Sort(l)
	return l
}

// Entry returns the entry with an identifier, under the name that it has after conflicts are resolved.
func (s *State) Entry(id string) (api.Entry, bool) {
	if !s.made() {
		return api.Entry{}, false
	}
	shown := s.displayed(id)
	if shown == "" {
		return api.Entry{}, false
	}
	var l []api.Attr
	for attr, records := range s.records[id] {
		l = append(l, api.Attr{Name: attr, Values: present(records)})
	}
	return api.Entry{Name: shown, Attrs: attrs.Sorted(l)}, true
}

// present returns the values that an attribute with these records has, in any
// order. Records without an attribute leave none.
func present(records []api.Change) []string {
	values := map[string]bool{}
	for _, c := range records {
		if c.Op == api.PutValue {
			values[c.Value] = true
		} else {
			delete(values, c.Value)
		}
	}
	return slices.Collect(maps.Keys(values))
}

// Entries returns all entries, ordered by their names.
func (s *State) Entries() []api.Entry {
	var l []api.Entry
	for _, id := range s.Live() {
		e, _ := s.Entry(id)
		l = append(l, e)
	}
	// Entries with equal names stay in the order of their identifiers.
	slices.SortStableFunc(l, func(a, b api.Entry) int { return name.Compare(a.Name, b.Name) })
	return l
}
