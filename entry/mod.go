package entry

import (
	"maps"
	"slices"

	"identity/api"
	"identity/attrs"
	"identity/schema"
)

// Apply returns an entry after modifications.
func Apply(s api.Schema, e api.Entry, l []api.Mod) (api.Entry, api.Errno) {
	n, bad := Normal(s, e)
	if bad != api.OK || !identical(n, e) {
		return api.Entry{}, api.ErrArg
	}
	if len(l) > api.MaxMods {
		return api.Entry{}, api.ErrLimit
	}
	for _, m := range l {
		if n.Attrs, bad = modified(s, n.Attrs, m); bad != api.OK {
			return api.Entry{}, bad
		}
	}
	if bad := schema.Valid(s, n); bad != api.OK {
		return api.Entry{}, bad
	}
	return n, api.OK
}

// modified returns a list of attributes after a modification.
func modified(s api.Schema, l []api.Attr, m api.Mod) ([]api.Attr, api.Errno) {
	if m.Op < api.AddValues || m.Op > api.ReplaceValues {
		return nil, api.ErrArg
	}
	if _, ok := schema.Type(s, m.Name); !ok {
		return nil, api.ErrNone
	}
	values, bad := normalValues(s, m.Name, m.Values)
	if bad != api.OK {
		return nil, bad
	}
	// An addition without values is ErrNone, as attrs.Add has it.
	switch m.Op {
	case api.AddValues:
		return attrs.Add(l, m.Name, values)
	case api.DeleteValues:
		return attrs.Remove(l, m.Name, values)
	}
	return attrs.Replace(l, m.Name, values)
}

// Diff returns the modifications that turn a into b.
func Diff(a, b api.Entry) []api.Mod {
	if Check(a) != api.OK || Check(b) != api.OK {
		return nil
	}
	before, after := valuesByName(a.Attrs), valuesByName(b.Attrs)
	occurring := maps.Clone(before)
	maps.Copy(occurring, after)
	var l []api.Mod
	for _, attr := range slices.Sorted(maps.Keys(occurring)) {
		l = append(l, diffValues(attr, before[attr], after[attr])...)
	}
	return l
}

// valuesByName returns the values of each attribute by its name in lower case.
func valuesByName(l []api.Attr) map[string][]string {
	values := map[string][]string{}
	for _, a := range attrs.Sorted(l) {
		values[a.Name] = a.Values
	}
	return values
}

// diffValues returns the modifications that turn the values before of an attribute into those after.
func diffValues(attr string, before, after []string) []api.Mod {
	gone, added := without(before, after), without(after, before)
	var l []api.Mod
	switch {
	case len(after) == 0:
		l = append(l, api.Mod{Op: api.DeleteValues, Name: attr})
	case len(before) > 0 && len(gone) == len(before):
		l = append(l, api.Mod{Op: api.ReplaceValues, Name: attr, Values: added})
	case len(gone) > 0:
		l = append(l, api.Mod{Op: api.DeleteValues, Name: attr, Values: gone})
		if len(added) == 0 {
			break
		}
		fallthrough
	case len(added) > 0:
		l = append(l, api.Mod{Op: api.AddValues, Name: attr, Values: added})
	}
	return l
}

// without returns the strings of l that are not in other.
func without(l, other []string) []string {
	var rest []string
	for _, s := range l {
		if !slices.Contains(other, s) {
			rest = append(rest, s)
		}
	}
	return rest
}
