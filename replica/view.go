package replica

import (
	"maps"
	"slices"

	"identity/api"
	"identity/merge"
	"identity/name"
)

// view is a state of which only those entries count whose parents exist.
type view struct {
	*merge.State
	roots map[string]bool
}

// find returns the identifier of the entry of the view with a name.
func (v view) find(s string) (string, bool) {
	id, found := v.Find(s)
	if !found || !v.hasParent(s) {
		return "", false
	}
	return id, true
}

// exists reports whether a name is a root or that of an entry of the view.
func (v view) exists(s string) bool {
	_, found := v.find(s)
	return found || v.roots[s]
}

// hasParent reports whether the parent of a name exists.
func (v view) hasParent(s string) bool {
	parent, ok := name.Parent(s)
	return ok && v.exists(parent)
}

// isFree reports whether a name is neither a root nor that of any entry of the state.
func (v view) isFree(s string) bool {
	_, found := v.Find(s)
	return !found && !v.roots[s]
}

// hasChildren reports whether the name of an entry of the view is the parent
// of the name of another one.
func (v view) hasChildren(id string) bool {
	above, _ := v.Entry(id)
	// With such a parent, an entry of the state belongs to the view.
	return slices.ContainsFunc(v.Live(), func(other string) bool {
		e, _ := v.Entry(other)
		parent, _ := name.Parent(e.Name)
		return parent == above.Name
	})
}

// entries returns the entries of the view in the order of their names.
func (v view) entries() []api.Entry {
	existing := maps.Clone(v.roots)
	var l []api.Entry
	// A parent comes before its children.
	for _, e := range v.Entries() {
		parent, _ := name.Parent(e.Name)
		if existing[parent] {
			existing[e.Name] = true
			l = append(l, e)
		}
	}
	return l
}
