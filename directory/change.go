package directory

import (
	"slices"

	"identity/access"
	"identity/api"
	"identity/entry"
	"identity/name"
	"identity/refint"
	"identity/replica"
)

// edit is a list of modifications of an entry with a name.
type edit struct {
	name string
	mods []api.Mod
}

// entryName returns the normal form of a name that an entry can have.
func entryName(s string) (string, api.Errno) {
	clean, e := name.Clean(s)
	if e != api.OK || clean == "" {
		return "", api.ErrName
	}
	return clean, api.OK
}

// find returns the entry with a name, which need not be in normal form.
func (d *Directory) find(s string) (api.Entry, api.Errno) {
	clean, bad := name.Clean(s)
	if bad != api.OK {
		return api.Entry{}, api.ErrName
	}
	e, found := d.replica.Get(clean)
	if !found {
		return api.Entry{}, api.ErrNone
	}
	return e, api.OK
}

// may reports whether a subject has a right on the entry with a name as a whole.
func (s settings) may(u api.Subject, right api.Right, name string) bool {
	allowed, _ := access.Decide(s.rules, u, name, "", right)
	return allowed
}

// refersToNothing reports whether a reference of an entry leads to a name that
// is neither in the tree nor its own.
func (d *Directory) refersToNothing(e api.Entry) bool {
	return slices.ContainsFunc(refint.Refs(d.schema, e), func(to string) bool {
		_, known := d.tree.Get(to)
		return !known && to != e.Name
	})
}

// done brings the contents up to date after an operation of the replica
// without an error.
func (d *Directory) done(e api.Errno) api.Errno {
	if e == api.OK {
		d.contents = d.contentsOf(d.replica)
	}
	return e
}

// together performs several operations of the replica, at least one of which
// makes a record, or none of them if one returns an error.
func (d *Directory) together(operate func(r *replica.Replica) api.Errno) api.Errno {
	// A replica takes no record back. So the operations are those of a copy,
	// which takes the place of the replica if there is no error. A copy is
	// fresh, but not any more when it has made a record.
	r, _ := replica.New(d.replica.Number(), d.schema, d.roots)
	r.Receive(d.replica.Since(nil))
	if e := operate(r); e != api.OK {
		return e
	}
	d.contents = d.contentsOf(r)
	return api.OK
}

// Add creates an entry for a subject.
func (d *Directory) Add(u api.Subject, e api.Entry, now int) api.Errno {
	if !d.made() {
		return api.ErrNil
	}
	clean, bad := entryName(e.Name)
	switch {
	case bad != api.OK:
		return bad
	case !d.may(u, api.AddRight, clean):
		return api.ErrDenied
	}
	normal, bad := entry.Normal(d.schema, e)
	switch {
	case bad != api.OK:
		return bad
	case d.refersToNothing(normal):
		return api.ErrRef
	}
	_, bad = d.replica.Add(normal, now)
	return d.done(bad)
}

// Modify changes an entry for a subject.
func (d *Directory) Modify(u api.Subject, name string, l []api.Mod, now int) api.Errno {
	if !d.made() {
		return api.ErrNil
	}
	e, bad := d.find(name)
	if bad != api.OK {
		return bad
	}
	if bad := access.Writes(d.rules, u, e.Name, l); bad != api.OK {
		return bad
	}
	after, bad := entry.Apply(d.schema, e, l)
	switch {
	case bad != api.OK:
		return bad
	case d.refersToNothing(after):
		return api.ErrRef
	}
	return d.done(d.replica.Modify(e.Name, l, now))
}

// Delete removes an entry for a subject, and all references to it.
func (d *Directory) Delete(u api.Subject, name string, now int) api.Errno {
	if !d.made() {
		return api.ErrNil
	}
	e, bad := d.find(name)
	switch {
	case bad != api.OK:
		return bad
	case !d.may(u, api.DeleteRight, e.Name):
		return api.ErrDenied
	case len(d.tree.Children(e.Name)) > 0:
		return api.ErrState
	}
	removals, bad := d.removals(e.Name)
	if bad != api.OK {
		return bad
	}
	return d.together(func(r *replica.Replica) api.Errno {
		for _, x := range removals {
			if bad := r.Modify(x.name, x.mods, now); bad != api.OK {
				return bad
			}
		}
		return r.Delete(e.Name, now)
	})
}

// removals returns the modifications that remove the references of all other
// entries to a name.
func (d *Directory) removals(to string) ([]edit, api.Errno) {
	var l []edit
	for _, s := range refint.Referrers(d.schema, d.tree, to) {
		if s == to {
			continue
		}
		e, _ := d.tree.Get(s)
		mods := refint.Removed(d.schema, e, to)
		if _, bad := entry.Apply(d.schema, e, mods); bad != api.OK {
			return nil, api.ErrRef
		}
		l = append(l, edit{s, mods})
	}
	return l, api.OK
}

// Rename renames an entry for a subject, and lets all references follow.
func (d *Directory) Rename(u api.Subject, from, to string, now int) api.Errno {
	if !d.made() {
		return api.ErrNil
	}
	source, bad := entryName(from)
	target, worse := entryName(to)
	if bad != api.OK || worse != api.OK {
		return api.ErrName
	}
	_, found := d.replica.Get(source)
	switch {
	case !found:
		return api.ErrNone
	case !d.may(u, api.DeleteRight, source) || !d.may(u, api.AddRight, target):
		return api.ErrDenied
	case source == target:
		return api.OK
	}
	return d.together(func(r *replica.Replica) api.Errno {
		if bad := r.Rename(source, target, now); bad != api.OK {
			return bad
		}
		return d.follow(r, source, target, now)
	})
}

// follow lets the entries of a replica that refer to an entry refer to its new name.
func (s settings) follow(r *replica.Replica, from, to string, now int) api.Errno {
	renamed := s.contentsOf(r).tree
	for _, referrer := range refint.Referrers(s.schema, renamed, from) {
		e, _ := renamed.Get(referrer)
		mods := refint.Renamed(s.schema, e, from, to)
		after, bad := entry.Apply(s.schema, e, mods)
		// A reference stays if the new name is too long for a value.
		if bad != api.OK || slices.Contains(refint.Refs(s.schema, after), from) {
			return api.ErrRef
		}
		if bad := r.Modify(referrer, mods, now); bad != api.OK {
			return bad
		}
	}
	return api.OK
}
