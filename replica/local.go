package replica

import (
	"identity/api"
	"identity/change"
	"identity/csn"
	"identity/entry"
	"identity/name"
)

// locate returns the identifier of the entry of the view with a name, which
// need not be in normal form.
func (r *Replica) locate(s string) (string, api.Errno) {
	clean, e := name.Clean(s)
	if e != api.OK {
		return "", api.ErrName
	}
	id, found := r.view.find(clean)
	if !found {
		return "", api.ErrNone
	}
	return id, api.OK
}

// last returns the greatest number in the log.
func (r *Replica) last() api.CSN {
	if len(r.log) == 0 {
		return api.CSN{}
	}
	return r.log[len(r.log)-1].CSN
}

// record gives the records of a local operation their numbers, and adds them to the log.
func (r *Replica) record(l []api.Change, now int) api.Errno {
	if len(r.log)+len(l) > api.MaxChanges {
		return api.ErrLimit
	}
	last := r.last()
	for i := range l {
		next, e := csn.Next(last, now, r.number)
		if e != api.OK {
			return e
		}
		l[i].CSN, last = next, next
	}
	for _, c := range l {
		r.view.Apply(c)
	}
	r.log = append(r.log, l...)
	r.started = r.started || len(l) > 0
	return api.OK
}

// Add creates an entry, and returns its identifier.
func (r *Replica) Add(e api.Entry, now int) (string, api.Errno) {
	if !r.made() {
		return "", api.ErrNil
	}
	normal, bad := entry.Normal(r.schema, e)
	switch {
	case bad != api.OK:
		return "", bad
	case !r.view.isFree(normal.Name):
		return "", api.ErrTwice
	case !r.view.hasParent(normal.Name):
		return "", api.ErrNone
	case len(r.view.Live()) >= api.MaxEntries:
		return "", api.ErrLimit
	}
	// If there is no such number, record returns the error.
	first, _ := csn.Next(r.last(), now, r.number)
	id := csn.Format(first)
	l := []api.Change{{Op: api.CreateEntry, ID: id, Name: normal.Name}}
	if bad := r.record(append(l, change.Edits(id, nil, normal.Attrs)...), now); bad != api.OK {
		return "", bad
	}
	return id, api.OK
}

// Modify changes the attributes of an entry.
func (r *Replica) Modify(name string, l []api.Mod, now int) api.Errno {
	if !r.made() {
		return api.ErrNil
	}
	id, bad := r.locate(name)
	if bad != api.OK {
		return bad
	}
	before, _ := r.view.Entry(id)
	after, bad := entry.Apply(r.schema, before, l)
	if bad != api.OK {
		return bad
	}
	return r.record(change.Edits(id, before.Attrs, after.Attrs), now)
}

// Delete removes an entry without children.
func (r *Replica) Delete(name string, now int) api.Errno {
	if !r.made() {
		return api.ErrNil
	}
	id, bad := r.locate(name)
	if bad != api.OK {
		return bad
	}
	if r.view.hasChildren(id) {
		return api.ErrState
	}
	return r.record([]api.Change{{Op: api.RemoveEntry, ID: id}}, now)
}

// Rename renames an entry without children.
func (r *Replica) Rename(from, to string, now int) api.Errno {
	if !r.made() {
		return api.ErrNil
	}
	target, bad := name.Clean(to)
	if bad != api.OK || target == "" {
		return api.ErrName
	}
	id, bad := r.locate(from)
	if bad != api.OK {
		return bad
	}
	old, _ := r.view.Entry(id)
	switch {
	case target == old.Name:
		return api.OK
	case r.view.hasChildren(id):
		return api.ErrState
	case !r.view.isFree(target):
		return api.ErrTwice
	case name.Under(target, old.Name):
		return api.ErrCycle
	case !r.view.hasParent(target):
		return api.ErrNone
	}
	return r.record([]api.Change{{Op: api.RenameEntry, ID: id, Name: target}}, now)
}
