package network

import (
	"slices"

	"identity/api"
	"identity/change"
	"identity/replica"
)

// perform performs a local operation of a replica, and makes it durable.
func (w *World) perform(i int, operate func(r *replica.Replica) api.Errno) api.Errno {
	switch {
	case !w.made():
		return api.ErrNil
	case !w.has(i):
		return api.ErrRange
	}
	n := w.nodes[i]
	before := n.Since(nil)
	if e := operate(n.Replica); e != api.OK {
		return e
	}
	// The numbers of new changes are greater than all others.
	made := n.Since(nil)[len(before):]
	if slices.ContainsFunc(made, tooLong) {
		// The changes are known only now, and a replica takes none back: it is
		// replaced by one that has received all others. This one is fresh, but
		// that is not visible, since no message has changes with the number of
		// a replica that the replica itself does not have.
		n.Replica, _ = w.restored(i, before)
		return api.ErrLimit
	}
	n.record(made)
	n.journal.Sync()
	return api.OK
}

// tooLong reports whether the line of a change is too long for a journal.
func tooLong(c api.Change) bool {
	line, _ := change.Line(c)
	return len(line) > api.MaxText
}

// Add creates an entry at a replica. It is acknowledged with OK, and then durable there.
func (w *World) Add(i int, e api.Entry) (string, api.Errno) {
	var added string
	bad := w.perform(i, func(r *replica.Replica) api.Errno {
		id, bad := r.Add(e, w.now)
		added = id
		return bad
	})
	if bad != api.OK {
		return "", bad
	}
	return added, api.OK
}

// Modify changes an entry at a replica.
func (w *World) Modify(i int, name string, l []api.Mod) api.Errno {
	return w.perform(i, func(r *replica.Replica) api.Errno { return r.Modify(name, l, w.now) })
}

// Delete removes an entry at a replica.
func (w *World) Delete(i int, name string) api.Errno {
	return w.perform(i, func(r *replica.Replica) api.Errno { return r.Delete(name, w.now) })
}

// Rename renames an entry at a replica.
func (w *World) Rename(i int, from, to string) api.Errno {
	return w.perform(i, func(r *replica.Replica) api.Errno { return r.Rename(from, to, w.now) })
}
