package directory

import (
	"identity/access"
	"identity/api"
	"identity/attrs"
	"identity/filter"
	"identity/refint"
	"identity/search"
)

// Get returns what a subject may read of an entry.
func (d *Directory) Get(u api.Subject, name string) (api.Entry, bool) {
	if !d.made() {
		return api.Entry{}, false
	}
	// If there is no such entry, nothing of the empty one may be read.
	e, _ := d.find(name)
	return access.View(d.rules, u, e)
}

// Search returns the result of a query for a subject.
func (d *Directory) Search(u api.Subject, q api.Query) ([]api.Entry, api.Errno) {
	if !d.made() {
		return nil, api.ErrNil
	}
	if e := search.Check(q); e != api.OK {
		return nil, e
	}
	if _, known := d.tree.Get(q.Base); !known {
		return nil, api.ErrNone
	}
	found := d.found(u, q)
	var l []api.Entry
	for n := range len(found) {
		if n == q.Limit {
			return nil, api.ErrLimit
		}
		l = append(l, api.Entry{Name: found[n].Name, Attrs: attrs.Pick(found[n].Attrs, q.Names)})
	}
	return l, api.OK
}

// found returns what a subject may read of the entries that a query finds for
// it, in order.
func (d *Directory) found(u api.Subject, q api.Query) []api.Entry {
	mentioned := filter.Names(q.Filter)
	var l []api.Entry
	for _, e := range d.examined(q) {
		seen, readable := access.View(d.rules, u, e)
		if readable && access.Visible(d.rules, u, e.Name, mentioned) && filter.Match(d.schema, q.Filter, e) {
			l = append(l, seen)
		}
	}
	return l
}

// examined returns the entries in the scope of a query that can satisfy its
// filter, in order.
func (d *Directory) examined(q api.Query) []api.Entry {
	names, known := d.index.Candidates(q.Filter)
	candidates := map[string]bool{}
	for _, s := range names {
		candidates[s] = true
	}
	var l []api.Entry
	for _, e := range d.entries {
		possible := !known || candidates[e.Name] || d.beside[e.Name]
		if possible && search.Within(q, e.Name) {
			l = append(l, e)
		}
	}
	return l
}

// Subject returns a user with their groups.
func (d *Directory) Subject(user string) api.Subject {
	if !d.made() {
		return api.Subject{}
	}
	e, bad := d.find(user)
	if bad != api.OK {
		return api.Subject{}
	}
	return api.Subject{User: e.Name, Groups: refint.Groups(d.tree, e.Name)}
}

// Receive adds change records of other replicas.
func (d *Directory) Receive(l []api.Change) api.Errno {
	if !d.made() {
		return api.ErrNil
	}
	return d.done(d.replica.Receive(l))
}

// Since returns the change records that a vector does not contain.
func (d *Directory) Since(v []api.CSN) []api.Change {
	if !d.made() {
		return nil
	}
	return d.replica.Since(v)
}

// Vector returns the vector of the change records.
func (d *Directory) Vector() []api.CSN {
	if !d.made() {
		return nil
	}
	return d.replica.Vector()
}

// Broken returns the references to entries that do not exist.
func (d *Directory) Broken() []api.Pair {
	if !d.made() {
		return nil
	}
	return refint.Broken(d.schema, d.tree)
}

// Entries returns all entries.
func (d *Directory) Entries() []api.Entry {
	if !d.made() {
		return nil
	}
	return d.replica.Entries()
}
