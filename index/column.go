package index

import (
	"maps"

	"identity/api"
	"identity/schema"
)

// nameSet is a set of names of entries.
type nameSet map[string]bool

// column holds the values of an indexed attribute.
type column struct {
	types   api.Schema          // the type of the attribute; the work of package schema grows with the number of types
	attr    string              // the name of the attribute
	holders map[string]nameSet  // the entries that have a value, by its normal form
	forms   map[string][]string // the normal forms of the valid values of each entry that has the attribute
}

// newColumn returns an empty column for an attribute with this type in a schema.
func newColumn(s api.Schema, t api.AttrType) *column {
	c := &column{attr: t.Name, holders: map[string]nameSet{}, forms: map[string][]string{}}
	// A schema without the type class has an error.
	class, _ := schema.Type(s, "class")
	c.types.Types = []api.AttrType{class}
	if t != class {
		c.types.Types = append(c.types.Types, t)
	}
	return c
}

// put adds an entry, which is not in the column, with its values of the attribute.
func (c *column) put(entry string, values []string) {
	if len(values) == 0 {
		return
	}
	c.forms[entry] = nil
	for _, v := range values {
		form, e := schema.Normal(c.types, c.attr, v)
		if e != api.OK {
			continue
		}
		if c.holders[form] == nil {
			c.holders[form] = nameSet{}
		}
		c.holders[form][entry] = true
		c.forms[entry] = append(c.forms[entry], form)
	}
}

// drop removes an entry.
func (c *column) drop(entry string) {
	for _, form := range c.forms[entry] {
		delete(c.holders[form], entry)
		if len(c.holders[form]) == 0 {
			delete(c.holders, form)
		}
	}
	delete(c.forms, entry)
}

// with returns the entries that have a value.
func (c *column) with(value string) nameSet {
	form, e := schema.Normal(c.types, c.attr, value)
	if e != api.OK {
		return nil
	}
	return c.holders[form]
}

// between returns the entries that have a value from low to high. An empty bound is none.
func (c *column) between(low, high string) nameSet {
	found := nameSet{}
	for form, entries := range c.holders {
		if c.inOrder(low, form) && c.inOrder(form, high) {
			maps.Copy(found, entries)
		}
	}
	return found
}

// inOrder reports whether a is at most b, or one of them is an empty bound.
// Nothing is in order with a bound that is not valid.
func (c *column) inOrder(a, b string) bool {
	if a == "" || b == "" {
		return true
	}
	n, e := schema.Compare(c.types, c.attr, a, b)
	return e == api.OK && n <= 0
}

// all returns the entries that have the attribute.
func (c *column) all() nameSet {
	found := nameSet{}
	for entry := range c.forms {
		found[entry] = true
	}
	return found
}
