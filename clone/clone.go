// Package clone copies values of package api so that a copy shares no memory with the original.
package clone

import (
	"slices"

	"identity/api"
)

// Schema returns a copy of a schema.
func Schema(s api.Schema) api.Schema {
	c := api.Schema{Types: slices.Clone(s.Types), Classes: slices.Clone(s.Classes)}
	for i, class := range s.Classes {
		c.Classes[i].Must = slices.Clone(class.Must)
		c.Classes[i].May = slices.Clone(class.May)
	}
	return c
}

// Rules returns a copy of a list of access rules.
func Rules(l []api.Rule) []api.Rule {
	c := slices.Clone(l)
	for i, r := range l {
		c[i].Attrs = slices.Clone(r.Attrs)
		c[i].Rights = slices.Clone(r.Rights)
	}
	return c
}
