package clone_test

import (
	"slices"
	"testing"

	"identity/api"
	"identity/clone"
)

// same reports whether two schemas are equal.
func same(a, b api.Schema) bool {
	return slices.Equal(a.Types, b.Types) && slices.EqualFunc(a.Classes, b.Classes, func(x, y api.Class) bool {
		return x.Name == y.Name && x.Super == y.Super && slices.Equal(x.Must, y.Must) && slices.Equal(x.May, y.May)
	})
}

// plan returns a schema in which every field of a class and a type is set.
func plan() api.Schema {
	return api.Schema{
		Types:   []api.AttrType{{Name: "cn", Syntax: api.TextSyntax}, {Name: "age", Syntax: api.IntSyntax, Single: true}},
		Classes: []api.Class{{Name: "thing"}, {Name: "person", Super: "thing", Must: []string{"cn"}, May: []string{"age"}}},
	}
}

// A copy is equal, and a change of the original does not change it.
func TestSchema(t *testing.T) {
	s := plan()
	c := clone.Schema(s)
	if !same(c, plan()) || !same(s, plan()) {
		t.Fatalf("Schema = %v", c)
	}
	s.Classes[1].Must[0], s.Classes[1].May[0] = "spoilt", "spoilt"
	clear(s.Types)
	clear(s.Classes)
	if !same(c, plan()) {
		t.Errorf("changed: %v", c)
	}
	if c := clone.Schema(api.Schema{}); !same(c, api.Schema{}) {
		t.Errorf("Schema of nothing = %v", c)
	}
}

// sameRules reports whether two lists of rules are equal.
func sameRules(a, b []api.Rule) bool {
	return slices.EqualFunc(a, b, func(x, y api.Rule) bool {
		return x.Allow == y.Allow && x.Subject == y.Subject && x.Target == y.Target && slices.Equal(x.Attrs, y.Attrs) && slices.Equal(x.Rights, y.Rights)
	})
}

// list returns rules in which every field is set.
func list() []api.Rule {
	return []api.Rule{{Allow: true, Subject: "self", Target: "ou=x", Attrs: []string{"cn", "mail"}, Rights: []api.Right{api.ReadRight, api.WriteRight}}, {Subject: "*", Rights: []api.Right{api.AddRight}}}
}

// A copy is equal, and a change of the original does not change it.
func TestRules(t *testing.T) {
	l := list()
	c := clone.Rules(l)
	if !sameRules(c, list()) || !sameRules(l, list()) {
		t.Fatalf("Rules = %v", c)
	}
	l[0].Attrs[0], l[0].Rights[1], l[1].Rights[0] = "spoilt", api.DeleteRight, api.DeleteRight
	clear(l)
	if !sameRules(c, list()) {
		t.Errorf("changed: %v", c)
	}
	if c := clone.Rules(nil); len(c) != 0 {
		t.Errorf("Rules of nothing = %v", c)
	}
}
