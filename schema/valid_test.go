package schema_test

import (
	"slices"
	"strconv"
	"strings"
	"testing"

	"identity/api"
	"identity/attrs"
	"identity/schema"
)

// attr makes an attribute.
func attr(name string, values ...string) api.Attr {
	return api.Attr{Name: name, Values: values}
}

// P7.5
func TestValidAccepts(t *testing.T) {
	for _, l := range [][]api.Attr{
		{attr("class", "top")},
		{attr("CLASS", "Top")},
		{attr("class", "robot")},
		{attr("class", "robot"), attr("cn", "r2", "D2")},
		{attr("class", "person"), attr("cn", "Ann")},
		{attr("cn", "Ann"), attr("AGE", "007"), attr("Class", "PERSON"), attr("code-1", "a", "A")},
		{attr("class", "employee"), attr("cn", "Ann"), attr("active", "True"), attr("boss", "CN = Bob, O=x", "cn=eve"), attr("age", "7")},
		{attr("class", "robot", "top"), attr("cn", "a")},
		{attr("class", "Employee", "ROBOT", "person"), attr("cn", "a"), attr("active", "true")},

		// The schema of examples 1 and 2 is below; equal normal forms do not matter.
		{attr("class", "robot", "Robot"), attr("cn", "ann", "Ann")},
	} {
		before := slices.Clone(l)
		for _, name := range []string{"cn=ann", "", "no name"} {
			if e := schema.Valid(staff(), api.Entry{Name: name, Attrs: l}); e != api.OK {
				t.Errorf("Valid(%q) = %d", l, int(e))
			}
		}
		if !attrs.Equal(l, before) {
			t.Errorf("Valid changed %q", before)
		}
	}
}

// P7.5: each error by itself.
func TestValidErrors(t *testing.T) {
	many := func(n int) []string {
		var l []string
		for i := range n {
			l = append(l, strconv.Itoa(i))
		}
		return l
	}
	robot := attr("class", "robot")
	for _, x := range []struct {
		l    []api.Attr
		want api.Errno
	}{
		// Those of attrs.Check.
		{make([]api.Attr, api.MaxAttrs+1), api.ErrLimit},
		{[]api.Attr{robot, attr("1", "a")}, api.ErrName},
		{[]api.Attr{robot, attr("cn", "a"), attr("CN", "b")}, api.ErrTwice},
		{[]api.Attr{robot, attr("cn")}, api.ErrNone},
		{[]api.Attr{robot, attr("cn", many(api.MaxValues+1)...)}, api.ErrLimit},
		{[]api.Attr{robot, attr("cn", " a")}, api.ErrForm},
		{[]api.Attr{robot, attr("cn", "a", "a")}, api.ErrTwice},

		// Those of an attribute.
		{[]api.Attr{robot, attr("mail", "a")}, api.ErrNone},
		{[]api.Attr{robot, attr("person", "a")}, api.ErrNone},
		{[]api.Attr{robot, attr("age", "x")}, api.ErrType},
		{[]api.Attr{robot, attr("boss", "cn=a", "cn=b", "c")}, api.ErrType},
		{[]api.Attr{robot, attr("active", "maybe")}, api.ErrType},
		{[]api.Attr{robot, attr("age", "7", "8")}, api.ErrSchema},
		{[]api.Attr{robot, attr("AGE", "7", "07")}, api.ErrSchema},

		// Those of the classes.
		{nil, api.ErrSchema},
		{[]api.Attr{attr("cn", "a")}, api.ErrSchema},
		{[]api.Attr{attr("class", "staff")}, api.ErrSchema},
		{[]api.Attr{attr("class", "robot", "staff")}, api.ErrSchema},
		{[]api.Attr{attr("class", "robot  x")}, api.ErrSchema},
		{[]api.Attr{attr("class", "cn")}, api.ErrSchema},
		{[]api.Attr{attr("class", "person")}, api.ErrSchema},
		{[]api.Attr{attr("class", "person", "robot")}, api.ErrSchema},
		{[]api.Attr{attr("class", "person"), attr("age", "7")}, api.ErrSchema},
		{[]api.Attr{attr("class", "employee"), attr("cn", "a")}, api.ErrSchema},
		{[]api.Attr{attr("class", "employee"), attr("active", "true")}, api.ErrSchema},
		{[]api.Attr{robot, attr("age", "7")}, api.ErrSchema},
		{[]api.Attr{attr("class", "top"), attr("cn", "a")}, api.ErrSchema},
		{[]api.Attr{attr("class", "person"), attr("cn", "a"), attr("active", "true")}, api.ErrSchema},
		{[]api.Attr{attr("class", "person"), attr("cn", "a"), attr("boss", "cn=b")}, api.ErrSchema},
	} {
		if e := schema.Valid(staff(), api.Entry{Name: "cn=ann", Attrs: x.l}); e != x.want {
			t.Errorf("Valid(%q) = %d, not %d", x.l, int(e), int(x.want))
		}
	}
}

// P7.5: which of several errors is returned.
func TestValidOrder(t *testing.T) {
	for _, x := range []struct {
		l    []api.Attr
		want api.Errno
	}{
		// All of attrs.Check come first.
		{[]api.Attr{attr("mail", "a"), attr("1", "a")}, api.ErrName},
		{[]api.Attr{attr("age", "x"), attr("cn")}, api.ErrNone},
		{[]api.Attr{attr("age", "x"), attr("cn", "a", "a")}, api.ErrTwice},
		{[]api.Attr{attr("age", "x", " 7")}, api.ErrForm},
		{[]api.Attr{attr("mail", " a")}, api.ErrForm},

		// An attribute by itself, and the one before another one.
		{[]api.Attr{attr("age", "7", "x")}, api.ErrType},
		{[]api.Attr{attr("age", "x"), attr("mail", "a")}, api.ErrType},
		{[]api.Attr{attr("mail", "a"), attr("age", "x")}, api.ErrNone},
		{[]api.Attr{attr("age", "7", "8"), attr("active", "x")}, api.ErrSchema},
		{[]api.Attr{attr("age", "7", "8"), attr("mail", "x")}, api.ErrSchema},
		{[]api.Attr{attr("boss", "x"), attr("age", "7", "8")}, api.ErrType},

		// Those of the classes come last.
		{[]api.Attr{attr("class", "staff"), attr("mail", "a")}, api.ErrNone},
		{[]api.Attr{attr("class", "staff"), attr("age", "a")}, api.ErrType},
		{[]api.Attr{attr("class", "person"), attr("age", "a")}, api.ErrType},
		{[]api.Attr{attr("mail", "a")}, api.ErrNone},
	} {
		if e := schema.Valid(staff(), api.Entry{Attrs: x.l}); e != x.want {
			t.Errorf("Valid(%q) = %d, not %d", x.l, int(e), int(x.want))
		}
	}
}

// P7.5: a type class that has at most one value.
func TestValidSingleClass(t *testing.T) {
	s := staff()
	s.Types[0].Single = true
	if e := schema.Valid(s, api.Entry{Attrs: []api.Attr{attr("class", "robot")}}); e != api.OK {
		t.Errorf("Valid = %d", int(e))
	}
	if e := schema.Valid(s, api.Entry{Attrs: []api.Attr{attr("class", "robot", "top")}}); e != api.ErrSchema {
		t.Errorf("Valid with two classes = %d", int(e))
	}
}

// P7.5: the examples of the chapter.
func TestValidExamples(t *testing.T) {
	s, _, e := schema.Parse("type class text\ntype cn text\ntype age int single\nclass person - cn age\n")
	if e != api.OK {
		t.Fatal(e)
	}
	class, cn := attr("class", "person"), attr("cn", "Ann")
	for _, x := range []struct {
		l    []api.Attr
		want api.Errno
	}{
		{[]api.Attr{class, cn}, api.OK},
		{[]api.Attr{class, cn, attr("age", "7", "8")}, api.ErrSchema},
		{[]api.Attr{class, cn, attr("age", "x")}, api.ErrType},
		{[]api.Attr{class, cn, attr("mail", "x")}, api.ErrNone},
		{[]api.Attr{class}, api.ErrSchema},
	} {
		if e := schema.Valid(s, api.Entry{Attrs: x.l}); e != x.want {
			t.Errorf("Valid(%q) = %d, not %d", x.l, int(e), int(x.want))
		}
	}
}

// valid is the definition of P7.5.
func valid(s api.Schema, l []api.Attr) api.Errno {
	if e := attrs.Check(l); e != api.OK {
		return e
	}
	for _, a := range l {
		typ, ok := schema.Type(s, a.Name)
		if !ok {
			return api.ErrNone
		}
		for _, v := range a.Values {
			if _, e := normal(typ.Syntax, v); e != api.OK {
				return api.ErrType
			}
		}
		if typ.Single && len(a.Values) > 1 {
			return api.ErrSchema
		}
	}
	classes := attrs.Get(l, "class")
	var allowed []string
	for _, v := range classes {
		v = strings.ToLower(v)
		if !slices.ContainsFunc(s.Classes, func(c api.Class) bool { return strings.ToLower(c.Name) == v }) {
			return api.ErrSchema
		}
		for _, n := range inherited(s, v, mustOf) {
			if len(attrs.Get(l, n)) == 0 {
				return api.ErrSchema
			}
		}
		allowed = append(allowed, inherited(s, v, bothOf)...)
	}
	for _, n := range attrs.Names(l) {
		if n != "class" && !slices.Contains(allowed, n) {
			return api.ErrSchema
		}
	}
	if len(classes) == 0 {
		return api.ErrSchema
	}
	return api.OK
}

// smallLists returns lists of attributes that are combined of few parts.
func smallLists() [][]api.Attr {
	var all [][]api.Attr
	for _, class := range [][]string{nil, {"A"}, {"b"}, {"C"}, {"a", "c"}, {"B", "c"}, {"d"}, {"a", "A"}} {
		for _, cn := range [][]string{nil, {"x"}, {"X", "y"}} {
			for _, age := range [][]string{nil, {"7"}, {"7", "8"}, {"x"}} {
				var l []api.Attr
				for name, values := range map[string][]string{"age": age, "class": class, "CN": cn} {
					if len(values) > 0 {
						l = append(l, attr(name, values...))
					}
				}
				slices.SortFunc(l, func(a, b api.Attr) int { return strings.Compare(a.Name, b.Name) })
				all = append(all, l)
			}
		}
	}
	return all
}

// P7.5: small schemas and entries, against the definition.
func TestValidDefinition(t *testing.T) {
	lists := smallLists()
	found := map[api.Errno]int{}
	for _, s := range smallSchemas() {
		for _, l := range lists {
			want := valid(s, l)
			if got := schema.Valid(s, api.Entry{Attrs: l}); got != want {
				t.Fatalf("%v: Valid(%q) = %d, not %d", s, l, int(got), int(want))
			}
			found[want]++
		}
	}
	for _, e := range []api.Errno{api.OK, api.ErrType, api.ErrSchema} {
		if found[e] == 0 {
			t.Errorf("no entry with the result %d", int(e))
		}
	}
}

// swapped returns s with upper and lower case exchanged.
func swapped(s string) string {
	return strings.Map(func(r rune) rune {
		switch {
		case 'a' <= r && r <= 'z':
			return r - 'a' + 'A'
		case 'A' <= r && r <= 'Z':
			return r - 'A' + 'a'
		}
		return r
	}, s)
}

// P7.9: the case of names and texts does not matter.
func TestValidCase(t *testing.T) {
	count := 0
	for _, s := range smallSchemas() {
		for _, l := range smallLists() {
			if schema.Valid(s, api.Entry{Attrs: l}) != api.OK {
				continue
			}
			var other []api.Attr
			for _, a := range l {
				b := attr(swapped(a.Name))
				for _, v := range a.Values {
					b.Values = append(b.Values, swapped(v))
				}
				other = append(other, b)
			}
			if e := schema.Valid(s, api.Entry{Attrs: other}); e != api.OK {
				t.Fatalf("%v: Valid(%q) = %d", s, other, int(e))
			}
			count++
		}
	}
	if count == 0 {
		t.Error("no entry is valid")
	}
}
