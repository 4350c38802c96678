package schema_test

import (
	"slices"
	"strconv"
	"strings"
	"testing"

	"identity/api"
	"identity/schema"
)

// The types and classes of which the schemas of the tests consist.
var (
	classType  = api.AttrType{Name: "class", Syntax: api.TextSyntax}
	cnType     = api.AttrType{Name: "cn", Syntax: api.TextSyntax}
	ageType    = api.AttrType{Name: "age", Syntax: api.IntSyntax, Single: true}
	bossType   = api.AttrType{Name: "boss", Syntax: api.NameSyntax}
	activeType = api.AttrType{Name: "active", Syntax: api.BoolSyntax}
	codeType   = api.AttrType{Name: "Code-1", Syntax: api.ExactSyntax}

	person = api.Class{Name: "person", Must: []string{"cn"}, May: []string{"age"}}
)

// typesOf makes a schema without classes.
func typesOf(l ...api.AttrType) api.Schema {
	return api.Schema{Types: l}
}

// with makes a schema with the types class and cn, and classes.
func with(l ...api.Class) api.Schema {
	return api.Schema{Types: []api.AttrType{classType, cnType, ageType}, Classes: l}
}

// staff returns a schema with every syntax and with a lineage of three classes.
func staff() api.Schema {
	return api.Schema{
		Types: []api.AttrType{classType, cnType, ageType, bossType, activeType, codeType},
		Classes: []api.Class{
			{Name: "Top", Must: []string{"CLASS"}},
			{Name: "person", Super: "top", Must: []string{"cn", "CN"}, May: []string{"Code-1", "age", "cn"}},
			{Name: "employee", Super: "PERSON", Must: []string{"active", "Class"}, May: []string{"boss", "AGE"}},
			{Name: "robot", May: []string{"cn"}},
		},
	}
}

// numberedTypes returns the type class and n types with other names.
func numberedTypes(n int) []api.AttrType {
	l := []api.AttrType{classType}
	for i := range n {
		l = append(l, api.AttrType{Name: "t" + strconv.Itoa(i), Syntax: api.IntSyntax})
	}
	return l
}

// numberedClasses returns n classes, each of which but the first one has the one before as its superclass.
func numberedClasses(n int) []api.Class {
	var l []api.Class
	super := ""
	for i := range n {
		name := "c" + strconv.Itoa(i)
		l = append(l, api.Class{Name: name, Super: super})
		super = name
	}
	return l
}

// rejected are schemas with an error, that would mean something without it.
func rejected() []api.Schema {
	twice := staff()
	twice.Types = append(twice.Types, api.AttrType{Name: "CN", Syntax: api.TextSyntax})
	unknown := staff()
	unknown.Classes = append(unknown.Classes, api.Class{Name: "last", Super: "none"})
	many := staff()
	many.Types = append(many.Types, numberedTypes(api.MaxTypes)[1:]...)
	headless := staff()
	headless.Types = headless.Types[1:]
	headless.Classes = headless.Classes[3:]
	return []api.Schema{twice, unknown, many, headless}
}

// copied returns a deep copy.
func copied(s api.Schema) api.Schema {
	s.Types = slices.Clone(s.Types)
	s.Classes = slices.Clone(s.Classes)
	for i := range s.Classes {
		s.Classes[i].Must = slices.Clone(s.Classes[i].Must)
		s.Classes[i].May = slices.Clone(s.Classes[i].May)
	}
	return s
}

// same reports whether two schemas are equal.
func same(a, b api.Schema) bool {
	return slices.Equal(a.Types, b.Types) && slices.EqualFunc(a.Classes, b.Classes, func(c, d api.Class) bool {
		return c.Name == d.Name && c.Super == d.Super && slices.Equal(c.Must, d.Must) && slices.Equal(c.May, d.May)
	})
}

// P7.1
func TestCheckAccepts(t *testing.T) {
	long := strings.Repeat("n", api.MaxName)
	for _, s := range []api.Schema{
		typesOf(classType),
		typesOf(api.AttrType{Name: "CLASS", Syntax: api.TextSyntax}),
		typesOf(api.AttrType{Name: "class", Syntax: api.TextSyntax, Single: true}),
		typesOf(cnType, ageType, bossType, classType),
		typesOf(classType, api.AttrType{Name: long, Syntax: api.BoolSyntax, Single: true}),
		{Types: []api.AttrType{classType}, Classes: []api.Class{}},
		staff(),
		with(person),
		with(api.Class{Name: "cn"}, api.Class{Name: "class", Super: "cn"}),
		with(api.Class{Name: long}),
		with(person, api.Class{Name: "staff", Super: "PERSON", Must: []string{"CN", "cn"}, May: []string{"CN", "Age", "age"}}),
		typesOf(numberedTypes(api.MaxTypes - 1)...),
		with(numberedClasses(api.MaxClasses)...),
		with(api.Class{Name: "a", Must: slices.Repeat([]string{"cn"}, api.MaxTypes), May: slices.Repeat([]string{"age"}, api.MaxTypes)}),
	} {
		before := copied(s)
		if e := schema.Check(s); e != api.OK {
			t.Errorf("Check(%v) = %d", s, int(e))
		}
		if !same(s, before) {
			t.Errorf("Check changed %v", before)
		}
	}
}

// P7.1: each error by itself.
func TestCheckErrors(t *testing.T) {
	long := strings.Repeat("n", api.MaxName+1)
	typed := func(l ...api.AttrType) api.Schema { return typesOf(append([]api.AttrType{classType}, l...)...) }
	text := func(name string) api.Schema { return typed(api.AttrType{Name: name, Syntax: api.TextSyntax}) }
	syntax := func(n api.Syntax) api.Schema { return typed(api.AttrType{Name: "cn", Syntax: n}) }
	class := func(n api.Syntax) api.Schema { return typesOf(cnType, api.AttrType{Name: "Class", Syntax: n}) }
	for _, x := range []struct {
		s    api.Schema
		want api.Errno
	}{
		{typesOf(numberedTypes(api.MaxTypes)...), api.ErrLimit},
		{with(numberedClasses(api.MaxClasses + 1)...), api.ErrLimit},

		{text(""), api.ErrName}, {text("1"), api.ErrName}, {text("a_b"), api.ErrName}, {text(" cn"), api.ErrName}, {text(long), api.ErrName}, {text("\u212a"), api.ErrName},
		{text("class"), api.ErrTwice}, {text("CLASS"), api.ErrTwice},
		{typed(cnType, ageType, api.AttrType{Name: "Cn", Syntax: api.IntSyntax}), api.ErrTwice},
		{syntax(0), api.ErrType}, {syntax(-1), api.ErrType}, {syntax(api.BoolSyntax + 1), api.ErrType}, {syntax(1 << 40), api.ErrType},

		{with(api.Class{}), api.ErrName}, {with(api.Class{Name: "1"}), api.ErrName}, {with(api.Class{Name: "-"}), api.ErrName}, {with(api.Class{Name: "a "}), api.ErrName}, {with(api.Class{Name: long}), api.ErrName},
		{with(person, person), api.ErrTwice},
		{with(person, api.Class{Name: "robot"}, api.Class{Name: "PerSon"}), api.ErrTwice},
		{with(api.Class{Name: "a", Super: "b"}, api.Class{Name: "b"}), api.ErrNone},
		{with(api.Class{Name: "a", Super: "a"}), api.ErrNone},
		{with(person, api.Class{Name: "a", Super: "cn"}), api.ErrNone},
		{with(person, api.Class{Name: "a", Super: "-"}), api.ErrNone},
		{with(person, api.Class{Name: "a", Super: " person"}), api.ErrNone},
		{with(api.Class{Name: "k"}, api.Class{Name: "a", Super: "\u212a"}), api.ErrNone},
		{with(api.Class{Name: "a", Must: slices.Repeat([]string{"cn"}, api.MaxTypes+1)}), api.ErrLimit},
		{with(api.Class{Name: "a", May: slices.Repeat([]string{"cn"}, api.MaxTypes+1)}), api.ErrLimit},
		{with(api.Class{Name: "a", Must: []string{"mail"}}), api.ErrNone},
		{with(api.Class{Name: "a", May: []string{"mail"}}), api.ErrNone},
		{with(api.Class{Name: "a", Must: []string{"cn", "class", ""}}), api.ErrNone},
		{with(api.Class{Name: "a", May: []string{"cn", "a"}}), api.ErrNone},
		{with(person, api.Class{Name: "a", May: []string{"cn", "person"}}), api.ErrNone},
		{with(api.Class{Name: "a", May: []string{"cn "}}), api.ErrNone},

		{api.Schema{}, api.ErrNone},
		{typesOf(cnType), api.ErrNone},
		{api.Schema{Types: []api.AttrType{cnType}, Classes: []api.Class{{Name: "class"}}}, api.ErrNone},
		{class(api.ExactSyntax), api.ErrType}, {class(api.IntSyntax), api.ErrType}, {class(api.NameSyntax), api.ErrType}, {class(api.BoolSyntax), api.ErrType},
	} {
		if e := schema.Check(x.s); e != x.want {
			t.Errorf("Check(%v) = %d, not %d", x.s, int(e), int(x.want))
		}
	}
}

// P7.1: which of several errors is returned.
func TestCheckOrder(t *testing.T) {
	unnamed := api.AttrType{Syntax: 9}
	untyped := api.AttrType{Name: "x"}
	bad := api.Class{Name: "1", Super: "none"}
	tooMany := slices.Repeat([]string{"mail"}, api.MaxTypes+1)
	of := func(types []api.AttrType, classes ...api.Class) api.Schema {
		return api.Schema{Types: types, Classes: classes}
	}
	for _, x := range []struct {
		s    api.Schema
		want api.Errno
	}{
		// The limits come first, also that of the classes.
		{of(append(numberedTypes(api.MaxTypes-1), unnamed)), api.ErrLimit},
		{of([]api.AttrType{unnamed}, numberedClasses(api.MaxClasses+1)...), api.ErrLimit},
		{of(nil, make([]api.Class, api.MaxClasses+1)...), api.ErrLimit},

		// Within a type.
		{of([]api.AttrType{unnamed, unnamed}), api.ErrName},
		{of([]api.AttrType{classType, {Name: "class", Syntax: 9}}), api.ErrTwice},

		// Among types, which come before the classes.
		{of([]api.AttrType{untyped, unnamed}), api.ErrType},
		{of([]api.AttrType{cnType, cnType, untyped}), api.ErrTwice},
		{of([]api.AttrType{untyped, untyped}), api.ErrType},
		{of([]api.AttrType{classType, untyped}, bad), api.ErrType},
		{of([]api.AttrType{classType, classType}, bad), api.ErrTwice},

		// Within a class.
		{with(bad), api.ErrName},
		{with(person, api.Class{Name: "person", Super: "none"}), api.ErrTwice},
		{with(person, api.Class{Name: "person", Must: tooMany}), api.ErrTwice},
		{with(api.Class{Name: "a", Super: "none", Must: tooMany}), api.ErrNone},
		{with(api.Class{Name: "a", Super: "none", May: tooMany}), api.ErrNone},
		{with(api.Class{Name: "a", Must: tooMany}), api.ErrLimit},
		{with(api.Class{Name: "a", Must: []string{"mail"}, May: tooMany}), api.ErrLimit},

		// Among classes.
		{with(api.Class{Name: "a", May: []string{"mail"}}, bad), api.ErrNone},
		{with(api.Class{Name: "a", Super: "b"}, person, person), api.ErrNone},
		{with(person, person, bad), api.ErrTwice},
		{with(api.Class{Name: "a", Must: tooMany}, bad), api.ErrLimit},

		// The type class comes last.
		{of([]api.AttrType{cnType, unnamed}), api.ErrName},
		{of([]api.AttrType{cnType}, bad), api.ErrName},
		{of([]api.AttrType{{Name: "class", Syntax: api.IntSyntax}}, bad), api.ErrName},
		{of([]api.AttrType{{Name: "class", Syntax: api.IntSyntax}, untyped}), api.ErrType},
		{of([]api.AttrType{{Name: "class", Syntax: api.IntSyntax}, cnType, cnType}), api.ErrTwice},
	} {
		if e := schema.Check(x.s); e != x.want {
			t.Errorf("Check(%v) = %d, not %d", x.s, int(e), int(x.want))
		}
	}
}

// P7.2
func TestType(t *testing.T) {
	s := staff()
	for name, want := range map[string]api.AttrType{
		"class": classType, "cn": cnType, "CN": cnType, "Age": ageType, "BOSS": bossType, "aCTIVE": activeType, "code-1": codeType, "CODE-1": codeType,
	} {
		if got, ok := schema.Type(s, name); !ok || got != want {
			t.Errorf("Type(%q) = %v, %v", name, got, ok)
		}
	}
	for _, name := range []string{"", "mail", "cn ", "person", "code", "c", "cnn"} {
		if got, ok := schema.Type(s, name); ok || got != (api.AttrType{}) {
			t.Errorf("Type(%q) = %v, %v", name, got, ok)
		}
	}
	kelvin := typesOf(classType, api.AttrType{Name: "k", Syntax: api.TextSyntax})
	if got, ok := schema.Type(kelvin, "\u212a"); ok {
		t.Errorf("Type of a letter that is no ASCII = %v", got)
	}
}

// P7.2
func TestLineage(t *testing.T) {
	s := staff()
	for class, want := range map[string][]string{
		"employee": {"employee", "person", "Top"}, "EMPLOYEE": {"employee", "person", "Top"}, "Person": {"person", "Top"}, "top": {"Top"}, "robot": {"robot"},
		"": nil, "cn": nil, "employee ": nil, "staff": nil, "-": nil,
	} {
		if got := schema.Lineage(s, class); !slices.Equal(got, want) {
			t.Errorf("Lineage(%q) = %q", class, got)
		}
	}
	chain := with(numberedClasses(api.MaxClasses)...)
	if got := schema.Lineage(chain, "C31"); len(got) != api.MaxClasses || got[0] != "c31" || got[31] != "c0" {
		t.Errorf("Lineage of the last of %d classes = %q", api.MaxClasses, got)
	}
}

// P7.2
func TestMustMay(t *testing.T) {
	s := staff()
	for _, x := range []struct {
		class     string
		must, may []string
	}{
		{"top", []string{"class"}, []string{"class"}},
		{"Person", []string{"class", "cn"}, []string{"age", "class", "cn", "code-1"}},
		{"EMPLOYEE", []string{"active", "class", "cn"}, []string{"active", "age", "boss", "class", "cn", "code-1"}},
		{"robot", nil, []string{"cn"}},
		{"", nil, nil}, {"staff", nil, nil}, {"cn", nil, nil}, {" top", nil, nil},
	} {
		if got := schema.Must(s, x.class); !slices.Equal(got, x.must) {
			t.Errorf("Must(%q) = %q", x.class, got)
		}
		if got := schema.May(s, x.class); !slices.Equal(got, x.may) {
			t.Errorf("May(%q) = %q", x.class, got)
		}
	}
}

// P7.2: results are new memory, and the schema is not changed.
func TestMustMayMemory(t *testing.T) {
	s := staff()
	for range 2 {
		for _, l := range [][]string{schema.Lineage(s, "employee"), schema.Must(s, "employee"), schema.May(s, "employee")} {
			for i := range l {
				l[i] = "x"
			}
			_ = append(l, "y")
		}
	}
	if !same(s, staff()) {
		t.Errorf("the schema became %v", s)
	}
}

// Terms: a schema with an error counts as an empty one.
func TestRejected(t *testing.T) {
	ann := api.Entry{Name: "cn=ann", Attrs: []api.Attr{{Name: "class", Values: []string{"robot"}}}}
	for i, s := range rejected() {
		if schema.Check(s) == api.OK {
			t.Fatalf("%d: accepted", i)
		}
		if got, ok := schema.Type(s, "cn"); ok || got != (api.AttrType{}) {
			t.Errorf("%d: Type = %v, %v", i, got, ok)
		}
		if got := schema.Lineage(s, "robot"); len(got) != 0 {
			t.Errorf("%d: Lineage = %q", i, got)
		}
		if got := schema.Must(s, "person"); len(got) != 0 {
			t.Errorf("%d: Must = %q", i, got)
		}
		if got := schema.May(s, "robot"); len(got) != 0 {
			t.Errorf("%d: May = %q", i, got)
		}
		if got, e := schema.Normal(s, "cn", "a"); e != api.ErrNone || got != "" {
			t.Errorf("%d: Normal = %q, %d", i, got, int(e))
		}
		if got, e := schema.Compare(s, "cn", "b", "a"); e != api.ErrNone || got != 0 {
			t.Errorf("%d: Compare = %d, %d", i, got, int(e))
		}
		if e := schema.Valid(s, ann); e != api.ErrNone {
			t.Errorf("%d: Valid = %d", i, int(e))
		}
		if e := schema.Valid(s, api.Entry{}); e != api.ErrSchema {
			t.Errorf("%d: Valid without attributes = %d", i, int(e))
		}
		if e := schema.Valid(s, api.Entry{Attrs: []api.Attr{{Name: "cn"}}}); e != api.ErrNone {
			t.Errorf("%d: Valid without values = %d", i, int(e))
		}
		if e := schema.Valid(s, api.Entry{Attrs: []api.Attr{{Name: "1"}}}); e != api.ErrName {
			t.Errorf("%d: Valid without a name = %d", i, int(e))
		}
	}
}

// P7.9: what a class requires it allows, and a class inherits from its superclass.
func TestInheritance(t *testing.T) {
	contained := func(l, m []string) bool {
		return !slices.ContainsFunc(l, func(n string) bool { return !slices.Contains(m, n) })
	}
	for _, s := range smallSchemas() {
		for _, c := range s.Classes {
			must, may := schema.Must(s, c.Name), schema.May(s, c.Name)
			if !contained(must, may) {
				t.Fatalf("%v: Must(%q) = %q, May = %q", s, c.Name, must, may)
			}
			if !contained(schema.Must(s, c.Super), must) || !contained(schema.May(s, c.Super), may) {
				t.Fatalf("%v: %q does not inherit from %q", s, c.Name, c.Super)
			}
			if strings.Join(must, ",") != strings.Join(inherited(s, c.Name, mustOf), ",") {
				t.Fatalf("%v: Must(%q) = %q", s, c.Name, must)
			}
			if strings.Join(may, ",") != strings.Join(inherited(s, c.Name, bothOf), ",") {
				t.Fatalf("%v: May(%q) = %q", s, c.Name, may)
			}
		}
	}
}

func mustOf(c api.Class) []string { return c.Must }
func bothOf(c api.Class) []string { return slices.Concat(c.Must, c.May) }

// inherited is the definition of Must and May.
func inherited(s api.Schema, class string, of func(api.Class) []string) []string {
	set := map[string]bool{}
	for i := len(s.Classes) - 1; i >= 0; i-- {
		c := s.Classes[i]
		if strings.ToLower(c.Name) != strings.ToLower(class) {
			continue
		}
		for _, n := range of(c) {
			set[strings.ToLower(n)] = true
		}
		class = c.Super
	}
	var l []string
	for _, n := range []string{"age", "class", "cn"} {
		if set[n] {
			l = append(l, n)
		}
	}
	return l
}

// smallSchemas returns schemas with three classes that require, allow and inherit differently.
func smallSchemas() []api.Schema {
	lists := [][2][]string{
		{nil, nil}, {{"cn"}, nil}, {nil, {"AGE"}}, {{"CN", "Age"}, {"cn"}}, {{"class"}, {"age", "class"}}, {{"age", "age"}, {"cn", "CN"}},
	}
	var all []api.Schema
	for _, a := range lists {
		for _, b := range lists {
			for _, c := range lists {
				for _, supers := range [][2]string{{"", ""}, {"a", "b"}, {"A", "a"}, {"", "B"}} {
					all = append(all, with(
						api.Class{Name: "a", Must: a[0], May: a[1]},
						api.Class{Name: "b", Super: supers[0], Must: b[0], May: b[1]},
						api.Class{Name: "C", Super: supers[1], Must: c[0], May: c[1]},
					))
				}
			}
		}
	}
	return all
}
