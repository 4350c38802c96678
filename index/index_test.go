package index_test

import (
	"slices"
	"strconv"
	"strings"
	"testing"

	"identity/api"
	"identity/index"
)

// attr makes an attribute.
func attr(name string, values ...string) api.Attr {
	return api.Attr{Name: name, Values: values}
}

// of makes an entry.
func of(name string, l ...api.Attr) api.Entry {
	return api.Entry{Name: name, Attrs: l}
}

// staff returns a schema with every syntax.
func staff() api.Schema {
	return api.Schema{
		Types: []api.AttrType{
			{Name: "class", Syntax: api.TextSyntax}, {Name: "cn", Syntax: api.TextSyntax}, {Name: "Code", Syntax: api.ExactSyntax}, {Name: "age", Syntax: api.IntSyntax, Single: true},
			{Name: "boss", Syntax: api.NameSyntax}, {Name: "active", Syntax: api.BoolSyntax}, {Name: "mail", Syntax: api.TextSyntax},
		},
		Classes: []api.Class{{Name: "person", Must: []string{"cn"}}},
	}
}

// every are the attributes of staff, all of which can be indexed.
var every = []string{"class", "cn", "code", "age", "boss", "active", "mail"}

// indexed returns an index of attributes of staff with entries.
func indexed(t testing.TB, names []string, l ...api.Entry) *index.Index {
	t.Helper()
	x, e := index.New(staff(), names)
	if e != api.OK || x == nil {
		t.Fatalf("New(%q) = %v, %d", names, x, int(e))
	}
	for _, a := range l {
		if e := x.Put(a); e != api.OK {
			t.Fatalf("Put of %q = %d", a, int(e))
		}
	}
	return x
}

// people are entries with values of every syntax, among them ones that are not valid.
func people() []api.Entry {
	return []api.Entry{
		of("cn=ann,o=x", attr("class", "person"), attr("cn", "Ann", "Ann Lee"), attr("AGE", "9"), attr("code", "Ab"), attr("boss", "CN=Bob, O=x"), attr("active", "true")),
		of("cn=bob,o=x", attr("class", "Person", "boss"), attr("cn", "BOB", "ann"), attr("age", "010"), attr("CODE", "ab"), attr("active", "FALSE")),
		of("o=x", attr("age", "x"), attr("boss", "nobody", "o=x"), attr("active", "yes")),
		of("cn=cid,cn=bob,o=x", attr("cn", "Cid"), attr("age", "-5", "50"), attr("boss", "cn=bob,o=x"), attr("active", "True")),
		of("cn=dan,o=a"),
	}
}

// listed returns all values of the attributes that an index returns.
func listed(x *index.Index) string {
	var b strings.Builder
	add := func(l []string, ok bool) { b.WriteString(strings.Join(l, ";") + " " + strconv.FormatBool(ok) + "\n") }
	for _, name := range every {
		add(x.Candidates(api.Filter{Kind: api.PresentFilter, Name: name}))
		add(x.Range(name, "", ""))
		for _, v := range []string{"person", "boss", "ann", "ann lee", "bob", "cid", "Ab", "ab", "9", "10", "-5", "50", "x", "cn=bob,o=x", "o=x", "TRUE", "FALSE"} {
			add(x.Find(name, v))
		}
	}
	return b.String() + strconv.Itoa(x.Len())
}

// P11.1
func TestNew(t *testing.T) {
	for _, names := range [][]string{nil, {}, {"cn"}, {"CN"}, every, {"MAIL", "code"}, {"age", "Class", "boss"}} {
		before := slices.Clone(names)
		x, e := index.New(staff(), names)
		if e != api.OK || x == nil || x.Len() != 0 {
			t.Fatalf("New(%q) = %v, %d", names, x, int(e))
		}
		for _, name := range every {
			want := slices.ContainsFunc(names, func(s string) bool { return strings.EqualFold(s, name) })
			for _, s := range []string{name, strings.ToUpper(name)} {
				l, ok := x.Find(s, "TRUE")
				m, also := x.Range(s, "", "")
				if ok != want || also != want || len(l)+len(m) != 0 {
					t.Errorf("New(%q): Find and Range of %q = %q, %v, %q, %v", names, s, l, ok, m, also)
				}
			}
		}
		if !slices.Equal(names, before) {
			t.Errorf("New changed %q", before)
		}
	}
	many := api.Schema{Types: []api.AttrType{{Name: "class", Syntax: api.TextSyntax}}}
	names := []string{"CLASS"}
	for i := range api.MaxTypes - 1 {
		many.Types = append(many.Types, api.AttrType{Name: "t" + strconv.Itoa(i), Syntax: api.IntSyntax})
		names = append(names, "T"+strconv.Itoa(i))
	}
	if x, e := index.New(many, names); e != api.OK || x == nil {
		t.Errorf("New of %d attributes = %d", len(names), int(e))
	}
}

// P11.1
func TestNewErrors(t *testing.T) {
	types := func(l ...api.AttrType) api.Schema { return api.Schema{Types: l} }
	class := api.AttrType{Name: "class", Syntax: api.TextSyntax}
	for _, c := range []struct {
		s     api.Schema
		names []string
		want  api.Errno
	}{
		{types(), nil, api.ErrNone},
		{types(class, class), nil, api.ErrTwice},
		{types(class, api.AttrType{Name: "1", Syntax: api.TextSyntax}), nil, api.ErrName},
		{types(class, api.AttrType{Name: "cn", Syntax: 9}), nil, api.ErrType},
		{types(make([]api.AttrType, api.MaxTypes+1)...), nil, api.ErrLimit},
		{api.Schema{Types: []api.AttrType{class}, Classes: []api.Class{{Name: "a", Super: "b"}}}, nil, api.ErrNone},
		{types(class), []string{"cn"}, api.ErrNone},
		{staff(), []string{""}, api.ErrNone},
		{staff(), []string{"person"}, api.ErrNone},
		{staff(), []string{"cn "}, api.ErrNone},
		{staff(), []string{"cn", "c"}, api.ErrNone},
		{staff(), []string{"cn", "cn"}, api.ErrTwice},
		{staff(), []string{"cn", "age", "CN"}, api.ErrTwice},
		{staff(), []string{"CODE", "code"}, api.ErrTwice},
		// No letter beside a to z has a counterpart in the other case.
		{types(class, api.AttrType{Name: "k", Syntax: api.TextSyntax}), []string{"\u212a"}, api.ErrNone},
		{types(class, api.AttrType{Name: "s", Syntax: api.TextSyntax}), []string{"s", "\u017f"}, api.ErrNone},

		// The first of several errors.
		{types(class, class), []string{"cn"}, api.ErrTwice},
		{types(class, api.AttrType{Name: "cn", Syntax: 9}), []string{"cn", "cn"}, api.ErrType},
		{staff(), []string{"cn", "cn", "none"}, api.ErrTwice},
		{staff(), []string{"none", "cn", "cn"}, api.ErrNone},
		{staff(), []string{"none", "none"}, api.ErrNone},
	} {
		if x, e := index.New(c.s, c.names); e != c.want || x != nil {
			t.Errorf("New(%.200v, %q) = %v, %d, not %d", c.s, c.names, x, int(e), int(c.want))
		}
	}
}

// P11.1: the index does not keep the schema and the list of names that it was given.
func TestNewCopies(t *testing.T) {
	s, names := staff(), slices.Clone(every)
	x, e := index.New(s, names)
	if e != api.OK {
		t.Fatal(int(e))
	}
	clear(s.Types)
	clear(s.Classes)
	clear(names)
	for _, a := range people() {
		x.Put(a)
	}
	if got, want := listed(x), listed(indexed(t, every, people()...)); got != want {
		t.Errorf("with a schema that is no more: %s, not %s", got, want)
	}
}

// P11.2
func TestPut(t *testing.T) {
	x := indexed(t, []string{"cn", "age"})
	for i, c := range []struct {
		e    api.Entry
		want int
	}{
		{of("o=x"), 1},
		{of("cn=a,o=x", attr("cn", "a")), 2},
		{of("o=x", attr("age", "7")), 2},
		{of("cn=b,o=none", attr("none", "b")), 3},
		{of(`cn=\,,o=x`, attr("cn", "a")), 4},
		{of("cn=a,o=x", attr("cn", "a", "A", "a  b")), 4},
		{of(strings.Repeat("a=b,", api.MaxDepth-1) + "o=x"), 5},
	} {
		if e := x.Put(c.e); e != api.OK || x.Len() != c.want {
			t.Errorf("%d: Put(%q) = %d, and Len %d", i, c.e, int(e), x.Len())
		}
	}
	for i, c := range []struct {
		s    string
		want int
	}{
		{"o=y", 5}, {"O=x", 5}, {"", 5}, {"x", 5}, {"cn=a, o=x", 5}, {"o=x", 4}, {"o=x", 4}, {"cn=a,o=x", 3}, {`cn=\,,o=x`, 2},
	} {
		x.Drop(c.s)
		if x.Len() != c.want {
			t.Errorf("%d: Len = %d after Drop(%q)", i, x.Len(), c.s)
		}
	}
}

// P11.2: the errors of Put, and their order. They change nothing.
func TestPutErrors(t *testing.T) {
	values := make([]string, api.MaxValues+1)
	for i := range values {
		values[i] = strconv.Itoa(i)
	}
	x := indexed(t, every, people()...)
	before := listed(x)
	for _, c := range []struct {
		e    api.Entry
		want api.Errno
	}{
		{of(""), api.ErrName},
		{of("x"), api.ErrName},
		{of("CN=ann,o=x", attr("cn", "a")), api.ErrName},
		{of("cn=ann, o=x"), api.ErrName},
		{of(strings.Repeat("a=b,", api.MaxDepth) + "o=x"), api.ErrName},
		{of("o=x", make([]api.Attr, api.MaxAttrs+1)...), api.ErrLimit},
		{of("o=x", attr("")), api.ErrName},
		{of("o=x", attr("cn", "a"), attr("a b", "a")), api.ErrName},
		{of("o=x", attr("cn", "ann"), attr("CN", "bob")), api.ErrTwice},
		{of("o=x", attr("cn")), api.ErrNone},
		{of("o=x", attr("age", values...)), api.ErrLimit},
		{of("o=x", attr("cn", "a", "a")), api.ErrTwice},
		{of("o=x", attr("cn", " a")), api.ErrForm},
		{of("o=x", attr("none", "")), api.ErrForm},

		{of("", attr("")), api.ErrName},
		{of("x", attr("cn")), api.ErrName},
		{of("cn=new,o=x", attr("cn", "a", "a"), attr("")), api.ErrTwice},
	} {
		if e := x.Put(c.e); e != c.want {
			t.Errorf("Put(%.200q) = %d, not %d", c.e, int(e), int(c.want))
		}
		if got := listed(x); got != before {
			t.Fatalf("Put(%.200q) changed %s to %s", c.e, before, got)
		}
	}
}

// P11.2: the greatest number of entries.
func TestPutLimit(t *testing.T) {
	x := indexed(t, []string{"age"})
	nth := func(i int) api.Entry { return of("o=x"+strconv.Itoa(1000+i), attr("age", strconv.Itoa(i))) }
	for i := range api.MaxEntries {
		if e := x.Put(nth(i)); e != api.OK || x.Len() != i+1 {
			t.Fatalf("Put of entry %d = %d", i, int(e))
		}
	}
	for _, c := range []struct {
		e    api.Entry
		want api.Errno
	}{
		{nth(api.MaxEntries), api.ErrLimit},
		{of("o=y"), api.ErrLimit},
		{of("O=y"), api.ErrName},
		{of("o=y", attr("age")), api.ErrNone},
		{of("o=x1000", attr("age", "old")), api.OK},
		{nth(0), api.OK},
	} {
		if e := x.Put(c.e); e != c.want || x.Len() != api.MaxEntries {
			t.Errorf("Put(%q) = %d, and Len %d", c.e, int(e), x.Len())
		}
	}
	if l, ok := x.Range("age", "0", ""); len(l) != api.MaxEntries || !ok || !slices.IsSorted(l) {
		t.Errorf("Range of all: %q, %v", l, ok)
	}
	if l, _ := x.Find("age", strconv.Itoa(api.MaxEntries)); len(l) != 0 {
		t.Errorf("found what was not put: %q", l)
	}
	x.Drop("o=x1007")
	if e := x.Put(nth(api.MaxEntries)); e != api.OK || x.Len() != api.MaxEntries {
		t.Errorf("Put after Drop = %d", int(e))
	}
}

// P11.2: Put neither changes nor keeps its argument.
func TestPutArgument(t *testing.T) {
	a := of("cn=ann,o=x", attr("CN", "Bob", "ann"), attr("age", "010", "7"))
	x := indexed(t, []string{"cn", "age"}, a)
	if a.Attrs[0].Name != "CN" || a.Attrs[1].Name != "age" || !slices.Equal(a.Attrs[0].Values, []string{"Bob", "ann"}) || !slices.Equal(a.Attrs[1].Values, []string{"010", "7"}) {
		t.Errorf("Put changed its argument to %q", a)
	}
	for _, b := range a.Attrs {
		for i := range b.Values {
			b.Values[i] = "spoilt"
		}
	}
	clear(a.Attrs)
	for _, v := range []string{"bob", "ann"} {
		if l, _ := x.Find("cn", v); len(l) != 1 {
			t.Errorf("Find of %q: %q", v, l)
		}
	}
	x.Put(of("cn=ann,o=x"))
	if l, _ := x.Range("age", "", ""); len(l) != 0 {
		t.Errorf("Range after an empty Put: %q", l)
	}
}

// P11.7
func TestReplaced(t *testing.T) {
	x := indexed(t, every, people()...)
	all := listed(x)
	for _, a := range people() {
		// Values that the old entry has, too, are still found.
		x.Put(of(a.Name, attr("cn", "ANN", "new"), attr("age", "10", "11"), attr("active", "true")))
		for _, c := range []struct {
			attr, value string
			want        bool
		}{
			{"cn", "ann", true}, {"cn", "new", true}, {"cn", "ann lee", false}, {"cn", "bob", false}, {"cn", "cid", false},
			{"age", "10", true}, {"age", "11", true}, {"age", "9", false}, {"age", "-5", false}, {"age", "50", false},
			{"active", "TRUE", true}, {"active", "FALSE", false}, {"class", "person", false}, {"code", "Ab", false}, {"boss", "o=x", false}, {"boss", "cn=bob,o=x", false},
		} {
			if l, ok := x.Find(c.attr, c.value); slices.Contains(l, a.Name) != c.want || !ok {
				t.Errorf("replaced %s: Find(%q, %q) = %q, %v", a.Name, c.attr, c.value, l, ok)
			}
			if l, ok := x.Range(c.attr, c.value, c.value); slices.Contains(l, a.Name) != c.want || !ok {
				t.Errorf("replaced %s: Range(%q, %q) = %q, %v", a.Name, c.attr, c.value, l, ok)
			}
		}
		x.Put(a)
		if got := listed(x); got != all {
			t.Errorf("after %s came back: %s, not %s", a.Name, got, all)
		}
	}
	for _, a := range people() {
		x.Drop(a.Name)
		without := slices.DeleteFunc(people(), func(b api.Entry) bool { return a.Name == b.Name })
		if got, want := listed(x), listed(indexed(t, every, without...)); got != want {
			t.Errorf("without %s: %s, not %s", a.Name, got, want)
		}
		x.Put(a)
	}
	for _, a := range people() {
		x.Drop(a.Name)
	}
	if got, want := listed(x), listed(indexed(t, every)); got != want {
		t.Errorf("without all: %s", got)
	}
}

// P11.7: values with the same normal form are dropped once and for all.
func TestDropEqualValues(t *testing.T) {
	x := indexed(t, []string{"age"}, of("o=x", attr("age", "7", "07", "007")), of("o=y", attr("age", "7")))
	x.Drop("o=x")
	if l, _ := x.Find("age", "7"); !slices.Equal(l, []string{"o=y"}) {
		t.Errorf("Find: %q", l)
	}
	x.Drop("o=y")
	if l, _ := x.Find("age", "7"); len(l) != 0 {
		t.Errorf("Find: %q", l)
	}
}

// Indexes that New did not return.
func TestNotMade(t *testing.T) {
	made := indexed(t, every, people()...)
	copied := *made
	for i, x := range []*index.Index{nil, {}, new(index.Index), &copied} {
		if e := x.Put(of("o=z")); e != api.ErrNil {
			t.Errorf("%d: Put = %d", i, int(e))
		}
		if e := x.Put(of("")); e != api.ErrNil {
			t.Errorf("%d: Put = %d", i, int(e))
		}
		x.Drop("o=x")
		if x.Len() != 0 {
			t.Errorf("%d: Len = %d", i, x.Len())
		}
		if l, ok := x.Find("cn", "ann"); ok || len(l) != 0 {
			t.Errorf("%d: Find = %q, %v", i, l, ok)
		}
		if l, ok := x.Range("cn", "", ""); ok || len(l) != 0 {
			t.Errorf("%d: Range = %q, %v", i, l, ok)
		}
		for kind := range api.SubstringFilter + 2 {
			if l, ok := x.Candidates(api.Filter{Kind: kind, Name: "cn", Value: "ann"}); ok || len(l) != 0 {
				t.Errorf("%d: Candidates of kind %d = %q, %v", i, kind, l, ok)
			}
		}
	}
	if got, want := listed(made), listed(indexed(t, every, people()...)); got != want {
		t.Errorf("the copied index: %s", got)
	}
}
