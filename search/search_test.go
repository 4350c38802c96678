package search_test

import (
	"math/rand"
	"slices"
	"strconv"
	"strings"
	"testing"

	"identity/api"
	"identity/attrs"
	"identity/filter"
	"identity/index"
	"identity/name"
	"identity/search"
	"identity/tree"
)

// attr makes an attribute.
func attr(name string, values ...string) api.Attr {
	return api.Attr{Name: name, Values: values}
}

// of makes an entry.
func of(name string, l ...api.Attr) api.Entry {
	return api.Entry{Name: name, Attrs: l}
}

// same reports whether two entries are equal as they are.
func same(a, b api.Entry) bool {
	return a.Name == b.Name && slices.EqualFunc(a.Attrs, b.Attrs, func(x, y api.Attr) bool {
		return x.Name == y.Name && slices.Equal(x.Values, y.Values)
	})
}

// spoil changes everything in the memory of entries.
func spoil(l []api.Entry) {
	for _, e := range l {
		for _, a := range e.Attrs {
			clear(a.Values)
		}
		clear(e.Attrs)
	}
	clear(l)
}

// staff returns the schema of the tests.
func staff() api.Schema {
	return api.Schema{Types: []api.AttrType{
		{Name: "class", Syntax: api.TextSyntax}, {Name: "cn", Syntax: api.TextSyntax}, {Name: "mail", Syntax: api.ExactSyntax}, {Name: "age", Syntax: api.IntSyntax},
	}}
}

// everyone are the entries of the tests that are not roots.
func everyone() []api.Entry {
	return []api.Entry{
		of("ou=staff,o=x", attr("class", "unit")),
		of("cn=ann,ou=staff,o=x", attr("CN", "Ann"), attr("mail", "ann@x"), attr("age", "30"), attr("class", "person")),
		of("cn=bob,ou=staff,o=x", attr("cn", "Bob", "Bobby"), attr("mail", "bob@x", "b@x"), attr("age", "9")),
		of("cn=key,cn=ann,ou=staff,o=x", attr("cn", "ann"), attr("other", "a")),
		of("ou=guests,o=x", attr("class", "unit")),
		of("cn=ann,ou=guests,o=x", attr("cn", "ANN"), attr("age", "old")),
		of("cn=cid,o=y", attr("cn", "Cid"), attr("age", "031")),
	}
}

// planted returns a tree with the roots o=x and o=y and with entries.
func planted(t testing.TB, l ...api.Entry) *tree.Tree {
	t.Helper()
	d, e := tree.New([]string{"o=x", "o=y"})
	for _, a := range l {
		if e == api.OK {
			e = d.Add(a)
		}
	}
	if e != api.OK {
		t.Fatalf("a tree of %q: %d", l, int(e))
	}
	return d
}

// indexed returns an index of attributes that holds entries.
func indexed(t testing.TB, names []string, l []api.Entry) *index.Index {
	t.Helper()
	x, e := index.New(staff(), names)
	for _, a := range l {
		if e == api.OK {
			e = x.Put(a)
		}
	}
	if e != api.OK {
		t.Fatalf("an index of %q for %q: %d", l, names, int(e))
	}
	return x
}

// parsed returns a filter.
func parsed(t testing.TB, s string) api.Filter {
	t.Helper()
	f, e := filter.Parse(s)
	if e != api.OK {
		t.Fatalf("Parse(%q) = %d", s, int(e))
	}
	return f
}

// names returns the names of entries.
func names(l []api.Entry) []string {
	var s []string
	for _, e := range l {
		s = append(s, e.Name)
	}
	return s
}

// malformed are strings that are no names in normal form.
var malformed = []string{" ", "x", "o=", "O=x", "o=X", "o =x", "ou=staff, o=x", "ou=staff,o=x ", "ou=staff,,o=x", strings.Repeat("a=b,", api.MaxDepth) + "o=x"}

// P12.1
func TestCheck(t *testing.T) {
	all := api.Filter{Kind: api.AndFilter}
	good := func() api.Query {
		return api.Query{Base: "o=x", Scope: api.SubScope, Filter: all, Names: []string{"cn"}, Limit: 1}
	}
	if e := search.Check(good()); e != api.OK {
		t.Fatalf("Check = %d", int(e))
	}
	for want, changes := range map[api.Errno][]func(q *api.Query){
		api.OK: {
			func(q *api.Query) { q.Base = "" },
			func(q *api.Query) { q.Base = `cn=a\,b,ou=none,o=z` },
			func(q *api.Query) { q.Scope = api.BaseScope },
			func(q *api.Query) { q.Scope = api.OneScope },
			func(q *api.Query) { q.Filter.Kids = slices.Repeat([]api.Filter{all}, api.MaxNodes-1) },
			func(q *api.Query) { q.Names = nil },
			func(q *api.Query) { q.Names = slices.Repeat([]string{"none"}, api.MaxAttrs) },
			func(q *api.Query) { q.Names = []string{"CN", "cn", strings.Repeat("n", api.MaxName)} },
			func(q *api.Query) { q.Limit = api.MaxItems },
		},
		api.ErrArg: {
			func(q *api.Query) { q.Scope = 0 },
			func(q *api.Query) { q.Scope = -1 },
			func(q *api.Query) { q.Scope = 4 },
			func(q *api.Query) { q.Scope = 1 << 40 },
		},
		api.ErrForm: {
			func(q *api.Query) { q.Filter = api.Filter{} },
			func(q *api.Query) { q.Filter.Value = "x" },
			func(q *api.Query) { q.Filter.Kids = []api.Filter{{Kind: 9}} },
		},
		api.ErrType: {
			func(q *api.Query) { q.Filter = api.Filter{Kind: api.EqualFilter, Name: "cn", Value: " "} },
		},
		api.ErrLimit: {
			func(q *api.Query) { q.Filter.Kids = make([]api.Filter, api.MaxNodes) },
			func(q *api.Query) { q.Names = make([]string, api.MaxAttrs+1) },
		},
		api.ErrName: {
			func(q *api.Query) { q.Filter = api.Filter{Kind: api.PresentFilter, Name: "1"} },
			func(q *api.Query) { q.Names = []string{""} },
			func(q *api.Query) { q.Names = []string{"cn", "a b"} },
			func(q *api.Query) { q.Names = []string{"cn", "*", "cn"} },
			func(q *api.Query) { q.Names = []string{strings.Repeat("n", api.MaxName+1)} },
		},
		api.ErrRange: {
			func(q *api.Query) { q.Limit = 0 },
			func(q *api.Query) { q.Limit = -1 },
			func(q *api.Query) { q.Limit = api.MaxItems + 1 },
		},
	} {
		for i, change := range changes {
			q := good()
			change(&q)
			if e := search.Check(q); e != want {
				t.Errorf("Check after change %d = %d, not %d", i, int(e), int(want))
			}
		}
	}
	for _, s := range malformed {
		q := good()
		if q.Base = s; search.Check(q) != api.ErrName {
			t.Errorf("Check with the base %q = %d", s, int(search.Check(q)))
		}
	}
}

// P12.1: of several errors the first one is returned.
func TestCheckOrder(t *testing.T) {
	// Each repair takes the first error away, so that the next one is left.
	q := api.Query{Base: "X", Scope: 9, Filter: api.Filter{Kind: api.NotFilter, Kids: []api.Filter{{Kind: api.SubstringFilter, Parts: []string{"\n", ""}}}}, Names: make([]string, api.MaxAttrs+1), Limit: 0}
	for i, c := range []struct {
		want   api.Errno
		repair func()
	}{
		{api.ErrName, func() { q.Base = "" }},
		{api.ErrArg, func() { q.Scope = api.OneScope }},
		{api.ErrName, func() { q.Filter.Kids[0].Name = "cn" }},
		{api.ErrType, func() { q.Filter = api.Filter{Kind: api.OrFilter} }},
		{api.ErrLimit, func() { q.Names = q.Names[:api.MaxAttrs] }},
		{api.ErrName, func() { q.Names = nil }},
		{api.ErrRange, func() { q.Limit = 1 }},
		{api.OK, func() {}},
	} {
		if e := search.Check(q); e != c.want {
			t.Errorf("%d: Check(%v) = %d, not %d", i, q, int(e), int(c.want))
		}
		c.repair()
	}
}

// P12.1
func TestWithin(t *testing.T) {
	within := func(base, s string) [3]bool {
		var l [3]bool
		for i := range l {
			l[i] = search.Within(api.Query{Base: base, Scope: api.SearchScope(i + 1)}, s)
		}
		return l
	}
	for _, c := range []struct {
		base, s string
		want    [3]bool
	}{
		{"ou=staff", "ou=staff", [3]bool{true, false, true}},
		{"ou=staff", "cn=ann,ou=staff", [3]bool{false, true, true}},
		{"ou=staff", "cn=key,cn=ann,ou=staff", [3]bool{false, false, true}},
		{"ou=staff", "ou=staff2", [3]bool{}},
		{"ou=staff", "ou=sta", [3]bool{}},
		{"ou=staff", "cn=a,ou=staff2", [3]bool{}},
		{"ou=staff", `cn=a\,ou\=staff`, [3]bool{}},
		{"ou=staff", "ou=staff,o=x", [3]bool{}},
		{"ou=staff", "", [3]bool{}},
		{"cn=ann,ou=staff", "ou=staff", [3]bool{}},
		{"cn=ann,ou=staff", "cn=bob,ou=staff", [3]bool{}},
		{"", "", [3]bool{true, false, true}},
		{"", "o=x", [3]bool{false, true, true}},
		{"", "cn=a,o=x", [3]bool{false, false, true}},
	} {
		if got := within(c.base, c.s); got != c.want {
			t.Errorf("%q within %q: %v", c.s, c.base, got)
		}
	}
	for _, s := range malformed {
		for _, p := range []string{"", "o=x", "ou=staff,o=x", s, "a=b," + s} {
			if within(s, p) != [3]bool{} || within(p, s) != [3]bool{} {
				t.Errorf("%q within %q: %v, and %v", p, s, within(s, p), within(p, s))
			}
		}
	}
	for _, scope := range []api.SearchScope{0, -1, 4, 1 << 40} {
		for _, s := range []string{"", "o=x", "cn=a,o=x"} {
			if search.Within(api.Query{Base: "o=x", Scope: scope}, s) || search.Within(api.Query{Scope: scope}, s) {
				t.Errorf("%q is within the scope %d", s, scope)
			}
		}
	}
	// The other fields do not matter.
	q := api.Query{Base: "o=x", Scope: api.OneScope, Filter: api.Filter{Kind: 9}, Names: []string{""}, Limit: -1}
	if !search.Within(q, "cn=a,o=x") || search.Within(q, "o=x") {
		t.Error("Within regards other fields")
	}
}

// P12.2, P12.3
func TestScanAndRun(t *testing.T) {
	const x, y, staffs, guests = "o=x", "o=y", "ou=staff,o=x", "ou=guests,o=x"
	const ann, key, bob, guest = "cn=ann,ou=staff,o=x", "cn=key,cn=ann,ou=staff,o=x", "cn=bob,ou=staff,o=x", "cn=ann,ou=guests,o=x"
	d := planted(t, everyone()...)
	all := indexed(t, []string{"cn", "age", "class"}, d.Subtree(""))
	few := indexed(t, []string{"mail"}, d.Subtree(""))
	for _, c := range []struct {
		base     string
		scope    api.SearchScope
		filter   string
		limit    int
		want     []string
		e        api.Errno
		examined int
		inScope  int
	}{
		{x, api.SubScope, "(&)", 9, []string{x, guests, guest, staffs, ann, key, bob}, api.OK, 7, 7},
		{x, api.SubScope, "(&)", 7, []string{x, guests, guest, staffs, ann, key, bob}, api.OK, 7, 7},
		{x, api.SubScope, "(&)", 6, nil, api.ErrLimit, 7, 7},
		{x, api.OneScope, "(&)", 9, []string{guests, staffs}, api.OK, 2, 2},
		{x, api.BaseScope, "(&)", 9, []string{x}, api.OK, 1, 1},
		{staffs, api.SubScope, "(&)", 9, []string{staffs, ann, key, bob}, api.OK, 4, 4},
		{staffs, api.OneScope, "(&)", 9, []string{ann, bob}, api.OK, 2, 2},
		{staffs, api.OneScope, "(&)", 1, nil, api.ErrLimit, 2, 2},
		{staffs, api.BaseScope, "(&)", 1, []string{staffs}, api.OK, 1, 1},
		{key, api.OneScope, "(&)", 1, nil, api.OK, 0, 0},
		{key, api.SubScope, "(&)", 1, []string{key}, api.OK, 1, 1},
		{x, api.SubScope, "(|)", 1, nil, api.OK, 0, 7},

		{x, api.SubScope, "(cn=ann)", 9, []string{guest, ann, key}, api.OK, 3, 7},
		{x, api.SubScope, "(cn=ann)", 3, []string{guest, ann, key}, api.OK, 3, 7},
		{x, api.SubScope, "(cn=ann)", 2, nil, api.ErrLimit, 3, 7},
		{x, api.SubScope, "(cn=ann)", 1, nil, api.ErrLimit, 3, 7},
		{staffs, api.SubScope, "(cn=ann)", 2, []string{ann, key}, api.OK, 2, 4},
		{staffs, api.OneScope, "(cn=ann)", 1, []string{ann}, api.OK, 1, 2},
		{staffs, api.BaseScope, "(cn=ann)", 1, nil, api.OK, 0, 1},
		{ann, api.BaseScope, "(cn=ann)", 1, []string{ann}, api.OK, 1, 1},
		{y, api.SubScope, "(cn=ann)", 1, nil, api.OK, 0, 2},
		{x, api.SubScope, "(cn=zoe)", 1, nil, api.OK, 0, 7},
		{x, api.SubScope, "(age>=10)", 1, []string{ann}, api.OK, 1, 7},
		{y, api.SubScope, "(age<=31)", 1, []string{"cn=cid,o=y"}, api.OK, 1, 2},
		{x, api.SubScope, "(age=*)", 9, []string{guest, ann, bob}, api.OK, 3, 7},
		{x, api.SubScope, "(&(cn=ann)(age=30))", 9, []string{ann}, api.OK, 1, 7},
		{x, api.SubScope, "(&(cn=ann)(mail=ann@x))", 9, []string{ann}, api.OK, 3, 7},
		{x, api.SubScope, "(|(cn=ann)(age=9))", 9, []string{guest, ann, key, bob}, api.OK, 4, 7},
		{x, api.SubScope, "(|(cn=ann)(mail=bob@x))", 9, []string{guest, ann, key, bob}, api.OK, 7, 7},
		{x, api.SubScope, "(!(cn=ann))", 9, []string{x, guests, staffs, bob}, api.OK, 7, 7},
		{x, api.SubScope, "(cn=*bb*)", 9, []string{bob}, api.OK, 7, 7},
		{x, api.SubScope, "(mail=b@x)", 9, []string{bob}, api.OK, 7, 7},
		{x, api.SubScope, "(none=a)", 9, nil, api.OK, 7, 7},
		{x, api.SubScope, "(class=UNIT)", 9, []string{guests, staffs}, api.OK, 2, 7},
	} {
		q := api.Query{Base: c.base, Scope: c.scope, Filter: parsed(t, c.filter), Limit: c.limit}
		l, e := search.Scan(staff(), d, q)
		if !slices.Equal(names(l), c.want) || e != c.e {
			t.Errorf("Scan of %v = %q, %d", q, l, int(e))
		}
		for _, a := range l {
			if b, _ := d.Get(a.Name); !same(a, b) {
				t.Errorf("Scan of %v: %q, not %q", q, a, b)
			}
		}
		for i, index := range []*index.Index{all, few} {
			m, e := search.Run(staff(), d, index, q)
			if !slices.EqualFunc(m, l, same) || e != c.e {
				t.Errorf("Run of %v = %q, %d with index %d", q, m, int(e), i)
			}
		}
		if n := search.Examined(staff(), d, all, q); n != c.examined {
			t.Errorf("Examined for %v = %d, not %d", q, n, c.examined)
		}
		if n := search.Examined(staff(), d, indexed(t, nil, nil), q); n != c.inScope && c.filter != "(|)" {
			t.Errorf("Examined for %v = %d without an index, not %d", q, n, c.inScope)
		}
	}
}

// P12.2, P12.3: the attributes of a result.
func TestNames(t *testing.T) {
	d := planted(t, everyone()...)
	x := indexed(t, []string{"cn"}, d.Subtree(""))
	for _, c := range []struct {
		names []string
		want  []api.Attr
	}{
		{nil, []api.Attr{attr("age", "9"), attr("cn", "Bob", "Bobby"), attr("mail", "b@x", "bob@x")}},
		{[]string{}, []api.Attr{attr("age", "9"), attr("cn", "Bob", "Bobby"), attr("mail", "b@x", "bob@x")}},
		{[]string{"CN", "mail"}, []api.Attr{attr("cn", "Bob", "Bobby"), attr("mail", "b@x", "bob@x")}},
		{[]string{"mail", "cn", "CN"}, []api.Attr{attr("cn", "Bob", "Bobby"), attr("mail", "b@x", "bob@x")}},
		{[]string{"none", "Age"}, []api.Attr{attr("age", "9")}},
		{[]string{"none"}, nil},
		{[]string{"other", "class"}, nil},
	} {
		// The filter mentions another attribute than the result has.
		q := api.Query{Base: "o=x", Scope: api.SubScope, Filter: parsed(t, "(&(cn=bobby)(mail=bob@x))"), Names: c.names, Limit: 1}
		want := []api.Entry{of("cn=bob,ou=staff,o=x", c.want...)}
		l, e := search.Scan(staff(), d, q)
		m, f := search.Run(staff(), d, x, q)
		if e != api.OK || f != api.OK || !slices.EqualFunc(l, want, same) || !slices.EqualFunc(m, want, same) {
			t.Errorf("Names %q: %q, %d, and %q, %d", c.names, l, int(e), m, int(f))
		}
	}
}

// P12.2, P12.3: the errors, and their order.
func TestErrors(t *testing.T) {
	made, all := planted(t, everyone()...), api.Filter{Kind: api.AndFilter}
	full := indexed(t, []string{"cn"}, made.Subtree(""))
	treeCopy, indexCopy := *made, *full
	good := api.Query{Base: "o=x", Scope: api.SubScope, Filter: all, Limit: 9}
	bad := api.Query{Base: "x", Scope: api.SubScope, Filter: all, Limit: 9}
	missing := api.Query{Base: "o=z", Scope: api.SubScope, Filter: api.Filter{Kind: api.OrFilter}, Limit: 1}
	root := api.Query{Scope: api.SubScope, Filter: all, Limit: 9}
	for i, c := range []struct {
		d         *tree.Tree
		x         *index.Index
		q         api.Query
		scan, run api.Errno
	}{
		{made, full, good, api.OK, api.OK},
		{nil, full, good, api.ErrNil, api.ErrNil}, {&tree.Tree{}, full, good, api.ErrNil, api.ErrNil}, {&treeCopy, full, good, api.ErrNil, api.ErrNil},
		{made, nil, good, api.OK, api.ErrNil}, {made, &index.Index{}, good, api.OK, api.ErrNil}, {made, &indexCopy, good, api.OK, api.ErrNil},
		{nil, nil, good, api.ErrNil, api.ErrNil}, {nil, full, bad, api.ErrNil, api.ErrNil}, {made, nil, bad, api.ErrName, api.ErrNil}, {made, nil, missing, api.ErrNone, api.ErrNil},
		{made, full, bad, api.ErrName, api.ErrName},
		{made, full, api.Query{Base: "o=z", Filter: all, Limit: 9}, api.ErrArg, api.ErrArg},
		{made, full, api.Query{Base: "o=z", Scope: api.SubScope, Limit: 9}, api.ErrForm, api.ErrForm},
		{made, full, api.Query{Base: "o=z", Scope: api.SubScope, Filter: all}, api.ErrRange, api.ErrRange},
		{made, full, missing, api.ErrNone, api.ErrNone},
		{made, full, root, api.ErrNone, api.ErrNone},
		{made, full, api.Query{Scope: api.OneScope, Filter: all, Limit: 9}, api.ErrNone, api.ErrNone},
		{made, full, api.Query{Scope: api.BaseScope, Filter: all, Limit: 9}, api.ErrNone, api.ErrNone},
		{made, full, api.Query{Base: "cn=zoe,ou=staff,o=x", Scope: api.BaseScope, Filter: parsed(t, "(cn=zoe)"), Limit: 1}, api.ErrNone, api.ErrNone},
		// ErrLimit of the query itself: no entry is examined.
		{made, full, api.Query{Base: "o=x", Scope: api.SubScope, Filter: all, Names: make([]string, api.MaxAttrs+1), Limit: 9}, api.ErrLimit, api.ErrLimit},
		{made, full, api.Query{Base: "o=x", Scope: api.SubScope, Filter: api.Filter{Kind: api.AndFilter, Kids: slices.Repeat([]api.Filter{all}, api.MaxNodes)}, Limit: 9}, api.ErrLimit, api.ErrLimit},
	} {
		l, e := search.Scan(staff(), c.d, c.q)
		if e != c.scan || (e != api.OK && len(l) > 0) {
			t.Errorf("%d: Scan = %q, %d, not %d", i, l, int(e), int(c.scan))
		}
		l, e = search.Run(staff(), c.d, c.x, c.q)
		if e != c.run || (e != api.OK && len(l) > 0) {
			t.Errorf("%d: Run = %q, %d, not %d", i, l, int(e), int(c.run))
		}
		if n := search.Examined(staff(), c.d, c.x, c.q); (n == 7) != (c.run == api.OK) || (n == 0) != (c.run != api.OK) {
			t.Errorf("%d: Examined = %d", i, n)
		}
	}
	clone := made.Clone()
	if l, e := search.Run(staff(), clone, indexed(t, nil, nil), good); e != api.OK || len(l) != 7 {
		t.Errorf("a clone and an empty index: %q, %d", l, int(e))
	}
}

// P12.3: indexes that do not hold the entries of the tree, or have another schema.
func TestOtherIndex(t *testing.T) {
	d := planted(t, everyone()...)
	x := indexed(t, []string{"cn"}, []api.Entry{
		of("cn=ann,ou=staff,o=x", attr("cn", "ann")),
		of("cn=bob,ou=staff,o=x", attr("cn", "ann")),
		of("cn=zoe,ou=staff,o=x", attr("cn", "ann")),
		of("cn=cid,o=y", attr("cn", "ann")),
		of("o=z", attr("cn", "ann")),
	})
	for text, want := range map[string][]string{
		"(cn=ann)": {"cn=ann,ou=staff,o=x"}, "(cn=bob)": nil, "(cn=*)": {"cn=ann,ou=staff,o=x", "cn=bob,ou=staff,o=x"}, "(cn=b*)": {"cn=bob,ou=staff,o=x"}, "(mail=b@x)": {"cn=bob,ou=staff,o=x"},
	} {
		q := api.Query{Base: "o=x", Scope: api.SubScope, Filter: parsed(t, text), Limit: 9}
		if l, e := search.Run(staff(), d, x, q); e != api.OK || !slices.Equal(names(l), want) {
			t.Errorf("Run of %s = %q, %d", text, l, int(e))
		}
	}
	for text, want := range map[string]int{"(cn=ann)": 2, "(cn=bob)": 0, "(cn=*)": 2, "(mail=*)": 7} {
		q := api.Query{Base: "o=x", Scope: api.SubScope, Filter: parsed(t, text), Limit: 1}
		if n := search.Examined(staff(), d, x, q); n != want {
			t.Errorf("Examined for %s = %d, not %d", text, n, want)
		}
	}
	// The schema of the call decides about the entries that are examined,
	// and that of the index about which they are.
	exact := staff()
	exact.Types[1].Syntax = api.ExactSyntax
	q := api.Query{Base: "o=x", Scope: api.SubScope, Filter: parsed(t, "(cn=ann)"), Limit: 9}
	all := indexed(t, []string{"cn"}, d.Subtree(""))
	if l, e := search.Run(exact, d, all, q); e != api.OK || !slices.Equal(names(l), []string{"cn=key,cn=ann,ou=staff,o=x"}) || search.Examined(exact, d, all, q) != 3 {
		t.Errorf("Run with another schema = %q, %d", l, int(e))
	}
	if l, e := search.Run(api.Schema{}, d, all, q); e != api.OK || len(l) != 0 || search.Examined(api.Schema{}, d, all, q) != 3 {
		t.Errorf("Run without a schema = %q, %d", l, int(e))
	}
}

// P12.2, P12.3: a search changes nothing, and its result is new memory.
func TestMemory(t *testing.T) {
	d := planted(t, everyone()...)
	x := indexed(t, []string{"cn"}, d.Subtree(""))
	before := d.Subtree("")
	q := api.Query{Base: "o=x", Scope: api.SubScope, Filter: parsed(t, "(cn=ann)"), Names: []string{"MAIL", "cn", "Cn"}, Limit: 9}
	for range 2 {
		for _, run := range []func() ([]api.Entry, api.Errno){
			func() ([]api.Entry, api.Errno) { return search.Scan(staff(), d, q) },
			func() ([]api.Entry, api.Errno) { return search.Run(staff(), d, x, q) },
		} {
			l, e := run()
			if e != api.OK || len(l) != 3 {
				t.Fatalf("%q, %d", l, int(e))
			}
			spoil(l)
			if !slices.EqualFunc(d.Subtree(""), before, same) || x.Len() != len(before) {
				t.Fatalf("the tree is %q after a search", d.Subtree(""))
			}
		}
	}
	if !slices.Equal(q.Names, []string{"MAIL", "cn", "Cn"}) || !filter.Equal(q.Filter, parsed(t, "(cn=ann)")) {
		t.Errorf("a search changed its query to %v", q)
	}
}

// random returns one of some strings.
func random(r *rand.Rand, l ...string) string {
	return l[r.Intn(len(l))]
}

// grown returns a tree with random entries.
func grown(t testing.TB, r *rand.Rand) *tree.Tree {
	d := planted(t)
	all := []string{"o=x", "o=y"}
	for range r.Intn(25) {
		e := of("cn="+random(r, "a", "b", "c")+","+random(r, all...), attr("CN", random(r, "a", "A", "a b", "B")))
		if r.Intn(2) == 0 {
			e.Attrs = append(e.Attrs, attr("age", random(r, "9", "10", "010", "x"), random(r, "8", "30", "-1")))
		}
		if r.Intn(2) == 0 {
			e.Attrs = append(e.Attrs, attr("mail", random(r, "a", "A", "b")))
		}
		if d.Add(e) == api.OK {
			all = append(all, e.Name)
		}
	}
	return d
}

// randomFilter returns a filter with at most some levels.
func randomFilter(r *rand.Rand, levels int) api.Filter {
	f := api.Filter{Kind: api.EqualFilter + api.FilterKind(r.Intn(5))}
	if levels > 1 {
		f.Kind = api.FilterKind(1 + r.Intn(8))
	}
	switch f.Kind {
	case api.AndFilter, api.OrFilter:
		for range 1 + r.Intn(3) {
			f.Kids = append(f.Kids, randomFilter(r, levels-1))
		}
	case api.NotFilter:
		f.Kids = append(f.Kids, randomFilter(r, levels-1))
	default:
		f.Name = random(r, "cn", "CN", "age", "mail", "other")
		switch f.Kind {
		case api.SubstringFilter:
			f.Parts = []string{"", "b"}
		case api.EqualFilter, api.AtLeastFilter, api.AtMostFilter:
			f.Value = random(r, "a", "b", "a b", "9", "10", "x")
		}
	}
	return f
}

// found returns the result of a query by the definition.
func found(d *tree.Tree, q api.Query) ([]api.Entry, api.Errno) {
	if _, ok := d.Get(q.Base); !ok {
		return nil, api.ErrNone
	}
	var l []api.Entry
	for _, e := range d.Subtree("") {
		if search.Within(q, e.Name) && filter.Match(staff(), q.Filter, e) {
			l = append(l, of(e.Name, attrs.Pick(e.Attrs, q.Names)...))
		}
	}
	if len(l) > q.Limit {
		return nil, api.ErrLimit
	}
	return l, api.OK
}

// P12.2, P12.3, P12.4
func TestAgainstDefinition(t *testing.T) {
	r := rand.New(rand.NewSource(1))
	results := map[api.Errno]int{}
	spared := 0
	for range 60 {
		d := grown(t, r)
		indexedNames := slices.DeleteFunc([]string{"cn", "age", "mail"}, func(string) bool { return r.Intn(3) == 0 })
		x := indexed(t, indexedNames, d.Subtree(""))
		bases := append(names(d.Subtree("")), "o=z", "cn=z,o=x")
		for range 40 {
			q := api.Query{Base: random(r, bases...), Scope: api.SearchScope(1 + r.Intn(3)), Filter: randomFilter(r, 3), Limit: 1 + r.Intn(9)}
			if r.Intn(2) == 0 {
				q.Names = []string{"cn", "MAIL"}
			}
			want, bad := found(d, q)
			l, e := search.Scan(staff(), d, q)
			m, f := search.Run(staff(), d, x, q)
			if e != bad || f != bad || !slices.EqualFunc(l, want, same) || !slices.EqualFunc(m, want, same) {
				t.Fatalf("%v: Scan %q, %d, and Run %q, %d, not %q, %d", q, l, int(e), m, int(f), want, int(bad))
			}
			results[e]++
			if !slices.IsSortedFunc(names(l), name.Compare) || len(l) > q.Limit {
				t.Fatalf("%v: %q", q, l)
			}
			examined, inScope := examinedBy(d, x, q)
			if n := search.Examined(staff(), d, x, q); n != examined || n > inScope {
				t.Fatalf("%v: examined %d, not %d of %d", q, n, examined, inScope)
			}
			spared += inScope - examined
		}
	}
	if results[api.OK] < 1000 || results[api.ErrLimit] < 20 || results[api.ErrNone] < 100 || spared < 500 {
		t.Errorf("results %v, and %d entries spared", results, spared)
	}
}

// examinedBy returns by the definition how many entries Run examines, and how many there are in the scope.
func examinedBy(d *tree.Tree, x *index.Index, q api.Query) (examined, inScope int) {
	if _, ok := d.Get(q.Base); !ok {
		return 0, 0
	}
	candidates, known := x.Candidates(q.Filter)
	for _, e := range d.Subtree("") {
		if search.Within(q, e.Name) {
			inScope++
			if !known || slices.Contains(candidates, e.Name) {
				examined++
			}
		}
	}
	return examined, inScope
}

// P12.5
func TestScopes(t *testing.T) {
	r := rand.New(rand.NewSource(3))
	below := 0
	for range 40 {
		d := grown(t, r)
		x := indexed(t, []string{"cn"}, d.Subtree(""))
		for _, base := range names(d.Subtree("")) {
			f := randomFilter(r, 3)
			run := func(base string, scope api.SearchScope) []string {
				l, e := search.Run(staff(), d, x, api.Query{Base: base, Scope: scope, Filter: f, Limit: api.MaxItems})
				if e != api.OK {
					t.Fatalf("%q: %d", base, int(e))
				}
				return names(l)
			}
			sub, parts := run(base, api.SubScope), run(base, api.BaseScope)
			for _, child := range d.Children(base) {
				l := run(child, api.SubScope)
				below += len(l)
				parts = append(parts, l...)
			}
			if !slices.Equal(sub, parts) {
				t.Fatalf("below %q: %q, not %q", base, sub, parts)
			}
			for _, s := range run(base, api.OneScope) {
				if !slices.Contains(sub, s) {
					t.Fatalf("below %q: %q lacks %q", base, sub, s)
				}
			}
		}
	}
	if below < 200 {
		t.Errorf("only %d entries below others", below)
	}
}

// P12.2, P12.4: a full tree.
func TestFull(t *testing.T) {
	d := planted(t)
	for i := range api.MaxEntries - 2 {
		d.Add(of("cn="+strconv.Itoa(i)+",o=x", attr("age", strconv.Itoa(i))))
	}
	x := indexed(t, []string{"age"}, d.Subtree(""))
	q := api.Query{Base: "o=x", Scope: api.SubScope, Filter: parsed(t, "(&)"), Limit: api.MaxItems}
	if l, e := search.Scan(staff(), d, q); e != api.OK || len(l) != api.MaxEntries-1 {
		t.Errorf("Scan of all: %d, %d", len(l), int(e))
	}
	q.Filter = parsed(t, "(&(age>=100)(age<=109))")
	l, e := search.Run(staff(), d, x, q)
	if e != api.OK || len(l) != 10 || search.Examined(staff(), d, x, q) != 110 {
		t.Errorf("Run: %q, %d, examined %d", l, int(e), search.Examined(staff(), d, x, q))
	}
	q.Limit = 9
	if l, e := search.Run(staff(), d, x, q); e != api.ErrLimit || len(l) != 0 || search.Examined(staff(), d, x, q) != 110 {
		t.Errorf("Run: %q, %d, examined %d", l, int(e), search.Examined(staff(), d, x, q))
	}
}
