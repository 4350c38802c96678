package refint_test

import (
	"math/rand"
	"slices"
	"strconv"
	"strings"
	"testing"

	"identity/api"
	"identity/attrs"
	"identity/fold"
	"identity/name"
	"identity/refint"
	"identity/schema"
	"identity/tree"
)

// attr makes an attribute.
func attr(name string, values ...string) api.Attr {
	return api.Attr{Name: name, Values: values}
}

// of makes an entry.
func of(name string, l ...api.Attr) api.Entry {
	return api.Entry{Name: name, Attrs: l}
}

// copied returns a deep copy of an entry.
func copied(e api.Entry) api.Entry {
	l := slices.Clone(e.Attrs)
	for i := range l {
		l[i].Values = slices.Clone(l[i].Values)
	}
	return of(e.Name, l...)
}

// same reports whether two entries are equal as they are.
func same(a, b api.Entry) bool {
	return a.Name == b.Name && slices.EqualFunc(a.Attrs, b.Attrs, func(x, y api.Attr) bool {
		return x.Name == y.Name && slices.Equal(x.Values, y.Values)
	})
}

// sameMods reports whether two lists of modifications are equal.
func sameMods(a, b []api.Mod) bool {
	return slices.EqualFunc(a, b, func(x, y api.Mod) bool {
		return x.Op == y.Op && x.Name == y.Name && slices.Equal(x.Values, y.Values)
	})
}

// replace and remove make modifications.
func replace(name string, values ...string) api.Mod {
	return api.Mod{Op: api.ReplaceValues, Name: name, Values: values}
}

func remove(name string, values ...string) api.Mod {
	return api.Mod{Op: api.DeleteValues, Name: name, Values: values}
}

// staff returns the schema of the tests. Member and Owner refer to entries.
func staff() api.Schema {
	return api.Schema{Types: []api.AttrType{
		{Name: "class", Syntax: api.TextSyntax}, {Name: "cn", Syntax: api.TextSyntax}, {Name: "see", Syntax: api.ExactSyntax},
		{Name: "Owner", Syntax: api.NameSyntax, Single: true}, {Name: "member", Syntax: api.NameSyntax},
		{Name: "age", Syntax: api.IntSyntax}, {Name: "active", Syntax: api.BoolSyntax},
	}}
}

// spoilt are schemas that have no types: one without names of entries, and
// some with an error.
func spoilt() []api.Schema {
	twice, classless, many := staff(), staff(), staff()
	twice.Types = append(twice.Types, api.AttrType{Name: "CN", Syntax: api.NameSyntax})
	classless.Types = classless.Types[1:]
	for i := range api.MaxTypes {
		many.Types = append(many.Types, api.AttrType{Name: "a" + strconv.Itoa(i), Syntax: api.NameSyntax})
	}
	return []api.Schema{{}, {Types: staff().Types[:3]}, twice, classless, many, {Types: []api.AttrType{{Name: "member", Syntax: api.NameSyntax}}}}
}

// planted returns a tree with the root o=x and with entries.
func planted(t testing.TB, l ...api.Entry) *tree.Tree {
	t.Helper()
	d, e := tree.New([]string{"o=x"})
	for _, a := range l {
		if e == api.OK {
			e = d.Add(a)
		}
	}
	if e != api.OK {
		t.Fatalf("a tree of %q: %d", l, int(e))
	}
	return d
}

// unmade are trees that no call made.
func unmade() []*tree.Tree {
	d, _ := tree.New([]string{"o=x"})
	d.Put(of("o=x", attr("class", "group"), attr("member", "o=x", "o=y")))
	c := *d
	return []*tree.Tree{nil, {}, &c}
}

// noNames are strings that are no distinguished names.
var noNames = []string{" ", "x", "cn=", "=x", "1n=x", "cn=a,", ",cn=a", "cn=a=b", "cn=a+b", `cn=a\`, "cn=\u00e9", "cn=" + strings.Repeat("a", api.MaxValue+1), strings.Repeat("a=b,", api.MaxDepth) + "o=x"}

// deep returns the name with n components that ends with o=x.
func deep(n int) string {
	return strings.Repeat("a=b,", n-1) + "o=x"
}

// long returns a name with n bytes below a name.
func long(n int, below string) string {
	return "o=" + strings.Repeat("a", n-len("o=,")-len(below)) + "," + below
}

// P13.1
func TestRefs(t *testing.T) {
	wide := "cn=" + strings.Repeat("a", api.MaxValue)
	for _, x := range []struct {
		l    []api.Attr
		want []string
	}{
		{nil, nil},
		{[]api.Attr{attr("member", "CN=b,o=x", "cn=b, o=x")}, []string{"cn=b,o=x"}},
		{[]api.Attr{attr("member", "o=x", "cn=b,o=x", "cn=a,o=x")}, []string{"cn=a,o=x", "cn=b,o=x", "o=x"}},
		{[]api.Attr{attr("MEMBER", "o=b"), attr("owner", "o=c", "O=B"), attr("Member", "o=a")}, []string{"o=a", "o=b", "o=c"}},
		{[]api.Attr{attr("owner", "o=a"), attr("Member", "o=b")}, []string{"o=a", "o=b"}},
		{[]api.Attr{attr("member", `CN = Lee\, Ann , o=x`)}, []string{`cn=lee\, ann,o=x`}},
		{[]api.Attr{attr("member", " cn=a,o=x ", wide, deep(api.MaxDepth))}, []string{deep(api.MaxDepth), "cn=a,o=x", wide}},

		// Values that are no references.
		{[]api.Attr{attr("member", "")}, nil},
		{[]api.Attr{attr("member", noNames...)}, nil},
		{[]api.Attr{attr("member", append([]string{"o=y", ""}, noNames...)...)}, []string{"o=y"}},

		// Attributes with other syntaxes, and without a type.
		{[]api.Attr{attr("cn", "o=a"), attr("see", "o=a"), attr("class", "o=a"), attr("age", "o=a"), attr("active", "o=a")}, nil},
		{[]api.Attr{attr("members", "o=a"), attr("boss", "o=a"), attr("", "o=a"), attr("memb\u00e9r", "o=a")}, nil},
		{[]api.Attr{attr("cn", "o=a"), attr("owner", "o=b"), attr("zz", "o=c")}, []string{"o=b"}},
	} {
		e := of("none", x.l...)
		before := copied(e)
		if got := refint.Refs(staff(), e); !slices.Equal(got, x.want) {
			t.Errorf("Refs(%q) = %q, not %q", x.l, got, x.want)
		}
		if !same(e, before) {
			t.Errorf("Refs changed %q", before)
		}
	}
	for i, s := range spoilt() {
		if got := refint.Refs(s, of("o=x", attr("member", "o=a"), attr("cn", "o=b"))); len(got) != 0 {
			t.Errorf("Refs under the schema %d = %q", i, got)
		}
	}
}

// P13.2
func TestBroken(t *testing.T) {
	d := planted(t,
		of("cn=c,o=x"),
		of("cn=a,o=x", attr("member", "CN=B,o=x"), attr("cn", "cn=z,o=x")),
		of("cn=b,cn=a,o=x", attr("owner", "o=x"), attr("member", "cn=z,o=x", "cn=Y,o=x", "CN=y, o=x", "cn=c,o=x", "none", "")),
		of("cn=0,cn=c,o=x", attr("member", "cn=b,cn=a,o=x", "cn=0,cn=c,o=x")),
		of("cn=1,cn=c,o=x", attr("owner", "cn=2,cn=c,o=x", "o=y")),
	)
	want := []api.Pair{
		{Key: "cn=a,o=x", Value: "cn=b,o=x"},
		{Key: "cn=b,cn=a,o=x", Value: "cn=y,o=x"}, {Key: "cn=b,cn=a,o=x", Value: "cn=z,o=x"},
		{Key: "cn=1,cn=c,o=x", Value: "cn=2,cn=c,o=x"}, {Key: "cn=1,cn=c,o=x", Value: "o=y"},
	}
	if got := refint.Broken(staff(), d); !slices.Equal(got, want) {
		t.Errorf("Broken = %q", got)
	}
	for i, s := range spoilt() {
		if got := refint.Broken(s, d); len(got) != 0 {
			t.Errorf("Broken under the schema %d = %q", i, got)
		}
	}
	for i, d := range unmade() {
		if got := refint.Broken(staff(), d); len(got) != 0 {
			t.Errorf("Broken of the tree %d = %q", i, got)
		}
	}
	if got := refint.Broken(staff(), planted(t)); len(got) != 0 {
		t.Errorf("Broken without references = %q", got)
	}
}

// P13.2
func TestReferrers(t *testing.T) {
	d := planted(t,
		of("cn=c,o=x", attr("member", "cn=c,o=x", "cn=z,o=x")),
		of("cn=a,o=x", attr("member", "CN=C,o=x"), attr("owner", "cn=c, o=x")),
		of("cn=b,o=x", attr("cn", "cn=c,o=x"), attr("owner", "o=x", "")),
		of("cn=b,cn=a,o=x", attr("owner", "cn=Z,o=x")),
		of("cn=z,cn=b,o=x", attr("owner", "cn=c,cn=c,o=x")),
	)
	for to, want := range map[string][]string{
		"cn=c,o=x":      {"cn=a,o=x", "cn=c,o=x"},
		"CN = C , O=X":  {"cn=a,o=x", "cn=c,o=x"},
		"cn=z,o=x":      {"cn=b,cn=a,o=x", "cn=c,o=x"},
		"o=x":           {"cn=b,o=x"},
		"cn=c,cn=c,o=x": {"cn=z,cn=b,o=x"},
		"cn=a,o=x":      nil,
		"c,o=x":         nil,
		"":              nil,
	} {
		if got := refint.Referrers(staff(), d, to); !slices.Equal(got, want) {
			t.Errorf("Referrers of %q = %q, not %q", to, got, want)
		}
	}
	for _, to := range noNames {
		if got := refint.Referrers(staff(), d, to); len(got) != 0 {
			t.Errorf("Referrers of %q = %q", to, got)
		}
	}
	for i, s := range spoilt() {
		if got := refint.Referrers(s, d, "cn=c,o=x"); len(got) != 0 {
			t.Errorf("Referrers under the schema %d = %q", i, got)
		}
	}
	for i, d := range unmade() {
		if got := refint.Referrers(staff(), d, "o=x"); len(got) != 0 {
			t.Errorf("Referrers in the tree %d = %q", i, got)
		}
	}
}

// P13.3
func TestRenamed(t *testing.T) {
	for _, x := range []struct {
		l        []api.Attr
		from, to string
		want     []api.Mod
	}{
		{nil, "ou=p,o=x", "ou=q,o=x", nil},
		{[]api.Attr{attr("member", "cn=a,ou=p,o=x")}, "ou=p,o=x", "ou=q,o=x", []api.Mod{replace("member", "cn=a,ou=q,o=x")}},
		{[]api.Attr{attr("member", "OU=P, o=x")}, "ou=p,o=x", "ou=q,o=x", []api.Mod{replace("member", "ou=q,o=x")}},
		{[]api.Attr{attr("member", "o=x", "ou=pp,o=x", "cn=a,ou=p", "ou=p,o=x,o=x")}, "ou=p,o=x", "ou=q,o=x", nil},
		{[]api.Attr{attr("member", "o=x")}, "o=x", `cn=a\,b,o=y`, []api.Mod{replace("member", `cn=a\,b,o=y`)}},

		// Other values stay as they are, and all ascend.
		{[]api.Attr{attr("MEMBER", "z", "CN=B , ou=p,o=x", "CN=A,o=x")}, "ou=p,o=x", "ou=q,o=x", []api.Mod{replace("member", "CN=A,o=x", "cn=b,ou=q,o=x", "z")}},
		{[]api.Attr{attr("member", append([]string{"ou=p,o=x", ""}, noNames...)...)}, "ou=p,o=x", "o=q", []api.Mod{replace("member", slices.Sorted(slices.Values(append([]string{"o=q", ""}, noNames...)))...)}},
		// Values that become one.
		{[]api.Attr{attr("member", "ou=p,o=x", "OU=p,o=x", "ou=q,o=x")}, "ou=p,o=x", "ou=q,o=x", []api.Mod{replace("member", "ou=q,o=x")}},

		// Several attributes, in order.
		{[]api.Attr{attr("Owner", "ou=p,o=x"), attr("member", "o=a"), attr("Member", "ou=p,o=x"), attr("cn", "ou=p,o=x"), attr("none", "ou=p,o=x")}, "ou=p,o=x", "o=y", []api.Mod{replace("member", "o=a", "o=y"), replace("owner", "o=y")}},
		{[]api.Attr{attr("owner", "ou=p,o=x"), attr("member", "o=a")}, "ou=p,o=x", "o=y", []api.Mod{replace("owner", "o=y")}},
		{[]api.Attr{attr("cn", "ou=p,o=x"), attr("see", "ou=p,o=x")}, "ou=p,o=x", "o=y", nil},

		// A name at which nothing changes is replaced, too.
		{[]api.Attr{attr("member", "CN=a,o=x", "o=y")}, "o=x", "o=x", []api.Mod{replace("member", "cn=a,o=x", "o=y")}},
	} {
		e := of("cn=e", x.l...)
		before := copied(e)
		if got := refint.Renamed(staff(), e, x.from, x.to); !sameMods(got, x.want) {
			t.Errorf("Renamed(%q, %q, %q) = %v, not %v", x.l, x.from, x.to, got, x.want)
		}
		if !same(e, before) {
			t.Errorf("Renamed changed %q", before)
		}
	}
}

// P13.3: names that would be too deep, or too long as values.
func TestRenamedLimits(t *testing.T) {
	for _, x := range []struct{ value, from, to, want string }{
		{deep(7), "o=x", deep(2), deep(8)},
		{deep(8), "o=x", deep(2), ""},
		{deep(8), deep(2), "o=x", deep(7)},
		{deep(8), deep(8), "o=y", "o=y"},
		{deep(2), deep(2), deep(8), deep(8)},
		{long(250, "o=x"), "o=x", "o=y123456", long(256, "o=y123456")},
		{long(250, "o=x"), "o=x", "o=y1234567", ""},
		{long(257, "o=x12"), "o=x12", "o=x1", long(256, "o=x1")},
		{long(257, "o=x1"), "o=x1", "o=y1", ""},
		{strings.ToUpper(long(253, "o=x")) + "   ", "o=x", "o=y1", long(254, "o=y1")},
		{"o=x", "o=x", long(256, "o=y"), long(256, "o=y")},
		{"o=x", "o=x", long(257, "o=y"), ""},
	} {
		e := of("cn=e", attr("member", x.value))
		var want []api.Mod
		if x.want != "" {
			want = []api.Mod{replace("member", x.want)}
		}
		if got := refint.Renamed(staff(), e, x.from, x.to); !sameMods(got, want) {
			t.Errorf("Renamed(%q, %q, %q) = %v", x.value, x.from, x.to, got)
		}
		// Beside another value that is replaced, it stays.
		if x.want == "" {
			e = of("cn=e", attr("member", x.value, "p="+x.from, x.from), attr("owner", x.value))
			for _, m := range refint.Renamed(staff(), e, x.from, x.to) {
				if m.Name != "member" || !slices.Contains(m.Values, x.value) {
					t.Errorf("Renamed(%q, %q, %q) = %v", x.value, x.from, x.to, m)
				}
			}
		}
	}
}

// P13.3: names that are empty, or not in normal form, and schemas without types.
func TestRenamedInvalid(t *testing.T) {
	e := of("cn=e", attr("member", "", "o=x", "O=x,o=x", "cn=a,o=x"))
	for _, s := range append([]string{"", "O=x", "o= x", "o=x "}, noNames...) {
		if got := refint.Renamed(staff(), e, s, "o=y"); len(got) != 0 {
			t.Errorf("Renamed from %q = %v", s, got)
		}
		if got := refint.Renamed(staff(), e, "o=x", s); len(got) != 0 {
			t.Errorf("Renamed to %q = %v", s, got)
		}
	}
	for i, s := range spoilt() {
		if got := refint.Renamed(s, e, "o=x", "o=y"); len(got) != 0 {
			t.Errorf("Renamed under the schema %d = %v", i, got)
		}
	}
}

// P13.4
func TestRemoved(t *testing.T) {
	for _, x := range []struct {
		l    []api.Attr
		to   string
		want []api.Mod
	}{
		{nil, "o=x", nil},
		{[]api.Attr{attr("member", "CN=b,o=x", "cn=c,o=x")}, "cn=b,o=x", []api.Mod{remove("member", "CN=b,o=x")}},
		{[]api.Attr{attr("member", "cn=c,o=x", "CN=b,o=x")}, "Cn = B,O=X", []api.Mod{remove("member", "CN=b,o=x")}},
		{[]api.Attr{attr("member", "cn=b, o=x", "o=x", "cn=b,o=x", "cn=B,o=x")}, "cn=b,o=x", []api.Mod{remove("member", "cn=B,o=x", "cn=b, o=x", "cn=b,o=x")}},
		{[]api.Attr{attr("OWNER", "o=x"), attr("cn", "o=x"), attr("member", "cn=b,o=x"), attr("Member", "O=x", "p=x"), attr("zz", "o=x")}, "o=x", []api.Mod{remove("member", "O=x"), remove("owner", "o=x")}},
		{[]api.Attr{attr("owner", "o=x"), attr("member", "o=y")}, "o=x", []api.Mod{remove("owner", "o=x")}},
		{[]api.Attr{attr("member", "cn=b,o=x", "o=y", "none", "")}, "o=x", nil},
		{[]api.Attr{attr("see", "o=x"), attr("class", "o=x")}, "o=x", nil},
		{[]api.Attr{attr("member", append([]string{"", "o=x"}, noNames...)...)}, "", nil},
	} {
		e := of("cn=e", x.l...)
		before := copied(e)
		if got := refint.Removed(staff(), e, x.to); !sameMods(got, x.want) {
			t.Errorf("Removed(%q, %q) = %v, not %v", x.l, x.to, got, x.want)
		}
		if !same(e, before) {
			t.Errorf("Removed changed %q", before)
		}
	}
	e := of("cn=e", attr("member", append([]string{"", "o=x"}, noNames...)...))
	for _, to := range noNames {
		if got := refint.Removed(staff(), e, to); len(got) != 0 {
			t.Errorf("Removed of %q = %v", to, got)
		}
	}
	for i, s := range spoilt() {
		if got := refint.Removed(s, e, "o=x"); len(got) != 0 {
			t.Errorf("Removed under the schema %d = %v", i, got)
		}
	}
}

// forest makes random trees whose entries refer to each other.
type forest struct{ *rand.Rand }

// pick returns one of some strings.
func (r forest) pick(l ...string) string {
	return l[r.Intn(len(l))]
}

// name returns a name with one to four components.
func (r forest) name() string {
	s := "o=x"
	for range r.Intn(4) {
		s = r.pick("cn=a", "cn=b") + "," + s
	}
	return s
}

// value returns a value of an attribute with NameSyntax, or another one.
func (r forest) value() string {
	switch s := r.name(); r.Intn(8) {
	case 0:
		return strings.ToUpper(s)
	case 1:
		return " " + strings.ReplaceAll(s, ",", " , ")
	case 2:
		return r.pick("", "none", "o=y", "p=x,o=x")
	default:
		return s
	}
}

// attrs returns attributes, some of which are not in normal form.
func (r forest) attrs() []api.Attr {
	var l []api.Attr
	for range r.Intn(4) {
		a := attr(r.pick("member", "MEMBER", "owner", "cn", "none"))
		for range r.Intn(4) {
			a.Values = append(a.Values, r.value())
		}
		l = append(l, a)
	}
	return l
}

// tree returns a tree.
func (r forest) tree(t testing.TB) *tree.Tree {
	d := planted(t)
	for range 12 {
		d.Add(of(r.name(), r.attrs()...))
	}
	d.Put(of("o=x", r.attrs()...))
	return d
}

// refers is the definition of a reference: whether a value of an attribute is
// one to a name.
func refers(s api.Schema, attr, value, to string) bool {
	a, typed := schema.Type(s, attr)
	ref, e := name.Clean(value)
	return typed && a.Syntax == api.NameSyntax && e == api.OK && ref != "" && ref == to
}

// refersTo is the definition of the references of an entry.
func refersTo(s api.Schema, e api.Entry, to string) bool {
	return slices.ContainsFunc(attrs.Sorted(e.Attrs), func(a api.Attr) bool {
		return slices.ContainsFunc(a.Values, func(v string) bool { return refers(s, a.Name, v, to) })
	})
}

// P13.1, P13.2
func TestDefinition(t *testing.T) {
	r := forest{rand.New(rand.NewSource(1))}
	broken, kept := 0, 0
	for range 300 {
		d := r.tree(t)
		var pairs []api.Pair
		for _, e := range d.Subtree("") {
			refs := refint.Refs(staff(), e)
			if !slices.IsSorted(refs) || len(slices.Compact(slices.Clone(refs))) != len(refs) {
				t.Fatalf("Refs(%q) = %q", e, refs)
			}
			for _, a := range e.Attrs {
				for _, v := range a.Values {
					to, _ := name.Clean(v)
					if refersTo(staff(), e, to) != slices.Contains(refs, to) {
						t.Fatalf("Refs(%q) = %q", e, refs)
					}
				}
			}
			for _, to := range refs {
				if _, ok := d.Get(to); !ok {
					pairs = append(pairs, api.Pair{Key: e.Name, Value: to})
				} else {
					kept++
				}
				if !refersTo(staff(), e, to) || !slices.Contains(refint.Referrers(staff(), d, to), e.Name) {
					t.Fatalf("%q refers to %q", e, to)
				}
			}
		}
		if got := refint.Broken(staff(), d); !slices.Equal(got, pairs) {
			t.Fatalf("Broken = %q, not %q", got, pairs)
		}
		broken += len(pairs)
		to := r.name()
		var referrers []string
		for _, e := range d.Subtree("") {
			if refersTo(staff(), e, to) {
				referrers = append(referrers, e.Name)
			}
		}
		if got := refint.Referrers(staff(), d, to); !slices.Equal(got, referrers) {
			t.Fatalf("Referrers of %q = %q, not %q", to, got, referrers)
		}
	}
	if broken < 100 || kept < 100 {
		t.Errorf("%d references were broken, and %d not", broken, kept)
	}
}

// renamed is the definition of the value after a rename, and whether a value is replaced.
func renamed(value, from, to string) (string, bool) {
	ref, e := name.Clean(value)
	if e != api.OK || !name.Under(ref, from) {
		return value, false
	}
	after, e := name.Rebase(ref, from, to)
	if e != api.OK || !fold.Clean(after) {
		return value, false
	}
	return after, true
}

// P13.3, P13.4
func TestModsDefinition(t *testing.T) {
	r := forest{rand.New(rand.NewSource(2))}
	counts := map[bool]int{}
	for range 20000 {
		e, from, to := of("cn=e", r.attrs()...), r.name(), r.pick(r.name(), "o=y", "cn=c,"+r.name())
		var moved, gone []api.Mod
		for _, a := range attrs.Sorted(e.Attrs) {
			if b, ok := schema.Type(staff(), a.Name); !ok || b.Syntax != api.NameSyntax {
				continue
			}
			m, g, any := replace(a.Name), remove(a.Name), false
			for _, v := range a.Values {
				after, ok := renamed(v, from, to)
				m.Values, any = append(m.Values, after), any || ok
				if refers(staff(), a.Name, v, to) {
					g.Values = append(g.Values, v)
				}
			}
			slices.Sort(m.Values)
			if m.Values = slices.Compact(m.Values); any {
				moved = append(moved, m)
			}
			if len(g.Values) > 0 {
				gone = append(gone, g)
			}
		}
		if got := refint.Renamed(staff(), e, from, to); !sameMods(got, moved) {
			t.Fatalf("Renamed(%q, %q, %q) = %v, not %v", e.Attrs, from, to, got, moved)
		}
		if got := refint.Removed(staff(), e, to); !sameMods(got, gone) {
			t.Fatalf("Removed(%q, %q) = %v, not %v", e.Attrs, to, got, gone)
		}
		counts[len(moved) > 0 && len(gone) > 0]++
	}
	if counts[true] < 300 || counts[false] < 1000 {
		t.Errorf("modifications: %v", counts)
	}
}

// apply applies modifications to an entry.
func apply(t testing.TB, e api.Entry, mods []api.Mod) api.Entry {
	t.Helper()
	for _, m := range mods {
		l, bad := attrs.Remove(e.Attrs, m.Name, m.Values)
		if m.Op == api.ReplaceValues {
			l, bad = attrs.Replace(e.Attrs, m.Name, m.Values)
		}
		if bad != api.OK {
			t.Fatalf("%v of %q: %d", m, e, int(bad))
		}
		e.Attrs = l
	}
	return e
}

// clean returns attributes without the values that modifications cannot have.
func clean(l []api.Attr) []api.Attr {
	l = attrs.Sorted(l)
	for i := range l {
		l[i].Values = slices.DeleteFunc(l[i].Values, func(v string) bool { return !fold.Clean(v) })
	}
	return l
}

// P13.7
func TestKept(t *testing.T) {
	r := forest{rand.New(rand.NewSource(3))}
	moves := 0
	for range 5000 {
		d := r.tree(t)
		for _, e := range d.Subtree("") {
			d.Put(of(e.Name, clean(e.Attrs)...))
		}
		before := refint.Broken(staff(), d)
		from, to := r.name(), r.pick(r.name(), "cn=c,"+r.name())
		if d.Move(from, to) != api.OK {
			continue
		}
		moves++
		for _, e := range d.Subtree("") {
			d.Put(apply(t, e, refint.Renamed(staff(), e, from, to)))
		}
		back := func(s string) string {
			if old, e := name.Rebase(s, to, from); e == api.OK {
				return old
			}
			return s
		}
		for _, p := range refint.Broken(staff(), d) {
			old := api.Pair{Key: back(p.Key), Value: p.Value}
			older := api.Pair{Key: back(p.Key), Value: back(p.Value)}
			if !slices.Contains(before, old) && !slices.Contains(before, older) {
				t.Fatalf("after %q became %q, %q is broken", from, to, p)
			}
		}
	}
	if moves < 200 {
		t.Errorf("only %d moves", moves)
	}
}

// P13.8
func TestGone(t *testing.T) {
	r := forest{rand.New(rand.NewSource(4))}
	count := 0
	for range 5000 {
		e, to := of("cn=e", r.attrs()...), r.value()
		e.Attrs = attrs.Sorted(e.Attrs)
		mods := refint.Removed(staff(), e, to)
		count += len(mods)
		after := apply(t, e, mods)
		ref, bad := name.Clean(to)
		if refs := refint.Refs(staff(), after); bad == api.OK && slices.Contains(refs, ref) {
			t.Fatalf("%q refers to %q after %v", after, to, mods)
		}
		others := func(s string) bool { return s == ref }
		if got, want := refint.Refs(staff(), after), slices.DeleteFunc(refint.Refs(staff(), e), others); !slices.Equal(got, want) {
			t.Fatalf("%q refers to %q, not %q", after, got, want)
		}
		if len(refint.Removed(staff(), after, to)) != 0 {
			t.Fatalf("%q refers to %q after %v", after, to, mods)
		}
	}
	if count < 500 {
		t.Errorf("only %d modifications", count)
	}
}
