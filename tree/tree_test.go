package tree_test

import (
	"slices"
	"strconv"
	"strings"
	"testing"

	"identity/api"
	"identity/tree"
)

// attr makes an attribute.
func attr(name string, values ...string) api.Attr {
	return api.Attr{Name: name, Values: values}
}

// of makes an entry.
func of(name string, l ...api.Attr) api.Entry {
	return api.Entry{Name: name, Attrs: l}
}

// same reports whether two entries are equal as they are.
func same(a, b api.Entry) bool {
	return a.Name == b.Name && slices.EqualFunc(a.Attrs, b.Attrs, func(x, y api.Attr) bool {
		return x.Name == y.Name && slices.Equal(x.Values, y.Values)
	})
}

// spoil changes everything in the memory of an entry.
func spoil(e api.Entry) {
	for _, a := range e.Attrs {
		for i := range a.Values {
			a.Values[i] = "spoilt"
		}
		_ = append(a.Values, "spoilt")
	}
	_ = append(e.Attrs, attr("spoilt"))
	clear(e.Attrs)
}

// planted returns a tree with roots and entries without attributes.
func planted(t *testing.T, roots []string, names ...string) *tree.Tree {
	t.Helper()
	d, e := tree.New(roots)
	if e != api.OK || d == nil {
		t.Fatalf("New(%q) = %v, %d", roots, d, int(e))
	}
	for _, s := range names {
		if e := d.Add(of(s)); e != api.OK {
			t.Fatalf("Add of %q = %d", s, int(e))
		}
	}
	return d
}

// names returns the names of the entries of a tree in its order.
func names(d *tree.Tree) []string {
	var l []string
	for _, e := range d.Subtree("") {
		l = append(l, e.Name)
	}
	return l
}

// numbered returns n names of roots.
func numbered(n int) []string {
	var l []string
	for i := range n {
		l = append(l, "o=x"+strconv.Itoa(100+i))
	}
	return l
}

// deep returns the name with n components that ends with o=x.
func deep(n int) string {
	return strings.Repeat("a=b,", n-1) + "o=x"
}

// malformed are strings that are no names in normal form.
var malformed = []string{" ", "x", "o=", "=x", "O=x", "o=X", "o =x", "o= x", "o=x ", "o=x,", ",o=x", "cn=a, o=x", "cn=A,o=x", "cn=a,O=x", "cn=a;o=x,o=y=z", "o=x+y", "o=x  y", `o=x\`, "1=x,o=x", "cn=a\n,o=x", deep(api.MaxDepth + 1)}

// P10.1
func TestNew(t *testing.T) {
	roots := []string{"o=y", "dc=x", `o=x\,y`, "o=x", "o=a b"}
	d, e := tree.New(roots)
	if e != api.OK || d.Len() != 5 {
		t.Fatalf("New(%q) = %d", roots, int(e))
	}
	roots[0] = "spoilt"
	if got, want := names(d), []string{"dc=x", "o=a b", "o=x", `o=x\,y`, "o=y"}; !slices.Equal(got, want) {
		t.Errorf("names: %q", got)
	}
	for _, e := range d.Subtree("") {
		if len(e.Attrs) != 0 {
			t.Errorf("root %q", e)
		}
	}
	if d := planted(t, numbered(api.MaxEntries)); d.Len() != api.MaxEntries {
		t.Errorf("%d roots", d.Len())
	}
}

// P10.1
func TestNewErrors(t *testing.T) {
	type test struct {
		roots []string
		want  api.Errno
	}
	all := []test{
		{nil, api.ErrNone},
		{[]string{}, api.ErrNone},
		{[]string{""}, api.ErrName},
		{[]string{"o=x", ""}, api.ErrName},
		{[]string{"cn=a,o=x"}, api.ErrName},
		{[]string{"o=x", "cn=a,o=x"}, api.ErrName},
		{[]string{"o=x", "o=x"}, api.ErrTwice},
		{[]string{"o=x", "o=y", "o=x"}, api.ErrTwice},
		{[]string{"o=x", "o=x", "O=x"}, api.ErrTwice},
		{[]string{"o=x", "O=x", "o=x"}, api.ErrName},
		{[]string{"O=x", "O=x"}, api.ErrName},
		{numbered(api.MaxEntries + 1), api.ErrLimit},
		{append(numbered(api.MaxEntries), ""), api.ErrLimit},
		{append([]string{"", ""}, numbered(api.MaxEntries)...), api.ErrLimit},
		{append(numbered(api.MaxEntries-1), "o=x100"), api.ErrTwice},
		{make([]string, api.MaxEntries), api.ErrName},
	}
	for _, s := range malformed {
		all = append(all, test{[]string{s}, api.ErrName}, test{[]string{"o=z", s}, api.ErrName})
	}
	for _, x := range all {
		if d, e := tree.New(x.roots); e != x.want || d != nil {
			t.Errorf("New(%.80q) = %v, %d, not %d", x.roots, d, int(e), int(x.want))
		}
	}
}

// P10.2
func TestAdd(t *testing.T) {
	d := planted(t, []string{"o=x", "o=z"})
	for _, x := range []struct {
		name string
		want api.Errno
	}{
		{"cn=a,o=x", api.OK},
		{"cn=b,cn=a,o=x", api.OK},
		{`cn=a\,b,o=z`, api.OK},
		{"o=x,o=x", api.OK},
		{"o=x", api.ErrTwice},
		{"cn=a,o=x", api.ErrTwice},
		{"cn=b,cn=a,o=x", api.ErrTwice},
		{"cn=b,cn=c,o=x", api.ErrNone},
		{"cn=a,o=y", api.ErrNone},
		{"cn=b,cn=a,o=z", api.ErrNone},
		// An entry with one component has the empty name as its parent, which is no entry.
		{"o=y", api.ErrNone},
		{"", api.ErrName},
		{"CN=a,o=x", api.ErrName},
		{"cn=d,o=x,", api.ErrName},
	} {
		before := names(d)
		if e := d.Add(of(x.name)); e != x.want {
			t.Errorf("Add of %q = %d, not %d", x.name, int(e), int(x.want))
		}
		if x.want == api.OK {
			before = append(before, x.name)
		}
		if d.Len() != len(before) {
			t.Errorf("after Add of %q: %q", x.name, names(d))
		}
		if _, ok := d.Get(x.name); ok != (x.want == api.OK || x.want == api.ErrTwice) {
			t.Errorf("Get of %q = %v", x.name, ok)
		}
	}
	for _, s := range malformed {
		if e := d.Add(of(s)); e != api.ErrName {
			t.Errorf("Add of %q = %d", s, int(e))
		}
	}
	d = planted(t, []string{"o=x"})
	for n := 2; n <= api.MaxDepth; n++ {
		if e := d.Add(of(deep(n))); e != api.OK {
			t.Errorf("Add with %d components = %d", n, int(e))
		}
	}
	if e := d.Add(of(deep(api.MaxDepth + 1))); e != api.ErrName || d.Len() != api.MaxDepth {
		t.Errorf("Add with too many components = %d", int(e))
	}
}

// P10.2: the number of entries.
func TestAddLimit(t *testing.T) {
	d := planted(t, []string{"o=x"})
	for i := 1; i < api.MaxEntries; i++ {
		if e := d.Add(of("cn=" + strconv.Itoa(i) + ",o=x")); e != api.OK {
			t.Fatalf("Add of entry %d = %d", i, int(e))
		}
	}
	for s, want := range map[string]api.Errno{"cn=x,o=x": api.ErrLimit, "cn=1,o=x": api.ErrTwice, "cn=x,o=y": api.ErrNone, "cn=X,o=x": api.ErrName, "cn=x,cn=1,o=x": api.ErrLimit} {
		if e := d.Add(of(s)); e != want || d.Len() != api.MaxEntries {
			t.Errorf("Add of %q to a full tree = %d, not %d", s, int(e), int(want))
		}
	}
	if e := d.Move("cn=1,o=x", "cn=x,cn=2,o=x"); e != api.OK {
		t.Errorf("Move in a full tree = %d", int(e))
	}
	if e := d.Delete("cn=3,o=x"); e != api.OK {
		t.Errorf("Delete in a full tree = %d", int(e))
	}
	if e := d.Add(of("cn=3,o=x")); e != api.OK || d.Add(of("cn=4x,o=x")) != api.ErrLimit {
		t.Errorf("Add after Delete in a full tree = %d", int(e))
	}
	if e := planted(t, numbered(api.MaxEntries)).Add(of("cn=a,o=x100")); e != api.ErrLimit {
		t.Errorf("Add to a tree of roots = %d", int(e))
	}
}

// P10.2: attributes are kept in normal form, and not examined otherwise.
func TestAttributes(t *testing.T) {
	var many []api.Attr
	for i := range api.MaxAttrs + 5 {
		many = append(many, attr("a"+strconv.Itoa(100+i), "x"))
	}
	for _, x := range []struct{ given, kept []api.Attr }{
		{nil, nil},
		{[]api.Attr{attr("cn")}, nil},
		{[]api.Attr{attr("CN", "b", "a"), attr("age", "7"), attr("cn", "a", "c")}, []api.Attr{attr("age", "7"), attr("cn", "a", "b", "c")}},
		{[]api.Attr{attr("1 ", "", " x", "é"), attr("", "\n")}, []api.Attr{attr("", "\n"), attr("1 ", "", " x", "é")}},
		{many, many},
	} {
		d := planted(t, []string{"o=x"}, "cn=p,o=x")
		for _, name := range []string{"cn=a,o=x", "cn=p,o=x", "o=x"} {
			given, kept := of(name), of(name, x.kept...)
			for _, a := range x.given {
				given.Attrs = append(given.Attrs, attr(a.Name, slices.Clone(a.Values)...))
			}
			call := d.Put
			if name == "cn=a,o=x" {
				call = d.Add
			}
			before := of(name, slices.Clone(given.Attrs)...)
			if e := call(given); e != api.OK || !same(given, before) {
				t.Fatalf("%q: %d, %q", before, int(e), given)
			}
			spoil(given)
			for range 2 {
				got, ok := d.Get(name)
				if !ok || !same(got, kept) {
					t.Errorf("Get of %q = %q, %v, not %q", name, got, ok, kept)
				}
				spoil(got)
				l := d.Subtree(name)
				if i := slices.IndexFunc(l, func(e api.Entry) bool { return e.Name == name }); i != 0 || !same(l[0], kept) {
					t.Errorf("Subtree of %q = %q, not %q", name, l, kept)
				}
				for _, e := range l {
					spoil(e)
				}
			}
		}
	}
}

// P10.2
func TestPut(t *testing.T) {
	d := planted(t, []string{"o=x"}, "ou=p,o=x", "cn=a,ou=p,o=x")
	for _, s := range append(malformed, "", "o=y", "cn=b,o=x", "cn=a,o=x", "CN=a,ou=p,o=x", "cn=a, ou=p,o=x") {
		if e := d.Put(of(s, attr("cn", "b"))); e != api.ErrNone {
			t.Errorf("Put of %q = %d", s, int(e))
		}
	}
	if l := names(d); len(l) != 3 {
		t.Errorf("after Put without an entry: %q", l)
	}
	for _, s := range []string{"o=x", "ou=p,o=x", "cn=a,ou=p,o=x"} {
		for _, l := range [][]api.Attr{{attr("cn", "a")}, {attr("cn", "b"), attr("mail", "m")}, {attr("sn", "c")}, nil} {
			if e := d.Put(of(s, l...)); e != api.OK {
				t.Errorf("Put of %q = %d", s, int(e))
			}
			if got, ok := d.Get(s); !ok || !same(got, of(s, l...)) {
				t.Errorf("Get of %q = %q, not %q", s, got, l)
			}
		}
	}
	if l := names(d); !slices.Equal(l, []string{"o=x", "ou=p,o=x", "cn=a,ou=p,o=x"}) {
		t.Errorf("after Put: %q", l)
	}
}

// P10.2
func TestDelete(t *testing.T) {
	d := planted(t, []string{"o=x", "o=y"}, "ou=p,o=x", "cn=a,ou=p,o=x", "cn=b,ou=p,o=x", "ou=pp,o=x")
	for _, x := range []struct {
		name string
		want api.Errno
	}{
		{"", api.ErrNone},
		{"o=z", api.ErrNone},
		{"O=x", api.ErrNone},
		{"cn=c,ou=p,o=x", api.ErrNone},
		{"cn=a,o=x", api.ErrNone},
		{"CN=a,ou=p,o=x", api.ErrNone},
		{"o=x", api.ErrState},
		{"o=y", api.ErrState},
		{"ou=p,o=x", api.ErrState},
		{"cn=a,ou=p,o=x", api.OK},
		{"cn=a,ou=p,o=x", api.ErrNone},
		{"ou=p,o=x", api.ErrState},
		{"cn=b,ou=p,o=x", api.OK},
		{"ou=p,o=x", api.OK},
		{"ou=pp,o=x", api.OK},
		{"o=x", api.ErrState},
	} {
		n := d.Len()
		if x.want == api.OK {
			n--
		}
		if e := d.Delete(x.name); e != x.want || d.Len() != n {
			t.Errorf("Delete of %q = %d, not %d", x.name, int(e), int(x.want))
		}
	}
	if l := names(d); !slices.Equal(l, []string{"o=x", "o=y"}) {
		t.Errorf("left: %q", l)
	}
	// An entry that comes again has none of its former attributes.
	if d.Add(of("cn=a,o=x", attr("cn", "a"))) != api.OK || d.Delete("cn=a,o=x") != api.OK || d.Add(of("cn=a,o=x")) != api.OK {
		t.Error("Add again")
	}
	if e, ok := d.Get("cn=a,o=x"); !ok || len(e.Attrs) != 0 {
		t.Errorf("Get = %q", e)
	}
}

// P10.4
func TestReads(t *testing.T) {
	// The order in which names are compared: from the last component on.
	all := []string{"dc=z", "o=x", "cn=a,o=x", "cn=b,cn=a,o=x", "cn=a b,o=x", `cn=a\,b,o=x`, "cn=c,o=x", "ou=p,o=x", "cn=a,ou=p,o=x", "ou=a,cn=a,ou=p,o=x", "cn=z,ou=p,o=x", "ou=q,o=x", "o=y", "cn=a,o=y"}
	d := planted(t, []string{"o=y", "dc=z", "o=x"}, "ou=q,o=x", "cn=a,o=y", "ou=p,o=x", "cn=z,ou=p,o=x", "cn=c,o=x", `cn=a\,b,o=x`, "cn=a b,o=x", "cn=a,ou=p,o=x", "cn=a,o=x", "ou=a,cn=a,ou=p,o=x", "cn=b,cn=a,o=x")
	if d.Len() != len(all) {
		t.Errorf("Len = %d", d.Len())
	}
	for base, want := range map[string][]string{
		"":                   all,
		"o=x":                all[1:12],
		"cn=a,o=x":           {"cn=a,o=x", "cn=b,cn=a,o=x"},
		"cn=b,cn=a,o=x":      {"cn=b,cn=a,o=x"},
		"ou=p,o=x":           {"ou=p,o=x", "cn=a,ou=p,o=x", "ou=a,cn=a,ou=p,o=x", "cn=z,ou=p,o=x"},
		"dc=z":               {"dc=z"},
		"o=y":                {"o=y", "cn=a,o=y"},
		"o=z":                nil,
		"cn=z,o=x":           nil,
		"cn=b,cn=c,o=x":      nil,
		"O=x":                nil,
		" ":                  nil,
		"o=x,":               nil,
		"x":                  nil,
		"cn=a, o=x":          nil,
		"cn=a,cn=a,ou=p,o=x": nil,
	} {
		var got []string
		for _, e := range d.Subtree(base) {
			got = append(got, e.Name)
		}
		if !slices.Equal(got, want) {
			t.Errorf("Subtree of %q = %q, not %q", base, got, want)
		}
	}
	for s, want := range map[string][]string{
		"":                   {"dc=z", "o=x", "o=y"},
		"o=x":                {"cn=a,o=x", "cn=a b,o=x", `cn=a\,b,o=x`, "cn=c,o=x", "ou=p,o=x", "ou=q,o=x"},
		"cn=a,o=x":           {"cn=b,cn=a,o=x"},
		"ou=p,o=x":           {"cn=a,ou=p,o=x", "cn=z,ou=p,o=x"},
		"cn=a,ou=p,o=x":      {"ou=a,cn=a,ou=p,o=x"},
		"cn=c,o=x":           nil,
		"dc=z":               nil,
		"o=z":                nil,
		"O=X":                nil,
		" ":                  nil,
		"x":                  nil,
		"ou=p, o=x":          nil,
		"ou=a,cn=a,ou=p,o=x": nil,
	} {
		got := d.Children(s)
		if !slices.Equal(got, want) {
			t.Errorf("Children of %q = %q, not %q", s, got, want)
		}
		for i := range got {
			got[i] = "spoilt"
		}
	}
	for _, s := range all {
		if e, ok := d.Get(s); !ok || !same(e, of(s)) {
			t.Errorf("Get of %q = %q, %v", s, e, ok)
		}
	}
	for _, s := range append(malformed, "", "o=z", "cn=z,o=x", "CN=a,o=x", "cn=a, o=x", "cn=a") {
		if e, ok := d.Get(s); ok || !same(e, api.Entry{}) {
			t.Errorf("Get of %q = %q, %v", s, e, ok)
		}
	}
	if got := names(d); !slices.Equal(got, all) {
		t.Errorf("after reading: %q", got)
	}
}

// P10.5
func TestClone(t *testing.T) {
	d := planted(t, []string{"o=x", "o=y"}, "ou=p,o=x", "cn=a,ou=p,o=x")
	d.Put(of("cn=a,ou=p,o=x", attr("cn", "a")))
	text := func(d *tree.Tree) string {
		s := strconv.Itoa(d.Len())
		for _, e := range d.Subtree("") {
			s += " " + e.Name
			for _, a := range e.Attrs {
				s += " " + a.Name + ":" + strings.Join(a.Values, "|")
			}
		}
		return s
	}
	change := func(d *tree.Tree) bool {
		e, _ := d.Get("cn=a,ou=p,o=x")
		spoil(e)
		return d.Add(of("cn=b,o=y")) == api.OK && d.Put(of("cn=a,ou=p,o=x", attr("cn", "c"))) == api.OK && d.Move("ou=p,o=x", "ou=q,o=y") == api.OK && d.Delete("cn=a,ou=q,o=y") == api.OK && d.Put(of("o=x", attr("o", "x"))) == api.OK
	}
	before := text(d)
	c := d.Clone()
	again := c.Clone()
	if c == nil || again == nil || c == d || again == c || text(c) != before || text(again) != before {
		t.Fatalf("Clone of %s: %s, %s", before, text(c), text(again))
	}
	if !change(c) || text(d) != before || text(again) != before || text(c) == before {
		t.Errorf("after changes of a clone: %s, %s, %s", text(c), text(d), text(again))
	}
	after := text(c)
	if !change(d) || text(c) != after || text(d) != after || text(again) != before {
		t.Errorf("after changes of the original: %s, %s, %s", text(c), text(d), text(again))
	}
}

// P10.1 to P10.5: for nil, and for trees that New or Clone did not return.
func TestNil(t *testing.T) {
	copied := *planted(t, []string{"o=x"}, "cn=a,o=x", "cn=b,o=x")
	for i, d := range []*tree.Tree{nil, {}, new(tree.Tree), &copied} {
		for _, s := range []string{"", "o=x", "cn=a,o=x", "cn=c,o=x", "O"} {
			if d.Add(of(s)) != api.ErrNil || d.Put(of(s)) != api.ErrNil || d.Delete(s) != api.ErrNil || d.Move(s, "cn=d,o=x") != api.ErrNil || d.Move("cn=a,o=x", s) != api.ErrNil {
				t.Errorf("%d: changes of %q", i, s)
			}
			if e, ok := d.Get(s); ok || !same(e, api.Entry{}) || len(d.Children(s)) != 0 || len(d.Subtree(s)) != 0 {
				t.Errorf("%d: reads of %q", i, s)
			}
		}
		if d.Len() != 0 || d.Clone() != nil {
			t.Errorf("%d: Len, Clone", i)
		}
	}
}
