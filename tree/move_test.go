package tree_test

import (
	"math/rand"
	"slices"
	"strings"
	"testing"

	"identity/api"
	"identity/attrs"
	"identity/name"
	"identity/tree"
)

// P10.3
func TestMove(t *testing.T) {
	all := []string{"ou=p,o=x", "cn=a,ou=p,o=x", "cn=b,cn=a,ou=p,o=x", "cn=c,ou=p,o=x", "ou=pp,o=x", "cn=a,ou=pp,o=x", "cn=d,o=y"}
	for _, x := range []struct {
		from, to string
		want     []string
	}{
		{"ou=p,o=x", "ou=q,o=x", []string{"o=x", "ou=pp,o=x", "cn=a,ou=pp,o=x", "ou=q,o=x", "cn=a,ou=q,o=x", "cn=b,cn=a,ou=q,o=x", "cn=c,ou=q,o=x", "o=y", "cn=d,o=y"}},
		{"ou=p,o=x", "cn=e,o=y", []string{"o=x", "ou=pp,o=x", "cn=a,ou=pp,o=x", "o=y", "cn=d,o=y", "cn=e,o=y", "cn=a,cn=e,o=y", "cn=b,cn=a,cn=e,o=y", "cn=c,cn=e,o=y"}},
		{"ou=p,o=x", "ou=p,cn=d,o=y", []string{"o=x", "ou=pp,o=x", "cn=a,ou=pp,o=x", "o=y", "cn=d,o=y", "ou=p,cn=d,o=y", "cn=a,ou=p,cn=d,o=y", "cn=b,cn=a,ou=p,cn=d,o=y", "cn=c,ou=p,cn=d,o=y"}},
		{"cn=a,ou=p,o=x", "cn=a,o=x", []string{"o=x", "cn=a,o=x", "cn=b,cn=a,o=x", "ou=p,o=x", "cn=c,ou=p,o=x", "ou=pp,o=x", "cn=a,ou=pp,o=x", "o=y", "cn=d,o=y"}},
		{"cn=c,ou=p,o=x", "cn=c,cn=b,cn=a,ou=p,o=x", []string{"o=x", "ou=p,o=x", "cn=a,ou=p,o=x", "cn=b,cn=a,ou=p,o=x", "cn=c,cn=b,cn=a,ou=p,o=x", "ou=pp,o=x", "cn=a,ou=pp,o=x", "o=y", "cn=d,o=y"}},
		{"cn=d,o=y", `o=\,,o=y`, []string{"o=x", "ou=p,o=x", "cn=a,ou=p,o=x", "cn=b,cn=a,ou=p,o=x", "cn=c,ou=p,o=x", "ou=pp,o=x", "cn=a,ou=pp,o=x", "o=y", `o=\,,o=y`}},
	} {
		d := planted(t, []string{"o=x", "o=y"}, all...)
		for _, e := range d.Subtree("") {
			d.Put(of(e.Name, attr("was", e.Name)))
		}
		if e := d.Move(x.from, x.to); e != api.OK || !slices.Equal(names(d), x.want) || d.Len() != len(x.want) {
			t.Errorf("Move(%q, %q) = %d, %q", x.from, x.to, int(e), names(d))
		}
		for _, e := range d.Subtree("") {
			was := e.Name
			if name.Under(was, x.to) {
				was, _ = name.Rebase(was, x.to, x.from)
			}
			if !same(e, of(e.Name, attr("was", was))) {
				t.Errorf("after Move(%q, %q): %q", x.from, x.to, e)
			}
		}
	}
}

// P10.3: each error, and which of several is returned.
func TestMoveErrors(t *testing.T) {
	type move struct {
		from, to string
		want     api.Errno
	}
	d := planted(t, []string{"o=x", "o=y"}, "ou=p,o=x", "cn=a,ou=p,o=x", "cn=b,ou=p,o=x", "cn=c,cn=a,ou=p,o=x", "cn=d,o=y")
	all := []move{
		{"cn=z,o=x", "cn=y,o=x", api.ErrNone},
		{"", "cn=y,o=x", api.ErrNone},
		{"OU=p,o=x", "cn=y,o=x", api.ErrNone},
		{"o=z", "cn=y,o=x", api.ErrNone},
		{"ou=p,o=x", "", api.ErrName},
		{"ou=p,o=x", "OU=q,o=x", api.ErrName},
		{"cn=a,ou=p,o=x", "cn=b,ou=p,o=x", api.ErrTwice},
		{"cn=a,ou=p,o=x", "o=y", api.ErrTwice},
		{"cn=a,ou=p,o=x", "cn=a,ou=p,o=x", api.ErrTwice},
		{"cn=a,ou=p,o=x", "cn=c,cn=a,ou=p,o=x", api.ErrTwice},
		{"ou=p,o=x", "cn=e,ou=p,o=x", api.ErrCycle},
		{"ou=p,o=x", "cn=e,cn=a,ou=p,o=x", api.ErrCycle},
		{"cn=d,o=y", "cn=d,cn=d,o=y", api.ErrCycle},
		{"ou=p,o=x", "cn=e,ou=q,o=x", api.ErrNone},
		{"ou=p,o=x", "ou=q", api.ErrNone},
		{"ou=p,o=x", "ou=q,o=z", api.ErrNone},
		{"o=x", "cn=x,o=y", api.ErrState},
		{"o=y", "cn=x,ou=p,o=x", api.ErrState},

		// The first of several.
		{"cn=z,o=x", "", api.ErrNone},
		{"cn=z,o=x", "o=x", api.ErrNone},
		{"cn=z,o=x", "cn=y,cn=z,o=x", api.ErrNone},
		{"", "", api.ErrNone},
		{"o=x", "", api.ErrName},
		{"o=x", "cn=A,o=x", api.ErrName},
		{"o=x", "o=x", api.ErrTwice},
		{"o=x", "o=y", api.ErrTwice},
		{"o=x", "ou=p,o=x", api.ErrTwice},
		{"ou=p,o=x", "cn=b,ou=p,o=x", api.ErrTwice},
		{"o=x", "cn=e,o=x", api.ErrCycle},
		{"o=x", "cn=e,cn=f,o=x", api.ErrCycle},
		{"ou=p,o=x", "cn=e,cn=f,ou=p,o=x", api.ErrCycle},
		{"o=x", "o=z", api.ErrNone},
		{"o=x", "cn=e,o=z", api.ErrNone},
	}
	for _, s := range malformed {
		all = append(all, move{s, "cn=y,o=x", api.ErrNone}, move{"ou=p,o=x", s, api.ErrName}, move{"o=x", s, api.ErrName}, move{s, s, api.ErrNone})
	}
	before := d.Subtree("")
	for _, x := range all {
		if e := d.Move(x.from, x.to); e != x.want {
			t.Errorf("Move(%q, %q) = %d, not %d", x.from, x.to, int(e), int(x.want))
		}
		if !slices.EqualFunc(d.Subtree(""), before, same) {
			t.Fatalf("Move(%q, %q) changed the tree to %q", x.from, x.to, names(d))
		}
	}
}

// P10.3: names with too many components.
func TestMoveDeep(t *testing.T) {
	var chain []string
	for n := 2; n <= api.MaxDepth; n++ {
		chain = append(chain, deep(n))
	}
	d := planted(t, []string{"o=x", "o=y"}, append(chain, "cn=e,o=x", "cn=f,cn=e,o=x", "cn=g,cn=f,cn=e,o=x", "cn=h,o=x", "cn=i,cn=h,o=x")...)
	for _, x := range []struct {
		from, to string
		want     api.Errno
	}{
		{"cn=e,o=x", "cn=e," + deep(6), api.ErrLimit},
		{"cn=e,o=x", "cn=e," + deep(7), api.ErrLimit},
		{"cn=e,o=x", "cn=e," + deep(8), api.ErrName},
		{"cn=f,cn=e,o=x", "cn=f," + deep(7), api.ErrLimit},
		{"cn=g,cn=f,cn=e,o=x", "cn=g," + deep(7), api.OK},
		{"cn=e,o=x", "cn=e," + deep(6), api.OK},
		{deep(2), "cn=q,cn=h,o=x", api.ErrLimit},
		{deep(2), "cn=q,cn=i,cn=h,o=x", api.ErrLimit},
		{deep(2), "cn=q,o=x", api.OK},
		{"cn=q,o=x", "cn=q,o=y", api.OK},
		{"o=x", "cn=x,cn=q,o=y", api.ErrState},
	} {
		before := d.Subtree("")
		if e := d.Move(x.from, x.to); e != x.want {
			t.Errorf("Move(%q, %q) = %d, not %d", x.from, x.to, int(e), int(x.want))
		}
		if x.want != api.OK && !slices.EqualFunc(d.Subtree(""), before, same) {
			t.Errorf("Move(%q, %q) changed the tree to %q", x.from, x.to, names(d))
		}
	}
	// A root cannot be moved, however deep the names below it are.
	e := planted(t, []string{"o=x", "o=y"}, chain...)
	if got := e.Move("o=x", "cn=x,o=y"); got != api.ErrState {
		t.Errorf("Move of a root = %d", int(got))
	}
}

// model is a tree by its definition: a list of entries in any order.
type model []api.Entry

// find returns the index of an entry, or -1.
func (m model) find(s string) int {
	return slices.IndexFunc(m, func(e api.Entry) bool { return e.Name == s })
}

// below returns the names of the entries below a name.
func (m model) below(s string) []string {
	var l []string
	for _, e := range m {
		if strings.HasSuffix(e.Name, ","+s) {
			l = append(l, e.Name)
		}
	}
	return l
}

// orphan reports whether the parent of a name with plain values is no entry.
func (m model) orphan(s string) bool {
	_, parent, found := strings.Cut(s, ",")
	return !found || m.find(parent) < 0
}

// add, put, remove and move are the definitions of P10.2 and P10.3.
func (m *model) add(e api.Entry) api.Errno {
	switch {
	case e.Name == "" || !name.Valid(e.Name):
		return api.ErrName
	case m.find(e.Name) >= 0:
		return api.ErrTwice
	case m.orphan(e.Name):
		return api.ErrNone
	}
	*m = append(*m, of(e.Name, attrs.Sorted(e.Attrs)...))
	return api.OK
}

func (m *model) put(e api.Entry) api.Errno {
	i := m.find(e.Name)
	if i < 0 {
		return api.ErrNone
	}
	(*m)[i].Attrs = attrs.Sorted(e.Attrs)
	return api.OK
}

func (m *model) remove(s string) api.Errno {
	i := m.find(s)
	switch {
	case i < 0:
		return api.ErrNone
	case !strings.Contains(s, ",") || len(m.below(s)) > 0:
		return api.ErrState
	}
	*m = slices.Delete(*m, i, i+1)
	return api.OK
}

func (m *model) move(from, to string) api.Errno {
	switch {
	case m.find(from) < 0:
		return api.ErrNone
	case to == "" || !name.Valid(to):
		return api.ErrName
	case m.find(to) >= 0:
		return api.ErrTwice
	case strings.HasSuffix(to, ","+from):
		return api.ErrCycle
	case m.orphan(to):
		return api.ErrNone
	case !strings.Contains(from, ","):
		return api.ErrState
	}
	list := append(m.below(from), from)
	for _, s := range list {
		if strings.Count(strings.TrimSuffix(s, from)+to, ",") >= api.MaxDepth {
			return api.ErrLimit
		}
	}
	for _, s := range list {
		(*m)[m.find(s)].Name = strings.TrimSuffix(s, from) + to
	}
	return api.OK
}

// agrees reports whether a tree reads as the model says.
func (m model) agrees(t *testing.T, d *tree.Tree, probes []string) {
	t.Helper()
	if d.Len() != len(m) {
		t.Fatalf("Len = %d, not %d", d.Len(), len(m))
	}
	for _, s := range probes {
		i := m.find(s)
		e, ok := d.Get(s)
		if ok != (i >= 0) || ok && !same(e, m[i]) || !ok && !same(e, api.Entry{}) {
			t.Fatalf("Get of %q = %q, %v", s, e, ok)
		}
		var children []string
		var subtree []api.Entry
		for _, e := range m {
			_, parent, _ := strings.Cut(e.Name, ",")
			if parent == s {
				children = append(children, e.Name)
			}
			if s == "" || e.Name == s || strings.HasSuffix(e.Name, ","+s) {
				subtree = append(subtree, e)
			}
		}
		slices.SortFunc(children, name.Compare)
		slices.SortFunc(subtree, func(a, b api.Entry) int { return name.Compare(a.Name, b.Name) })
		if got := d.Children(s); !slices.Equal(got, children) {
			t.Fatalf("Children of %q = %q, not %q", s, got, children)
		}
		if got := d.Subtree(s); !slices.EqualFunc(got, subtree, same) {
			t.Fatalf("Subtree of %q = %q, not %q", s, got, subtree)
		}
	}
}

// connected checks P10.6 and P10.9.
func connected(t *testing.T, d *tree.Tree, roots []string) {
	t.Helper()
	if l := d.Children(""); !slices.Equal(l, roots) || d.Len() > api.MaxEntries {
		t.Fatalf("roots: %q", l)
	}
	for _, e := range d.Subtree("") {
		parent, _ := name.Parent(e.Name)
		if _, ok := d.Get(parent); !ok && !slices.Contains(roots, e.Name) {
			t.Fatalf("%q has no parent in %q", e.Name, names(d))
		}
		want := []api.Entry{e}
		for _, child := range d.Children(e.Name) {
			want = append(want, d.Subtree(child)...)
		}
		if got := d.Subtree(e.Name); !slices.EqualFunc(got, want, same) {
			t.Fatalf("Subtree of %q = %q, not %q", e.Name, got, want)
		}
	}
}

// moveAndBack moves an entry of a tree, and checks P10.8.
func moveAndBack(t *testing.T, d *tree.Tree, from, to string) api.Errno {
	t.Helper()
	before := d.Subtree("")
	e := d.Move(from, to)
	if e != api.OK {
		return e
	}
	c := d.Clone()
	if back := c.Move(to, from); back != api.OK || !slices.EqualFunc(c.Subtree(""), before, same) {
		t.Fatalf("Move from %q to %q and back = %d, %q", from, to, int(back), names(c))
	}
	return e
}

// P10.2 to P10.9: many operations, against the definition.
func TestOperations(t *testing.T) {
	r := rand.New(rand.NewSource(1))
	parts := []string{"a=1", "a=2", "b=1", "a=1 2", "o=x"}
	roots := []string{"o=x", "o=y"}
	found := map[string]map[api.Errno]int{"add": {}, "put": {}, "remove": {}, "move": {}}
	for range 60 {
		d := planted(t, roots)
		m := model{of("o=x"), of("o=y")}
		pick := func() string {
			if r.Intn(2) == 0 {
				return m[r.Intn(len(m))].Name
			}
			s := m[r.Intn(len(m))].Name
			switch r.Intn(8) {
			case 0:
				return strings.ToUpper(s)
			case 1:
				return []string{"", "o=z", "o=x,", "a=1, o=x"}[r.Intn(4)]
			case 2:
				s = parts[r.Intn(len(parts))] + "," + s
			}
			return parts[r.Intn(len(parts))] + "," + s
		}
		for range 120 {
			var op string
			var got, want api.Errno
			s, to := pick(), pick()
			e := of(s, attr("N", []string{"b", "a", "c"}[:r.Intn(4)]...), attr("n", "b", "d"))
			before := d.Subtree("")
			switch r.Intn(8) {
			case 0, 1, 2, 3:
				op, got, want = "add", d.Add(e), m.add(e)
			case 4:
				op, got, want = "put", d.Put(e), m.put(e)
			case 5:
				op, got, want = "remove", d.Delete(s), m.remove(s)
			default:
				op, got, want = "move", moveAndBack(t, d, s, to), m.move(s, to)
			}
			if got != want {
				t.Fatalf("%s of %q, %q = %d, not %d", op, s, to, int(got), int(want))
			}
			found[op][got]++
			if got != api.OK && !slices.EqualFunc(d.Subtree(""), before, same) {
				t.Fatalf("%s of %q, %q with an error changed the tree", op, s, to)
			}
			m.agrees(t, d, []string{"", s, to})
		}
		connected(t, d, roots)
	}
	for op, wanted := range map[string][]api.Errno{"add": {api.OK, api.ErrName, api.ErrTwice, api.ErrNone}, "put": {api.OK, api.ErrNone}, "remove": {api.OK, api.ErrNone, api.ErrState}, "move": {api.OK, api.ErrNone, api.ErrName, api.ErrTwice, api.ErrCycle, api.ErrState, api.ErrLimit}} {
		for _, e := range wanted {
			if found[op][e] == 0 {
				t.Errorf("no %s with the result %d: %v", op, int(e), found[op])
			}
		}
	}
}
