package refint_test

import (
	"math/rand"
	"slices"
	"strconv"
	"testing"
	"unicode"

	"identity/api"
	"identity/name"
	"identity/refint"
	"identity/tree"
)

// group makes an entry that is a group.
func group(name string, members ...string) api.Entry {
	return of(name, attr("class", "group"), attr("member", members...))
}

// P13.5, P13.6
func TestMembers(t *testing.T) {
	d := planted(t,
		of("cn=a,o=x", attr("member", "cn=d,o=x"), attr("cn", "group")),
		of("cn=b,o=x"),
		of("cn=a,cn=b,o=x"),
		of("cn=d,o=x"),
		group("cn=g,o=x", "cn=h,o=x", "cn=a,o=x"),
		group("cn=h,o=x", "cn=g,o=x", "cn=b,o=x"),
		of("cn=i,o=x", attr("Class", "top", "GROUP"), attr("MEMBER", "CN=A , CN=B,O=X", "cn=b,o=x", "cn=B,o=x"), attr("member", "cn=i,o=x", "cn=j,o=x", "", "none", "o=y"), attr("owner", "cn=d,o=x")),
		group("cn=j,o=x"),
		group("cn=k,o=x", "cn=k,o=x", "cn=z,o=x"),
		group("cn=l,cn=b,o=x", "cn=k,o=x", "o=x"),
	)
	members := map[string][]string{
		"cn=g,o=x":      {"cn=a,o=x", "cn=b,o=x"},
		"cn=h,o=x":      {"cn=a,o=x", "cn=b,o=x"},
		"cn=i,o=x":      {"cn=b,o=x", "cn=a,cn=b,o=x"},
		"cn=j,o=x":      nil,
		"cn=k,o=x":      nil,
		"cn=l,cn=b,o=x": {"o=x"},
	}
	for g, want := range members {
		if got, e := refint.Members(d, g); e != api.OK || !slices.Equal(got, want) {
			t.Errorf("Members of %q = %q, %d, not %q", g, got, int(e), want)
		}
	}
	for _, s := range append([]string{"", "cn=a,o=x", "cn=d,o=x", "o=x", "cn=z,o=x", "CN=g,o=x", "cn=g, o=x", "o=y"}, noNames...) {
		if got, e := refint.Members(d, s); e != api.ErrNone || len(got) != 0 {
			t.Errorf("Members of %q = %q, %d", s, got, int(e))
		}
	}
	for user, want := range map[string][]string{
		"cn=a,o=x":      {"cn=g,o=x", "cn=h,o=x"},
		"cn=b,o=x":      {"cn=g,o=x", "cn=h,o=x", "cn=i,o=x"},
		"cn=a,cn=b,o=x": {"cn=i,o=x"},
		"o=x":           {"cn=l,cn=b,o=x"},
		// A user of no group, groups, and names of no entry.
		"cn=d,o=x": nil, "cn=g,o=x": nil, "cn=j,o=x": nil, "cn=k,o=x": nil, "cn=z,o=x": nil, "CN=a,o=x": nil, "cn=a, o=x": nil, "o=y": nil, "none": nil, "": nil,
	} {
		if got := refint.Groups(d, user); !slices.Equal(got, want) {
			t.Errorf("Groups of %q = %q, not %q", user, got, want)
		}
	}
}

// P13.6: the order of the groups.
func TestGroupsOrder(t *testing.T) {
	d := planted(t,
		group("cn=c,o=x", "cn=a,cn=b,o=x"),
		of("cn=b,o=x"),
		group("cn=z,cn=b,o=x", "o=x"),
		group("cn=a,cn=b,o=x", "cn=z,cn=b,o=x"),
	)
	want := []string{"cn=a,cn=b,o=x", "cn=z,cn=b,o=x", "cn=c,o=x"}
	if got := refint.Groups(d, "o=x"); !slices.Equal(got, want) {
		t.Errorf("Groups = %q", got)
	}
}

// P13.5, P13.6: trees without entries.
func TestNoTree(t *testing.T) {
	for i, d := range unmade() {
		if got, e := refint.Members(d, "o=x"); e != api.ErrNone || len(got) != 0 {
			t.Errorf("Members in the tree %d = %q, %d", i, got, int(e))
		}
		if got := refint.Groups(d, "o=y"); len(got) != 0 {
			t.Errorf("Groups in the tree %d = %q", i, got)
		}
	}
}

// P13.5: which classes make an entry a group.
func TestGroupClass(t *testing.T) {
	is := func(classes ...string) bool {
		d := planted(t)
		d.Put(of("o=x", attr("class", classes...), attr("cn", "group")))
		_, e := refint.Members(d, "o=x")
		return e == api.OK
	}
	for _, class := range []string{"group", "GROUP", "Group", "gRoUp"} {
		if !is(class) || !is("top", class, "zz") {
			t.Errorf("an entry with the class %q is no group", class)
		}
	}
	for _, class := range []string{"", "grou", "groups", " group", "group ", "gro\x00p", "gr\u00f6up", "\uff47roup", "person"} {
		if is(class) || is(class, "groupe") {
			t.Errorf("an entry with the class %q is a group", class)
		}
	}
	if is() {
		t.Error("an entry without a class is a group")
	}
	// Other bytes that stand for a letter without case.
	for i, c := range "group" {
		for r := unicode.SimpleFold(c); r != c; r = unicode.SimpleFold(r) {
			if class := "group"[:i] + string(r) + "group"[i+1:]; is(class) != (r < 128) {
				t.Errorf("an entry with the class %q is a group", class)
			}
		}
	}
}

// society returns a random tree of users and groups that refer to each other.
func society(t testing.TB, r *rand.Rand) *tree.Tree {
	var names []string
	for i := range 8 {
		names = append(names, "cn="+strconv.Itoa(i)+",o=x")
	}
	d := planted(t)
	for _, s := range names {
		e := of(s, attr("member"))
		if r.Intn(3) > 0 {
			e.Attrs = append(e.Attrs, attr("class", "group"))
		}
		for range r.Intn(4) {
			e.Attrs[0].Values = append(e.Attrs[0].Values, names[r.Intn(len(names))])
		}
		if d.Add(e) != api.OK {
			t.Fatal("Add")
		}
	}
	return d
}

// isGroup is the definition of a group, for the trees of society.
func isGroup(e api.Entry) bool {
	return len(e.Attrs) > 0 && e.Attrs[0].Name == "class"
}

// belong is the definition of the members: it adds to users those of a group,
// and to examined each group that it examines.
func belong(d *tree.Tree, s string, users, examined map[string]bool) {
	e, ok := d.Get(s)
	switch {
	case !ok || examined[s]:
		return
	case !isGroup(e):
		users[s] = true
		return
	}
	examined[s] = true
	for _, a := range e.Attrs[1:] {
		for _, v := range a.Values {
			belong(d, v, users, examined)
		}
	}
}

// P13.5, P13.6, P13.9
func TestClosure(t *testing.T) {
	r := rand.New(rand.NewSource(5))
	most := 0
	for range 1500 {
		d := society(t, r)
		all := map[string][]string{}
		for _, e := range d.Subtree("") {
			users, examined := map[string]bool{}, map[string]bool{}
			belong(d, e.Name, users, examined)
			got, bad := refint.Members(d, e.Name)
			if isGroup(e) != (bad == api.OK) || !slices.IsSortedFunc(got, name.Compare) {
				t.Fatalf("Members of %q = %q, %d", e, got, int(bad))
			}
			if bad == api.OK {
				for _, s := range got {
					if !users[s] {
						t.Fatalf("%q is a member of %q", s, e)
					}
				}
				if len(got) != len(users) {
					t.Fatalf("Members of %q = %q, not %v", e, got, users)
				}
				all[e.Name] = got
				most = max(most, len(examined))
			}
		}
		checkClosure(t, d, all)
		checkGroups(t, d, all)
	}
	if most < 5 {
		t.Errorf("at most %d groups were examined for one", most)
	}
}

// checkClosure checks that the members of each group are the users among its
// references, and the members of the groups among them.
func checkClosure(t *testing.T, d *tree.Tree, all map[string][]string) {
	t.Helper()
	for g, members := range all {
		want := map[string]bool{}
		e, _ := d.Get(g)
		for _, a := range e.Attrs[1:] {
			for _, v := range a.Values {
				if _, ok := all[v]; !ok {
					want[v] = true
				}
				for _, s := range all[v] {
					want[s] = true
				}
			}
		}
		if len(want) != len(members) {
			t.Fatalf("Members of %q = %q, not %v", e, members, want)
		}
	}
}

// checkGroups checks that the groups of each name are those of which it is a member.
func checkGroups(t *testing.T, d *tree.Tree, all map[string][]string) {
	t.Helper()
	for _, e := range d.Subtree("") {
		var want []string
		for _, g := range d.Subtree("") {
			if slices.Contains(all[g.Name], e.Name) {
				want = append(want, g.Name)
			}
		}
		if got := refint.Groups(d, e.Name); !slices.Equal(got, want) {
			t.Fatalf("Groups of %q = %q, not %q", e, got, want)
		}
	}
}

// P13.5, P13.6: a chain of groups as long as a tree allows.
func TestChain(t *testing.T) {
	d := planted(t)
	last := "o=x"
	for i := range api.MaxEntries - 1 {
		s := "cn=" + strconv.Itoa(1000+i) + ",o=x"
		if e := d.Add(group(s, last)); e != api.OK {
			t.Fatalf("Add = %d", int(e))
		}
		last = s
	}
	if got, e := refint.Members(d, last); e != api.OK || !slices.Equal(got, []string{"o=x"}) {
		t.Errorf("Members = %q, %d", got, int(e))
	}
	if got := refint.Groups(d, "o=x"); len(got) != api.MaxEntries-1 {
		t.Errorf("Groups: %d", len(got))
	}
}
