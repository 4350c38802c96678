package directory_test

import (
	"slices"
	"strconv"
	"strings"
	"testing"

	"identity/api"
	"identity/csn"
	"identity/directory"
	"identity/replica"
	"identity/search"
)

// visible returns rules about ou=x: no one may read boss, mail (but uid=a its
// own), or anything of uid=b, search for age, or search below ou=dark.
func visible() []api.Rule {
	read, find := []api.Right{api.ReadRight}, []api.Right{api.SearchRight}
	return append(open(),
		api.Rule{Subject: "*", Target: "ou=x", Attrs: []string{"Boss"}, Rights: read},
		api.Rule{Subject: "*", Target: "ou=x", Attrs: []string{"mail"}, Rights: read},
		api.Rule{Allow: true, Subject: "self", Target: "uid=a,ou=x", Attrs: []string{"mail"}, Rights: read},
		api.Rule{Subject: "*", Target: "uid=b,ou=x", Rights: read},
		api.Rule{Subject: "*", Target: "ou=x", Attrs: []string{"age"}, Rights: find},
		api.Rule{Subject: "*", Target: "ou=dark,ou=x", Rights: find},
	)
}

// staffed returns a directory with users a, b and c and some others.
func staffed(t *testing.T) *directory.Directory {
	t.Helper()
	d := directed(t, 0, visible(), indexed()...)
	add(t, d, 1, user("uid=a,ou=x", attr("mail", "A", "b"), attr("age", "7"), attr("boss", "uid=a,ou=x")), user("uid=b,ou=x", attr("mail", "b")),
		user("uid=c,ou=x", attr("mail", "c"), attr("age", "10")), unit("ou=dark,ou=x"), unit("ou=d,ou=dark,ou=x"), unit("ou=u,ou=z"), user("uid=v,ou=u,ou=z", attr("age", "9")))
	return d
}

// P21.6
func TestGet(t *testing.T) {
	d := staffed(t)
	receive(t, d, created(at(5, 0, 1), unit("ou=o,ou=n,ou=x"))...)
	receive(t, d, created(at(5, 9, 1), api.Entry{Name: "ou=bare,ou=x"})...)
	self := api.Subject{User: "uid=a,ou=x"}
	for _, x := range []struct {
		u    api.Subject
		name string
		want string
	}{
		{anyone(), "uid=a,ou=x", "age:7 class:user uid:a"},
		{anyone(), " UID = A,OU=x", "age:7 class:user uid:a"},
		{self, "uid=a,ou=x", "age:7 class:user mail:A+b uid:a"},
		{api.Subject{User: "uid=c,ou=x"}, "uid=a,ou=x", "age:7 class:user uid:a"},
		{anyone(), "uid=b,ou=x", ""},
		{anyone(), "uid=c,ou=x", "age:10 class:user uid:a"},
		{nobody(), "uid=c,ou=x", ""},
		{nobody(), "uid=v,ou=u,ou=z", ""},
		{anyone(), "ou=d,ou=dark,ou=x", "class:unit"},
		{anyone(), "ou=bare,ou=x", ""},
		{anyone(), "ou=x", ""},
		{anyone(), "ou=o,ou=n,ou=x", ""},
		{anyone(), "uid=e,ou=x", ""},
		{anyone(), "uid=a", ""},
		{anyone(), "", ""},
		{anyone(), "a", ""},
		{anyone(), "uid=a,ou=x,", ""},
	} {
		e, found := d.Get(x.u, x.name)
		var l []string
		for _, a := range e.Attrs {
			l = append(l, a.Name+":"+strings.Join(a.Values, "+"))
		}
		if got := strings.Join(l, " "); got != x.want || found != (x.want != "") || !found && e.Name != "" {
			t.Errorf("Get of %q by %v = %q, %v, not %q", x.name, x.u, got, found, x.want)
		}
		if found && e.Name != strings.ReplaceAll(strings.ToLower(x.name), " ", "") {
			t.Errorf("Get of %q = %q", x.name, e.Name)
		}
	}
}

// filtered makes a query for all attributes of the entries below ou=x.
func filtered(f api.Filter) api.Query {
	return api.Query{Base: "ou=x", Scope: api.SubScope, Filter: f, Limit: api.MaxItems}
}

// everything is the filter that all entries satisfy.
func everything() api.Filter {
	return api.Filter{Kind: api.AndFilter}
}

// with makes a filter about an attribute.
func with(kind api.FilterKind, name, value string) api.Filter {
	return api.Filter{Kind: kind, Name: name, Value: value}
}

// not makes the negation of a filter.
func not(f api.Filter) api.Filter {
	return api.Filter{Kind: api.NotFilter, Kids: []api.Filter{f}}
}

// both makes the conjunction of filters.
func both(l ...api.Filter) api.Filter {
	return api.Filter{Kind: api.AndFilter, Kids: l}
}

// P21.7: which entries a query finds, and what of them.
func TestSearch(t *testing.T) {
	d := staffed(t)
	top := filtered(everything())
	top.Base = "ou=z"
	for _, x := range []struct {
		what string
		u    api.Subject
		q    api.Query
		want string
	}{
		{"all", anyone(), filtered(everything()), "uid=a,ou=x uid=c,ou=x"},
		{"all of a root", anyone(), top, "ou=u,ou=z uid=v,ou=u,ou=z"},
		{"the children of a root", anyone(), api.Query{Base: "ou=z", Scope: api.OneScope, Filter: everything(), Limit: 1}, "ou=u,ou=z"},
		{"a root", anyone(), api.Query{Base: "ou=z", Scope: api.BaseScope, Filter: everything(), Limit: 1}, ""},
		{"an entry", anyone(), api.Query{Base: "ou=u,ou=z", Scope: api.BaseScope, Filter: everything(), Limit: 1}, "ou=u,ou=z"},
		{"an entry and those below it", anyone(), api.Query{Base: "ou=u,ou=z", Scope: api.SubScope, Filter: everything(), Limit: 2}, "ou=u,ou=z uid=v,ou=u,ou=z"},
		{"an indexed attribute", anyone(), filtered(with(api.EqualFilter, "UID", "A")), "uid=a,ou=x uid=c,ou=x"},
		{"no value", anyone(), filtered(with(api.EqualFilter, "uid", "b")), ""},
		{"mail", anyone(), filtered(with(api.EqualFilter, "mail", "c")), "uid=c,ou=x"},
		{"exact mail", anyone(), filtered(with(api.EqualFilter, "mail", "a")), ""},
		{"mail that may be searched, but not read", anyone(), filtered(with(api.EqualFilter, "mail", "A")), "uid=a,ou=x"},
		{"an entry of which nothing may be read", anyone(), filtered(with(api.EqualFilter, "mail", "b")), "uid=a,ou=x"},
		{"an attribute that may not be searched", anyone(), filtered(with(api.AtLeastFilter, "AGE", "0")), ""},
		{"its absence", anyone(), filtered(not(with(api.PresentFilter, "age", ""))), ""},
		{"it among others", anyone(), filtered(api.Filter{Kind: api.OrFilter, Kids: []api.Filter{with(api.PresentFilter, "uid", ""), with(api.PresentFilter, "age", "")}}), ""},
		{"the same elsewhere", anyone(), api.Query{Base: "ou=z", Scope: api.SubScope, Filter: with(api.AtLeastFilter, "AGE", "0"), Limit: 1}, "uid=v,ou=u,ou=z"},
		{"a conjunction", anyone(), filtered(both(with(api.PresentFilter, "uid", ""), not(with(api.EqualFilter, "mail", "b")))), "uid=c,ou=x"},
		{"an unknown attribute", anyone(), filtered(not(with(api.PresentFilter, "phone", ""))), "uid=a,ou=x uid=c,ou=x"},
		{"nobody", nobody(), filtered(everything()), ""},
	} {
		l, e := d.Search(x.u, x.q)
		if got := names(l); e != api.OK || got != x.want {
			t.Errorf("%s: Search = %q, %d, not %q", x.what, got, int(e), x.want)
		}
		for _, found := range l {
			if seen, ok := d.Get(x.u, found.Name); !ok || !same(found, seen) {
				t.Errorf("%s: Search has %q, and Get %q", x.what, found, seen)
			}
		}
	}
}

// P21.7: only the attributes that are asked for, and that may be read.
func TestSearchNames(t *testing.T) {
	d := staffed(t)
	for _, x := range []struct {
		names []string
		want  []api.Attr
	}{
		{nil, []api.Attr{attr("age", "7"), attr("class", "user"), attr("uid", "a")}},
		{[]string{}, []api.Attr{attr("age", "7"), attr("class", "user"), attr("uid", "a")}},
		{[]string{"UID", "age", "uid"}, []api.Attr{attr("age", "7"), attr("uid", "a")}},
		{[]string{"mail", "uid"}, []api.Attr{attr("uid", "a")}},
		{[]string{"mail", "boss", "phone"}, nil},
	} {
		q := filtered(with(api.EqualFilter, "mail", "A"))
		q.Names = x.names
		l, e := d.Search(anyone(), q)
		if e != api.OK || len(l) != 1 || !same(l[0], api.Entry{Name: "uid=a,ou=x", Attrs: x.want}) {
			t.Errorf("Search for %q = %q, %d", x.names, l, int(e))
		}
	}
}

// P21.7: the errors of Search in their order.
func TestSearchErrors(t *testing.T) {
	d := staffed(t)
	receive(t, d, created(at(5, 0, 1), unit("ou=o,ou=n,ou=x"))...)
	for i, x := range []struct {
		change func(q *api.Query)
		want   api.Errno
	}{
		{func(q *api.Query) { q.Base = "OU=x" }, api.ErrName},
		{func(q *api.Query) { q.Base = "ou=n"; q.Scope = 0 }, api.ErrArg},
		{func(q *api.Query) { q.Base = "ou=n"; q.Filter = api.Filter{} }, api.ErrForm},
		{func(q *api.Query) { q.Base = "ou=n"; q.Names = make([]string, api.MaxAttrs+1) }, api.ErrLimit},
		{func(q *api.Query) { q.Base = "ou=n"; q.Names = []string{""} }, api.ErrName},
		{func(q *api.Query) { q.Base = "ou=n"; q.Limit = 0 }, api.ErrRange},
		{func(q *api.Query) { q.Limit = api.MaxItems + 1 }, api.ErrRange},
		{func(q *api.Query) { q.Limit = -1 }, api.ErrRange},
		{func(q *api.Query) { q.Base = "ou=n" }, api.ErrNone},
		{func(q *api.Query) { q.Base = "" }, api.ErrNone},
		{func(q *api.Query) { q.Base = "uid=e,ou=x" }, api.ErrNone},
		{func(q *api.Query) { q.Base = "ou=o,ou=n,ou=x" }, api.ErrNone},
		{func(q *api.Query) { q.Base = "ou=n,ou=x" }, api.ErrNone},
		{func(q *api.Query) { q.Limit = 1 }, api.ErrLimit},
		{func(q *api.Query) { q.Limit = 2 }, api.OK},
	} {
		q := filtered(everything())
		x.change(&q)
		for _, u := range []api.Subject{anyone(), nobody()} {
			l, e := d.Search(u, q)
			wanted := x.want
			// Entries that a subject may not see do not count.
			if u.User != "" && search.Check(q) == api.OK && wanted == api.ErrLimit {
				wanted = api.OK
			}
			want(t, strconv.Itoa(i)+": Search", e, wanted)
			if e != api.OK && l != nil {
				t.Errorf("%d: Search = %q", i, l)
			}
		}
	}
}

// P21.7: the limit counts the results, for each number of them.
func TestSearchLimit(t *testing.T) {
	d := directed(t, 0, append(open(), api.Rule{Subject: "*", Target: "ou=z", Rights: []api.Right{api.ReadRight}}))
	add(t, d, 1, unit("ou=a,ou=z"), unit("ou=b,ou=z"))
	for n := range 5 {
		for limit := 1; limit < 7; limit++ {
			q := filtered(everything())
			q.Limit = limit
			l, e := d.Search(anyone(), q)
			if n <= limit && (e != api.OK || len(l) != n) || n > limit && (e != api.ErrLimit || l != nil) {
				t.Errorf("Search for %d of %d = %q, %d", limit, n, l, int(e))
			}
			q.Base = "ou=z"
			if l, e := d.Search(anyone(), q); e != api.OK || l != nil {
				t.Errorf("Search for hidden entries = %q, %d", l, int(e))
			}
		}
		add(t, d, 1, unit("ou="+strconv.Itoa(n)+",ou=x"))
	}
}

// P21.7, P21.13: entries that are missing in the tree, that have too many
// values for an index, and that have one name with another one.
func TestSearchReceived(t *testing.T) {
	var many []string
	for i := range api.MaxValues + 1 {
		many = append(many, strconv.Itoa(i))
	}
	shown := "uid=l#" + csn.Format(at(7, 0, 2)) + ",ou=z"
	records := slices.Concat(crowd(api.MaxEntries),
		created(at(5, 0, 1), user("uid=m,ou=x", attr("age", many...))),
		created(at(6, 0, 1), user("uid=l,ou=z", attr("age", "1"))),
		created(at(7, 0, 2), user("uid=l,ou=z", attr("age", "2"))),
		created(at(8, 0, 2), user(shown, attr("age", "3"))))
	for _, columns := range [][]string{nil, {"age"}, {"uid", "age", "class"}} {
		d := directed(t, 0, open(), columns...)
		receive(t, d, records...)
		few := directed(t, 0, open(), columns...)
		receive(t, few, records[2*api.MaxEntries:]...)
		for _, x := range []struct {
			base string
			f    api.Filter
			want string
		}{
			{"ou=x", with(api.EqualFilter, "age", "016"), "uid=m,ou=x"},
			{"ou=x", both(with(api.EqualFilter, "age", "16"), with(api.EqualFilter, "uid", "b")), ""},
			{"ou=z", with(api.EqualFilter, "age", "1"), "uid=l,ou=z"},
			{"ou=z", with(api.EqualFilter, "age", "2"), shown},
			{"ou=z", with(api.EqualFilter, "age", "3"), shown},
			{"ou=z", with(api.EqualFilter, "age", "4"), ""},
			{"ou=z", with(api.AtLeastFilter, "age", "2"), shown + " " + shown},
			{"ou=z", with(api.PresentFilter, "age", ""), "uid=l,ou=z " + shown + " " + shown},
			{"ou=z", everything(), "uid=l,ou=z " + shown + " " + shown},
		} {
			q := filtered(x.f)
			q.Base = x.base
			for _, d := range []*directory.Directory{d, few} {
				if l, e := d.Search(anyone(), q); e != api.OK || names(l) != x.want {
					t.Errorf("%q: Search of %v = %q, %d, not %q", columns, x.f, names(l), int(e), x.want)
				}
			}
		}
		q := filtered(everything())
		q.Base = "uid=l,ou=z"
		_, full := d.Search(anyone(), q)
		_, other := few.Search(anyone(), q)
		if e, found := d.Get(anyone(), q.Base); full != api.ErrNone || other != api.OK || !found || len(d.Subject(q.Base).User) == 0 {
			t.Errorf("a base that is missing in the tree: %d, %d, %q", int(full), int(other), e)
		}
		first, _ := few.Get(anyone(), shown)
		if len(first.Attrs) != 3 || first.Attrs[0].Values[0] != "2" {
			t.Errorf("Get of one of two = %q", first)
		}
	}
}

// P21.8
func TestSubject(t *testing.T) {
	d := empty(t, 0)
	add(t, d, 1, user("uid=a,ou=x"), user("uid=b,ou=x"), group("cn=g,ou=z", "uid=a,ou=x"), group("cn=f,ou=x", "cn=g,ou=z"), group("cn=h,ou=x", "uid=b,ou=x", "cn=f,ou=x"))
	receive(t, d, created(at(5, 0, 1), user("uid=o,ou=n,ou=x"))...)
	for s, wanted := range map[string]api.Subject{
		"uid=a,ou=x":       {User: "uid=a,ou=x", Groups: []string{"cn=f,ou=x", "cn=h,ou=x", "cn=g,ou=z"}},
		" UID = A , OU=x":  {User: "uid=a,ou=x", Groups: []string{"cn=f,ou=x", "cn=h,ou=x", "cn=g,ou=z"}},
		"uid=b,ou=x":       {User: "uid=b,ou=x", Groups: []string{"cn=h,ou=x"}},
		"cn=g,ou=z":        {User: "cn=g,ou=z"},
		"uid=c,ou=x":       {},
		"uid=o,ou=n,ou=x":  {},
		"ou=x":             {},
		"":                 {},
		"a":                {},
		"uid=a,ou=x,ou=y ": {},
		"uid=a,ou=x,":      {},
	} {
		if u := d.Subject(s); u.User != wanted.User || !slices.Equal(u.Groups, wanted.Groups) {
			t.Errorf("Subject of %q = %q, not %q", s, u, wanted)
		}
	}
	want(t, "Modify", d.Modify(anyone(), "cn=f,ou=x", []api.Mod{mod(api.ReplaceValues, "member", "ou=z")}, 6), api.OK)
	if u := d.Subject("uid=a,ou=x"); !slices.Equal(u.Groups, []string{"cn=g,ou=z"}) {
		t.Errorf("Subject = %q", u)
	}
}

// P21.8, P21.6: the groups of a subject give it rights.
func TestGroupRights(t *testing.T) {
	rules := []api.Rule{{Allow: true, Subject: "user:uid=r,ou=x", Rights: all()}, {Allow: true, Subject: "group:cn=g,ou=x", Rights: all()[:1]}}
	d := directed(t, 0, rules)
	root := api.Subject{User: "uid=r,ou=x"}
	for _, e := range []api.Entry{user("uid=a,ou=x"), group("cn=h,ou=x", "uid=a,ou=x"), group("cn=g,ou=x", "cn=h,ou=x")} {
		want(t, "Add", d.Add(root, e, 1), api.OK)
	}
	if _, found := d.Get(d.Subject("uid=a,ou=x"), "uid=a,ou=x"); !found {
		t.Error("Get by a member")
	}
	want(t, "Delete", d.Delete(d.Subject("uid=a,ou=x"), "cn=g,ou=x", 2), api.ErrDenied)
	want(t, "Delete", d.Delete(root, "cn=g,ou=x", 2), api.OK)
	if _, found := d.Get(d.Subject("uid=a,ou=x"), "uid=a,ou=x"); found {
		t.Error("Get by one who was a member")
	}
}

// P21.9: Receive, Since, Vector and Entries are those of a replica.
func TestReceive(t *testing.T) {
	d := empty(t, 2)
	r, bad := replica.New(2, plan(), roots())
	want(t, "New", bad, api.OK)
	for i, l := range [][]api.Change{
		nil,
		created(at(1, 0, 1), unit("ou=a,ou=x", attr("owner", "ou=b,ou=x"))),
		{{}},
		created(at(1, 0, 2), unit("ou=b,ou=x")),
		{{CSN: at(1, 5, 2), Op: api.RemoveEntry, ID: csn.Format(at(1, 0, 2))}},
		append(created(at(1, 1, 3), unit("ou=b,ou=a,ou=x")), api.Change{CSN: at(1, 1, 3)}),
		append(created(at(1, 0, 0), unit("ou=a,ou=x")), created(at(1, 1, 3), unit("ou=b,ou=a,ou=x"))...),
		puts(api.MaxChanges),
		created(at(1, 9, 3), unit("ou=o,ou=n,ou=x")),
	} {
		want(t, strconv.Itoa(i)+": Receive", d.Receive(l), r.Receive(l))
		for _, v := range [][]api.CSN{nil, {at(1, 0, 1)}, {at(1, 1, 0), at(1, 0, 2)}, {at(1, 0, 2), at(1, 1, 0)}, r.Vector()} {
			if !slices.Equal(d.Since(v), r.Since(v)) {
				t.Errorf("%d: Since of %v = %v", i, v, d.Since(v))
			}
		}
		if !slices.Equal(d.Vector(), r.Vector()) || !sameEntries(d.Entries(), r.Entries()) {
			t.Errorf("%d: %v, %q", i, d.Vector(), d.Entries())
		}
	}
	want(t, "Delete", d.Delete(anyone(), "ou=b,ou=a,ou=x", 9), api.OK)
	want(t, "Receive of an own record", d.Receive([]api.Change{{CSN: at(1, 9, 2), Op: api.RemoveEntry, ID: csn.Format(at(1, 0, 2))}}), api.ErrState)
	if got := names(d.Entries()); got != "ou=a,ou=x ou=a#"+csn.Format(at(1, 0, 1))+",ou=x" {
		t.Errorf("entries %q", got)
	}
}

// P21.9: the references that other replicas broke.
func TestBroken(t *testing.T) {
	a, b := empty(t, 0), empty(t, 1)
	add(t, a, 1, user("uid=a,ou=x"), user("uid=b,ou=x"), unit("ou=u,ou=z", attr("owner", "ou=x", "uid=b,ou=x")))
	receive(t, b, a.Since(nil)...)
	add(t, a, 2, group("cn=g,ou=x", "uid=a,ou=x", "uid=b,ou=x"), user("uid=c,ou=x", attr("boss", "uid=c,ou=x")))
	want(t, "Delete", b.Delete(anyone(), "uid=b,ou=x", 3), api.OK)
	want(t, "Rename", b.Rename(anyone(), "uid=a,ou=x", "uid=d,ou=u,ou=z", 3), api.OK)
	if len(a.Broken()) != 0 || len(b.Broken()) != 0 {
		t.Errorf("broken before: %v, %v", a.Broken(), b.Broken())
	}
	receive(t, a, b.Since(a.Vector())...)
	receive(t, b, a.Since(b.Vector())...)
	wanted := []api.Pair{{Key: "cn=g,ou=x", Value: "uid=a,ou=x"}, {Key: "cn=g,ou=x", Value: "uid=b,ou=x"}}
	if !slices.Equal(a.Broken(), wanted) || !slices.Equal(b.Broken(), wanted) || !sameEntries(a.Entries(), b.Entries()) {
		t.Errorf("broken: %v, %v", a.Broken(), b.Broken())
	}
	want(t, "Add", a.Add(anyone(), user("uid=b,ou=x"), 4), api.OK)
	if !slices.Equal(a.Broken(), wanted[:1]) {
		t.Errorf("broken: %v", a.Broken())
	}
}
