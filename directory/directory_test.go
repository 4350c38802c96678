package directory_test

import (
	"slices"
	"strconv"
	"strings"
	"testing"

	"identity/access"
	"identity/api"
	"identity/change"
	"identity/csn"
	"identity/directory"
	"identity/index"
	"identity/replica"
)

// plan returns the schema of the tests.
func plan() api.Schema {
	return api.Schema{
		Types: []api.AttrType{
			{Name: "class", Syntax: api.TextSyntax}, {Name: "uid", Syntax: api.TextSyntax, Single: true}, {Name: "mail", Syntax: api.ExactSyntax}, {Name: "age", Syntax: api.IntSyntax},
			{Name: "member", Syntax: api.NameSyntax}, {Name: "owner", Syntax: api.NameSyntax}, {Name: "boss", Syntax: api.NameSyntax, Single: true},
		},
		Classes: []api.Class{
			{Name: "unit", May: []string{"owner"}},
			{Name: "user", Must: []string{"uid"}, May: []string{"mail", "age", "owner", "boss"}},
			{Name: "group", Must: []string{"member"}, May: []string{"owner"}},
		},
	}
}

// roots returns the roots of the tests.
func roots() []string {
	return []string{"ou=x", "ou=z"}
}

// indexed returns the indexed attributes of the tests.
func indexed() []string {
	return []string{"uid", "MEMBER", "age"}
}

// all are all rights.
func all() []api.Right {
	return []api.Right{api.ReadRight, api.SearchRight, api.WriteRight, api.AddRight, api.DeleteRight}
}

// anyone is a subject without a user.
func anyone() api.Subject {
	return api.Subject{}
}

// nobody is a subject that the rules of the tests deny everything.
func nobody() api.Subject {
	return api.Subject{User: "uid=nobody,ou=x", Groups: []string{"cn=nobodies,ou=x"}}
}

// open returns rules that allow everything to everybody but nobody.
func open() []api.Rule {
	return []api.Rule{{Allow: true, Subject: "*", Rights: all()}, {Subject: "user:uid=nobody,ou=x", Rights: all()}}
}

// directed returns a directory with some rules and indexed attributes.
func directed(t *testing.T, number int, rules []api.Rule, indexed ...string) *directory.Directory {
	t.Helper()
	d, e := directory.New(number, plan(), rules, roots(), indexed)
	if e != api.OK || d == nil {
		t.Fatalf("New = %v, %d", d, int(e))
	}
	return d
}

// empty returns a directory without entries that allows everything.
func empty(t *testing.T, number int) *directory.Directory {
	t.Helper()
	return directed(t, number, open(), indexed()...)
}

// attr makes an attribute.
func attr(name string, values ...string) api.Attr {
	return api.Attr{Name: name, Values: values}
}

// unit, user and group make valid entries.
func unit(name string, l ...api.Attr) api.Entry {
	return api.Entry{Name: name, Attrs: append([]api.Attr{attr("class", "unit")}, l...)}
}

func user(name string, l ...api.Attr) api.Entry {
	return api.Entry{Name: name, Attrs: append([]api.Attr{attr("class", "user"), attr("uid", "a")}, l...)}
}

func group(name string, members ...string) api.Entry {
	return api.Entry{Name: name, Attrs: []api.Attr{attr("class", "group"), attr("member", members...)}}
}

// mod makes a modification.
func mod(op api.ModOp, name string, values ...string) api.Mod {
	return api.Mod{Op: op, Name: name, Values: values}
}

// add adds entries without a subject.
func add(t *testing.T, d *directory.Directory, now int, l ...api.Entry) {
	t.Helper()
	for _, e := range l {
		if bad := d.Add(anyone(), e, now); bad != api.OK {
			t.Fatalf("Add of %q = %d", e, int(bad))
		}
	}
}

// receive gives a directory some records.
func receive(t *testing.T, d *directory.Directory, l ...api.Change) {
	t.Helper()
	if e := d.Receive(l); e != api.OK {
		t.Fatalf("Receive = %d", int(e))
	}
}

// want compares an error with the one that is expected.
func want(t *testing.T, what string, got, want api.Errno) {
	t.Helper()
	if got != want {
		t.Errorf("%s = %d, not %d", what, int(got), int(want))
	}
}

// same reports whether two entries are equal as they are.
func same(a, b api.Entry) bool {
	return a.Name == b.Name && slices.EqualFunc(a.Attrs, b.Attrs, func(x, y api.Attr) bool {
		return x.Name == y.Name && slices.Equal(x.Values, y.Values)
	})
}

// sameEntries reports whether two lists of entries are equal as they are.
func sameEntries(a, b []api.Entry) bool {
	return slices.EqualFunc(a, b, same)
}

// names returns the names of entries, with spaces between them.
func names(l []api.Entry) string {
	var names []string
	for _, e := range l {
		names = append(names, e.Name)
	}
	return strings.Join(names, " ")
}

// text returns the attributes of an entry of a directory, in one line.
func text(t *testing.T, d *directory.Directory, name string) string {
	t.Helper()
	e, found := d.Get(anyone(), name)
	if !found {
		return "none"
	}
	var l []string
	for _, a := range e.Attrs {
		l = append(l, a.Name+":"+strings.Join(a.Values, "+"))
	}
	return strings.Join(l, " ")
}

// at makes a number.
func at(time, seq, number int) api.CSN {
	return api.CSN{Time: time, Seq: seq, Replica: number}
}

// created makes the records that create an entry with these attributes, with
// consecutive numbers.
func created(c api.CSN, e api.Entry) []api.Change {
	id := csn.Format(c)
	l := append([]api.Change{{Op: api.CreateEntry, ID: id, Name: e.Name}}, change.Edits(id, nil, e.Attrs)...)
	for i := range l {
		l[i].CSN = at(c.Time, c.Seq+i, c.Replica)
	}
	return l
}

// puts returns n records of replica 7 with consecutive numbers from {0, 1, 7}
// on, about no entry.
func puts(n int) []api.Change {
	var l []api.Change
	for i := range n {
		l = append(l, api.Change{CSN: at(0, i+1, 7), Op: api.PutValue, ID: csn.Format(at(1, 1, 1)), Attr: "uid", Value: "a"})
	}
	return l
}

// snapshot is what can be seen of a directory.
type snapshot struct {
	log     []api.Change
	entries []api.Entry
	broken  []api.Pair
}

// taken returns the snapshot of a directory.
func taken(d *directory.Directory) snapshot {
	return snapshot{d.Since(nil), d.Entries(), d.Broken()}
}

// wantUnchanged compares a directory with an earlier snapshot.
func wantUnchanged(t *testing.T, what string, d *directory.Directory, before snapshot) {
	t.Helper()
	if now := taken(d); !slices.Equal(now.log, before.log) || !sameEntries(now.entries, before.entries) || !slices.Equal(now.broken, before.broken) {
		t.Errorf("%s: from %v to %v", what, before, now)
	}
}

// P21.1
func TestNew(t *testing.T) {
	for number := range api.MaxReplicas {
		d := empty(t, number)
		if d.Entries() != nil || d.Broken() != nil || d.Since(nil) != nil || d.Vector() != nil {
			t.Errorf("%d: %q", number, d.Entries())
		}
		add(t, d, 5, unit("ou=a,ou=x"))
		if v := d.Vector(); len(v) != 1 || v[0] != at(5, 1, number) {
			t.Errorf("%d: %v", number, v)
		}
	}
	d, e := directory.New(0, plan(), nil, []string{"ou=x"}, nil)
	if e != api.OK || d.Add(anyone(), unit("ou=a,ou=x"), 1) != api.ErrDenied {
		t.Errorf("New without rules and indexed attributes = %d", int(e))
	}
}

// P21.1: the errors of New in their order.
func TestNewErrors(t *testing.T) {
	badSchema := plan()
	badSchema.Classes[0].May[0] = "x"
	badRules := append(open(), api.Rule{Subject: "all", Rights: all()})
	manyRoots := []string{}
	for i := range api.MaxItems + 1 {
		manyRoots = append(manyRoots, "o="+strconv.Itoa(i))
	}
	for i, x := range []struct {
		number         int
		schema         api.Schema
		rules          []api.Rule
		roots, indexed []string
		want           api.Errno
	}{
		{-1, badSchema, badRules, nil, []string{"x"}, api.ErrArg},
		{api.MaxReplicas, plan(), open(), roots(), indexed(), api.ErrArg},
		{0, badSchema, badRules, nil, []string{"x"}, api.ErrNone},
		{0, api.Schema{}, open(), roots(), nil, api.ErrNone},
		{0, plan(), badRules, nil, []string{"x"}, api.ErrNone},
		{0, plan(), badRules, manyRoots, []string{"x"}, api.ErrLimit},
		{0, plan(), badRules, []string{"ou=x", "OU=z"}, []string{"x"}, api.ErrName},
		{0, plan(), badRules, []string{"ou=x", ""}, []string{"x"}, api.ErrName},
		{0, plan(), badRules, []string{"ou=x", "ou=a,ou=x"}, []string{"x"}, api.ErrName},
		{0, plan(), badRules, []string{"ou=x", "ou=x"}, []string{"x"}, api.ErrTwice},
		{0, plan(), badRules, roots(), []string{"x"}, api.ErrForm},
		{0, plan(), make([]api.Rule, api.MaxRules+1), roots(), []string{"x"}, api.ErrLimit},
		{0, plan(), []api.Rule{{Subject: "*"}}, roots(), []string{"x"}, api.ErrNone},
		{0, plan(), []api.Rule{{Subject: "user:UID=a", Rights: all()}}, roots(), []string{"x"}, api.ErrName},
		{0, plan(), open(), roots(), []string{"uid", "x"}, api.ErrNone},
		{0, plan(), open(), roots(), []string{"uid", ""}, api.ErrNone},
		{0, plan(), open(), roots(), []string{"uid", "UID", "x"}, api.ErrTwice},
	} {
		d, e := directory.New(x.number, x.schema, x.rules, x.roots, x.indexed)
		if d != nil {
			t.Errorf("%d: New = %v", i, d)
		}
		want(t, strconv.Itoa(i)+": New", e, x.want)
		_, first := replica.New(x.number, x.schema, x.roots)
		_, third := index.New(x.schema, x.indexed)
		for _, bad := range []api.Errno{third, access.Check(x.rules), first} {
			if bad != api.OK {
				e = bad
			}
		}
		want(t, strconv.Itoa(i)+": the first error", e, x.want)
	}
	if d, e := directory.New(0, plan(), open(), manyRoots[1:], indexed()); d == nil || e != api.OK {
		t.Errorf("New with %d roots = %d", api.MaxItems, int(e))
	}
}

// DOC.md, rule 1: nil, and directories that New did not return.
func TestUnmade(t *testing.T) {
	made := empty(t, 0)
	add(t, made, 1, user("uid=a,ou=x"), group("cn=g,ou=x", "uid=a,ou=x"))
	before := taken(made)
	copied := *made
	for i, d := range []*directory.Directory{nil, {}, new(directory.Directory), &copied} {
		q := api.Query{Base: "ou=x", Scope: api.SubScope, Filter: api.Filter{Kind: api.AndFilter}, Limit: 9}
		if l, e := d.Search(anyone(), q); l != nil || e != api.ErrNil {
			t.Errorf("%d: Search = %q, %d", i, l, int(e))
		}
		if l, e := d.Search(anyone(), api.Query{}); l != nil || e != api.ErrNil {
			t.Errorf("%d: Search of no query = %q, %d", i, l, int(e))
		}
		for j, e := range []api.Errno{
			d.Add(anyone(), unit("ou=b,ou=x"), 2), d.Add(nobody(), api.Entry{}, 2),
			d.Modify(anyone(), "uid=a,ou=x", nil, 2), d.Modify(nobody(), "x", nil, 2),
			d.Delete(anyone(), "uid=a,ou=x", 2), d.Delete(nobody(), "x", 2),
			d.Rename(anyone(), "uid=a,ou=x", "uid=b,ou=x", 2), d.Rename(nobody(), "x", "", 2), d.Rename(anyone(), "uid=a,ou=x", "uid=a,ou=x", 2),
			d.Receive(puts(1)), d.Receive(nil), d.Receive([]api.Change{{}}),
		} {
			if e != api.ErrNil {
				t.Errorf("%d: operation %d = %d", i, j, int(e))
			}
		}
		if e, found := d.Get(anyone(), "uid=a,ou=x"); found || !same(e, api.Entry{}) {
			t.Errorf("%d: Get = %q, %v", i, e, found)
		}
		if u := d.Subject("uid=a,ou=x"); u.User != "" || u.Groups != nil {
			t.Errorf("%d: Subject = %v", i, u)
		}
		if d.Since(nil) != nil || d.Vector() != nil || d.Broken() != nil || d.Entries() != nil {
			t.Errorf("%d: %v, %q", i, d.Vector(), d.Entries())
		}
	}
	wantUnchanged(t, "copies", made, before)
}

// DOC.md, rule 4: arguments are neither changed nor kept.
func TestArguments(t *testing.T) {
	s, rules, top, columns := plan(), open(), roots(), indexed()
	rules[0].Rights = []api.Right{api.SearchRight, api.WriteRight, api.AddRight, api.DeleteRight}
	rules = append(rules, api.Rule{Allow: true, Subject: "*", Attrs: []string{"class", "uid", "mail", "member"}, Rights: []api.Right{api.ReadRight}})
	d, e := directory.New(0, s, rules, top, columns)
	want(t, "New", e, api.OK)
	x := user("uid=a,ou=x", attr("mail", "n", "m"))
	add(t, d, 1, x, group("cn=g,ou=x", "uid=a,ou=x"))
	if x.Name != "uid=a,ou=x" || !slices.Equal(x.Attrs[2].Values, []string{"n", "m"}) || !slices.Equal(top, roots()) || !slices.Equal(columns, indexed()) {
		t.Errorf("changed: %q, %q, %q", x, top, columns)
	}
	x.Attrs[2].Values[0] = "spoilt"
	s.Classes[0].May[0] = "spoilt"
	clear(s.Types)
	clear(s.Classes)
	rules[2].Attrs[0], rules[2].Attrs[3], rules[2].Rights[0], rules[0].Rights[0], rules[0].Rights[1] = "spoilt", "spoilt", api.AddRight, api.ReadRight, api.ReadRight
	clear(rules)
	clear(top)
	clear(columns)
	mods := []api.Mod{mod(api.AddValues, "MAIL", "p", "o")}
	want(t, "Modify", d.Modify(anyone(), "uid=a,ou=x", mods, 2), api.OK)
	if !slices.Equal(mods[0].Values, []string{"p", "o"}) || mods[0].Name != "MAIL" {
		t.Errorf("changed: %v", mods)
	}
	clear(mods[0].Values)
	add(t, d, 3, unit("ou=u,ou=z", attr("owner", "uid=a,ou=x")))
	want(t, "Rename", d.Rename(anyone(), "uid=a,ou=x", "uid=b,ou=u,ou=z", 4), api.OK)
	if got, wanted := text(t, d, "uid=b,ou=u,ou=z"), "class:user mail:m+n+o+p uid:a"; got != wanted {
		t.Errorf("the entry %q, not %q", got, wanted)
	}
	if got, wanted := text(t, d, "cn=g,ou=x"), "class:group member:uid=b,ou=u,ou=z"; got != wanted {
		t.Errorf("the entry %q, not %q", got, wanted)
	}
}

// DOC.md, rule 4: results are new memory.
func TestResults(t *testing.T) {
	d := empty(t, 0)
	add(t, d, 1, user("uid=a,ou=x", attr("mail", "m")), group("cn=g,ou=x", "uid=a,ou=x"))
	receive(t, d, created(at(3, 0, 1), group("cn=h,ou=x", "uid=b,ou=x"))...)
	before := taken(d)
	q := api.Query{Base: "ou=x", Scope: api.SubScope, Filter: api.Filter{Kind: api.EqualFilter, Name: "uid", Value: "a"}, Limit: 9}
	spoil := func(e api.Entry) {
		for _, a := range e.Attrs {
			clear(a.Values)
		}
		clear(e.Attrs)
	}
	for range 2 {
		e, _ := d.Get(anyone(), "uid=a,ou=x")
		spoil(e)
		l, _ := d.Search(anyone(), q)
		for _, e := range append(l, d.Entries()...) {
			spoil(e)
		}
		clear(d.Subject("uid=a,ou=x").Groups)
		clear(d.Since(nil))
		clear(d.Vector())
		clear(d.Broken())
		clear(l)
		found, bad := d.Search(anyone(), q)
		if bad != api.OK || names(found) != "uid=a,ou=x" || len(found[0].Attrs) != 3 {
			t.Errorf("Search = %q, %d", found, int(bad))
		}
		if u, got := d.Subject("uid=a,ou=x"), text(t, d, "uid=a,ou=x"); got != "class:user mail:m uid:a" || !slices.Equal(u.Groups, []string{"cn=g,ou=x"}) {
			t.Errorf("the entry %q, the subject %v", got, u)
		}
	}
	wantUnchanged(t, "results", d, before)
}
