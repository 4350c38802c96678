package directory_test

import (
	"math/rand"
	"slices"
	"strings"
	"testing"

	"identity/access"
	"identity/api"
	"identity/attrs"
	"identity/directory"
	"identity/entry"
	"identity/filter"
	"identity/name"
	"identity/refint"
	"identity/replica"
	"identity/search"
	"identity/tree"
)

// model is a directory by the definitions of the chapter: everything follows
// from its log, and a search examines all entries.
type model struct {
	number  int
	rules   []api.Rule
	log     []api.Change
	started bool
}

// restored returns the replica of a model, or a fresh copy of it.
func (m *model) restored() *replica.Replica {
	r, _ := replica.New(m.number, plan(), roots())
	r.Receive(m.log)
	return r
}

// treeOf returns the tree of a replica.
func treeOf(r *replica.Replica) *tree.Tree {
	t, _ := tree.New(roots())
	for _, e := range r.Entries() {
		t.Add(e)
	}
	return t
}

// keep makes the log of a replica that of the model, unless there is an error.
func (m *model) keep(r *replica.Replica, e api.Errno) api.Errno {
	if e == api.OK {
		log := r.Since(nil)
		m.started = m.started || len(log) > len(m.log)
		m.log = log
	}
	return e
}

// may reports whether a subject has a right on an entry as a whole.
func (m *model) may(u api.Subject, s string, right api.Right) bool {
	ok, _ := access.Decide(m.rules, u, s, "", right)
	return ok
}

// astray reports whether an entry has a reference to nothing.
func (m *model) astray(e api.Entry) bool {
	t := treeOf(m.restored())
	for _, to := range refint.Refs(plan(), e) {
		if _, known := t.Get(to); !known && to != e.Name {
			return true
		}
	}
	return false
}

// add is the definition of Add.
func (m *model) add(u api.Subject, e api.Entry, now int) api.Errno {
	clean, bad := name.Clean(e.Name)
	normal, worse := entry.Normal(plan(), e)
	switch {
	case bad != api.OK || clean == "":
		return api.ErrName
	case !m.may(u, clean, api.AddRight):
		return api.ErrDenied
	case worse != api.OK:
		return worse
	case m.astray(normal):
		return api.ErrRef
	}
	r := m.restored()
	_, bad = r.Add(e, now)
	return m.keep(r, bad)
}

// modify is the definition of Modify.
func (m *model) modify(u api.Subject, s string, l []api.Mod, now int) api.Errno {
	r := m.restored()
	clean, bad := name.Clean(s)
	e, found := r.Get(clean)
	switch {
	case bad != api.OK:
		return api.ErrName
	case !found:
		return api.ErrNone
	case access.Writes(m.rules, u, clean, l) != api.OK:
		return api.ErrDenied
	}
	after, bad := entry.Apply(plan(), e, l)
	switch {
	case bad != api.OK:
		return bad
	case m.astray(after):
		return api.ErrRef
	}
	return m.keep(r, r.Modify(clean, l, now))
}

// delete is the definition of Delete.
func (m *model) delete(u api.Subject, s string, now int) api.Errno {
	r := m.restored()
	t := treeOf(r)
	clean, bad := name.Clean(s)
	_, found := r.Get(clean)
	switch {
	case bad != api.OK:
		return api.ErrName
	case !found:
		return api.ErrNone
	case !m.may(u, clean, api.DeleteRight):
		return api.ErrDenied
	case len(t.Children(clean)) > 0:
		return api.ErrState
	}
	first := api.OK
	for _, other := range refint.Referrers(plan(), t, clean) {
		e, _ := t.Get(other)
		l := refint.Removed(plan(), e, clean)
		if _, bad := entry.Apply(plan(), e, l); other != clean && bad != api.OK {
			return api.ErrRef
		}
		if other != clean && first == api.OK {
			first = r.Modify(other, l, now)
		}
	}
	if first == api.OK {
		first = r.Delete(clean, now)
	}
	return m.keep(r, first)
}

// rename is the definition of Rename.
func (m *model) rename(u api.Subject, from, to string, now int) api.Errno {
	r := m.restored()
	a, bad := name.Clean(from)
	b, worse := name.Clean(to)
	_, found := r.Get(a)
	switch {
	case bad != api.OK || worse != api.OK || a == "" || b == "":
		return api.ErrName
	case !found:
		return api.ErrNone
	case !m.may(u, a, api.DeleteRight) || !m.may(u, b, api.AddRight):
		return api.ErrDenied
	case a == b:
		return api.OK
	}
	if bad := r.Rename(a, b, now); bad != api.OK {
		return bad
	}
	t := treeOf(r)
	for _, other := range refint.Referrers(plan(), t, a) {
		e, _ := t.Get(other)
		l := refint.Renamed(plan(), e, a, b)
		after, bad := entry.Apply(plan(), e, l)
		if bad != api.OK || slices.Contains(refint.Refs(plan(), after), a) {
			return api.ErrRef
		}
		if bad := r.Modify(other, l, now); bad != api.OK {
			return bad
		}
	}
	return m.keep(r, api.OK)
}

// receive is the definition of Receive.
func (m *model) receive(l []api.Change) api.Errno {
	for _, c := range l {
		// No record of these tests has another error.
		if m.started && c.CSN.Replica == m.number && !slices.Contains(m.log, c) {
			return api.ErrState
		}
	}
	r := m.restored()
	bad := r.Receive(l)
	if bad == api.OK {
		m.log = r.Since(nil)
	}
	return bad
}

// search is the definition of Search.
func (m *model) search(u api.Subject, q api.Query) ([]api.Entry, api.Errno) {
	r := m.restored()
	if e := search.Check(q); e != api.OK {
		return nil, e
	}
	if _, known := treeOf(r).Get(q.Base); !known {
		return nil, api.ErrNone
	}
	var l []api.Entry
	for _, e := range r.Entries() {
		seen, readable := access.View(m.rules, u, e)
		if search.Within(q, e.Name) && filter.Match(plan(), q.Filter, e) && access.Visible(m.rules, u, e.Name, filter.Names(q.Filter)) && readable {
			l = append(l, api.Entry{Name: e.Name, Attrs: attrs.Pick(seen.Attrs, q.Names)})
		}
	}
	if len(l) > q.Limit {
		return nil, api.ErrLimit
	}
	return l, api.OK
}

// check compares what a directory returns with the model.
func (m *model) check(t *testing.T, d *directory.Directory, u api.Subject, q api.Query) {
	t.Helper()
	r := m.restored()
	if !slices.Equal(d.Since(nil), m.log) || !slices.Equal(d.Vector(), r.Vector()) || !sameEntries(d.Entries(), r.Entries()) {
		t.Fatalf("the log is %v, not %v", d.Since(nil), m.log)
	}
	if l := refint.Broken(plan(), treeOf(r)); !slices.Equal(d.Broken(), l) {
		t.Fatalf("Broken = %v, not %v", d.Broken(), l)
	}
	for _, s := range someNames() {
		e, found := r.Get(s)
		seen, readable := access.View(m.rules, u, e)
		if got, ok := d.Get(u, strings.ToUpper(s)); ok != (found && readable) || !same(got, seen) {
			t.Fatalf("Get of %q = %q, %v, not %q", s, got, ok, seen)
		}
		var wanted api.Subject
		if found {
			wanted = api.Subject{User: s, Groups: refint.Groups(treeOf(r), s)}
		}
		if got := d.Subject(s); got.User != wanted.User || !slices.Equal(got.Groups, wanted.Groups) {
			t.Fatalf("Subject of %q = %q, not %q", s, got, wanted)
		}
	}
	wanted, bad := m.search(u, q)
	if l, e := d.Search(u, q); e != bad || !sameEntries(l, wanted) {
		t.Fatalf("Search of %v = %q, %d, not %q, %d", q, l, int(e), wanted, int(bad))
	}
}

// someNames are names that the random operations use.
func someNames() []string {
	return []string{"ou=x", "ou=a,ou=x", "ou=b,ou=x", "uid=a,ou=x", "uid=b,ou=x", "cn=g,ou=x", "cn=h,ou=z", "uid=a,ou=a,ou=x", "cn=g,ou=a,ou=x", "uid=c,ou=b,ou=x", "ou=c,ou=a,ou=x", "uid=d,ou=z", "ou=a"}
}

// someRules are rules that allow a part of what the operations need.
func someRules() []api.Rule {
	return []api.Rule{
		{Allow: true, Subject: "*", Rights: all()},
		{Subject: "user:uid=a,ou=x", Target: "ou=z", Rights: all()},
		{Subject: "*", Target: "ou=b,ou=x", Attrs: []string{"age", "owner"}, Rights: all()},
		{Subject: "group:cn=g,ou=x", Target: "uid=b,ou=x", Rights: []api.Right{api.DeleteRight, api.ReadRight}},
		{Allow: true, Subject: "self", Target: "uid=b,ou=x", Attrs: []string{"mail"}, Rights: all()},
		{Subject: "user:uid=nobody,ou=x", Rights: all()},
	}
}

// pick returns one of the strings of a list.
func pick(r *rand.Rand, l ...string) string {
	return l[r.Intn(len(l))]
}

// someEntry returns a random entry for a name, which need not be valid.
func someEntry(r *rand.Rand, s string) api.Entry {
	var e api.Entry
	switch ref := pick(r, someNames()...); r.Intn(4) {
	case 0:
		e = unit(s)
	case 1:
		e = group(s, strings.ToUpper(ref))
		if other := pick(r, someNames()...); other != ref {
			e.Attrs[1].Values = append(e.Attrs[1].Values, other)
		}
	default:
		e = user(s, attr("mail", pick(r, "m", "M")), attr("age", pick(r, "1", "07")))
		if r.Intn(2) == 0 {
			e.Attrs = append(e.Attrs, attr("boss", ref))
		}
	}
	if r.Intn(12) == 0 {
		e.Attrs = e.Attrs[1:]
	}
	return e
}

// someMods returns random modifications.
func someMods(r *rand.Rand) []api.Mod {
	ref := pick(r, someNames()...)
	list := []api.Mod{
		mod(api.AddValues, "mail", "n"), mod(api.ReplaceValues, "AGE", "010"), mod(api.DeleteValues, "mail"), mod(api.DeleteValues, "uid"), mod(9, "uid"),
		mod(api.ReplaceValues, "boss", ref), mod(api.AddValues, "owner", ref), mod(api.ReplaceValues, "owner", ref), mod(api.AddValues, "member", ref), mod(api.DeleteValues, "owner"), mod(api.DeleteValues, "boss"),
	}
	var l []api.Mod
	for range r.Intn(3) {
		l = append(l, list[r.Intn(len(list))])
	}
	return l
}

// someFilter returns a random filter.
func someFilter(r *rand.Rand, depth int) api.Filter {
	if depth == 0 || r.Intn(3) == 0 {
		l := []api.Pair{{Key: "uid", Value: "A"}, {Key: "MAIL", Value: "m"}, {Key: "age", Value: "007"}, {Key: "member", Value: "uid=A, ou=x"}, {Key: "class", Value: "user"}, {Key: "age", Value: "x"}, {Key: "phone", Value: "1"}}
		p := l[r.Intn(len(l))]
		if r.Intn(4) == 0 {
			return with(api.PresentFilter, p.Key, "")
		}
		return with(api.FilterKind(4+r.Intn(3)), p.Key, p.Value)
	}
	f := api.Filter{Kind: api.FilterKind(1 + r.Intn(3))}
	for range r.Intn(3) {
		f.Kids = append(f.Kids, someFilter(r, depth-1))
	}
	return f
}

// someQuery returns a random query.
func someQuery(r *rand.Rand) api.Query {
	q := api.Query{Base: pick(r, append(someNames(), "ou=x", "ou=x", "ou=z", "ou=z")...), Scope: api.SearchScope(1 + r.Intn(3)), Filter: someFilter(r, 3), Limit: 1 + r.Intn(9)}
	if r.Intn(2) == 0 {
		q.Names = []string{"uid", "owner"}
	}
	return q
}

// pair is a directory with its model.
type pair struct {
	d     *directory.Directory
	m     *model
	count map[api.Errno]int
}

// newPair returns an empty directory with its model.
func newPair(t *testing.T, number int) *pair {
	columns := [][]string{nil, indexed(), {"class", "mail", "boss", "uid"}}[number]
	return &pair{directed(t, number, someRules(), columns...), &model{number: number, rules: someRules()}, map[api.Errno]int{}}
}

// begin adds some entries with references to both.
func (p *pair) begin(t *testing.T) {
	t.Helper()
	for _, e := range []api.Entry{unit("ou=a,ou=x"), unit("ou=b,ou=x"), user("uid=a,ou=x"), user("uid=b,ou=x", attr("boss", "uid=a,ou=x")), group("cn=g,ou=x", "uid=a,ou=x", "uid=b,ou=x"), group("cn=h,ou=z", "cn=g,ou=x", "ou=b,ou=x")} {
		want(t, "Add", p.d.Add(anyone(), e, 0), p.m.add(anyone(), e, 0))
	}
}

// target returns a random name, often that of an entry.
func (p *pair) target(r *rand.Rand) string {
	if l := p.d.Entries(); len(l) > 0 && r.Intn(3) > 0 {
		return l[r.Intn(len(l))].Name
	}
	return strings.ToUpper(pick(r, someNames()...))
}

// operate performs a random operation on both for a subject.
func (p *pair) operate(t *testing.T, r *rand.Rand, u api.Subject, clock int) api.Errno {
	t.Helper()
	s, to, now := p.target(r), pick(r, someNames()...), clock+r.Intn(3)-1
	if r.Intn(12) == 0 {
		to += "," + s
	}
	var got, wanted api.Errno
	switch r.Intn(8) {
	case 0, 1, 2:
		e := someEntry(r, strings.ToUpper(to))
		got, wanted = p.d.Add(u, e, now), p.m.add(u, e, now)
	case 3, 4:
		l := someMods(r)
		got, wanted = p.d.Modify(u, s, l, now), p.m.modify(u, s, l, now)
	case 5:
		got, wanted = p.d.Delete(u, s, now), p.m.delete(u, s, now)
	default:
		got, wanted = p.d.Rename(u, s, to, now), p.m.rename(u, s, to, now)
	}
	if got != wanted {
		t.Fatalf("an operation on %q, %q by %v = %d, not %d", s, to, u, int(got), int(wanted))
	}
	p.count[got]++
	return got
}

// someone returns a random subject.
func (p *pair) someone(r *rand.Rand) api.Subject {
	if r.Intn(3) == 0 {
		return p.d.Subject(pick(r, someNames()...))
	}
	return anyone()
}

// receive gives both some records.
func (p *pair) receive(t *testing.T, l []api.Change) {
	t.Helper()
	want(t, "Receive", p.d.Receive(l), p.m.receive(l))
}

// wantSound checks that all entries are valid, and refer to entries.
func wantSound(t *testing.T, d *directory.Directory) {
	t.Helper()
	if l := d.Broken(); len(l) != 0 {
		t.Fatalf("Broken = %v", l)
	}
	for _, e := range d.Entries() {
		if n, bad := entry.Normal(plan(), e); bad != api.OK || !same(n, e) {
			t.Fatalf("the entry %q is not normal: %d", e, int(bad))
		}
	}
}

// P21.2 to P21.9: the results of random operations are those of the definitions.
// P21.12 (G6): directories that have received each other's changes are equal.
func TestDefinition(t *testing.T) {
	r := rand.New(rand.NewSource(1))
	total, broken := map[api.Errno]int{}, 0
	for range 60 {
		pairs := []*pair{newPair(t, 0), newPair(t, 1), newPair(t, 2)}
		pairs[0].begin(t)
		pairs[1].receive(t, pairs[0].d.Since(nil))
		for step := range 60 {
			p, other := pairs[r.Intn(3)], pairs[r.Intn(3)]
			if r.Intn(8) == 0 {
				p.receive(t, other.d.Since(p.d.Vector()))
			} else {
				p.operate(t, r, p.someone(r), step/8)
			}
			p.m.check(t, p.d, p.someone(r), someQuery(r))
		}
		for range 2 {
			for _, p := range pairs {
				for _, other := range pairs {
					p.receive(t, other.d.Since(nil))
				}
				broken += len(p.d.Broken())
			}
		}
		for _, p := range pairs {
			p.m.check(t, p.d, p.someone(r), someQuery(r))
			if !sameEntries(p.d.Entries(), pairs[0].d.Entries()) || !slices.Equal(p.d.Vector(), pairs[0].d.Vector()) {
				t.Fatalf("the entries %q, %q", p.d.Entries(), pairs[0].d.Entries())
			}
			for e, n := range p.count {
				total[e] += n
			}
		}
	}
	for _, e := range []api.Errno{api.OK, api.ErrNone, api.ErrTwice, api.ErrSchema, api.ErrRef, api.ErrDenied, api.ErrState, api.ErrArg, api.ErrCycle} {
		if total[e] < 5 {
			t.Errorf("%d operations with the error %d", total[e], int(e))
		}
	}
	if broken < 50 {
		t.Errorf("%d broken references", broken)
	}
}

// P21.10 (G2, G4): a directory by itself has valid entries without broken
// references, and an operation with an error changes nothing.
// P21.11 (G5): who may do nothing obtains and changes nothing.
func TestAlone(t *testing.T) {
	r := rand.New(rand.NewSource(2))
	moved := 0
	for range 30 {
		p := newPair(t, 1)
		p.begin(t)
		for step := range 60 {
			before, u := taken(p.d), p.someone(r)
			if p.operate(t, r, u, step/8) != api.OK {
				wantUnchanged(t, "an error", p.d, before)
			}
			wantSound(t, p.d)
			before = taken(p.d)
			p.operate(t, r, nobody(), step/8)
			wantUnchanged(t, "nobody", p.d, before)
			if l, _ := p.d.Search(nobody(), someQuery(r)); l != nil {
				t.Fatalf("Search by nobody = %q", l)
			}
			if e, found := p.d.Get(nobody(), pick(r, someNames()...)); found || !same(e, api.Entry{}) {
				t.Fatalf("Get by nobody = %q", e)
			}
			for _, e := range p.d.Entries() {
				moved += len(refint.Refs(plan(), e))
			}
		}
	}
	if moved < 1000 {
		t.Errorf("%d references", moved)
	}
}

// P21.11: each operation of a subject that may do nothing is an error, unless
// there is nothing to do.
func TestPowerless(t *testing.T) {
	d := empty(t, 0)
	add(t, d, 1, user("uid=a,ou=x"), unit("ou=a,ou=x"))
	for _, rules := range [][]api.Rule{nil, open(), {{Allow: true, Subject: "user:uid=b,ou=x", Rights: all()}}} {
		closed := directed(t, 1, rules, indexed()...)
		receive(t, closed, d.Since(nil)...)
		before := taken(closed)
		u := nobody()
		for i, e := range []api.Errno{
			closed.Add(u, unit("ou=b,ou=x"), 2), closed.Add(u, api.Entry{}, 2), closed.Modify(u, "uid=a,ou=x", []api.Mod{mod(api.AddValues, "mail", "m")}, 2), closed.Modify(u, "uid=b,ou=x", nil, 2),
			closed.Delete(u, "uid=a,ou=x", 2), closed.Delete(u, "uid=b,ou=x", 2), closed.Rename(u, "uid=a,ou=x", "uid=a,ou=x", 2), closed.Rename(u, "uid=a,ou=x", "uid=b,ou=x", 2),
		} {
			if e == api.OK {
				t.Errorf("operation %d = %d", i, int(e))
			}
		}
		if l, e := closed.Search(u, filtered(everything())); l != nil || e != api.OK {
			t.Errorf("Search = %q, %d", l, int(e))
		}
		if e, found := closed.Get(u, "uid=a,ou=x"); found || !same(e, api.Entry{}) {
			t.Errorf("Get = %q", e)
		}
		wantUnchanged(t, "a subject that may do nothing", closed, before)
	}
}

// P21.13 (G3): the indexed attributes change no result.
func TestIndexed(t *testing.T) {
	r := rand.New(rand.NewSource(3))
	found := 0
	for range 40 {
		var l []*directory.Directory
		for _, columns := range [][]string{nil, {"uid"}, {"age", "CLASS"}, {"class", "uid", "mail", "age", "member", "owner", "boss"}} {
			p := &pair{directed(t, 0, someRules(), columns...), &model{rules: someRules()}, map[api.Errno]int{}}
			p.begin(t)
			l = append(l, p.d)
		}
		for step := range 40 {
			seed := r.Int63()
			for _, d := range l {
				p := &pair{d, &model{rules: someRules(), log: d.Since(nil)}, map[api.Errno]int{}}
				p.operate(t, rand.New(rand.NewSource(seed)), anyone(), step)
			}
			q, u := someQuery(r), l[0].Subject(pick(r, someNames()...))
			wanted, bad := l[0].Search(u, q)
			found += len(wanted)
			for i, d := range l {
				if got, e := d.Search(u, q); e != bad || !sameEntries(got, wanted) {
					t.Fatalf("%d: Search of %v = %q, %d, not %q, %d", i, q, got, int(e), wanted, int(bad))
				}
			}
		}
	}
	if found < 200 {
		t.Errorf("%d results", found)
	}
}
