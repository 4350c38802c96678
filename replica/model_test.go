package replica_test

import (
	"cmp"
	"math/rand"
	"slices"
	"strconv"
	"strings"
	"testing"

	"identity/api"
	"identity/change"
	"identity/csn"
	"identity/entry"
	"identity/merge"
	"identity/name"
	"identity/replica"
	"identity/schema"
)

// model is a replica by the definitions of the chapter: everything follows
// from its log.
type model struct {
	number  int
	log     []api.Change
	started bool
}

// known is an entry of a state with its identifier.
type known struct {
	id string
	e  api.Entry
}

// all returns the entries of the state, those with lesser identifiers first.
func (m *model) all() []known {
	s, _ := merge.Of(m.log)
	var l []known
	for _, id := range s.Live() {
		e, _ := s.Entry(id)
		l = append(l, known{id, e})
	}
	return l
}

// isRoot reports whether s is a root of the replicas of the tests.
func isRoot(s string) bool {
	return s == "ou=x" || s == "ou=z"
}

// parentOf returns the parent of a name, or something that is no name.
func parentOf(s string) string {
	parent, ok := name.Parent(s)
	if !ok {
		return "?"
	}
	return parent
}

// view returns the entries whose parents exist.
func (m *model) view() []known {
	there, l := map[string]bool{}, m.all()
	for range api.MaxDepth {
		for _, k := range l {
			parent := parentOf(k.e.Name)
			there[k.e.Name] = there[k.e.Name] || isRoot(parent) || there[parent]
		}
	}
	return slices.DeleteFunc(l, func(k known) bool { return !there[k.e.Name] })
}

// named returns the first one of some entries that has a name.
func named(l []known, s string) (known, bool) {
	i := slices.IndexFunc(l, func(k known) bool { return k.e.Name == s })
	if i < 0 {
		return known{}, false
	}
	return l[i], true
}

// exists reports whether s is a root or the name of an entry of the view.
func (m *model) exists(s string) bool {
	_, found := named(m.view(), s)
	return found || isRoot(s)
}

// free reports whether s is the name of nothing.
func (m *model) free(s string) bool {
	_, found := named(m.all(), s)
	return !found && !isRoot(s)
}

// parental reports whether a name has children.
func (m *model) parental(s string) bool {
	return slices.ContainsFunc(m.view(), func(k known) bool { return parentOf(k.e.Name) == s })
}

// make adds the records of an operation, and returns their first number.
func (m *model) make(now int, l ...api.Change) (api.CSN, api.Errno) {
	if len(m.log)+len(l) > api.MaxChanges {
		return api.CSN{}, api.ErrLimit
	}
	log := slices.Clone(m.log)
	for _, c := range l {
		var last api.CSN
		if len(log) > 0 {
			last = log[len(log)-1].CSN
		}
		next, e := csn.Next(last, now, m.number)
		if e != api.OK {
			return api.CSN{}, e
		}
		c.CSN = next
		if c.ID == "" {
			c.ID = csn.Format(next)
			if c.Op != api.CreateEntry {
				c.ID = log[len(log)-1].ID
			}
		}
		log = append(log, c)
	}
	first := log[len(m.log):]
	if len(first) == 0 {
		return api.CSN{}, api.OK
	}
	m.log, m.started = log, true
	return first[0].CSN, api.OK
}

// add is the definition of Add.
func (m *model) add(e api.Entry, now int) (string, api.Errno) {
	n, bad := entry.Normal(plan(), e)
	switch {
	case bad != api.OK:
		return "", bad
	case !m.free(n.Name):
		return "", api.ErrTwice
	case !m.exists(parentOf(n.Name)):
		return "", api.ErrNone
	case len(m.all()) >= api.MaxEntries:
		return "", api.ErrLimit
	}
	first, bad := m.make(now, append([]api.Change{{Op: api.CreateEntry, Name: n.Name}}, change.Edits("", nil, n.Attrs)...)...)
	if bad != api.OK {
		return "", bad
	}
	return csn.Format(first), api.OK
}

// modify is the definition of Modify.
func (m *model) modify(s string, l []api.Mod, now int) api.Errno {
	clean, bad := name.Clean(s)
	if bad != api.OK {
		return api.ErrName
	}
	k, found := named(m.view(), clean)
	if !found {
		return api.ErrNone
	}
	after, bad := entry.Apply(plan(), k.e, l)
	if bad != api.OK {
		return bad
	}
	_, bad = m.make(now, change.Edits(k.id, k.e.Attrs, after.Attrs)...)
	return bad
}

// delete is the definition of Delete.
func (m *model) delete(s string, now int) api.Errno {
	clean, bad := name.Clean(s)
	k, found := named(m.view(), clean)
	switch {
	case bad != api.OK:
		return api.ErrName
	case !found:
		return api.ErrNone
	case m.parental(clean):
		return api.ErrState
	}
	_, bad = m.make(now, api.Change{Op: api.RemoveEntry, ID: k.id})
	return bad
}

// rename is the definition of Rename.
func (m *model) rename(from, to string, now int) api.Errno {
	a, bad := name.Clean(from)
	b, worse := name.Clean(to)
	k, found := named(m.view(), a)
	switch {
	case bad != api.OK || worse != api.OK || b == "":
		return api.ErrName
	case !found:
		return api.ErrNone
	case a == b:
		return api.OK
	case m.parental(a):
		return api.ErrState
	case !m.free(b):
		return api.ErrTwice
	case name.Under(b, a):
		return api.ErrCycle
	case !m.exists(parentOf(b)):
		return api.ErrNone
	}
	_, bad = m.make(now, api.Change{Op: api.RenameEntry, ID: k.id, Name: b})
	return bad
}

// receive is the definition of Receive.
func (m *model) receive(l []api.Change) api.Errno {
	for _, c := range l {
		own := m.started && c.CSN.Replica == m.number
		switch {
		case change.Check(c) != api.OK:
			return api.ErrArg
		case own && !slices.ContainsFunc(m.log, func(d api.Change) bool { return d.CSN == c.CSN }):
			return api.ErrState
		}
	}
	log := change.Merge(m.log, l)
	if len(log) > api.MaxChanges {
		return api.ErrLimit
	}
	m.log = log
	return api.OK
}

// check compares a replica with the model.
func (m *model) check(t *testing.T, r *replica.Replica) {
	t.Helper()
	if l := r.Since(nil); !slices.Equal(l, m.log) {
		t.Fatalf("the log is %v, not %v", l, m.log)
	}
	if v := r.Vector(); !slices.Equal(v, change.Vector(m.log)) || len(r.Since(v)) != 0 {
		t.Fatalf("Vector = %v, not %v", v, change.Vector(m.log))
	}
	view := m.view()
	for _, s := range someNames() {
		k, found := named(view, s)
		if e, ok := r.Get(strings.ToUpper(s)); ok != found || !same(e, k.e) {
			t.Fatalf("Get of %q = %q, %v, not %q", s, e, ok, k.e)
		}
	}
	slices.SortFunc(view, func(a, b known) int {
		return cmp.Or(name.Compare(a.e.Name, b.e.Name), strings.Compare(a.id, b.id))
	})
	entries := r.Entries()
	if !slices.EqualFunc(entries, view, func(e api.Entry, k known) bool { return same(e, k.e) }) {
		t.Fatalf("Entries = %q, not %q", entries, view)
	}
}

// pair is a replica with its model.
type pair struct {
	r     *replica.Replica
	m     *model
	count map[api.Errno]int
}

// newPair returns a fresh replica with its model.
func newPair(t *testing.T, number int) *pair {
	return &pair{fresh(t, number), &model{number: number}, map[api.Errno]int{}}
}

// someNames are names that the random operations use, also such as entries
// have after a conflict.
func someNames() []string {
	l := []string{"ou=x", "ou=w", "ou=a,ou=x", "ou=b,ou=x", "ou=a,ou=z", "ou=c,ou=a,ou=x", "ou=d,ou=a,ou=x", "ou=c,ou=b,ou=x", "ou=e,ou=c,ou=a,ou=x", "ou=f,ou=e,ou=c,ou=a,ou=x"}
	for number := range 3 {
		for _, seq := range []int{1, 3} {
			id := csn.Format(at(0, seq, number))
			l = append(l, "ou=a#"+id+",ou=x", "ou=c,ou=a#"+id+",ou=x")
		}
	}
	return l
}

// someMods returns random modifications.
func someMods(r *rand.Rand) []api.Mod {
	all := []api.Mod{
		{Op: api.AddValues, Name: "mail", Values: []string{"m", "n"}}, {Op: api.DeleteValues, Name: "mail"}, {Op: api.ReplaceValues, Name: "MAIL", Values: []string{"n", "o"}},
		{Op: api.ReplaceValues, Name: "age", Values: []string{"007"}}, {Op: api.AddValues, Name: "age", Values: []string{"8"}}, {Op: api.AddValues, Name: "age", Values: []string{"x"}},
		{Op: api.ReplaceValues, Name: "cn", Values: []string{"B"}}, {Op: api.DeleteValues, Name: "cn"}, {Op: api.ReplaceValues, Name: "class", Values: []string{"unit", "person"}}, {Op: 4, Name: "cn"},
	}
	var l []api.Mod
	for range r.Intn(3) {
		l = append(l, all[r.Intn(len(all))])
	}
	return l
}

// pick returns one of the names that the operations use, or of the entries or
// their children.
func (p *pair) pick(r *rand.Rand) string {
	l := someNames()
	existing := names(p.r)
	if len(existing) == 0 {
		return l[r.Intn(len(l))]
	}
	s := existing[r.Intn(len(existing))]
	switch r.Intn(4) {
	case 0:
		return "ou=c," + s
	case 1:
		return s
	}
	return l[r.Intn(len(l))]
}

// operate performs a random local operation on both.
func (p *pair) operate(t *testing.T, r *rand.Rand, clock int) {
	t.Helper()
	a, b, now := p.pick(r), p.pick(r), clock+r.Intn(3)-1
	if r.Intn(8) == 0 {
		b = "ou=e," + a
	}
	var got, want api.Errno
	switch r.Intn(12) {
	case 0, 1, 2, 3, 4, 5:
		e := unit(a)
		if r.Intn(2) == 0 {
			e = person(strings.ToUpper(a), attr("mail", "m"))
		}
		id, bad := p.r.Add(e, now)
		wanted, worse := p.m.add(e, now)
		if got, want = bad, worse; id != wanted {
			t.Fatalf("Add of %q = %q, not %q", e, id, wanted)
		}
	case 6, 7, 8:
		mods := someMods(r)
		got, want = p.r.Modify(a, mods, now), p.m.modify(a, mods, now)
	case 9:
		got, want = p.r.Delete(a, now), p.m.delete(a, now)
	default:
		got, want = p.r.Rename(a, b, now), p.m.rename(a, b, now)
	}
	if got != want {
		t.Fatalf("an operation on %q, %q = %d, not %d", a, b, int(got), int(want))
	}
	p.count[got]++
	p.m.check(t, p.r)
}

// receive gives both some records.
func (p *pair) receive(t *testing.T, l []api.Change) {
	t.Helper()
	if got, want := p.r.Receive(l), p.m.receive(l); got != want {
		t.Fatalf("Receive of %v = %d, not %d", l, int(got), int(want))
	}
	p.m.check(t, p.r)
}

// some returns a part of a list in any order, with repetitions.
func some(r *rand.Rand, l []api.Change) []api.Change {
	var part []api.Change
	for range r.Intn(len(l) + 1) {
		part = append(part, l[r.Intn(len(l))])
	}
	return part
}

// P18.2, P18.3: the results of random operations are those of the definitions.
// P18.4: replicas that have received each other's logs are equal.
func TestDefinition(t *testing.T) {
	r := rand.New(rand.NewSource(1))
	total, conflicts, lost := map[api.Errno]int{}, 0, 0
	for range 100 {
		all := []*pair{newPair(t, 0), newPair(t, 1), newPair(t, 2)}
		for step := range 60 {
			p, other := all[r.Intn(3)], all[r.Intn(3)]
			switch r.Intn(16) {
			case 0:
				p.receive(t, other.r.Since(p.r.Vector()))
			case 1:
				p.receive(t, some(r, other.r.Since(nil)))
			default:
				p.operate(t, r, step/8)
			}
		}
		for range 2 {
			for _, p := range all {
				for _, other := range all {
					p.receive(t, other.r.Since(nil))
				}
			}
		}
		s, _ := merge.Of(all[0].m.log)
		conflicts, lost = conflicts+len(s.Conflicts()), lost+len(s.Live())-len(all[0].r.Entries())
		for _, p := range all {
			if !equal(p.r, all[0].r) {
				t.Fatalf("replicas %d and 0 differ: %q, %q", p.r.Number(), p.r.Entries(), all[0].r.Entries())
			}
			for e, n := range p.count {
				total[e] += n
			}
		}
	}
	for _, e := range []api.Errno{api.OK, api.ErrTwice, api.ErrNone, api.ErrState, api.ErrCycle, api.ErrArg, api.ErrSchema, api.ErrType} {
		if total[e] < 5 {
			t.Errorf("%d operations with the error %d", total[e], int(e))
		}
	}
	if conflicts < 100 || lost < 20 {
		t.Errorf("%d conflicts, %d orphans", conflicts, lost)
	}
}

// P18.3, P18.4: records of any kind that other replicas might have made; of
// some different ones with the same number only one stays.
func TestReceiveRandom(t *testing.T) {
	r := rand.New(rand.NewSource(2))
	for range 100 {
		var l []api.Change
		for range 30 {
			c := api.Change{CSN: at(r.Intn(3), r.Intn(4), r.Intn(3)), Op: api.ChangeOp(1 + r.Intn(5)), ID: csn.Format(at(0, 1+r.Intn(4), r.Intn(3)))}
			switch c.Op {
			case api.CreateEntry, api.RenameEntry:
				c.Name = someNames()[r.Intn(len(someNames()))]
			case api.PutValue, api.DropValue:
				c.Attr, c.Value = "class", []string{"unit", "person"}[r.Intn(2)]
			}
			l = append(l, c)
		}
		a, b := newPair(t, 3), newPair(t, 4)
		for range 5 {
			a.receive(t, some(r, l))
			b.receive(t, some(r, l))
			a.operate(t, r, 2)
		}
		a.receive(t, l)
		b.receive(t, a.r.Since(nil))
		for _, c := range slices.Backward(l) {
			b.receive(t, []api.Change{c})
		}
		a.receive(t, b.r.Since(nil))
		if !equal(a.r, b.r) {
			t.Fatalf("%q, %q", a.r.Entries(), b.r.Entries())
		}
	}
}

// P18.5, P18.6: a replica without others has valid entries with parents, an
// error changes nothing, and the numbers ascend.
func TestLocalOnly(t *testing.T) {
	r := rand.New(rand.NewSource(3))
	for range 40 {
		p := newPair(t, 2)
		for step := range 40 {
			before := p.r.Since(nil)
			p.operate(t, r, step/8)
			log := p.r.Since(nil)
			if !slices.Equal(log[:len(before)], before) || !slices.IsSortedFunc(log, func(a, b api.Change) int { return csn.Compare(a.CSN, b.CSN) }) {
				t.Fatalf("from %v to %v", before, log)
			}
			seen := map[string]bool{"ou=x": true, "ou=z": true}
			for _, e := range p.r.Entries() {
				normal, bad := entry.Normal(plan(), e)
				if schema.Valid(plan(), e) != api.OK || bad != api.OK || !same(normal, e) || !seen[parentOf(e.Name)] || seen[e.Name] {
					t.Fatalf("the entry %q", e)
				}
				seen[e.Name] = true
			}
		}
	}
}

// P18.6: the numbers that a replica makes are greater than those it received.
func TestNumbersAscend(t *testing.T) {
	a, b := fresh(t, 0), fresh(t, 1)
	var last api.CSN
	for i := range 200 {
		r, now := a, 7
		if i%2 == 1 {
			r, now = b, i%11
		}
		before := r.Vector()
		added(t, r, now, unit("ou="+strconv.Itoa(i)+",ou=x"))
		for _, c := range r.Since(before) {
			if csn.Compare(last, c.CSN) >= 0 || c.CSN.Replica != r.Number() {
				t.Fatalf("%v after %v", c.CSN, last)
			}
			last = c.CSN
		}
		received(t, a, b)
		received(t, b, a)
	}
	if !equal(a, b) || len(a.Entries()) != 200 {
		t.Errorf("%d and %d entries", len(a.Entries()), len(b.Entries()))
	}
}

// P18.7: a replica that is restored from its log continues as it would have.
func TestRestored(t *testing.T) {
	r := rand.New(rand.NewSource(4))
	for range 20 {
		p, other := newPair(t, 1), newPair(t, 0)
		for step := range 30 {
			p.operate(t, r, step/8)
			other.operate(t, r, step/8)
			if r.Intn(4) == 0 {
				p.receive(t, other.r.Since(p.r.Vector()))
			}
		}
		restored := newPair(t, 1)
		restored.receive(t, p.r.Since(nil))
		if !equal(restored.r, p.r) {
			t.Fatalf("%q, not %q", restored.r.Entries(), p.r.Entries())
		}
		seed := r.Int63()
		some, more := rand.New(rand.NewSource(seed)), rand.New(rand.NewSource(seed))
		for step := range 20 {
			p.operate(t, some, step/8)
			restored.operate(t, more, step/8)
			if !equal(restored.r, p.r) {
				t.Fatalf("%q, not %q", restored.r.Entries(), p.r.Entries())
			}
		}
	}
}

// P18.2 to P18.4: the examples of the chapter.
func TestExamples(t *testing.T) {
	a, b := fresh(t, 0), fresh(t, 1)
	added(t, a, 5, person("cn=a,ou=x", attr("mail", "of0")))
	added(t, b, 5, person("cn=a,ou=x", attr("mail", "of1")), unit("ou=y,ou=x"))
	received(t, a, b)
	received(t, b, a)
	for _, r := range []*replica.Replica{a, b} {
		first, _ := r.Get("cn=a,ou=x")
		second, _ := r.Get("cn=a#00000000005-00000000-1,ou=x")
		if !same(first, api.Entry{Name: "cn=a,ou=x", Attrs: []api.Attr{attr("class", "person"), attr("cn", "a"), attr("mail", "of0")}}) || !same(second, api.Entry{Name: "cn=a#00000000005-00000000-1,ou=x", Attrs: []api.Attr{attr("class", "person"), attr("cn", "a"), attr("mail", "of1")}}) {
			t.Errorf("%q, %q", first, second)
		}
	}
	if a.Delete("ou=y,ou=x", 6) != api.OK {
		t.Error("Delete")
	}
	added(t, b, 6, unit("cn=a,ou=y,ou=x"))
	if b.Delete("ou=y,ou=x", 6) != api.ErrState || b.Delete("ou=x", 6) != api.ErrNone {
		t.Error("Delete of an entry with children, or of a root")
	}
	received(t, a, b)
	received(t, b, a)
	for _, r := range []*replica.Replica{a, b} {
		if _, ok := r.Get("cn=a,ou=y,ou=x"); ok || len(r.Entries()) != 2 {
			t.Errorf("names: %q", names(r))
		}
		// The name of an orphan is not free, and its parent can be added again.
		if _, e := r.Add(unit("cn=a,ou=y,ou=x"), 7); e != api.ErrTwice {
			t.Errorf("Add of an orphan = %d", int(e))
		}
	}
	// The loser of a conflict is found, changed, renamed and removed by the
	// name that it has.
	loser := "cn=a#00000000005-00000000-1,ou=x"
	if e := a.Modify(loser, []api.Mod{{Op: api.AddValues, Name: "age", Values: []string{"7"}}}, 7); e != api.OK {
		t.Errorf("Modify = %d", int(e))
	}
	if e := a.Rename(loser, "cn=b,ou=x", 7); e != api.OK {
		t.Errorf("Rename = %d", int(e))
	}
	if e, ok := a.Get("cn=b,ou=x"); !ok || len(e.Attrs) != 4 {
		t.Errorf("Get = %q, %v", e, ok)
	}
	if e := b.Delete("cn=a,ou=x", 8); e != api.OK || !slices.Equal(names(b), []string{"cn=a,ou=x"}) {
		t.Errorf("Delete = %d, %q", int(e), names(b))
	}
	received(t, a, b)
	received(t, b, a)
	added(t, a, 9, unit("ou=y,ou=x"))
	if !slices.Equal(names(b), []string{"cn=b,ou=x"}) || !slices.Equal(names(a), []string{"cn=b,ou=x", "ou=y,ou=x", "cn=a,ou=y,ou=x"}) {
		t.Errorf("names: %q, %q", names(b), names(a))
	}
}
