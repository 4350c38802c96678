package network_test

import (
	"math/rand"
	"slices"
	"strconv"
	"strings"
	"testing"

	"identity/api"
	"identity/change"
	"identity/csn"
	"identity/network"
	"identity/replica"
)

// model is a world by the definitions of the chapter. What a replica is follows
// from its changes.
type model struct {
	now     int
	had     [][]api.Change // the changes of each replica, in the order of their numbers
	disks   [][]string     // the lines of each journal
	durable []int
	knows   []map[int][]api.CSN
	crashes []int
	list    []letter
	made    []api.Change // all changes of operations that returned OK
}

// letter is a message.
type letter struct {
	from, to, crashes int
	base, vector      []api.CSN
	changes           []api.Change
}

// newModel returns the model of a world of n replicas.
func newModel(n int) *model {
	m := &model{had: make([][]api.Change, n), disks: make([][]string, n), durable: make([]int, n), crashes: make([]int, n)}
	for range n {
		m.knows = append(m.knows, map[int][]api.CSN{})
	}
	return m
}

// live returns a replica with the changes of replica i.
func (m *model) live(i int) *replica.Replica {
	r, _ := replica.New(i, plan(), roots())
	r.Receive(m.had[i])
	return r
}

// exists reports whether there is a replica with a number.
func (m *model) exists(i int) bool {
	return i >= 0 && i < len(m.had)
}

// local is the definition of the local operations.
func (m *model) local(i int, operate func(r *replica.Replica) api.Errno) api.Errno {
	if !m.exists(i) {
		return api.ErrRange
	}
	r := m.live(i)
	if e := operate(r); e != api.OK {
		return e
	}
	var lines []string
	after := r.Since(nil)
	for _, c := range after[len(m.had[i]):] {
		s, _ := change.Line(c)
		if len(s) > api.MaxText {
			return api.ErrLimit
		}
		lines = append(lines, s)
	}
	m.made = append(m.made, after[len(m.had[i]):]...)
	m.had[i], m.disks[i] = after, append(m.disks[i], lines...)
	m.durable[i] = len(m.disks[i])
	return api.OK
}

// draft returns the message that one replica would send to another one.
func (m *model) draft(from, to int) letter {
	base := m.knows[from][to]
	return letter{from, to, m.crashes[from], base, change.Vector(m.had[from]), change.Since(m.had[from], base)}
}

// send is the definition of Send.
func (m *model) send(from, to int) api.Errno {
	switch {
	case !m.exists(from) || !m.exists(to):
		return api.ErrRange
	case from == to:
		return api.ErrArg
	}
	l := m.draft(from, to)
	switch {
	case len(l.changes) == 0:
		return api.ErrNone
	case len(m.list) == api.MaxItems:
		return api.ErrLimit
	}
	m.list = append(m.list, l)
	return api.OK
}

// arrive is the definition of the delivery of a message; it also returns
// whether its base was lost.
func (m *model) arrive(l letter) (api.Errno, bool) {
	if !csn.Within(l.base, change.Vector(m.had[l.to])) {
		return api.ErrState, true
	}
	r := m.live(l.to)
	if e := r.Receive(l.changes); e != api.OK {
		return e, false
	}
	for _, c := range l.changes {
		if !slices.Contains(m.had[l.to], c) {
			s, _ := change.Line(c)
			m.disks[l.to] = append(m.disks[l.to], s)
		}
	}
	m.had[l.to] = r.Since(nil)
	m.knows[l.from][l.to] = csn.Join(m.knows[l.from][l.to], l.vector)
	if m.crashes[l.from] == l.crashes {
		m.knows[l.to][l.from] = csn.Join(m.knows[l.to][l.from], l.vector)
	}
	return api.OK, false
}

// deliver is the definition of Deliver.
func (m *model) deliver(k int, again bool) api.Errno {
	if k < 0 || k >= len(m.list) {
		return api.ErrRange
	}
	e, lost := m.arrive(m.list[k])
	if lost || e == api.OK && !again {
		m.list = append(m.list[:k:k], m.list[k+1:]...)
	}
	return e
}

// crash is the definition of Crash. size is the number of bytes of a record.
func (m *model) crash(i, keep int) api.Errno {
	if !m.exists(i) {
		return api.ErrRange
	}
	size := func(s string) int { return len(strconv.Itoa(len(s))) + len(":\n") + len(s) + 16 }
	for m.durable[i] < len(m.disks[i]) && size(m.disks[i][m.durable[i]]) <= keep {
		keep -= size(m.disks[i][m.durable[i]])
		m.durable[i]++
	}
	m.disks[i] = m.disks[i][:m.durable[i]:m.durable[i]]
	m.had[i] = nil
	for _, s := range m.disks[i] {
		c, _ := change.Parse(s)
		m.had[i] = change.Merge(m.had[i], []api.Change{c})
	}
	m.crashes[i]++
	m.knows[i] = map[int][]api.CSN{}
	for _, known := range m.knows {
		delete(known, i)
	}
	return api.OK
}

// settle is the definition of Settle.
func (m *model) settle() int {
	total := 0
	for more := true; more; {
		more = false
		for from := range m.had {
			for to := range m.had {
				l := m.draft(from, to)
				if from == to || len(l.changes) == 0 {
					continue
				}
				if e, _ := m.arrive(l); e == api.OK {
					total, more = total+1, true
				}
			}
		}
	}
	for i := range m.disks {
		m.durable[i] = len(m.disks[i])
	}
	return total
}

// converged is the definition of Converged.
func (m *model) converged() bool {
	return !slices.ContainsFunc(m.had, func(l []api.Change) bool { return !slices.Equal(change.Vector(l), change.Vector(m.had[0])) })
}

// both is a world with its model, and how often each operation had each result.
type both struct {
	w     *network.World
	m     *model
	count map[string]map[api.Errno]int
}

// newBoth returns a world of n replicas with its model.
func newBoth(t *testing.T, n int, count map[string]map[api.Errno]int) *both {
	t.Helper()
	return &both{world(t, n), newModel(n), count}
}

// result compares two errors of an operation.
func (b *both) result(t *testing.T, what string, got, wanted api.Errno) {
	t.Helper()
	want(t, what, got, wanted)
	if b.count[what] == nil {
		b.count[what] = map[api.Errno]int{}
	}
	b.count[what][got]++
}

// check compares everything that a world shows with the model.
func (b *both) check(t *testing.T, what string) {
	t.Helper()
	if b.w.Messages() != len(b.m.list) || b.w.Converged() != b.m.converged() {
		t.Fatalf("%s: %d messages, not %d; converged: %v", what, b.w.Messages(), len(b.m.list), b.w.Converged())
	}
	for i := range b.m.had {
		if got, wanted := b.w.Entries(i), b.m.live(i).Entries(); !slices.EqualFunc(got, wanted, same) {
			t.Fatalf("%s: replica %d has %q, not %q", what, i, got, wanted)
		}
	}
}

// someNames are names that the random operations use; one is too long for the
// lines of a journal.
func someNames() []string {
	above, l := roots()[1], []string{"ou=a,ou=x", "ou=b,ou=x", "ou=c,ou=a,ou=x", "ou=d,ou=b,ou=x", "ou=e,ou=c,ou=a,ou=x", "ou=x", "ou=a#00000000000-00000001-1,ou=x"}
	for range 3 {
		above = "o=" + commas(api.MaxValue) + "," + above
		l = append(l, above)
	}
	return l
}

// add adds an entry to both.
func (b *both) add(t *testing.T, i int, e api.Entry) {
	t.Helper()
	var wanted string
	id, bad := b.w.Add(i, e)
	worse := b.m.local(i, func(r *replica.Replica) (f api.Errno) { wanted, f = r.Add(e, b.m.now); return f })
	b.result(t, "Add", bad, worse)
	if bad != api.OK {
		wanted = ""
	}
	if id != wanted {
		t.Fatalf("Add of %q = %q, not %q", e, id, wanted)
	}
}

// operate performs a random local operation on both.
func (b *both) operate(t *testing.T, r *rand.Rand) {
	t.Helper()
	l := someNames()
	i, s, to := r.Intn(len(b.m.had)), l[r.Intn(len(l))], l[r.Intn(len(l))]
	if r.Intn(30) == 0 {
		i = []int{-1, len(b.m.had)}[r.Intn(2)]
	}
	switch r.Intn(10) {
	case 0, 1, 2, 3:
		e := unit(s)
		if r.Intn(2) == 0 {
			e = person(strings.ToUpper(s))
		}
		b.add(t, i, e)
	case 4, 5, 6:
		mods := [][]api.Mod{nil, {{Op: api.ReplaceValues, Name: "cn", Values: []string{strconv.Itoa(r.Intn(9))}}}, {{Op: api.AddValues, Name: "class", Values: []string{"large"}}}, {{Op: api.DeleteValues, Name: "class"}}}[r.Intn(4)]
		b.result(t, "Modify", b.w.Modify(i, s, mods), b.m.local(i, func(r *replica.Replica) api.Errno { return r.Modify(s, mods, b.m.now) }))
	case 7:
		b.result(t, "Delete", b.w.Delete(i, s), b.m.local(i, func(r *replica.Replica) api.Errno { return r.Delete(s, b.m.now) }))
	default:
		b.result(t, "Rename", b.w.Rename(i, s, to), b.m.local(i, func(r *replica.Replica) api.Errno { return r.Rename(s, to, b.m.now) }))
	}
}

// message sends, delivers or loses a message in both.
func (b *both) message(t *testing.T, r *rand.Rand) {
	t.Helper()
	n := len(b.m.had)
	from, to, k, again := r.Intn(n), r.Intn(n), r.Intn(len(b.m.list)+1), r.Intn(3) == 0
	if r.Intn(30) == 0 {
		from, k = n-2*r.Intn(2)*n, -1
	}
	switch r.Intn(9) {
	case 0:
		wanted := api.ErrRange
		if k >= 0 && k < len(b.m.list) {
			wanted = api.OK
			b.m.list = append(b.m.list[:k:k], b.m.list[k+1:]...)
		}
		b.result(t, "Lose", b.w.Lose(k), wanted)
	case 1, 2, 3, 4:
		b.result(t, "Send", b.w.Send(from, to), b.m.send(from, to))
	default:
		b.result(t, "Deliver", b.w.Deliver(k, again), b.m.deliver(k, again))
	}
}

// lose sends a message to a replica, and later changes in another one, and lets
// it lose the first ones.
func (b *both) lose(t *testing.T, r *rand.Rand) {
	t.Helper()
	from, to, keep := r.Intn(len(b.m.had)), r.Intn(len(b.m.had)), r.Intn(2)*r.Intn(200)
	for range 2 {
		b.add(t, from, person("cn="+strconv.Itoa(r.Intn(1000))+",ou=x"))
		b.result(t, "Send", b.w.Send(from, to), b.m.send(from, to))
		if k := len(b.m.list) - 1; r.Intn(2) == 0 {
			b.result(t, "Deliver", b.w.Deliver(k, false), b.m.deliver(k, false))
		}
	}
	b.result(t, "Crash", b.w.Crash(to, keep), b.m.crash(to, keep))
}

// step performs a random operation on both.
func (b *both) step(t *testing.T, r *rand.Rand) {
	t.Helper()
	switch r.Intn(24) {
	case 0:
		i, keep := r.Intn(len(b.m.had)), r.Intn(3)*r.Intn(300)-1
		b.result(t, "Crash", b.w.Crash(i, keep), b.m.crash(i, keep))
	case 1:
		seconds := r.Intn(4) - 1
		b.w.Tick(seconds)
		b.m.now += max(seconds, 0)
	case 2, 3:
		b.lose(t, r)
	case 4, 5, 6, 7:
		b.operate(t, r)
	default:
		b.message(t, r)
	}
	b.check(t, "a random operation")
}

// settled settles both; then every replica has all changes that were
// acknowledged, and nothing else.
func (b *both) settled(t *testing.T) {
	t.Helper()
	if got, wanted := b.w.Settle(), b.m.settle(); got != wanted {
		t.Fatalf("Settle = %d, not %d", got, wanted)
	}
	b.check(t, "Settle")
	all, _ := replica.New(0, plan(), roots())
	if e := all.Receive(b.m.made); e != api.OK || !b.w.Converged() || b.w.Settle() != 0 {
		t.Fatalf("not converged after Settle, or Receive = %d", int(e))
	}
	for i := range b.m.had {
		if !slices.EqualFunc(b.w.Entries(i), all.Entries(), same) {
			t.Fatalf("replica %d has %q, not %q", i, b.w.Entries(i), all.Entries())
		}
	}
}

// P20.2 to P20.7: random operations do what the definitions say.
// P20.8: no acknowledged change is lost, and the replicas converge.
func TestDefinition(t *testing.T) {
	r := rand.New(rand.NewSource(1))
	count := map[string]map[api.Errno]int{}
	for round := range 40 {
		b := newBoth(t, 1+round%4, count)
		if round%3 == 0 {
			for _, s := range long(t, 0)[:2] {
				b.add(t, 0, unit(s))
			}
		}
		for range 2 {
			for range 60 {
				b.step(t, r)
			}
			b.settled(t)
		}
	}
	for what, l := range map[string][]api.Errno{
		"Add":     {api.OK, api.ErrRange, api.ErrTwice, api.ErrNone, api.ErrLimit},
		"Modify":  {api.OK, api.ErrRange, api.ErrNone},
		"Delete":  {api.OK, api.ErrNone},
		"Rename":  {api.OK, api.ErrRange, api.ErrTwice, api.ErrNone, api.ErrState},
		"Send":    {api.OK, api.ErrRange, api.ErrArg, api.ErrNone},
		"Deliver": {api.OK, api.ErrRange, api.ErrState},
		"Lose":    {api.OK, api.ErrRange},
		"Crash":   {api.OK},
	} {
		for _, e := range l {
			if count[what][e] < 2 {
				t.Errorf("%s returned %d only %d times", what, int(e), count[what][e])
			}
		}
	}
}

// chaos performs some messages and crashes between the replicas of a world.
func chaos(w *network.World, r *rand.Rand, n int) {
	for range 1 + r.Intn(6) {
		i, j, k := r.Intn(n), r.Intn(n), r.Intn(w.Messages()+1)
		switch r.Intn(8) {
		case 0:
			w.Crash(i, r.Intn(600))
		case 1:
			w.Lose(k)
		case 2, 3, 4:
			w.Send(i, j)
		default:
			w.Deliver(k, r.Intn(4) == 0)
		}
	}
}

// progress returns how many of the changes of replica k have arrived at
// replica i, if each third one begins a person with a number as its name.
// A person that lacks a value must be the last one.
func progress(t *testing.T, w *network.World, i, k int) int {
	t.Helper()
	parts := map[int]int{}
	for _, e := range w.Entries(i) {
		origin, number, _ := strings.Cut(strings.TrimSuffix(strings.TrimPrefix(e.Name, "cn="), ",ou=x"), "-")
		n, _ := strconv.Atoi(number)
		if origin == strconv.Itoa(k) {
			parts[n] = 1 + len(e.Attrs)
		}
	}
	total := 0
	for n := range len(parts) {
		if parts[n] == 0 || parts[n] < 3 && n < len(parts)-1 {
			t.Fatalf("replica %d has of replica %d the parts %v", i, k, parts)
		}
		total += parts[n]
	}
	return total
}

// P20.8: a replica has its own acknowledged changes ever after, whatever
// crashes follow. P20.9: it has all earlier changes of a replica of which it
// has one. Settle brings all changes to all replicas.
func TestComplete(t *testing.T) {
	r := rand.New(rand.NewSource(2))
	partial := 0
	for range 40 {
		n := 2 + r.Intn(3)
		w, added := world(t, n), make([]int, n)
		for range 40 {
			i := r.Intn(n)
			w.Tick(r.Intn(2))
			_, e := w.Add(i, person("cn="+strconv.Itoa(i)+"-"+strconv.Itoa(added[i])+",ou=x"))
			want(t, "Add", e, api.OK)
			added[i]++
			chaos(w, r, n)
			for i := range n {
				for k := range n {
					p := progress(t, w, i, k)
					if i == k && p != 3*added[k] {
						t.Fatalf("replica %d has %d of its changes, not %d", k, p, 3*added[k])
					}
					if p%3 != 0 {
						partial++
					}
				}
			}
		}
		w.Settle()
		for i := range n {
			for k := range n {
				if p := progress(t, w, i, k); p != 3*added[k] || !w.Converged() {
					t.Fatalf("replica %d has %d of %d changes of replica %d", i, p, 3*added[k], k)
				}
			}
		}
	}
	if partial < 50 {
		t.Errorf("only %d persons that arrived in part", partial)
	}
}

// all returns the entries of n replicas.
func all(w *network.World, n int) [][]api.Entry {
	var l [][]api.Entry
	for i := range n {
		l = append(l, w.Entries(i))
	}
	return l
}

// equal reports whether replicas have equal entries.
func equal(a, b [][]api.Entry) bool {
	return slices.EqualFunc(a, b, func(x, y []api.Entry) bool { return slices.EqualFunc(x, y, same) })
}

// P20.10: a message that is delivered again, or lost, changes no entries.
func TestAgain(t *testing.T) {
	r := rand.New(rand.NewSource(3))
	delivered, lost := 0, 0
	for range 60 {
		b := newBoth(t, 3, map[string]map[api.Errno]int{})
		for range 60 {
			b.step(t, r)
			k := r.Intn(b.w.Messages() + 1)
			if k == b.w.Messages() {
				continue
			}
			if r.Intn(4) == 0 {
				before := all(b.w, 3)
				want(t, "Lose", b.w.Lose(k), api.OK)
				b.m.list = append(b.m.list[:k:k], b.m.list[k+1:]...)
				lost++
				if !equal(all(b.w, 3), before) {
					t.Fatal("a loss changed entries")
				}
				continue
			}
			e := b.w.Deliver(k, true)
			b.result(t, "Deliver", e, b.m.deliver(k, true))
			if e != api.OK {
				continue
			}
			before := all(b.w, 3)
			for range 2 {
				want(t, "Deliver again", b.w.Deliver(k, true), api.OK)
			}
			delivered++
			if !equal(all(b.w, 3), before) {
				t.Fatal("a message that was delivered again changed entries")
			}
		}
	}
	if delivered < 100 || lost < 100 {
		t.Errorf("%d deliveries and %d losses", delivered, lost)
	}
}
