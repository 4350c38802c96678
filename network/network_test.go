package network_test

import (
	"math"
	"slices"
	"strconv"
	"strings"
	"testing"

	"identity/api"
	"identity/change"
	"identity/csn"
	"identity/journal"
	"identity/network"
	"identity/replica"
	"identity/schema"
)

// wide is the number of attributes of a large entry besides class.
const wide = api.MaxAttrs - 1

// plan returns the schema of the tests.
func plan() api.Schema {
	s := api.Schema{
		Types:   []api.AttrType{{Name: "class", Syntax: api.TextSyntax}, {Name: "cn", Syntax: api.TextSyntax}, {Name: "mail", Syntax: api.ExactSyntax}},
		Classes: []api.Class{{Name: "unit"}, {Name: "person", Must: []string{"cn"}, May: []string{"mail"}}, {Name: "large"}},
	}
	for i := range wide {
		name := "a" + strconv.Itoa(i)
		s.Types = append(s.Types, api.AttrType{Name: name, Syntax: api.ExactSyntax})
		s.Classes[2].May = append(s.Classes[2].May, name)
	}
	return s
}

// commas returns a value of which the text form of a name in a line is four
// times as long.
func commas(n int) string {
	return strings.Repeat(`\,`, n)
}

// roots returns the roots of the tests.
func roots() []string {
	return []string{"ou=x", "o=" + commas(api.MaxValue)}
}

// world returns a world of n replicas.
func world(t *testing.T, n int) *network.World {
	t.Helper()
	w, e := network.New(n, plan(), roots())
	if e != api.OK || w == nil {
		t.Fatalf("New = %v, %d", w, int(e))
	}
	return w
}

// attr makes an attribute.
func attr(name string, values ...string) api.Attr {
	return api.Attr{Name: name, Values: values}
}

// unit and person make valid entries. An Add of a unit makes two records, and
// that of a person three.
func unit(name string) api.Entry {
	return api.Entry{Name: name, Attrs: []api.Attr{attr("class", "unit")}}
}

func person(name string) api.Entry {
	return api.Entry{Name: name, Attrs: []api.Attr{attr("class", "person"), attr("cn", "a")}}
}

// want compares an error with the one that is expected.
func want(t *testing.T, what string, got, want api.Errno) {
	t.Helper()
	if got != want {
		t.Fatalf("%s: %d, not %d", what, int(got), int(want))
	}
}

// add adds a unit below ou=x at a replica, and returns its identifier.
func add(t *testing.T, w *network.World, i int, value string) string {
	t.Helper()
	id, e := w.Add(i, unit("ou="+value+",ou=x"))
	want(t, "Add of "+value, e, api.OK)
	return id
}

// pass sends the changes of a replica to another one, and delivers them. There
// must be no other message.
func pass(t *testing.T, w *network.World, from, to int) {
	t.Helper()
	want(t, "Send", w.Send(from, to), api.OK)
	want(t, "Deliver", w.Deliver(0, false), api.OK)
}

// values returns the first values of the names of the entries of a replica,
// with spaces between them.
func values(w *network.World, i int) string {
	var l []string
	for _, e := range w.Entries(i) {
		first, _, _ := strings.Cut(e.Name, ",")
		_, value, _ := strings.Cut(first, "=")
		l = append(l, value)
	}
	return strings.Join(l, " ")
}

// has compares the entries of the replicas, from the first one on.
func has(t *testing.T, w *network.World, what string, l ...string) {
	t.Helper()
	for i, s := range l {
		if got := values(w, i); got != s {
			t.Fatalf("%s: replica %d has %q, not %q", what, i, got, s)
		}
	}
}

// same reports whether two entries are equal as they are.
func same(a, b api.Entry) bool {
	return a.Name == b.Name && slices.EqualFunc(a.Attrs, b.Attrs, func(x, y api.Attr) bool {
		return x.Name == y.Name && slices.Equal(x.Values, y.Values)
	})
}

// at makes a number.
func at(time, seq, number int) api.CSN {
	return api.CSN{Time: time, Seq: seq, Replica: number}
}

// P20.1
func TestNew(t *testing.T) {
	for n := 1; n <= api.MaxReplicas; n++ {
		w := world(t, n)
		if w.Messages() != 0 || w.Converged() != true || w.Settle() != 0 {
			t.Errorf("%d replicas: %d messages, %v", n, w.Messages(), w.Converged())
		}
		for i := range n {
			if w.Entries(i) != nil {
				t.Errorf("replica %d has %q", i, w.Entries(i))
			}
			if id := add(t, w, i, "a"); id != csn.Format(at(0, 1, i)) {
				t.Errorf("replica %d: %q", i, id)
			}
		}
		if e := w.Send(0, n); e != api.ErrRange || w.Converged() != (n == 1) {
			t.Errorf("%d replicas: %d, %v", n, int(e), w.Converged())
		}
	}
}

// P20.1: the errors of New in their order.
func TestNewErrors(t *testing.T) {
	bad := plan()
	bad.Classes[1].Must[0] = "x"
	for _, x := range []struct {
		n      int
		schema api.Schema
		roots  []string
		want   api.Errno
	}{
		{0, plan(), roots(), api.ErrArg},
		{-1, plan(), roots(), api.ErrArg},
		{math.MinInt, plan(), roots(), api.ErrArg},
		{api.MaxReplicas + 1, plan(), roots(), api.ErrArg},
		{math.MaxInt, plan(), roots(), api.ErrArg},
		{0, bad, nil, api.ErrArg},
		{1, bad, nil, schema.Check(bad)},
		{8, bad, roots(), schema.Check(bad)},
		{1, plan(), nil, api.ErrNone},
		{8, plan(), []string{}, api.ErrNone},
		{1, plan(), make([]string, api.MaxItems+1), api.ErrLimit},
		{1, plan(), []string{"OU=x"}, api.ErrName},
		{2, plan(), []string{"ou=x", "ou=y,ou=x"}, api.ErrName},
		{2, plan(), []string{"ou=x", "ou=x"}, api.ErrTwice},
	} {
		if w, e := network.New(x.n, x.schema, x.roots); w != nil || e != x.want || e == api.OK {
			t.Errorf("New(%d, %.40q) = %v, %d, not %d", x.n, x.roots, w, int(e), int(x.want))
		}
		if _, e := replica.New(min(max(x.n, 0), 1), x.schema, x.roots); x.want != api.ErrArg && e != x.want {
			t.Errorf("replica.New = %d, not %d", int(e), int(x.want))
		}
	}
}

// DOC.md, rule 1: nil, and worlds that New did not return.
func TestUnmade(t *testing.T) {
	made := world(t, 2)
	add(t, made, 0, "a")
	want(t, "Send", made.Send(0, 1), api.OK)
	copied := *made
	for i, w := range []*network.World{nil, {}, new(network.World), &copied} {
		id, e := w.Add(0, unit("ou=b,ou=x"))
		if id != "" || e != api.ErrNil {
			t.Errorf("%d: Add = %q, %d", i, id, int(e))
		}
		if id, e := w.Add(5, api.Entry{}); id != "" || e != api.ErrNil {
			t.Errorf("%d: Add at no replica = %q, %d", i, id, int(e))
		}
		for _, e := range []api.Errno{
			w.Modify(0, "ou=a,ou=x", nil), w.Delete(0, "ou=a,ou=x"), w.Rename(0, "ou=a,ou=x", "ou=b,ou=x"), w.Send(0, 1), w.Deliver(0, false), w.Lose(0), w.Crash(0, 0),
			w.Modify(5, "", nil), w.Delete(-1, ""), w.Rename(5, "", ""), w.Send(0, 5), w.Send(1, 1), w.Deliver(9, true), w.Lose(-1), w.Crash(-1, 0),
		} {
			want(t, "world "+strconv.Itoa(i), e, api.ErrNil)
		}
		w.Tick(9)
		if w.Messages() != 0 || w.Converged() || w.Settle() != 0 || w.Entries(0) != nil || w.Entries(5) != nil {
			t.Errorf("%d: not the zero values", i)
		}
	}
	has(t, made, "a world with a copy", "a", "")
	if id := add(t, made, 0, "b"); id != csn.Format(at(0, 3, 0)) || made.Messages() != 1 {
		t.Errorf("%q, %d messages", id, made.Messages())
	}
	want(t, "Deliver", made.Deliver(0, false), api.OK)
}

// The numbers of replicas that do not exist give ErrRange, also if there are
// other errors.
func TestRange(t *testing.T) {
	for _, n := range []int{1, 2, api.MaxReplicas} {
		w := world(t, n)
		add(t, w, 0, "a")
		for _, i := range []int{math.MinInt, -1, n, n + 1, api.MaxReplicas, math.MaxInt} {
			if id, e := w.Add(i, unit("ou=b,ou=x")); id != "" || e != api.ErrRange {
				t.Errorf("Add at %d = %q, %d", i, id, int(e))
			}
			if id, e := w.Add(i, api.Entry{}); id != "" || e != api.ErrRange {
				t.Errorf("Add of nothing at %d = %q, %d", i, id, int(e))
			}
			for _, e := range []api.Errno{w.Modify(i, "ou=a,ou=x", nil), w.Modify(i, "?", nil), w.Delete(i, "ou=a,ou=x"), w.Delete(i, "?"), w.Rename(i, "ou=a,ou=x", "ou=c,ou=x"), w.Rename(i, "?", ""), w.Send(0, i), w.Send(i, 0), w.Send(i, i), w.Crash(i, 0), w.Deliver(i, false), w.Deliver(i, true), w.Lose(i)} {
				want(t, strconv.Itoa(i)+" of "+strconv.Itoa(n), e, api.ErrRange)
			}
			if w.Entries(i) != nil {
				t.Errorf("Entries of %d = %q", i, w.Entries(i))
			}
		}
		has(t, w, "errors", "a")
	}
}

// DOC.md, rule 4: arguments are neither changed nor kept, and results are new memory.
func TestMemory(t *testing.T) {
	s, l := plan(), roots()
	w, _ := network.New(2, s, l)
	s.Types[1].Name, s.Classes[0].Name, s.Classes[1].Must[0], s.Classes[1].May[0], l[0] = "spoilt", "spoilt", "spoilt", "spoilt", "spoilt"
	want(t, "Crash", w.Crash(0, 0), api.OK)
	e := person("CN=a,ou=x")
	for i := range 2 {
		_, bad := w.Add(i, e)
		want(t, "Add", bad, api.OK)
	}
	mods := []api.Mod{{Op: api.AddValues, Name: "MAIL", Values: []string{"m"}}}
	want(t, "Modify", w.Modify(0, "cn=a,ou=x", mods), api.OK)
	if !same(e, person("CN=a,ou=x")) || mods[0].Name != "MAIL" || mods[0].Values[0] != "m" {
		t.Errorf("changed arguments: %v, %v", e, mods)
	}
	e.Attrs[1].Values[0], mods[0].Values[0] = "spoilt", "spoilt"
	full := person("cn=a,ou=x")
	full.Attrs = append(full.Attrs, attr("mail", "m"))
	for range 2 {
		got := w.Entries(0)
		if len(got) != 1 || !same(got[0], full) {
			t.Fatalf("Entries = %q", got)
		}
		clear(got[0].Attrs[1].Values)
		clear(got[0].Attrs)
		clear(got)
	}
	pass(t, w, 0, 1)
	want(t, "Crash", w.Crash(1, 0), api.OK)
	has(t, w, "spoilt arguments", "a", "a")
}

// P20.6: the clock, which the numbers of the records show.
func TestTick(t *testing.T) {
	w := world(t, 2)
	id := func(i int, value string, number api.CSN) {
		t.Helper()
		if got := add(t, w, i, value); got != csn.Format(number) {
			t.Errorf("%s: %q, not %q", value, got, csn.Format(number))
		}
	}
	id(1, "a", at(0, 1, 1))
	w.Tick(5)
	id(1, "b", at(5, 0, 1))
	id(0, "c", at(5, 0, 0))
	w.Tick(0)
	w.Tick(-3)
	w.Tick(math.MinInt)
	id(0, "d", at(5, 2, 0))
	w.Tick(2)
	w.Tick(3)
	id(0, "e", at(10, 0, 0))
	want(t, "Crash", w.Crash(0, 0), api.OK)
	id(0, "f", at(10, 2, 0))
	// Every kind of operation uses the clock.
	w.Tick(1)
	want(t, "Rename", w.Rename(0, "ou=c,ou=x", "ou=l,ou=x"), api.OK)
	id(0, "m", at(11, 1, 0))
	w.Tick(1)
	want(t, "Modify", w.Modify(0, "ou=d,ou=x", []api.Mod{{Op: api.AddValues, Name: "class", Values: []string{"large"}}}), api.OK)
	id(0, "n", at(12, 1, 0))
	w.Tick(1)
	want(t, "Delete", w.Delete(0, "ou=e,ou=x"), api.OK)
	id(0, "o", at(13, 1, 0))
	w.Tick(api.MaxTime - 14)
	id(0, "g", at(api.MaxTime-1, 0, 0))
	w.Tick(math.MaxInt)
	id(1, "h", at(api.MaxTime, 0, 1))
	w.Tick(1)
	id(1, "i", at(api.MaxTime, 2, 1))
	want(t, "Delete", w.Delete(0, "ou=g,ou=x"), api.OK)
	// The records of one replica are no times for another one before they arrive.
	id(0, "j", at(api.MaxTime, 1, 0))
	pass(t, w, 1, 0)
	id(0, "k", at(api.MaxTime, 4, 0))
}

// P20.2: the results are those of the operations of a replica by itself, and
// all that they change is durable.
func TestLocal(t *testing.T) {
	w := world(t, 2)
	r, _ := replica.New(1, plan(), roots())
	now := 0
	check := func(what string, got, e api.Errno) {
		t.Helper()
		want(t, what, got, e)
		for range 2 {
			if !slices.EqualFunc(w.Entries(1), r.Entries(), same) {
				t.Fatalf("%s: %q, not %q", what, w.Entries(1), r.Entries())
			}
			want(t, "Crash", w.Crash(1, 0), api.OK)
		}
		now += 3
		w.Tick(3)
	}
	mods := []api.Mod{{Op: api.ReplaceValues, Name: "mail", Values: []string{"m", "n"}}}
	for _, e := range []api.Entry{unit("ou=a,ou=x"), person("CN=b,OU=a,ou=x"), unit("ou=a,ou=x"), unit("ou=a,ou=n"), unit(""), {Name: "ou=c,ou=x"}, person("cn=c,ou=x")} {
		id, bad := w.Add(1, e)
		wanted, worse := r.Add(e, now)
		if id != wanted {
			t.Errorf("Add of %q = %q, not %q", e, id, wanted)
		}
		check("Add of "+e.Name, bad, worse)
	}
	for _, s := range []string{"cn=b,ou=a,ou=x", "CN=c,ou=x", "cn=c,ou=x", "ou=a,ou=x", "ou=n,ou=x", "x", ""} {
		check("Modify of "+s, w.Modify(1, s, mods), r.Modify(s, mods, now))
	}
	for _, x := range []struct{ from, to string }{{"cn=c,ou=x", "CN=D,ou=a,ou=x"}, {"cn=c,ou=x", "cn=e,ou=x"}, {"ou=a,ou=x", "ou=e,ou=x"}, {"cn=d,ou=a,ou=x", "cn=b,ou=a,ou=x"}, {"cn=d,ou=a,ou=x", "cn=d,ou=a,ou=x"}, {"?", "ou=x"}, {"cn=d,ou=a,ou=x", ""}} {
		check("Rename of "+x.from, w.Rename(1, x.from, x.to), r.Rename(x.from, x.to, now))
	}
	for _, s := range []string{"ou=a,ou=x", "cn=d,ou=a,ou=x", "cn=d,ou=a,ou=x", "CN=B,ou=a,ou=x", "ou=a,ou=x", "ou=x", "?"} {
		check("Delete of "+s, w.Delete(1, s), r.Delete(s, now))
	}
	has(t, w, "operations of the other replica", "")
}

// received returns a world of which replica 1 has an entry that is not durable
// there.
func received(t *testing.T) *network.World {
	t.Helper()
	w := world(t, 2)
	add(t, w, 0, "a")
	pass(t, w, 0, 1)
	has(t, w, "a message", "a", "a")
	return w
}

// P20.2: with OK the whole journal is synced, also if there was no change.
func TestLocalSync(t *testing.T) {
	mods := []api.Mod{{Op: api.AddValues, Name: "class", Values: []string{"large"}}}
	for i, operate := range []func(w *network.World) api.Errno{
		func(w *network.World) api.Errno { _, e := w.Add(1, unit("ou=b,ou=a,ou=x")); return e },
		func(w *network.World) api.Errno { return w.Modify(1, "ou=a,ou=x", mods) },
		func(w *network.World) api.Errno { return w.Modify(1, "ou=a,ou=x", nil) },
		func(w *network.World) api.Errno { return w.Rename(1, "ou=a,ou=x", "ou=c,ou=x") },
		func(w *network.World) api.Errno { return w.Rename(1, "ou=a,ou=x", "OU=A,ou=x") },
		func(w *network.World) api.Errno { return w.Delete(1, "ou=a,ou=x") },
	} {
		w := received(t)
		want(t, "operation "+strconv.Itoa(i), operate(w), api.OK)
		before := w.Entries(1)
		want(t, "Crash", w.Crash(1, 0), api.OK)
		if !slices.EqualFunc(w.Entries(1), before, same) {
			t.Errorf("operation %d: %q, not %q", i, w.Entries(1), before)
		}
	}
	for i, operate := range []func(w *network.World) api.Errno{
		func(w *network.World) api.Errno { _, e := w.Add(1, unit("ou=a,ou=x")); return e },
		func(w *network.World) api.Errno { return w.Modify(1, "ou=b,ou=x", mods) },
		func(w *network.World) api.Errno { return w.Rename(1, "ou=a,ou=x", "ou=x") },
		func(w *network.World) api.Errno { return w.Delete(1, "ou=x") },
		func(w *network.World) api.Errno { _, e := w.Add(2, unit("ou=b,ou=x")); return e },
	} {
		w := received(t)
		// An operation of the other replica does not make it durable either.
		add(t, w, 0, "b")
		if e := operate(w); e == api.OK {
			t.Errorf("operation %d without an error", i)
		}
		want(t, "Crash", w.Crash(1, 0), api.OK)
		has(t, w, "after an error", values(w, 0), "")
	}
}

// long returns the names of a chain of entries, whose last one has a name with
// n bytes more than fit into the line of a change.
func long(t *testing.T, n int) []string {
	t.Helper()
	var l []string
	above := roots()[1]
	for range 2 {
		above = "o=" + commas(api.MaxValue) + "," + above
		l = append(l, above)
	}
	line := func(name string) string {
		s, e := change.Line(api.Change{CSN: at(1, 2, 3), Op: api.CreateEntry, ID: csn.Format(at(1, 2, 3)), Name: name})
		want(t, "Line", e, api.OK)
		return s
	}
	room := api.MaxText + n - len(line("o=a,"+above)) + 1
	last := "o=" + commas(room/4) + strings.Repeat("b", room%4) + "," + above
	if k := len(line(last)); k != api.MaxText+n {
		t.Fatalf("a line of %d bytes", k)
	}
	return append(l, last)
}

// P20.2: changes whose lines are too long for the journal.
func TestLongLines(t *testing.T) {
	for n := -1; n <= 2; n++ {
		w, expected := world(t, 2), api.OK
		if n > 0 {
			expected = api.ErrLimit
		}
		l := long(t, n)
		for _, s := range append(l[:2:2], "ou=a,ou=x") {
			_, e := w.Add(0, unit(s))
			want(t, "Add", e, api.OK)
		}
		id, e := w.Add(0, unit(l[2]))
		want(t, "Add of a long name", e, expected)
		if (id == "") != (n > 0) || len(w.Entries(0)) == 3 != (n > 0) {
			t.Errorf("%d: %q, %d entries", n, id, len(w.Entries(0)))
		}
		if n <= 0 {
			want(t, "Delete", w.Delete(0, l[2]), api.OK)
		}
		want(t, "Rename to a long name", w.Rename(0, "ou=a,ou=x", l[2]), expected)
		want(t, "Crash", w.Crash(0, 0), api.OK)
		if len(w.Entries(0)) != 3 {
			t.Errorf("%d: %d entries", n, len(w.Entries(0)))
		}
		if w.Settle() != 1 || !slices.EqualFunc(w.Entries(0), w.Entries(1), same) {
			t.Errorf("%d: not settled", n)
		}
		// All other errors come first.
		_, twice := w.Add(0, unit(roots()[1]))
		_, none := w.Add(0, unit("o=c,"+l[2]))
		_, form := w.Add(0, api.Entry{Name: l[2], Attrs: []api.Attr{attr("mail", "m")}})
		if twice != api.ErrTwice || n > 0 && none != api.ErrNone || form != api.ErrSchema || w.Rename(0, "ou=n,ou=x", l[2]) != api.ErrNone || w.Rename(0, l[0], l[2]) != api.ErrState {
			t.Errorf("%d: %d, %d, %d", n, int(twice), int(none), int(form))
		}
	}
}

// P20.2: a line that is too long changes nothing: neither the replica, nor its
// numbers, nor its journal, nor what others know of it.
func TestLongLineUndone(t *testing.T) {
	w, l := world(t, 2), long(t, 1)
	for _, s := range append(l[:2:2], "ou=a,ou=x") {
		_, e := w.Add(0, unit(s))
		want(t, "Add", e, api.OK)
	}
	pass(t, w, 0, 1)
	add(t, w, 1, "b")
	add(t, w, 0, "c")
	pass(t, w, 0, 1)
	want(t, "Send", w.Send(1, 0), api.OK)
	w.Tick(7)
	_, e := w.Add(1, unit(l[2]))
	want(t, "Add of a long name", e, api.ErrLimit)
	want(t, "Rename to a long name", w.Rename(1, "ou=a,ou=x", l[2]), api.ErrLimit)
	if len(w.Entries(1)) != 5 {
		t.Errorf("%d entries", len(w.Entries(1)))
	}
	want(t, "Send of nothing", w.Send(0, 1), api.ErrNone)
	// It is no crash: both sides learn from a message that was sent before.
	want(t, "Deliver", w.Deliver(0, false), api.OK)
	want(t, "Send of nothing", w.Send(1, 0), api.ErrNone)
	want(t, "Send of nothing", w.Send(0, 1), api.ErrNone)
	// What was received is still not durable.
	want(t, "Crash", w.Crash(1, 0), api.OK)
	if len(w.Entries(1)) != 4 || len(w.Entries(0)) != 5 {
		t.Errorf("%d and %d entries", len(w.Entries(1)), len(w.Entries(0)))
	}
	if id := add(t, w, 1, "d"); id != csn.Format(at(7, 0, 1)) {
		t.Errorf("the identifier %q", id)
	}
	want(t, "Rename to a long name", w.Rename(1, "ou=a,ou=x", l[2]), api.ErrLimit)
	if id := add(t, w, 1, "e"); id != csn.Format(at(7, 2, 1)) {
		t.Errorf("the identifier %q", id)
	}
}

// lineSize returns the number of bytes in a journal of the change with a number.
func lineSize(c api.Change) int {
	s, _ := change.Line(c)
	return len(journal.Encode(s))
}

// P20.5: what a crash keeps of the changes that were received: the first ones,
// in the order of their numbers, as far as their bytes are kept.
func TestCrashKeeps(t *testing.T) {
	// These are the changes of replicas 0 and 1, in the order of their numbers.
	a, b := csn.Format(at(0, 1, 0)), csn.Format(at(0, 1, 1))
	made := []api.Change{
		{CSN: at(0, 1, 0), Op: api.CreateEntry, ID: a, Name: "ou=a,ou=x"}, {CSN: at(0, 1, 1), Op: api.CreateEntry, ID: b, Name: "ou=b,ou=x"},
		{CSN: at(0, 2, 0), Op: api.PutValue, ID: a, Attr: "class", Value: "unit"}, {CSN: at(0, 2, 1), Op: api.PutValue, ID: b, Attr: "class", Value: "unit"},
	}
	sum := 0
	for n := range 5 {
		shown := map[int]string{1: "a", 2: "a b", 3: "a b", 4: "a b"}[n]
		for _, keep := range []int{sum, sum + 1, sum + 50} {
			w := world(t, 3)
			add(t, w, 0, "a")
			add(t, w, 1, "b")
			pass(t, w, 1, 0)
			pass(t, w, 0, 2)
			if n == 0 {
				keep = min(keep, lineSize(made[0])-1) - 50
			}
			if n == 4 {
				keep += 100000
			}
			want(t, "Crash", w.Crash(2, keep), api.OK)
			has(t, w, "Crash with "+strconv.Itoa(keep), "a b", "b", shown)
			for i, e := range w.Entries(2) {
				if whole := len(e.Attrs) == 1; whole != (n > i+2) {
					t.Errorf("Crash with %d: the entry %q", keep, e)
				}
			}
			// What is left is durable.
			want(t, "Crash", w.Crash(2, 0), api.OK)
			has(t, w, "Crash again", "a b", "b", shown)
			w.Settle()
			has(t, w, "Settle", "a b", "a b", "a b")
		}
		if n < 4 {
			sum += lineSize(made[n])
		}
	}
}

// P20.5: negative and large numbers of bytes.
func TestCrashLimits(t *testing.T) {
	for _, keep := range []int{math.MinInt, -1, 0, 1} {
		w := received(t)
		want(t, "Crash", w.Crash(1, keep), api.OK)
		has(t, w, "Crash", "a", "")
	}
	for _, keep := range []int{10000, math.MaxInt} {
		w := received(t)
		want(t, "Crash", w.Crash(1, keep), api.OK)
		has(t, w, "Crash", "a", "a")
		want(t, "Crash", w.Crash(1, 0), api.OK)
		has(t, w, "Crash again", "a", "a")
	}
}

// P20.4, P20.5: changes that a replica had already are not recorded again, so
// that later ones follow at once.
func TestRecordedOnce(t *testing.T) {
	w := received(t)
	size := func(value string, seq int) int {
		id := csn.Format(at(0, seq, 0))
		return lineSize(api.Change{CSN: at(0, seq, 0), Op: api.CreateEntry, ID: id, Name: "ou=" + value + ",ou=x"}) + lineSize(api.Change{CSN: at(0, seq+1, 0), Op: api.PutValue, ID: id, Attr: "class", Value: "unit"})
	}
	add(t, w, 0, "b")
	want(t, "Send", w.Send(0, 1), api.OK)
	add(t, w, 0, "c")
	want(t, "Send", w.Send(0, 1), api.OK)
	for range 3 {
		want(t, "Deliver again", w.Deliver(0, true), api.OK)
	}
	want(t, "Deliver", w.Deliver(1, true), api.OK)
	want(t, "Deliver", w.Deliver(0, false), api.OK)
	has(t, w, "messages", "a b c", "a b c")
	all := size("a", 1) + size("b", 3) + size("c", 5)
	want(t, "Crash", w.Crash(1, all), api.OK)
	has(t, w, "Crash with all bytes", "a b c", "a b c")
	if n := w.Settle(); n != 1 {
		t.Errorf("Settle = %d", n)
	}
}

// P20.6: Converged compares the vectors of all replicas.
func TestConverged(t *testing.T) {
	w := world(t, 3)
	steps := []struct {
		from, to int
		want     bool
	}{{0, 1, false}, {0, 2, false}, {2, 0, false}, {2, 1, true}}
	add(t, w, 0, "a")
	add(t, w, 2, "b")
	for _, x := range steps {
		if w.Converged() {
			t.Error("Converged too early")
		}
		pass(t, w, x.from, x.to)
		if w.Converged() != x.want {
			t.Errorf("Converged = %v after %v", w.Converged(), x)
		}
	}
	// Equal entries do not suffice.
	add(t, w, 1, "c")
	want(t, "Delete", w.Delete(1, "ou=c,ou=x"), api.OK)
	has(t, w, "Delete", "a b", "a b", "a b")
	if w.Converged() {
		t.Error("Converged after a Delete")
	}
	w.Settle()
	if !w.Converged() {
		t.Error("not converged after Settle")
	}
	want(t, "Crash", w.Crash(0, 0), api.OK)
	if !w.Converged() {
		t.Error("not converged after a crash that loses nothing")
	}
}
