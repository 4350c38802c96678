package replica_test

import (
	"slices"
	"strconv"
	"strings"
	"testing"

	"identity/api"
	"identity/csn"
	"identity/replica"
	"identity/schema"
)

// plan returns the schema of the tests.
func plan() api.Schema {
	return api.Schema{
		Types: []api.AttrType{
			{Name: "class", Syntax: api.TextSyntax}, {Name: "cn", Syntax: api.TextSyntax}, {Name: "mail", Syntax: api.ExactSyntax},
			{Name: "age", Syntax: api.IntSyntax, Single: true}, {Name: "boss", Syntax: api.NameSyntax},
		},
		Classes: []api.Class{
			{Name: "unit"},
			{Name: "person", Must: []string{"cn"}, May: []string{"mail", "age", "boss"}},
		},
	}
}

// fresh returns a replica with the roots ou=x and ou=z.
func fresh(t *testing.T, number int) *replica.Replica {
	t.Helper()
	r, e := replica.New(number, plan(), []string{"ou=x", "ou=z"})
	if e != api.OK || r == nil {
		t.Fatalf("New = %v, %d", r, int(e))
	}
	return r
}

// attr makes an attribute.
func attr(name string, values ...string) api.Attr {
	return api.Attr{Name: name, Values: values}
}

// unit and person make valid entries.
func unit(name string) api.Entry {
	return api.Entry{Name: name, Attrs: []api.Attr{attr("class", "unit")}}
}

func person(name string, l ...api.Attr) api.Entry {
	return api.Entry{Name: name, Attrs: append([]api.Attr{attr("class", "person"), attr("cn", "a")}, l...)}
}

// added adds entries.
func added(t *testing.T, r *replica.Replica, now int, l ...api.Entry) {
	t.Helper()
	for _, e := range l {
		if id, bad := r.Add(e, now); bad != api.OK || id == "" {
			t.Fatalf("Add of %q = %q, %d", e, id, int(bad))
		}
	}
}

// received gives a replica the records that another one has.
func received(t *testing.T, to, from *replica.Replica) {
	t.Helper()
	if e := to.Receive(from.Since(nil)); e != api.OK {
		t.Fatalf("Receive = %d", int(e))
	}
}

// names returns the names of the entries of a replica.
func names(r *replica.Replica) []string {
	var l []string
	for _, e := range r.Entries() {
		l = append(l, e.Name)
	}
	return l
}

// same reports whether two entries are equal as they are.
func same(a, b api.Entry) bool {
	return a.Name == b.Name && slices.EqualFunc(a.Attrs, b.Attrs, func(x, y api.Attr) bool {
		return x.Name == y.Name && slices.Equal(x.Values, y.Values)
	})
}

// equal reports whether two replicas have the same log, vector and entries.
func equal(a, b *replica.Replica) bool {
	return slices.Equal(a.Since(nil), b.Since(nil)) && slices.Equal(a.Vector(), b.Vector()) && slices.EqualFunc(a.Entries(), b.Entries(), same)
}

// at makes a number.
func at(time, seq, number int) api.CSN {
	return api.CSN{Time: time, Seq: seq, Replica: number}
}

// created makes the record that creates an entry.
func created(c api.CSN, name string) api.Change {
	return api.Change{CSN: c, Op: api.CreateEntry, ID: csn.Format(c), Name: name}
}

// puts returns n records of replica 7 with consecutive numbers from {0, 1, 7}
// on, about no entry.
func puts(n int) []api.Change {
	var l []api.Change
	for i := range n {
		l = append(l, api.Change{CSN: at(0, i+1, 7), Op: api.PutValue, ID: csn.Format(at(1, 1, 1)), Attr: "cn", Value: "a"})
	}
	return l
}

// numbered returns n names of roots.
func numbered(n int) []string {
	var l []string
	for i := range n {
		l = append(l, "o=x"+strconv.Itoa(i))
	}
	return l
}

// P18.1
func TestNew(t *testing.T) {
	for number := range api.MaxReplicas {
		r := fresh(t, number)
		if r.Number() != number || r.Entries() != nil || r.Vector() != nil || r.Since(nil) != nil {
			t.Errorf("replica %d: %d, %q", number, r.Number(), r.Entries())
		}
	}
	roots := numbered(api.MaxItems)
	r, e := replica.New(0, plan(), roots)
	if e != api.OK {
		t.Fatalf("New with %d roots = %d", len(roots), int(e))
	}
	for _, s := range roots {
		if _, ok := r.Get(s); ok || r.Delete(s, 1) != api.ErrNone {
			t.Errorf("the root %q is an entry", s)
		}
		if _, e := r.Add(unit(s), 1); e != api.ErrTwice {
			t.Errorf("Add of the root %q = %d", s, int(e))
		}
	}
	added(t, r, 1, unit("ou=a,o=x0"), unit("ou=a,o=x255"))
	if _, e := r.Add(unit("ou=a,o=x256"), 1); e != api.ErrNone {
		t.Errorf("Add below no root = %d", int(e))
	}
}

// P18.1: the errors of New in their order.
func TestNewErrors(t *testing.T) {
	bad := plan()
	bad.Classes[1].Must[0] = "x"
	twice := plan()
	twice.Types[1].Name = "CLASS"
	type test struct {
		number int
		schema api.Schema
		roots  []string
		want   api.Errno
	}
	all := []test{
		{-1, plan(), []string{"ou=x"}, api.ErrArg},
		{api.MaxReplicas, plan(), []string{"ou=x"}, api.ErrArg},
		{-1, bad, nil, api.ErrArg},
		{0, bad, []string{"ou=x"}, schema.Check(bad)},
		{7, twice, nil, schema.Check(twice)},
		{0, api.Schema{}, []string{""}, api.ErrNone},
		{0, plan(), nil, api.ErrNone},
		{0, plan(), []string{}, api.ErrNone},
		{0, plan(), numbered(api.MaxItems + 1), api.ErrLimit},
		{0, plan(), make([]string, api.MaxItems+1), api.ErrLimit},
		{0, plan(), make([]string, api.MaxItems), api.ErrName},
		{0, plan(), []string{"ou=x", "ou=x", "OU=x"}, api.ErrTwice},
		{0, plan(), []string{"ou=x", "OU=x", "ou=x"}, api.ErrName},
		{0, plan(), append(numbered(api.MaxItems-1), "o=x0"), api.ErrTwice},
	}
	for _, s := range []string{"", " ", "x", "OU=x", "ou=X", "ou = x", "ou=x ", "ou=x,", "cn=a,ou=x", "ou=x+y", "ou=x  y", "ou=", "=x", "ou=é"} {
		all = append(all, test{0, plan(), []string{s}, api.ErrName}, test{0, plan(), []string{"ou=z", s}, api.ErrName})
	}
	for _, x := range all {
		if r, e := replica.New(x.number, x.schema, x.roots); r != nil || e != x.want || e == api.OK {
			t.Errorf("New(%d, %.40q) = %v, %d, not %d", x.number, x.roots, r, int(e), int(x.want))
		}
	}
}

// DOC.md, rule 1: nil, and replicas that New did not return.
func TestUnmade(t *testing.T) {
	made := fresh(t, 3)
	added(t, made, 1, unit("ou=a,ou=x"))
	log := made.Since(nil)
	copied := *made
	for i, r := range []*replica.Replica{nil, {}, new(replica.Replica), &copied} {
		id, e := r.Add(unit("ou=b,ou=x"), 2)
		if id != "" || e != api.ErrNil {
			t.Errorf("%d: Add = %q, %d", i, id, int(e))
		}
		if id, e := r.Add(api.Entry{}, 2); id != "" || e != api.ErrNil {
			t.Errorf("%d: Add of no entry = %q, %d", i, id, int(e))
		}
		for _, e := range []api.Errno{r.Modify("ou=a,ou=x", nil, 2), r.Modify("x", nil, 2), r.Delete("ou=a,ou=x", 2), r.Delete("x", 2), r.Rename("ou=a,ou=x", "ou=c,ou=x", 2), r.Rename("x", "", 2), r.Receive(puts(1)), r.Receive(nil), r.Receive([]api.Change{{}})} {
			if e != api.ErrNil {
				t.Errorf("%d: error %d", i, int(e))
			}
		}
		if e, ok := r.Get("ou=a,ou=x"); ok || !same(e, api.Entry{}) {
			t.Errorf("%d: Get = %q, %v", i, e, ok)
		}
		if r.Entries() != nil || r.Since(nil) != nil || r.Vector() != nil || r.Number() != 0 {
			t.Errorf("%d: not the zero values", i)
		}
	}
	if !slices.Equal(made.Since(nil), log) || !slices.Equal(names(made), []string{"ou=a,ou=x"}) {
		t.Errorf("changed: %v", made.Since(nil))
	}
}

// DOC.md, rule 4: arguments are neither changed nor kept, and results are new memory.
func TestNewMemory(t *testing.T) {
	s, roots := plan(), []string{"ou=x"}
	r, _ := replica.New(1, s, roots)
	s.Types[1].Name, s.Classes[0].Name, s.Classes[1].Must[0], s.Classes[1].May[0], roots[0] = "spoilt", "spoilt", "spoilt", "spoilt", "spoilt"
	e := person("CN=a,ou=x", attr("mail", "n", "m"))
	added(t, r, 1, e)
	if !same(e, person("CN=a,ou=x", attr("mail", "n", "m"))) {
		t.Errorf("Add changed its argument: %q", e)
	}
	mods := []api.Mod{{Op: api.AddValues, Name: "MAIL", Values: []string{"l"}}}
	if e := r.Modify("cn=a,ou=x", mods, 1); e != api.OK || mods[0].Name != "MAIL" || mods[0].Values[0] != "l" {
		t.Errorf("Modify = %d, %v", int(e), mods)
	}
	l := []api.Change{created(at(9, 0, 2), "ou=b,ou=x"), created(at(8, 0, 2), "ou=c,ou=x")}
	given := slices.Clone(l)
	if e := r.Receive(given); e != api.OK || !slices.Equal(given, l) {
		t.Errorf("Receive = %d, %v", int(e), given)
	}
	e.Attrs[0].Values[0], mods[0].Values[0] = "spoilt", "spoilt"
	clear(given)
	want := person("cn=a,ou=x", attr("mail", "l", "m", "n"))
	for range 2 {
		got, ok := r.Get("cn=a,ou=x")
		all := r.Entries()
		if !ok || !same(got, want) || len(all) != 3 || !same(all[0], want) || len(r.Since(nil)) != 8 || len(r.Vector()) != 2 {
			t.Fatalf("Get = %q, %v, Entries = %q", got, ok, all)
		}
		for _, e := range append(all, got) {
			for _, a := range e.Attrs {
				clear(a.Values)
			}
			clear(e.Attrs)
		}
		clear(r.Since(nil))
		clear(r.Vector())
	}
}

// P18.3: the errors of Receive in their order, after which nothing has changed.
func TestReceiveErrors(t *testing.T) {
	r := fresh(t, 2)
	added(t, r, 5, unit("ou=a,ou=x"))
	other := fresh(t, 2)
	added(t, other, 5, unit("ou=a,ou=x"))
	good, own := created(at(6, 0, 1), "ou=b,ou=x"), created(at(6, 0, 2), "ou=c,ou=x")
	wrong := good
	wrong.Name = "OU=b"
	for _, x := range []struct {
		l    []api.Change
		want api.Errno
	}{
		{[]api.Change{{}}, api.ErrArg},
		{[]api.Change{wrong}, api.ErrArg},
		{[]api.Change{good, wrong}, api.ErrArg},
		{[]api.Change{own}, api.ErrState},
		{[]api.Change{good, own}, api.ErrState},
		{[]api.Change{good, own, wrong}, api.ErrState},
		{[]api.Change{good, wrong, own}, api.ErrArg},
		{append(puts(api.MaxChanges), wrong), api.ErrArg},
		{append(puts(api.MaxChanges), own), api.ErrState},
		{puts(api.MaxChanges), api.ErrLimit},
		{puts(api.MaxChanges - 1), api.ErrLimit},
	} {
		if e := r.Receive(x.l); e != x.want {
			t.Errorf("Receive of %.3v = %d, not %d", x.l, int(e), int(x.want))
		}
		if !equal(r, other) {
			t.Fatalf("an error changed the log: %v", r.Since(nil))
		}
	}
	// Two records are in the log already.
	if e := r.Receive(append(puts(api.MaxChanges-2), r.Since(nil)...)); e != api.OK || len(r.Since(nil)) != api.MaxChanges {
		t.Errorf("Receive of a whole log = %d", int(e))
	}
	if e := r.Receive(append(puts(api.MaxChanges-2), puts(api.MaxChanges-2)...)); e != api.OK {
		t.Errorf("Receive of known records = %d", int(e))
	}
	if e := r.Receive([]api.Change{good}); e != api.ErrLimit {
		t.Errorf("Receive of one more = %d", int(e))
	}
	if e := r.Receive(nil); e != api.OK {
		t.Errorf("Receive of nothing = %d", int(e))
	}
}

// P18.3: the log is the union by change.Merge; of several records with one
// number the one with the least line stays, also without the others.
func TestReceiveSameNumber(t *testing.T) {
	a, b, c := created(at(1, 0, 1), "ou=a,ou=x"), created(at(1, 0, 1), "ou=b,ou=x"), created(at(1, 0, 1), "ou=c,ou=x")
	for _, l := range [][][]api.Change{{{a, b, c}}, {{c, b, a, c}}, {{c}, {b}, {a}}, {{b}, {a}, {c}}, {{a}, {c, b}}, {{b, c}, {c, a}}} {
		r := fresh(t, 0)
		for _, some := range l {
			if e := r.Receive(some); e != api.OK {
				t.Fatalf("Receive = %d", int(e))
			}
		}
		if !slices.Equal(names(r), []string{"ou=a,ou=x"}) || !slices.Equal(r.Since(nil), []api.Change{a}) {
			t.Errorf("after %v: %q, %v", l, names(r), r.Since(nil))
		}
		if e := r.Delete("ou=b,ou=x", 2); e != api.ErrNone {
			t.Errorf("Delete of what has lost its place = %d", int(e))
		}
	}
	// This holds for the replica's own numbers, too.
	r := fresh(t, 1)
	added(t, r, 1, unit("ou=b,ou=x"))
	l := r.Since(nil)
	l[0].Name = "ou=c,ou=x"
	if e := r.Receive(l); e != api.OK || !slices.Equal(names(r), []string{"ou=b,ou=x"}) {
		t.Errorf("Receive = %d, %q", int(e), names(r))
	}
	l[0].Name = "ou=a,ou=x"
	if e := r.Receive(l); e != api.OK || !slices.Equal(names(r), []string{"ou=a,ou=x"}) {
		t.Errorf("Receive = %d, %q", int(e), names(r))
	}
}

// P18.3: a replica is fresh until it has made a record by itself, also after
// it received some.
func TestFresh(t *testing.T) {
	a := fresh(t, 4)
	added(t, a, 5, unit("ou=a,ou=x"), unit("ou=b,ou=x"))
	log := a.Since(nil)
	b := fresh(t, 4)
	for _, c := range log {
		if e := b.Receive([]api.Change{c}); e != api.OK {
			t.Fatalf("Receive of an own number = %d", int(e))
		}
	}
	// These make no record.
	if b.Modify("ou=a,ou=x", nil, 9) != api.OK || b.Rename("ou=a,ou=x", "OU=A,ou=x", 9) != api.OK || b.Delete("ou=c,ou=x", 9) != api.ErrNone {
		t.Error("operations without records")
	}
	if _, e := b.Add(unit("ou=a,ou=x"), 9); e != api.ErrTwice {
		t.Errorf("Add = %d", int(e))
	}
	more := created(at(7, 0, 4), "ou=c,ou=x")
	if e := b.Receive([]api.Change{more}); e != api.OK {
		t.Errorf("Receive by a fresh replica = %d", int(e))
	}
	if e := b.Delete("ou=c,ou=x", 6); e != api.OK || b.Vector()[0] != at(7, 1, 4) {
		t.Errorf("Delete = %d, %v", int(e), b.Vector())
	}
	more.CSN.Time = 6
	if e := b.Receive([]api.Change{more}); e != api.ErrState {
		t.Errorf("Receive of a number in between = %d", int(e))
	}
	if e := b.Receive(b.Since(nil)); e != api.OK {
		t.Errorf("Receive of its own log = %d", int(e))
	}
}

// P18.3: the number of entries that are received is not limited.
func TestReceiveEntries(t *testing.T) {
	var l []api.Change
	for i := range api.MaxChanges {
		l = append(l, created(at(i, 0, i%8), "cn="+strconv.Itoa(i%2000)+",ou=x"))
	}
	r := fresh(t, 0)
	if e := r.Receive(l); e != api.OK || len(r.Entries()) != api.MaxChanges {
		t.Fatalf("Receive = %d, %d entries", int(e), len(r.Entries()))
	}
	if _, e := r.Add(unit("cn=2000,ou=x"), 1); e != api.ErrLimit {
		t.Errorf("Add = %d", int(e))
	}
}

// P18.2: Since and Vector are those of the log.
func TestSince(t *testing.T) {
	r := fresh(t, 1)
	l := []api.Change{created(at(3, 0, 0), "ou=a,ou=x"), created(at(4, 0, 0), "ou=b,ou=x"), created(at(4, 0, 5), "ou=c,ou=x")}
	if e := r.Receive([]api.Change{l[2], l[0], l[1]}); e != api.OK {
		t.Fatalf("Receive = %d", int(e))
	}
	if !slices.Equal(r.Vector(), []api.CSN{l[1].CSN, l[2].CSN}) {
		t.Errorf("Vector = %v", r.Vector())
	}
	for _, x := range []struct {
		v    []api.CSN
		want []api.Change
	}{
		{nil, l},
		{r.Vector(), nil},
		{[]api.CSN{at(3, 0, 0)}, l[1:]},
		{[]api.CSN{at(3, 1, 0), at(9, 9, 5)}, l[1:2]},
		{[]api.CSN{at(9, 0, 0)}, l[2:]},
		{[]api.CSN{at(9, 0, 5), at(9, 0, 0)}, l},
		{[]api.CSN{at(9, 0, 8)}, l},
	} {
		if got := r.Since(x.v); !slices.Equal(got, x.want) {
			t.Errorf("Since(%v) = %v, not %v", x.v, got, x.want)
		}
	}
}

// P18.2: Get finds entries of the view by any form of their name.
func TestGet(t *testing.T) {
	r := fresh(t, 1)
	added(t, r, 1, unit(`OU=A\,b , ou=x`))
	if e := r.Receive([]api.Change{created(at(1, 0, 0), "ou=c,ou=b,ou=x"), created(at(1, 1, 0), "ou=w"), created(at(1, 2, 0), "ou=d,ou=w"), created(at(1, 3, 0), "ou=z")}); e != api.OK {
		t.Fatalf("Receive = %d", int(e))
	}
	for _, s := range []string{`ou=a\,b,ou=x`, `Ou = a\,B,OU= X `} {
		if e, ok := r.Get(s); !ok || !same(e, unit(`ou=a\,b,ou=x`)) {
			t.Errorf("Get of %q = %q, %v", s, e, ok)
		}
	}
	for _, s := range []string{"", "x", "ou=x", "ou=y,ou=x", "ou=a,b,ou=x", "ou=c,ou=b,ou=x", "ou=b,ou=x", "ou=w", "ou=d,ou=w", "ou=z", `ou=a\,b`, "ou=a\x00,ou=x", strings.Repeat("a=b,", api.MaxDepth) + "ou=x"} {
		if e, ok := r.Get(s); ok || !same(e, api.Entry{}) {
			t.Errorf("Get of %q = %q, %v", s, e, ok)
		}
	}
	if !slices.Equal(names(r), []string{`ou=a\,b,ou=x`}) {
		t.Errorf("names: %q", names(r))
	}
}
