package merge_test

import (
	"slices"
	"strconv"
	"strings"
	"testing"

	"identity/api"
	"identity/change"
	"identity/csn"
	"identity/merge"
)

// at makes a number.
func at(time int) api.CSN {
	return api.CSN{Time: time}
}

// id is the identifier of the entry that was created at a time.
func id(time int) string {
	return csn.Format(at(time))
}

// create, remove, rename, put and drop make a record of each kind, with the
// time of its number and that of its identifier.
func create(time, of int, name string) api.Change {
	return api.Change{CSN: at(time), Op: api.CreateEntry, ID: id(of), Name: name}
}

func remove(time, of int) api.Change {
	return api.Change{CSN: at(time), Op: api.RemoveEntry, ID: id(of)}
}

func rename(time, of int, name string) api.Change {
	return api.Change{CSN: at(time), Op: api.RenameEntry, ID: id(of), Name: name}
}

func put(time, of int, attr, value string) api.Change {
	return api.Change{CSN: at(time), Op: api.PutValue, ID: id(of), Attr: attr, Value: value}
}

func drop(time, of int, attr, value string) api.Change {
	return api.Change{CSN: at(time), Op: api.DropValue, ID: id(of), Attr: attr, Value: value}
}

// state returns the state of records.
func state(t *testing.T, l ...api.Change) *merge.State {
	t.Helper()
	s, e := merge.Of(l)
	if e != api.OK || s == nil {
		t.Fatalf("Of(%v) = %v, %d", l, s, int(e))
	}
	return s
}

// same reports whether two entries are equal as they are.
func same(a, b api.Entry) bool {
	return a.Name == b.Name && slices.EqualFunc(a.Attrs, b.Attrs, func(x, y api.Attr) bool {
		return x.Name == y.Name && slices.Equal(x.Values, y.Values)
	})
}

// wantEntry checks the entry with an identifier; no name means that it is not live.
func wantEntry(t *testing.T, s *merge.State, of int, name string, l ...api.Attr) {
	t.Helper()
	e, ok := s.Entry(id(of))
	if ok != (name != "") || !same(e, api.Entry{Name: name, Attrs: l}) {
		t.Errorf("Entry of %d = %q, %v, not %q, %q", of, e, ok, name, l)
	}
}

// wantFound checks the entry that Find finds; 0 means none.
func wantFound(t *testing.T, s *merge.State, name string, of int) {
	t.Helper()
	want := ""
	if of != 0 {
		want = id(of)
	}
	if got, ok := s.Find(name); got != want || ok != (of != 0) {
		t.Errorf("Find of %q = %q, %v, not %q", name, got, ok, want)
	}
}

// wantIDs checks a list of identifiers.
func wantIDs(t *testing.T, what string, got []string, of ...int) {
	t.Helper()
	var want []string
	for _, n := range of {
		want = append(want, id(n))
	}
	if !slices.Equal(got, want) {
		t.Errorf("%s = %q, not %q", what, got, want)
	}
}

// both checks a state and the one of the same records in the opposite order.
func both(t *testing.T, l []api.Change, check func(s *merge.State)) {
	t.Helper()
	check(state(t, l...))
	back := slices.Clone(l)
	slices.Reverse(back)
	check(state(t, back...))
}

// P17.1
func TestNew(t *testing.T) {
	for _, s := range []*merge.State{merge.New(), state(t), merge.New().Clone()} {
		if s == nil || s.Live() != nil || s.Conflicts() != nil || s.Orphans() != nil || s.Entries() != nil {
			t.Errorf("a new state: %v", s)
		}
		wantEntry(t, s, 1, "")
		wantFound(t, s, "cn=x,o=a", 0)
		if e := s.Apply(create(1, 1, "cn=x,o=a")); e != api.OK {
			t.Errorf("Apply = %d", int(e))
		}
		wantEntry(t, s, 1, "cn=x,o=a")
		wantFound(t, s, "cn=x,o=a", 1)
		wantIDs(t, "Live", s.Live(), 1)
	}
}

// DOC.md, rule 1: nil, and states that no function of the package returned.
func TestUnmade(t *testing.T) {
	made := state(t, create(1, 1, "cn=x,o=a"), create(2, 2, "cn=x,o=a"), create(3, 3, "cn=x,cn=z,o=a"))
	copied := *made
	for i, s := range []*merge.State{nil, {}, new(merge.State), &copied} {
		if e := s.Apply(put(4, 1, "cn", "a")); e != api.ErrNil {
			t.Errorf("%d: Apply = %d", i, int(e))
		}
		if e := s.Apply(api.Change{}); e != api.ErrNil {
			t.Errorf("%d: Apply of an invalid record = %d", i, int(e))
		}
		if s.Clone() != nil || s.Live() != nil || s.Conflicts() != nil || s.Orphans() != nil || s.Entries() != nil {
			t.Errorf("%d: not the zero values", i)
		}
		wantEntry(t, s, 1, "")
		wantFound(t, s, "cn=x,o=a", 0)
		wantFound(t, s, "", 0)
	}
	wantEntry(t, made, 1, "cn=x,o=a")
}

// invalid are records that change.Check rejects.
func invalid() []api.Change {
	l := []api.Change{{}, create(-1, 1, "cn=x,o=a"), {CSN: at(1), Op: 6, ID: id(1)}, {CSN: at(1), ID: id(1)}, create(1, 1, ""), create(1, 1, "CN=x"), rename(1, 1, "cn=x, o=a"), put(1, 1, "CN", "a"), put(1, 1, "", "a"), put(1, 1, "cn", ""), drop(1, 1, "cn", " a")}
	for _, c := range []api.Change{create(1, 1, "cn=x"), remove(1, 1), put(1, 1, "cn", "a")} {
		c.ID = "x"
		l = append(l, c)
		c.ID = strings.Replace(id(0xa), "a", "A", 1)
		l = append(l, c)
	}
	used := remove(1, 1)
	used.Value = "a"
	return append(l, used)
}

// P17.1: the errors of records, after which nothing has changed.
func TestApplyErrors(t *testing.T) {
	valid := []api.Change{create(1, 1, "cn=x,o=a"), put(2, 1, "cn", "a")}
	s := state(t, valid...)
	for _, c := range invalid() {
		want := change.Check(c)
		if want == api.OK {
			t.Fatalf("%v is valid", c)
		}
		if e := s.Apply(c); e != want {
			t.Errorf("Apply(%v) = %d, not %d", c, int(e), int(want))
		}
		if got, e := merge.Of(append(valid[:2:2], c)); got != nil || e != want {
			t.Errorf("Of with %v = %v, %d, not %d", c, got, int(e), int(want))
		}
		if got, e := merge.Of([]api.Change{c, {}}); got != nil || e != want {
			t.Errorf("Of beginning with %v = %v, %d, not %d", c, got, int(e), int(want))
		}
	}
	wantIDs(t, "Live", s.Live(), 1)
	wantEntry(t, s, 1, "cn=x,o=a", api.Attr{Name: "cn", Values: []string{"a"}})
}

// P17.1: the number of records; equal ones are one.
func TestLimit(t *testing.T) {
	l := []api.Change{create(1, 1, "cn=x,o=a")}
	for i := 1; i < api.MaxChanges; i++ {
		l = append(l, put(i, 1, "cn", strconv.Itoa(i%5)))
	}
	s := state(t, l...)
	for _, c := range l {
		if e := s.Apply(c); e != api.OK {
			t.Fatalf("Apply of a record once more = %d", int(e))
		}
	}
	more := []api.Change{remove(1, 1), put(1, 1, "cn", "a"), create(1, 1, "cn=y,o=a"), create(9, 9, "cn=x,o=a")}
	for _, c := range more {
		if e := s.Apply(c); e != api.ErrLimit {
			t.Errorf("Apply of %v to a full state = %d", c, int(e))
		}
		if got, e := merge.Of(append(l[:len(l):len(l)], c, api.Change{})); got != nil || e != api.ErrLimit {
			t.Errorf("Of too many records = %v, %d", got, int(e))
		}
	}
	if e := s.Apply(api.Change{}); e != api.ErrArg {
		t.Errorf("Apply of an invalid record to a full state = %d", int(e))
	}
	wantIDs(t, "Live", s.Live(), 1)
	wantEntry(t, s, 1, "cn=x,o=a", api.Attr{Name: "cn", Values: []string{"0", "1", "2", "3", "4"}})
	if e := s.Clone().Apply(remove(1, 1)); e != api.ErrLimit {
		t.Errorf("Apply to a full copy = %d", int(e))
	}
	twice := state(t, append(l, l...)...)
	if e := twice.Apply(more[0]); e != api.ErrLimit {
		t.Errorf("Apply to a state of records that arrived twice = %d", int(e))
	}
	less := state(t, append(l[1:], l[1:]...)...)
	if e := less.Apply(l[0]); e != api.OK {
		t.Errorf("Apply of the last record = %d", int(e))
	}
}

// P17.1: Clone is independent of the state, in both directions.
func TestClone(t *testing.T) {
	l := []api.Change{create(1, 1, "cn=x,o=a"), put(2, 1, "cn", "a"), create(3, 3, "cn=x,o=a"), create(4, 4, "cn=y,cn=z,o=a")}
	a := state(t, l...)
	b := a.Clone()
	before := a.Entries()
	unchanged := func(s *merge.State) {
		t.Helper()
		if !slices.EqualFunc(s.Entries(), before, same) {
			t.Errorf("entries: %q, not %q", s.Entries(), before)
		}
		wantIDs(t, "Conflicts", s.Conflicts(), 3)
		wantIDs(t, "Orphans", s.Orphans(), 4)
		wantFound(t, s, "cn=x,o=a", 1)
	}
	unchanged(b)
	for i, s := range []*merge.State{a, b} {
		other := s.Clone()
		for _, c := range []api.Change{put(5, 1, "cn", "b"), drop(6, 1, "cn", "a"), put(5, 1, "mail", "m"), rename(5, 1, "cn=w,o=a"), create(5, 5, "cn=z,o=a"), create(0, 0, "cn=x,o=a"), remove(7, 4)} {
			if e := s.Apply(c); e != api.OK {
				t.Fatalf("Apply = %d", int(e))
			}
		}
		unchanged(other)
		wantIDs(t, "Live", s.Live(), 0, 1, 3, 5)
		if i == 0 {
			unchanged(b)
		}
	}
}

// P17.1: also if there is room behind the records of a state.
func TestCloneRoom(t *testing.T) {
	for n := range 20 {
		l := []api.Change{create(1, 1, "cn=x,o=a")}
		for i := range n {
			l = append(l, put(10+i, 1, "cn", strconv.Itoa(100+i)), rename(10+i, 1, "cn="+strconv.Itoa(100+i)+",o=a"))
		}
		a := state(t, l...)
		b := a.Clone()
		before := a.Entries()
		for _, s := range []*merge.State{a, b} {
			if !slices.EqualFunc(s.Entries(), before, same) {
				t.Errorf("%d: %q, not %q", n, s.Entries(), before)
			}
			s.Apply(put(5, 1, "cn", "early"))
			s.Apply(rename(5, 1, "cn=early,o=a"))
			s.Apply(remove(6, 1))
		}
	}
}

// P17.1, and DOC.md, rule 4: results share no memory with the state, and
// arguments are not changed.
func TestNewMemory(t *testing.T) {
	l := []api.Change{create(1, 1, "cn=x,o=a"), put(2, 1, "cn", "a"), put(3, 1, "cn", "b"), create(4, 4, "cn=x,o=a"), create(5, 5, "cn=y,cn=z,o=a")}
	given := slices.Clone(l)
	s := state(t, given...)
	if !slices.Equal(given, l) {
		t.Errorf("Of changed its argument: %v", given)
	}
	clear(given)
	for range 2 {
		for _, ids := range [][]string{s.Live(), s.Conflicts(), s.Orphans()} {
			_ = append(ids, "spoilt")
			for i := range ids {
				ids[i] = "spoilt"
			}
		}
		e, _ := s.Entry(id(1))
		for _, e := range append(s.Entries(), e) {
			for _, a := range e.Attrs {
				_ = append(a.Values, "spoilt")
				clear(a.Values)
			}
			clear(e.Attrs)
		}
	}
	wantIDs(t, "Live", s.Live(), 1, 4, 5)
	wantIDs(t, "Conflicts", s.Conflicts(), 4)
	wantIDs(t, "Orphans", s.Orphans(), 5)
	wantEntry(t, s, 1, "cn=x,o=a", api.Attr{Name: "cn", Values: []string{"a", "b"}})
}
