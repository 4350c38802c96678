package csn_test

import (
	"math/rand"
	"slices"
	"testing"

	"identity/api"
	"identity/csn"
)

// of makes a list of numbers.
func of(l ...api.CSN) []api.CSN {
	return l
}

// P15.4: the errors of an update vector, element by element.
func TestCheck(t *testing.T) {
	var full, long []api.CSN
	for replica := range api.MaxReplicas {
		full = append(full, at(api.MaxReplicas-replica, 0, replica))
	}
	for range 1000 {
		long = append(long, full...)
	}
	for _, x := range []struct {
		v    []api.CSN
		want api.Errno
	}{
		{nil, api.OK},
		{of(), api.OK},
		{of(at(0, 0, 0)), api.OK},
		{of(at(0, 0, 7)), api.OK},
		{of(at(9, 0, 0), at(0, 0, 2)), api.OK},
		{of(at(1, 0, 3), at(1, 0, 7)), api.OK},
		{full, api.OK},
		{of(at(1, 0, 2), at(1, 0, 0)), api.ErrForm},
		{of(at(1, 0, 2), at(3, 0, 2)), api.ErrTwice},
		{of(at(1, 0, 2), at(1, 0, 2)), api.ErrTwice},
		{of(at(1, 0, 0), at(1, 0, 2), at(1, 0, 0)), api.ErrTwice},
		{of(at(1, 0, 0), at(1, 0, 2), at(1, 0, 1)), api.ErrForm},
		{of(at(1, 0, 2), at(1, 0, 1), at(1, 0, 2)), api.ErrForm},
		{of(at(1, 0, 2), at(1, 0, 1), at(-1, 0, 2)), api.ErrForm},
		{of(at(1, 0, 2), at(1, 0, 2), at(-1, 0, 2)), api.ErrTwice},
		{of(at(-1, 0, 0)), api.ErrArg},
		{of(at(1, 0, 8)), api.ErrArg},
		{of(at(1, 0, -1)), api.ErrArg},
		{of(at(1, 0, 0), at(1, maxSeq+1, 0)), api.ErrArg},
		{of(at(1, 0, 1), at(api.MaxTime+1, 0, 0)), api.ErrArg},
		{of(at(1, 0, 0), at(1, 0, -1)), api.ErrArg},
		{slices.Concat(full, of(at(1, 0, 0))), api.ErrTwice},
		{slices.Concat(full, of(at(1, 0, 8))), api.ErrArg},
		{long, api.ErrTwice},
	} {
		if e := csn.Check(x.v); e != x.want {
			t.Errorf("Check(%v) = %d, not %d", x.v, int(e), int(x.want))
		}
	}
}

// errorOf is the definition of Check.
func errorOf(v []api.CSN) api.Errno {
	for i, c := range v {
		if !valid(c) {
			return api.ErrArg
		}
		for _, earlier := range v[:i] {
			if earlier.Replica == c.Replica {
				return api.ErrTwice
			}
		}
		if i > 0 && c.Replica < v[i-1].Replica {
			return api.ErrForm
		}
	}
	return api.OK
}

// P15.4: Check of all lists of up to four elements of a set gives what the
// definition gives.
func TestCheckDefinition(t *testing.T) {
	set := of(at(0, 0, 0), at(3, 0, 0), at(1, 0, 1), at(2, 0, 2), at(0, 5, 7), at(-1, 0, 0), at(0, 0, 8))
	lists := [][]api.CSN{nil}
	for i := 0; i < len(lists); i++ {
		l := lists[i]
		if e := csn.Check(l); e != errorOf(l) {
			t.Fatalf("Check(%v) = %d, not %d", l, int(e), int(errorOf(l)))
		}
		if len(l) == 4 {
			continue
		}
		for _, c := range set {
			lists = append(lists, append(slices.Clone(l), c))
		}
	}
}

// P15.5: examples of Covers.
func TestCovers(t *testing.T) {
	v := of(at(1, 0, 0), at(5, 3, 2))
	for _, x := range []struct {
		v    []api.CSN
		c    api.CSN
		want bool
	}{
		{v, at(1, 0, 0), true},
		{v, at(0, 9, 0), true},
		{v, at(1, 1, 0), false},
		{v, at(2, 0, 0), false},
		{v, at(0, 0, 1), false},
		{v, at(5, 3, 2), true},
		{v, at(5, 2, 2), true},
		{v, at(4, maxSeq, 2), true},
		{v, at(5, 4, 2), false},
		{v, at(0, 0, 3), false},
		{v, at(-1, 0, 0), false},
		{v, at(0, -1, 0), false},
		{v, at(0, 0, -1), false},
		{v, at(0, 0, 8), false},
		{nil, at(0, 0, 0), false},
		{of(at(5, 0, 2), at(5, 0, 0)), at(5, 0, 0), false},
		{of(at(5, 0, 0), at(6, 0, 0)), at(5, 0, 0), false},
		{of(at(5, 0, 0), at(6, 0, 9)), at(5, 0, 0), false},
		{of(at(0, 0, 8)), at(0, 0, 8), false},
		{of(at(0, 0, 8)), at(0, 0, 0), false},
	} {
		if got := csn.Covers(x.v, x.c); got != x.want {
			t.Errorf("Covers(%v, %v) = %v", x.v, x.c, got)
		}
	}
}

// P15.5: examples of Note and Join.
func TestNoteJoin(t *testing.T) {
	v := of(at(1, 0, 0), at(5, 0, 2))
	for _, x := range []struct {
		v    []api.CSN
		c    api.CSN
		want []api.CSN
	}{
		{v, at(0, 9, 0), v},
		{v, at(1, 0, 0), v},
		{v, at(1, 1, 0), of(at(1, 1, 0), at(5, 0, 2))},
		{v, at(6, 0, 2), of(at(1, 0, 0), at(6, 0, 2))},
		{v, at(7, 0, 1), of(at(1, 0, 0), at(7, 0, 1), at(5, 0, 2))},
		{v, at(0, 0, 7), of(at(1, 0, 0), at(5, 0, 2), at(0, 0, 7))},
		{of(at(5, 0, 2)), at(0, 0, 0), of(at(0, 0, 0), at(5, 0, 2))},
		{nil, at(0, 0, 0), of(at(0, 0, 0))},
		{v, at(-1, 0, 1), v},
		{v, at(9, 0, 8), v},
		{v, at(9, -1, 0), v},
		{nil, at(9, 0, -1), nil},
		{of(at(1, 0, 2), at(1, 0, 0)), at(3, 0, 1), of(at(3, 0, 1))},
		{of(at(1, 0, 2), at(1, 0, 2)), at(-3, 0, 1), nil},
	} {
		if got := csn.Note(x.v, x.c); !slices.Equal(got, x.want) {
			t.Errorf("Note(%v, %v) = %v, not %v", x.v, x.c, got, x.want)
		}
	}
	for _, x := range []struct{ a, b, want []api.CSN }{
		{v, of(at(4, 1, 0), at(2, 0, 1)), of(at(4, 1, 0), at(2, 0, 1), at(5, 0, 2))},
		{v, nil, v},
		{nil, nil, nil},
		{v, v, v},
		{v, of(at(0, 0, 0), at(9, 0, 2)), of(at(1, 0, 0), at(9, 0, 2))},
		{v, of(at(9, 0, 8)), v},
		{v, of(at(9, 0, 2), at(9, 0, 0)), v},
		{v, of(at(9, 0, 0), at(9, 1, 0)), v},
		{of(at(9, 0, 0), at(-1, 0, 1)), of(at(9, 0, -1)), nil},
	} {
		if got := csn.Join(x.a, x.b); !slices.Equal(got, x.want) {
			t.Errorf("Join(%v, %v) = %v, not %v", x.a, x.b, got, x.want)
		}
		if got := csn.Join(x.b, x.a); !slices.Equal(got, x.want) {
			t.Errorf("Join(%v, %v) = %v, not %v", x.b, x.a, got, x.want)
		}
	}
}

// P15.5: examples of Within.
func TestWithin(t *testing.T) {
	v := of(at(1, 0, 0), at(5, 0, 2))
	for _, x := range []struct {
		a, b []api.CSN
		want bool
	}{
		{v, v, true},
		{nil, v, true},
		{nil, nil, true},
		{v, nil, false},
		{of(at(5, 0, 2)), v, true},
		{of(at(4, 9, 2)), v, true},
		{of(at(5, 1, 2)), v, false},
		{of(at(0, 0, 1)), v, false},
		{of(at(1, 0, 0), at(0, 0, 1)), v, false},
		{of(at(2, 0, 0), at(5, 0, 2)), v, false},
		{v, of(at(1, 0, 0), at(0, 0, 1), at(6, 0, 2)), true},
		{of(at(9, 0, 2), at(9, 0, 0)), nil, true},
		{of(at(0, 0, 8)), nil, true},
		{v, of(at(9, 0, 2), at(9, 0, 0)), false},
		{v, of(at(9, 0, 0), at(9, 0, 2), at(0, 0, 8)), false},
	} {
		if got := csn.Within(x.a, x.b); got != x.want {
			t.Errorf("Within(%v, %v) = %v", x.a, x.b, got)
		}
	}
}

// small returns all numbers with three Times, two Seqs and three Replicas.
func small() []api.CSN {
	var l []api.CSN
	for time := range 3 {
		for seq := range 2 {
			for replica := range 3 {
				l = append(l, at(time, seq, replica))
			}
		}
	}
	return l
}

// vectors returns all update vectors of small numbers of two Times and three
// Replicas, and lists that are none.
func vectors() [][]api.CSN {
	l := [][]api.CSN{nil}
	for replica := range 3 {
		for _, v := range l[:len(l):len(l)] {
			for _, c := range of(at(0, 1, replica), at(1, 0, replica), at(1, 1, replica)) {
				l = append(l, append(slices.Clone(v), c))
			}
		}
	}
	return append(l, of(at(1, 1, 1), at(1, 1, 0)), of(at(1, 1, 0), at(1, 1, 0)), of(at(1, 1, 0), at(1, 1, 8)), of(at(-1, 0, 0), at(1, 1, 1)))
}

// contained returns the small numbers that v contains, by the definition.
func contained(v []api.CSN) map[api.CSN]bool {
	set := map[api.CSN]bool{}
	if errorOf(v) != api.OK {
		return set
	}
	for _, c := range small() {
		for _, e := range v {
			if e.Replica == c.Replica && !before(e, c) {
				set[c] = true
			}
		}
	}
	return set
}

// subset reports whether b has all elements of a.
func subset(a, b map[api.CSN]bool) bool {
	for c := range a {
		if !b[c] {
			return false
		}
	}
	return true
}

// P15.5: what Covers, Note and Join contain is what the vector, the number or
// either vector contains, and Within is the order by what is contained.
func TestContainedDefinition(t *testing.T) {
	for _, a := range vectors() {
		in := contained(a)
		for _, c := range append(small(), at(-1, 0, 0), at(0, 0, 8)) {
			if csn.Covers(a, c) != in[c] {
				t.Fatalf("Covers(%v, %v) = %v", a, c, !in[c])
			}
			noted := csn.Note(a, c)
			if csn.Check(noted) != api.OK || csn.Covers(noted, c) != valid(c) {
				t.Fatalf("Note(%v, %v) = %v", a, c, noted)
			}
			for _, d := range small() {
				if csn.Covers(noted, d) != (in[d] || valid(c) && c.Replica == d.Replica && !before(c, d)) {
					t.Fatalf("Note(%v, %v) = %v: %v", a, c, noted, d)
				}
			}
		}
		for _, b := range vectors() {
			also := contained(b)
			joined := csn.Join(a, b)
			for _, d := range small() {
				if csn.Covers(joined, d) != (in[d] || also[d]) {
					t.Fatalf("Join(%v, %v) = %v: %v", a, b, joined, d)
				}
			}
			if csn.Check(joined) != api.OK || csn.Within(a, b) != subset(in, also) {
				t.Fatalf("Join(%v, %v) = %v, Within %v", a, b, joined, !subset(in, also))
			}
		}
	}
}

// P15.5: Join is commutative, associative and idempotent, and the least vector
// that contains both; Within is a partial order.
func TestLaws(t *testing.T) {
	all := vectors()
	for _, a := range all {
		whole := csn.Join(a, nil)
		if !slices.Equal(csn.Join(a, a), whole) || !csn.Within(a, a) {
			t.Fatalf("%v: not idempotent, or not reflexive", a)
		}
		for _, b := range all {
			ab := csn.Join(a, b)
			if !slices.Equal(ab, csn.Join(b, a)) || !csn.Within(a, ab) || !csn.Within(b, ab) {
				t.Fatalf("Join(%v, %v) = %v", a, b, ab)
			}
			if csn.Within(a, b) && csn.Within(b, a) && !slices.Equal(whole, csn.Join(b, nil)) {
				t.Fatalf("Within is not antisymmetric: %v, %v", a, b)
			}
			for _, c := range all {
				if !slices.Equal(csn.Join(ab, c), csn.Join(a, csn.Join(b, c))) {
					t.Fatalf("Join is not associative: %v, %v, %v", a, b, c)
				}
				if csn.Within(a, c) && csn.Within(b, c) && !csn.Within(ab, c) {
					t.Fatalf("Join(%v, %v) = %v is not the least: %v", a, b, ab, c)
				}
				if csn.Within(a, b) && csn.Within(b, c) && !csn.Within(a, c) {
					t.Fatalf("Within is not transitive: %v, %v, %v", a, b, c)
				}
			}
		}
	}
}

// P15.5: a vector of all replicas after a random sequence of numbers has the
// latest one of each.
func TestNoteSequence(t *testing.T) {
	r := rand.New(rand.NewSource(3))
	latest := map[int]api.CSN{}
	var v []api.CSN
	for range 2000 {
		c := at(r.Intn(api.MaxTime+2)-r.Intn(2), r.Intn(maxSeq+2), r.Intn(api.MaxReplicas+2)-1)
		v = csn.Note(v, c)
		if old, found := latest[c.Replica]; valid(c) && (!found || before(old, c)) {
			latest[c.Replica] = c
		}
		var want []api.CSN
		for replica := range api.MaxReplicas {
			if l, found := latest[replica]; found {
				want = append(want, l)
			}
		}
		if !slices.Equal(v, want) {
			t.Fatalf("after %v: %v, not %v", c, v, want)
		}
	}
	if len(v) != api.MaxReplicas {
		t.Errorf("%d replicas", len(v))
	}
}

// DOC.md, rule 4: arguments are not modified, and results are new memory.
func TestNewMemory(t *testing.T) {
	// The capacity is greater than the length, so that an append in place
	// would be seen.
	v := append(make([]api.CSN, 0, 20), at(1, 0, 0), at(5, 0, 2))
	w := append(make([]api.CSN, 0, 20), at(3, 0, 1))
	before, behind := slices.Clone(v[:cap(v)]), slices.Clone(w[:cap(w)])
	for _, result := range [][]api.CSN{
		csn.Note(v, at(7, 0, 1)), csn.Note(v, at(7, 0, 7)), csn.Note(v, at(0, 0, 0)), csn.Note(v, at(-1, 0, 0)),
		csn.Join(v, w), csn.Join(w, v), csn.Join(v, v), csn.Join(v, nil), csn.Join(nil, v),
	} {
		for i := range result {
			result[i] = at(99, 99, 99)
		}
	}
	csn.Check(v)
	csn.Covers(v, at(1, 0, 0))
	csn.Within(v, w)
	if !slices.Equal(v[:cap(v)], before) || !slices.Equal(w[:cap(w)], behind) {
		t.Errorf("the arguments are %v, %v", v, w)
	}
}
