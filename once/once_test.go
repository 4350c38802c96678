package once_test

import (
	"math"
	"math/rand"
	"slices"
	"strconv"
	"strings"
	"testing"

	"identity/api"
	"identity/once"
)

// register returns a new register.
func register(t *testing.T, most int) *once.Register {
	t.Helper()
	r, e := once.New(most)
	if r == nil || e != api.OK {
		t.Fatalf("New of %d = %v, %d", most, r, int(e))
	}
	return r
}

// wantUse checks the result of Use.
func wantUse(t *testing.T, r *once.Register, id string, until, now int, want api.Errno) {
	t.Helper()
	if e := r.Use(id, until, now); e != want {
		t.Errorf("Use of %q until %d at %d = %d, not %d", id, until, now, int(e), int(want))
	}
}

// wantUntil checks that an identifier is seen up to an instant, but not at it.
func wantUntil(t *testing.T, r *once.Register, id string, until int) {
	t.Helper()
	if until > 0 && !r.Seen(id, until-1) || r.Seen(id, until) {
		t.Errorf("%q is not seen until %d: %v, %v", id, until, r.Seen(id, until-1), r.Seen(id, until))
	}
}

// wantLen checks the number of identifiers.
func wantLen(t *testing.T, r *once.Register, want int) {
	t.Helper()
	if got := r.Len(); got != want {
		t.Errorf("Len = %d, not %d", got, want)
	}
}

// notWords returns strings that are no words.
func notWords() []string {
	return []string{"", " ", "a b", "a ", " a", "a|", "a%20", "ä", "a\n", "\xff", strings.Repeat("a", api.MaxName+1)}
}

// P27.1
func TestNew(t *testing.T) {
	for most, want := range map[int]api.Errno{
		1: api.OK, 2: api.OK, api.MaxItems - 1: api.OK, api.MaxItems: api.OK,
		0: api.ErrArg, -1: api.ErrArg, math.MinInt: api.ErrArg, api.MaxItems + 1: api.ErrArg, math.MaxInt: api.ErrArg,
	} {
		r, e := once.New(most)
		if e != want || (r != nil) != (e == api.OK) {
			t.Errorf("New of %d = %v, %d", most, r, int(e))
		}
		wantLen(t, r, 0)
		if r.Seen("a", 0) || r.Purge(api.MaxTime) != 0 {
			t.Errorf("New of %d is not empty", most)
		}
	}
}

// P27.1, P27.6: a register has room for exactly as many identifiers as New says.
func TestMost(t *testing.T) {
	for _, most := range []int{1, 2, 3, api.MaxItems} {
		r := register(t, most)
		for i := range most {
			wantUse(t, r, strconv.Itoa(i), 10, 5, api.OK)
			wantLen(t, r, i+1)
		}
		wantUse(t, r, "late", 20, 9, api.ErrLimit)
		wantLen(t, r, most)
		if r.Seen("late", 9) {
			t.Errorf("an identifier too many of %d", most)
		}
		for i := range most {
			wantUse(t, r, strconv.Itoa(i), 20, 9, api.ErrReplay)
			wantUntil(t, r, strconv.Itoa(i), 10)
		}
		wantUse(t, r, "late", 20, 10, api.OK)
		wantLen(t, r, 1)
	}
}

// DOC.md, rule 1: nil, and registers that New did not return.
func TestUnmade(t *testing.T) {
	made := register(t, 2)
	wantUse(t, made, "a", 10, 5, api.OK)
	copied := *made
	for i, r := range []*once.Register{nil, {}, new(once.Register), &copied} {
		// ErrNil comes before all other errors.
		for _, id := range []string{"a", "b", "a b"} {
			wantUse(t, r, id, 10, 5, api.ErrNil)
			wantUse(t, r, id, 5, 5, api.ErrNil)
		}
		if r.Seen("a", 5) || r.Seen("b", 5) || r.Purge(20) != 0 || r.Len() != 0 {
			t.Errorf("%d: %v, %d", i, r.Seen("a", 5), r.Len())
		}
	}
	wantLen(t, made, 1)
	wantUntil(t, made, "a", 10)
}

// P27.2: the examples of the chapter.
func TestExamples(t *testing.T) {
	r := register(t, 1)
	wantUse(t, r, "a", 10, 5, api.OK)
	wantUse(t, r, "a", 10, 9, api.ErrReplay)
	wantUse(t, r, "b", 20, 9, api.ErrLimit)
	wantUse(t, r, "b", 20, 10, api.OK)
	wantLen(t, r, 1)
	r = register(t, 1)
	wantUse(t, r, "a", 10, 10, api.ErrExpired)
	wantLen(t, r, 0)
	wantUse(t, r, "a", 10, 5, api.OK)
	wantUse(t, r, "a", 30, 12, api.OK)
	if !r.Seen("a", 25) {
		t.Error("a is not seen at 25")
	}
}

// P27.2: identifiers are words, compared byte by byte.
func TestUseNames(t *testing.T) {
	r := register(t, api.MaxItems)
	for _, id := range notWords() {
		wantUse(t, r, id, 10, 5, api.ErrName)
		if r.Seen(id, 5) {
			t.Errorf("%q is seen", id)
		}
	}
	wantLen(t, r, 0)
	words := []string{"a", "A", "a.", "1:a.b_c-d", "-", strings.Repeat("a", api.MaxName)}
	for i, id := range words {
		wantUse(t, r, id, 10+i, 5, api.OK)
	}
	for i, id := range words {
		wantUntil(t, r, id, 10+i)
	}
	wantLen(t, r, len(words))
}

// P27.2: the errors of Use in their order. None of them changes anything.
func TestUseErrors(t *testing.T) {
	r := register(t, 2)
	wantUse(t, r, "a", 10, 5, api.OK)
	wantUse(t, r, "b", 12, 5, api.OK)
	for _, x := range []struct {
		id         string
		until, now int
		want       api.Errno
	}{
		{"a b", 5, 5, api.ErrName}, {"", 20, 5, api.ErrName},
		{"a", 5, 5, api.ErrExpired}, {"a", 4, 5, api.ErrExpired}, {"a", 9, 9, api.ErrExpired}, {"a", 10, 10, api.ErrExpired},
		{"c", 5, 5, api.ErrExpired}, {"c", 5, 20, api.ErrExpired}, {"c", 20, 20, api.ErrExpired},
		{"a", 20, 9, api.ErrReplay}, {"a", 8, 7, api.ErrReplay}, {"b", 20, 11, api.ErrReplay}, {"a", 20, 0, api.ErrReplay},
		{"c", 20, 9, api.ErrLimit}, {"c", 6, 5, api.ErrLimit}, {"c", 1, 0, api.ErrLimit},
	} {
		wantUse(t, r, x.id, x.until, x.now, x.want)
		wantLen(t, r, 2)
		wantUntil(t, r, "a", 10)
		wantUntil(t, r, "b", 12)
		wantUntil(t, r, "c", 0)
	}
}

// P27.2: what is forgotten by Use, and what is not.
func TestUseForgets(t *testing.T) {
	// Nothing, as long as there is room.
	r := register(t, 3)
	wantUse(t, r, "a", 10, 5, api.OK)
	wantUse(t, r, "b", 10, 5, api.OK)
	wantUse(t, r, "c", 20, 10, api.OK)
	wantLen(t, r, 3)
	wantUntil(t, r, "a", 10)
	// Nothing, if the identifier is held: only its own until changes.
	wantUse(t, r, "b", 30, 15, api.OK)
	wantLen(t, r, 3)
	wantUntil(t, r, "a", 10)
	wantUntil(t, r, "b", 30)
	// All that have expired, if there is no room.
	wantUse(t, r, "a", 18, 15, api.OK)
	wantUse(t, r, "d", 40, 19, api.OK)
	wantLen(t, r, 3)
	wantUntil(t, r, "a", 0)
	wantUntil(t, r, "c", 20)
	wantUse(t, r, "e", 40, 30, api.OK)
	wantLen(t, r, 2)
	wantUntil(t, r, "b", 0)
	wantUntil(t, r, "c", 0)
	wantUntil(t, r, "d", 40)
	wantUntil(t, r, "e", 40)
}

// P27.2, P27.3: time may go backwards.
func TestBackwards(t *testing.T) {
	r := register(t, 1)
	wantUse(t, r, "a", 10, 9, api.OK)
	if r.Seen("a", 10) || !r.Seen("a", 9) || !r.Seen("a", 0) {
		t.Error("what was not forgotten has expired at an earlier instant")
	}
	wantUse(t, r, "a", 10, 3, api.ErrReplay)
	wantUse(t, r, "b", 20, 3, api.ErrLimit)
	if n := r.Purge(10); n != 1 || r.Seen("a", 3) {
		t.Errorf("Purge = %d", n)
	}
	wantUse(t, r, "b", 8, 3, api.OK)
	wantUse(t, r, "a", 10, 8, api.OK)
	wantUse(t, r, "b", 8, 3, api.ErrLimit)
}

// DOC.md, rule 6: instants are limited.
func TestInstants(t *testing.T) {
	for _, x := range []struct {
		until, now int
		want       api.Errno
	}{
		{1, 0, api.OK}, {1, -1, api.OK}, {1, math.MinInt, api.OK},
		{0, 0, api.ErrExpired}, {0, -1, api.ErrExpired}, {-1, -2, api.ErrExpired}, {-1, math.MinInt, api.ErrExpired},
		{api.MaxTime, api.MaxTime - 1, api.OK}, {math.MaxInt, api.MaxTime - 1, api.OK}, {api.MaxTime + 1, 0, api.OK},
		{api.MaxTime, api.MaxTime, api.ErrExpired}, {math.MaxInt, api.MaxTime, api.ErrExpired}, {math.MaxInt, api.MaxTime + 1, api.ErrExpired},
	} {
		r := register(t, 1)
		wantUse(t, r, "a", x.until, x.now, x.want)
		if x.want != api.OK {
			wantLen(t, r, 0)
			continue
		}
		until := min(x.until, api.MaxTime)
		wantUntil(t, r, "a", until)
		if !r.Seen("a", math.MinInt) || !r.Seen("a", -1) || r.Seen("a", math.MaxInt) {
			t.Errorf("Seen of an identifier until %d", x.until)
		}
		wantUse(t, r, "a", math.MaxInt, math.MinInt, api.ErrReplay)
		if n := r.Purge(math.MinInt); n != 0 {
			t.Errorf("Purge before all instants = %d", n)
		}
		if n := r.Purge(math.MaxInt); n != 1 || r.Len() != 0 {
			t.Errorf("Purge after all instants = %d", n)
		}
	}
}

// P27.3
func TestPurge(t *testing.T) {
	r := register(t, 5)
	for i, id := range []string{"a", "b", "c", "d", "e"} {
		wantUse(t, r, id, []int{10, 20, 10, 11, 30}[i], 5, api.OK)
	}
	for _, x := range []struct{ now, want, left int }{{5, 0, 5}, {9, 0, 5}, {10, 2, 3}, {10, 0, 3}, {5, 0, 3}, {20, 2, 1}, {29, 0, 1}, {30, 1, 0}, {40, 0, 0}} {
		if n := r.Purge(x.now); n != x.want {
			t.Errorf("Purge at %d = %d, not %d", x.now, n, x.want)
		}
		wantLen(t, r, x.left)
	}
	if r.Seen("a", 5) || r.Seen("e", 5) {
		t.Error("what was forgotten is seen")
	}
	wantUse(t, r, "a", 10, 5, api.OK)
	wantUntil(t, r, "a", 10)
}

// model is a register by the definitions of the chapter: a list of identifiers
// with their instants.
type model struct {
	most   int
	ids    []string
	untils []int
}

// find returns the index of an identifier, or -1.
func (m *model) find(id string) int {
	for i := range m.ids {
		if m.ids[i] == id {
			return i
		}
	}
	return -1
}

// purge forgets what has expired, and returns how many there were.
func (m *model) purge(now int) int {
	rest := model{most: m.most}
	for i := range m.ids {
		if m.untils[i] > now {
			rest.ids, rest.untils = append(rest.ids, m.ids[i]), append(rest.untils, m.untils[i])
		}
	}
	n := len(m.ids) - len(rest.ids)
	*m = rest
	return n
}

// seen reports whether an identifier is held and has not expired.
func (m *model) seen(id string, now int) bool {
	i := m.find(id)
	return i >= 0 && m.untils[i] > now
}

// use records an identifier.
func (m *model) use(id string, until, now int) api.Errno {
	i := m.find(id)
	if until <= now {
		return api.ErrExpired
	}
	if m.seen(id, now) {
		return api.ErrReplay
	}
	if i >= 0 {
		m.untils[i] = until
		return api.OK
	}
	if len(m.ids) == m.most && m.purge(now) == 0 {
		return api.ErrLimit
	}
	m.ids, m.untils = append(m.ids, id), append(m.untils, until)
	return api.OK
}

// P27.1 to P27.3, P27.6: random calls have the results of the definitions.
func TestDefinition(t *testing.T) {
	random := rand.New(rand.NewSource(1))
	ids := []string{"a", "b", "c", "d", "e", "f"}
	counts := map[api.Errno]int{}
	for range 300 {
		m := &model{most: 1 + random.Intn(5)}
		r, now := register(t, m.most), 0
		for range 100 {
			now = max(0, now+random.Intn(8)-3)
			if random.Intn(10) == 0 {
				if n, want := r.Purge(now), m.purge(now); n != want {
					t.Fatalf("Purge at %d = %d, not %d", now, n, want)
				}
			} else {
				id, until := ids[random.Intn(len(ids))], now+random.Intn(20)-2
				e, want := r.Use(id, until, now), m.use(id, max(0, until), now)
				if e != want {
					t.Fatalf("Use of %s until %d at %d = %d, not %d", id, until, now, int(e), int(want))
				}
				counts[e]++
			}
			for _, id := range ids {
				at := max(0, now+random.Intn(30)-15)
				if got := r.Seen(id, at); got != m.seen(id, at) {
					t.Fatalf("Seen of %s at %d = %v", id, at, got)
				}
			}
			if r.Len() != len(m.ids) || r.Len() > m.most {
				t.Fatalf("Len = %d of %d, not %d", r.Len(), m.most, len(m.ids))
			}
		}
	}
	for _, e := range []api.Errno{api.OK, api.ErrExpired, api.ErrReplay, api.ErrLimit} {
		if counts[e] < 1000 {
			t.Errorf("error %d occurs %d times", int(e), counts[e])
		}
	}
}

// P27.4: an identifier is accepted once, whatever happens before its until.
func TestSingleUse(t *testing.T) {
	random := rand.New(rand.NewSource(2))
	for range 300 {
		r := register(t, 1+random.Intn(3))
		until := 20 + random.Intn(20)
		wantUse(t, r, "a", until, random.Intn(until), api.OK)
		for range 50 {
			now := random.Intn(until)
			switch random.Intn(3) {
			case 0:
				r.Purge(now)
			case 1:
				r.Use([]string{"b", "c", "d"}[random.Intn(3)], now+random.Intn(30), now)
			}
			now = random.Intn(until)
			wantUse(t, r, "a", now+1+random.Intn(50), now, api.ErrReplay)
		}
		wantUntil(t, r, "a", until)
		wantUse(t, r, "a", until+1, until, api.OK)
	}
}

// step is a call of Use.
type step struct {
	id         string
	until, now int
}

// replayed makes calls, Purge if it is wanted, and later calls. It returns how
// many identifiers Purge forgot, and the results of the later calls.
func replayed(t *testing.T, most int, first []step, purge bool, then []step) (purged int, seen []bool, uses []api.Errno) {
	t.Helper()
	r, now := register(t, most), 0
	for _, s := range first {
		now = s.now
		r.Use(s.id, s.until, now)
	}
	if purge {
		before := r.Len()
		purged = r.Purge(now)
		wantLen(t, r, before-purged)
		if n := r.Purge(now); n != 0 {
			t.Errorf("a second Purge = %d", n)
		}
	}
	for _, s := range then {
		for _, id := range []string{"a", "b", "c", "d"} {
			seen = append(seen, r.Seen(id, s.now))
		}
		uses = append(uses, r.Use(s.id, s.until, s.now))
	}
	return purged, seen, uses
}

// steps returns random calls at instants that do not go backwards, and the last instant.
func steps(random *rand.Rand, now int) ([]step, int) {
	var l []step
	for range 12 {
		now += random.Intn(3)
		l = append(l, step{[]string{"a", "b", "c", "d"}[random.Intn(4)], now + random.Intn(12), now})
	}
	return l, now
}

// P27.5: Purge changes no results at the same instant or later ones.
func TestPurgeChangesNothing(t *testing.T) {
	random := rand.New(rand.NewSource(3))
	count := 0
	for range 2000 {
		most := 1 + random.Intn(4)
		first, now := steps(random, 0)
		then, _ := steps(random, now)
		_, seen, uses := replayed(t, most, first, false, then)
		purged, seenAfter, usesAfter := replayed(t, most, first, true, then)
		if !slices.Equal(seen, seenAfter) {
			t.Fatalf("%v, %v: Purge changes Seen: %v, %v", first, then, seen, seenAfter)
		}
		if !slices.Equal(uses, usesAfter) {
			t.Fatalf("%v, %v: Purge changes Use: %v, %v", first, then, uses, usesAfter)
		}
		if purged > 0 {
			count++
		}
	}
	if count < 500 {
		t.Errorf("Purge forgot something %d times", count)
	}
}

// P27.6: Use of one identifier changes no result of Seen for others at the same
// instant or later ones.
func TestApart(t *testing.T) {
	random := rand.New(rand.NewSource(4))
	ids := []string{"a", "b", "c", "d"}
	for range 500 {
		most, now := 1+random.Intn(4), 0
		r := register(t, most)
		for range 30 {
			now += random.Intn(4)
			id := ids[random.Intn(len(ids))]
			before := map[string][]bool{}
			for _, other := range ids {
				for at := now; at < now+25; at++ {
					before[other] = append(before[other], r.Seen(other, at))
				}
			}
			r.Use(id, now+random.Intn(20), now)
			for _, other := range ids {
				for i, want := range before[other] {
					if other != id && r.Seen(other, now+i) != want {
						t.Fatalf("Use of %s at %d changes Seen of %s at %d", id, now, other, now+i)
					}
				}
			}
			if r.Len() > most {
				t.Fatalf("Len = %d of %d", r.Len(), most)
			}
		}
	}
}

// P27.6: registers are apart from each other.
func TestTwoRegisters(t *testing.T) {
	r, other := register(t, 1), register(t, 1)
	wantUse(t, r, "a", 10, 5, api.OK)
	wantLen(t, other, 0)
	wantUse(t, other, "a", 20, 5, api.OK)
	r.Purge(15)
	wantLen(t, r, 0)
	wantUntil(t, other, "a", 20)
}
