package keys_test

import (
	"math"
	"math/rand"
	"slices"
	"strings"
	"testing"

	"identity/api"
	"identity/clock"
	"identity/keys"
)

// window returns a window.
func window(from, until int) api.Window {
	return api.Window{From: from, Until: until}
}

// key returns a key with a secret of its own.
func key(id string, sign, accept api.Window) api.Key {
	return api.Key{ID: id, Secret: "secret of " + id, Sign: sign, Accept: accept}
}

// ring returns n keys that sign in [1, 5) and are accepted in [0, 9).
func ring(n int) []api.Key {
	var l []api.Key
	for i := range n {
		l = append(l, key("k"+string(rune('a'+i)), window(1, 5), window(0, 9)))
	}
	return l
}

// bytes returns n bytes.
func bytes(n int) string {
	return strings.Repeat("b", n)
}

// notWords returns strings that are no words.
func notWords() []string {
	return []string{"", " ", "a b", "k ", " k", "k|", "k%20", "ké", "k\n", "\xff", bytes(api.MaxName + 1)}
}

// notValues returns strings that are no values.
func notValues() []string {
	return []string{"", " ", " s", "s ", "s\n", "é", "\x7f", "\xff", "\x00", bytes(api.MaxValue + 1)}
}

// random returns a ring of up to five keys, which is valid, with instants up to most.
func random(r *rand.Rand, most int) []api.Key {
	var l []api.Key
	for _, i := range r.Perm(5)[:r.Intn(6)] {
		at := []int{r.Intn(most + 1), r.Intn(most + 1), r.Intn(most + 1), r.Intn(most + 1)}
		slices.Sort(at)
		if at[0] < at[3] {
			l = append(l, key("k"+string(rune('0'+i)), window(at[1], at[2]), window(at[0], at[3])))
		}
	}
	return l
}

// careless returns a list of up to five keys, most of them not valid, with
// numbers around 0 to most.
func careless(r *rand.Rand, most int) []api.Key {
	var l []api.Key
	for range r.Intn(6) {
		at := func() int { return r.Intn(most+7) - 3 }
		l = append(l, key([]string{"", "k", "m", "a b"}[r.Intn(4)], window(at(), at()), window(at(), at())))
	}
	return l
}

// in reports whether t is in w by the definition of the document.
func in(w api.Window, t int) bool {
	return w.From <= t && t < w.Until
}

// wantCheck reports an error unless Check of l is want.
func wantCheck(t *testing.T, l []api.Key, want api.Errno) {
	t.Helper()
	if e := keys.Check(l); e != want {
		t.Errorf("Check of %v = %d, not %d", l, int(e), int(want))
	}
}

// P24.1
func TestCheck(t *testing.T) {
	for _, l := range [][]api.Key{
		nil, {}, ring(1), ring(2), ring(api.MaxKeys),
		{key("1x:a._-Z", window(0, 0), window(0, 1))},
		{{ID: bytes(api.MaxName), Secret: bytes(api.MaxValue), Sign: window(0, api.MaxTime), Accept: window(0, api.MaxTime)}},
		{{ID: "k", Secret: "a  ~", Sign: window(3, 3), Accept: window(3, 4)}},
		{key("k", window(api.MaxTime, api.MaxTime), window(api.MaxTime-1, api.MaxTime))},
		// Only the identifiers are different.
		{{ID: "k", Secret: "s", Accept: window(0, 1)}, {ID: "K", Secret: "s", Accept: window(0, 1)}},
	} {
		wantCheck(t, l, api.OK)
	}
	wantCheck(t, ring(api.MaxKeys+1), api.ErrLimit)
	wantCheck(t, make([]api.Key, api.MaxKeys+1), api.ErrLimit)
	wantCheck(t, make([]api.Key, api.MaxKeys), api.ErrName)
}

// P24.1: the errors of a key in their order.
func TestCheckErrors(t *testing.T) {
	good := ring(3)
	for at := range good {
		with := func(change func(k *api.Key)) []api.Key {
			l := slices.Clone(good)
			change(&l[at])
			return l
		}
		for _, s := range notWords() {
			wantCheck(t, with(func(k *api.Key) { k.ID = s }), api.ErrName)
			wantCheck(t, with(func(k *api.Key) { *k = api.Key{ID: s, Sign: window(2, 1)} }), api.ErrName)
		}
		for _, s := range notValues() {
			wantCheck(t, with(func(k *api.Key) { k.Secret = s }), api.ErrForm)
			wantCheck(t, with(func(k *api.Key) { k.Secret, k.Sign = s, window(2, 1) }), api.ErrForm)
		}
		for _, accept := range []api.Window{window(0, 0), window(9, 0), window(2, 9), window(0, 4), window(-1, 9), window(0, api.MaxTime+1), window(math.MinInt, math.MaxInt), {}} {
			wantCheck(t, with(func(k *api.Key) { k.Accept = accept }), api.ErrArg)
		}
	}
}

// P24.1: an ID that occurs before.
func TestCheckTwice(t *testing.T) {
	l := ring(3)
	l[2].ID = l[0].ID
	wantCheck(t, l, api.ErrTwice)
	l[2].Sign, l[2].Accept = window(7, 3), window(-1, -9)
	wantCheck(t, l, api.ErrTwice)
	l[2].Secret = ""
	wantCheck(t, l, api.ErrForm)
	l[1].Accept = window(0, 0)
	wantCheck(t, l, api.ErrArg)
	l[0].ID = "a b"
	wantCheck(t, l, api.ErrName)
	wantCheck(t, []api.Key{ring(1)[0], ring(1)[0]}, api.ErrTwice)
}

// P24.1: the windows against the definition.
func TestCheckWindows(t *testing.T) {
	for _, base := range []int{0, api.MaxTime - 3} {
		for n := range 6 * 6 * 6 * 6 {
			at := func(place int) int { return base - 1 + n/place%6 }
			k := key("k", window(at(1), at(6)), window(at(36), at(216)))
			want := api.ErrArg
			if 0 <= k.Accept.From && k.Accept.From <= k.Sign.From && k.Sign.From <= k.Sign.Until && k.Sign.Until <= k.Accept.Until && k.Accept.Until <= api.MaxTime && k.Accept.From != k.Accept.Until {
				want = api.OK
			}
			wantCheck(t, []api.Key{k}, want)
		}
	}
}

// P24.2
func TestSigning(t *testing.T) {
	first, second := key("k1", window(0, 100), window(0, 200)), key("k0", window(50, 100), window(50, 150))
	late := key("k9", window(api.MaxTime-1, api.MaxTime), window(0, api.MaxTime))
	for _, x := range []struct {
		l    []api.Key
		now  int
		want string
	}{
		{[]api.Key{first, second}, 60, "k0"},
		{[]api.Key{second, first}, 60, "k0"},
		{[]api.Key{first, second}, 49, "k1"},
		{[]api.Key{first, second}, 50, "k0"},
		{[]api.Key{first, second}, 99, "k0"},
		{[]api.Key{first, second}, 100, ""},
		{[]api.Key{first}, 0, "k1"},
		{[]api.Key{first}, -7, "k1"},
		{[]api.Key{first}, math.MinInt, "k1"},
		{[]api.Key{second}, -7, ""},
		{[]api.Key{second}, 49, ""},
		{[]api.Key{late}, api.MaxTime - 1, "k9"},
		{[]api.Key{late}, api.MaxTime, ""},
		{[]api.Key{late}, math.MaxInt, ""},
		{[]api.Key{key("k", window(5, 5), window(0, 9))}, 5, ""},
		{nil, 0, ""},
		// Of keys that begin at the same instant, the one with the greatest ID signs.
		{ring(3), 3, "kc"},
		{[]api.Key{ring(3)[2], ring(3)[0], ring(3)[1]}, 3, "kc"},
		{[]api.Key{ring(3)[1], ring(3)[2], ring(3)[0]}, 3, "kc"},
		{[]api.Key{key("Z", window(0, 9), window(0, 9)), key("a", window(0, 9), window(0, 9)), key("B", window(0, 9), window(0, 9))}, 0, "a"},
		{[]api.Key{key("k10", window(0, 9), window(0, 9)), key("k9", window(0, 9), window(0, 9)), key("k1", window(0, 9), window(0, 9))}, 0, "k9"},
		// A ring with an error does not sign.
		{[]api.Key{first, first}, 60, ""},
		{[]api.Key{first, {}}, 60, ""},
		{[]api.Key{first, key("k2", window(0, 9), window(1, 9))}, 60, ""},
		{ring(api.MaxKeys), 3, "kp"},
		{ring(api.MaxKeys + 1), 3, ""},
	} {
		k, ok := keys.Signing(x.l, x.now)
		i := slices.IndexFunc(x.l, func(k api.Key) bool { return k.ID == x.want && x.want != "" })
		if ok != (i >= 0) || ok && k != x.l[i] || !ok && k != (api.Key{}) {
			t.Errorf("Signing of %v at %d = %v, %v, not %q", x.l, x.now, k, ok, x.want)
		}
	}
}

// modelSigning returns the key that signs by the definition of the chapter.
func modelSigning(l []api.Key, now int) (api.Key, bool) {
	if keys.Check(l) != api.OK {
		return api.Key{}, false
	}
	best := -1
	for i, k := range l {
		if in(k.Sign, now) && (best < 0 || k.Sign.From > l[best].Sign.From || k.Sign.From == l[best].Sign.From && k.ID > l[best].ID) {
			best = i
		}
	}
	if best < 0 {
		return api.Key{}, false
	}
	return l[best], true
}

// P24.2: a key that signs is the one of the definition, and is accepted.
func TestSigningDefinition(t *testing.T) {
	r := rand.New(rand.NewSource(1))
	signed := 0
	for range 4000 {
		l := random(r, 9)
		if r.Intn(4) == 0 {
			l = careless(r, 9)
		}
		for now := range 12 {
			k, ok := keys.Signing(l, now)
			if want, wantOK := modelSigning(l, now); k != want || ok != wantOK {
				t.Fatalf("Signing of %v at %d = %v, %v, not %v", l, now, k, ok, want)
			}
			if !ok {
				continue
			}
			signed++
			for _, skew := range []int{-1, 0, 1, 600, math.MaxInt} {
				if got, e := keys.Accepting(l, k.ID, now, skew); got != k || e != api.OK {
					t.Fatalf("Accepting of %v in %v at %d, %d = %v, %d", k, l, now, skew, got, int(e))
				}
			}
		}
	}
	if signed < 5000 {
		t.Errorf("signed %d times", signed)
	}
}

// P24.2
func TestAccepting(t *testing.T) {
	l := []api.Key{
		key("a", window(120, 150), window(100, 200)),
		key("k", window(5, 9), window(1000, 2000)),
		key("k", window(0, 900), window(0, 900)),
		key("x", window(0, 9), window(9, 2)),
		{},
	}
	for _, x := range []struct {
		id        string
		now, skew int
		at        int
		want      api.Errno
	}{
		{"a", 100, 0, 0, api.OK},
		{"a", 199, 0, 0, api.OK},
		{"a", 99, 0, 0, api.ErrEarly},
		{"a", 99, 1, 0, api.OK},
		{"a", 98, 1, 0, api.ErrEarly},
		{"a", 200, 0, 0, api.ErrExpired},
		{"a", 200, 1, 0, api.OK},
		{"a", 201, 1, 0, api.ErrExpired},
		{"a", 799, 600, 0, api.OK},
		{"a", 799, math.MaxInt, 0, api.OK},
		{"a", 800, math.MaxInt, 0, api.ErrExpired},
		{"a", 100, -5, 0, api.OK},
		{"a", 99, -5, 0, api.ErrEarly},
		{"a", -5, 99, 0, api.ErrEarly},
		{"a", -5, 100, 0, api.OK},
		{"a", math.MaxInt, 600, 0, api.ErrExpired},
		// The first key with the ID counts.
		{"k", 1000, 0, 1, api.OK},
		{"k", 800, 0, 1, api.ErrEarly},
		{"k", 2000, 0, 1, api.ErrExpired},
		{"x", 5, 600, 3, api.ErrArg},
		{"", 0, 0, 4, api.ErrExpired},
		{"", 0, 1, 4, api.OK},
		{"b", 150, 0, 0, api.ErrKey},
		{"A", 150, 0, 0, api.ErrKey},
		{"a ", 150, 0, 0, api.ErrKey},
	} {
		want := api.Key{}
		if x.want == api.OK {
			want = l[x.at]
		}
		if k, e := keys.Accepting(l, x.id, x.now, x.skew); k != want || e != x.want {
			t.Errorf("Accepting of %q at %d, %d = %v, %d, not %d", x.id, x.now, x.skew, k, int(e), int(x.want))
		}
	}
	if k, e := keys.Accepting(nil, "", 0, 0); k != (api.Key{}) || e != api.ErrKey {
		t.Errorf("Accepting of no key = %v, %d", k, int(e))
	}
	many := ring(api.MaxKeys + 4)
	if k, e := keys.Accepting(many, many[19].ID, 0, 0); k != many[19] || e != api.OK {
		t.Errorf("Accepting in a long ring = %v, %d", k, int(e))
	}
}

// P24.3
func TestRotate(t *testing.T) {
	old := []api.Key{
		key("a", window(0, 100), window(0, 200)),
		key("b", window(100, 150), window(0, 200)),
		key("c", window(120, 150), window(110, 160)),
		key("d", window(10, 20), window(10, 30)),
		key("e", window(99, 101), window(0, 101)),
	}
	before := slices.Clone(old)
	got, e := keys.Rotate(old, "new", "a b", 100, 50, 10)
	want := slices.Clone(old)
	want[1].Sign.Until = 100
	want[2].Sign.Until = 120
	want[4].Sign.Until = 100
	want = append(want, api.Key{ID: "new", Secret: "a b", Sign: window(100, 150), Accept: window(100, 160)})
	if !slices.Equal(got, want) || e != api.OK {
		t.Errorf("Rotate = %v, %d, not %v", got, int(e), want)
	}
	for i := range got {
		got[i] = api.Key{}
	}
	if !slices.Equal(old, before) {
		t.Errorf("Rotate changed its argument: %v", old)
	}
	if got, e := keys.Rotate(nil, "k", "s", 100, 50, 10); !slices.Equal(got, []api.Key{{ID: "k", Secret: "s", Sign: window(100, 150), Accept: window(100, 160)}}) || e != api.OK {
		t.Errorf("Rotate of the empty ring = %v, %d", got, int(e))
	}
}

// P24.3: the argument stays, also if it has room for one more key.
func TestRotateMemory(t *testing.T) {
	l := ring(4)
	got, _ := keys.Rotate(l[:3:4], "new", "s", 3, 5, 5)
	_ = append(got, api.Key{})
	if !slices.Equal(l, ring(4)) {
		t.Errorf("Rotate changed its argument: %v", l)
	}
}

// P24.3: instants and durations are limited, and sums as well.
func TestRotateLimits(t *testing.T) {
	const end = api.MaxTime
	for _, x := range []struct {
		now, life, grace int
		sign, accept     api.Window
	}{
		{-5, 10, 3, window(0, 10), window(0, 13)},
		{math.MinInt, 1, -3, window(0, 1), window(0, 1)},
		{100, 1, 0, window(100, 101), window(100, 101)},
		{100, 5, math.MinInt, window(100, 105), window(100, 105)},
		{100, end, 5, window(100, end), window(100, end)},
		{100, math.MaxInt, math.MaxInt, window(100, end), window(100, end)},
		{100, 5, math.MaxInt, window(100, 105), window(100, end)},
		{0, end - 7, 6, window(0, end-7), window(0, end-1)},
		{0, end - 7, 8, window(0, end-7), window(0, end)},
		{end - 1, 1, 1, window(end-1, end), window(end-1, end)},
		{end - 1, 99, 1, window(end-1, end), window(end-1, end)},
	} {
		got, e := keys.Rotate(nil, "k", "s", x.now, x.life, x.grace)
		if want := (api.Key{ID: "k", Secret: "s", Sign: x.sign, Accept: x.accept}); len(got) != 1 || got[0] != want || e != api.OK {
			t.Errorf("Rotate at %d, %d, %d = %v, %d, not %v", x.now, x.life, x.grace, got, int(e), want)
		}
	}
	early, e := keys.Rotate(ring(1), "new", "s", -9, 5, 0)
	if e != api.OK || early[0].Sign != window(1, 1) || early[0].Accept != window(0, 9) {
		t.Errorf("Rotate at -9 = %v, %d", early, int(e))
	}
}

// P24.3: the errors of Rotate in their order.
func TestRotateErrors(t *testing.T) {
	wrong := ring(2)
	wrong[1].Accept = window(2, 9)
	full := ring(api.MaxKeys)
	for _, x := range []struct {
		l          []api.Key
		id, secret string
		now, life  int
		want       api.Errno
	}{
		{ring(api.MaxKeys + 1), "a b", "", 5, 0, api.ErrLimit},
		{[]api.Key{{}}, "a b", "", 5, 0, api.ErrName},
		{wrong, "a b", "", 5, 0, api.ErrArg},
		{[]api.Key{ring(1)[0], ring(1)[0]}, "a b", "", 5, 0, api.ErrTwice},
		{full, "a b", "", 5, 0, api.ErrName},
		{full, "ka", "", 5, 0, api.ErrForm},
		{full, "ka", "s", 5, 0, api.ErrTwice},
		{full, "kp", "s", 5, 0, api.ErrTwice},
		{full, "new", "s", 5, 0, api.ErrArg},
		{full, "new", "s", 5, 5, api.ErrLimit},
		{ring(2), "new", "s", 5, -5, api.ErrArg},
		{ring(2), "new", "s", 5, math.MinInt, api.ErrArg},
		{ring(2), "new", "s", -5, 0, api.ErrArg},
		{ring(2), "new", "s", api.MaxTime, 5, api.ErrArg},
		{ring(2), "new", "s", math.MaxInt, math.MaxInt, api.ErrArg},
		{nil, "new", "s", 5, 0, api.ErrArg},
	} {
		if got, e := keys.Rotate(x.l, x.id, x.secret, x.now, x.life, 5); len(got) != 0 || e != x.want {
			t.Errorf("Rotate of %d keys with %q, %q at %d, %d = %v, %d, not %d", len(x.l), x.id, x.secret, x.now, x.life, got, int(e), int(x.want))
		}
	}
	for _, s := range notWords() {
		if got, e := keys.Rotate(ring(2), s, "", 5, 0, 5); len(got) != 0 || e != api.ErrName {
			t.Errorf("Rotate with the ID %q = %v, %d", s, got, int(e))
		}
	}
	for _, s := range notValues() {
		if got, e := keys.Rotate(ring(2), "ka", s, 5, 0, 5); len(got) != 0 || e != api.ErrForm {
			t.Errorf("Rotate with the secret %q = %v, %d", s, got, int(e))
		}
	}
	if got, e := keys.Rotate(full[:api.MaxKeys-1], "new", "s", 5, 5, 5); len(got) != api.MaxKeys || e != api.OK {
		t.Errorf("Rotate of a ring with one place = %v, %d", got, int(e))
	}
}

// P24.3: the new key signs, the others do not, and what was accepted still is.
func TestRotateDefinition(t *testing.T) {
	r := rand.New(rand.NewSource(2))
	for range 4000 {
		l, now, life, grace := random(r, 9), r.Intn(12), 1+r.Intn(5), r.Intn(4)
		got, e := keys.Rotate(l, "new", "s", now, life, grace)
		if e != api.OK || keys.Check(got) != api.OK || len(got) != len(l)+1 {
			t.Fatalf("Rotate of %v at %d, %d, %d = %v, %d", l, now, life, grace, got, int(e))
		}
		for at := range 30 {
			want, wantOK := modelSigning(l, at)
			if at >= now {
				want, wantOK = got[len(l)], at < now+life
			} else if wantOK {
				want = got[slices.Index(l, want)]
			}
			if !wantOK {
				want = api.Key{}
			}
			if k, ok := keys.Signing(got, at); k != want || ok != wantOK {
				t.Fatalf("Signing of %v at %d after Rotate of %v at %d = %v, %v, not %v", got, at, l, now, k, ok, want)
			}
			for i, k := range l {
				_, before := keys.Accepting(l, k.ID, at, 0)
				after, e := keys.Accepting(got, k.ID, at, 0)
				if e != before || e == api.OK && after != got[i] {
					t.Fatalf("Accepting of %q in %v at %d = %d, not %d", k.ID, got, at, int(e), int(before))
				}
			}
			if _, e := keys.Accepting(got, "new", at, 0); (e == api.OK) != (at >= now && at < now+life+grace) {
				t.Fatalf("Accepting of the new key of %v at %d = %d", got, at, int(e))
			}
		}
	}
}

// P24.4
func TestPrune(t *testing.T) {
	l := []api.Key{
		key("c", window(0, 5), window(0, 10)),
		key("a", window(0, 5), window(0, 20)),
		key("b", window(0, 5), window(0, 11)),
		key("a", window(30, 5), window(40, 10)),
		{},
		key("z", window(0, 0), window(0, math.MaxInt)),
		key("y", window(0, 0), window(0, math.MinInt)),
	}
	for now, want := range map[int]string{
		-1: "cabaz", math.MinInt: "cabaz", 0: "cabaz", 9: "cabaz", 10: "abz", 11: "az", 19: "az", 20: "z", api.MaxTime: "z", math.MaxInt: "z",
	} {
		ids := ""
		for _, k := range keys.Prune(l, now) {
			if !slices.Contains(l, k) {
				t.Errorf("Prune at %d has %v", now, k)
			}
			ids += k.ID
		}
		if ids != want {
			t.Errorf("Prune at %d = %q, not %q", now, ids, want)
		}
	}
	if got := keys.Prune(nil, 0); len(got) != 0 {
		t.Errorf("Prune of nothing = %v", got)
	}
	end := []api.Key{key("k", window(0, 0), window(0, api.MaxTime))}
	if got := keys.Prune(end, math.MaxInt); len(got) != 0 {
		t.Errorf("Prune at the end = %v", got)
	}
	if got := keys.Prune(ring(api.MaxKeys+4), 8); !slices.Equal(got, ring(api.MaxKeys+4)) {
		t.Errorf("Prune of a long ring = %v", got)
	}
}

// P24.4: the argument stays, and the result is new memory.
func TestPruneMemory(t *testing.T) {
	l := ring(4)
	l[1].Accept.Until = 6
	before := slices.Clone(l)
	for _, now := range []int{0, 7, 9} {
		got := keys.Prune(l, now)
		for i := range got {
			got[i] = api.Key{}
		}
		_ = append(got, api.Key{})
		if !slices.Equal(l, before) {
			t.Errorf("Prune at %d changed its argument: %v", now, l)
		}
	}
}

// P24.4: keys that are left out neither signed nor were accepted any more.
func TestPruneDefinition(t *testing.T) {
	r := rand.New(rand.NewSource(3))
	removed := 0
	for range 4000 {
		l, now := random(r, 9), r.Intn(11)
		got := keys.Prune(l, now)
		removed += len(l) - len(got)
		for at := now; at < 12; at++ {
			want, wantOK := keys.Signing(l, at)
			if k, ok := keys.Signing(got, at); k != want || ok != wantOK {
				t.Fatalf("Signing of %v at %d after Prune of %v at %d = %v, %v, not %v", got, at, l, now, k, ok, want)
			}
			for _, k := range l {
				want, before := keys.Accepting(l, k.ID, at, 0)
				after, e := keys.Accepting(got, k.ID, at, 0)
				if !slices.Contains(got, k) && before == api.ErrExpired {
					before = api.ErrKey
				}
				if after != want || e != before {
					t.Fatalf("Accepting of %q in %v at %d after Prune at %d = %v, %d, not %v, %d", k.ID, l, at, now, after, int(e), want, int(before))
				}
			}
		}
	}
	if removed < 2000 {
		t.Errorf("removed %d keys", removed)
	}
}

// signing returns keys that sign in windows; only the windows matter.
func signing(l ...api.Window) []api.Key {
	var all []api.Key
	for _, w := range l {
		all = append(all, api.Key{Sign: w})
	}
	return all
}

// P24.6
func TestGaps(t *testing.T) {
	const end = api.MaxTime
	for _, x := range []struct {
		signs []api.Window
		w     api.Window
		want  []api.Window
	}{
		{[]api.Window{window(0, 5), window(8, 9)}, window(3, 12), []api.Window{window(5, 8), window(9, 12)}},
		{[]api.Window{window(8, 9), window(0, 5)}, window(3, 12), []api.Window{window(5, 8), window(9, 12)}},
		{nil, window(3, 12), []api.Window{window(3, 12)}},
		{nil, window(3, 3), nil},
		{nil, window(12, 3), nil},
		{nil, window(0, end), []api.Window{window(0, end)}},
		{nil, window(math.MinInt, math.MaxInt), []api.Window{window(0, end)}},
		{nil, window(math.MaxInt, math.MinInt), nil},
		{nil, window(-9, 0), nil},
		{nil, window(-9, 1), []api.Window{window(0, 1)}},
		{nil, window(end, end+1), nil},
		{nil, window(end-1, end+1), []api.Window{window(end-1, end)}},
		{[]api.Window{window(0, end)}, window(-9, end+9), nil},
		{[]api.Window{window(math.MinInt, math.MaxInt)}, window(-9, end+9), nil},
		{[]api.Window{window(1, end-1)}, window(-9, end+9), []api.Window{window(0, 1), window(end-1, end)}},
		// Windows that touch, overlap, lie in one another or are empty.
		{[]api.Window{window(3, 5), window(5, 7)}, window(0, 9), []api.Window{window(0, 3), window(7, 9)}},
		{[]api.Window{window(4, 7), window(3, 5)}, window(0, 9), []api.Window{window(0, 3), window(7, 9)}},
		{[]api.Window{window(2, 8), window(3, 5)}, window(0, 9), []api.Window{window(0, 2), window(8, 9)}},
		{[]api.Window{window(4, 4), window(7, 2)}, window(0, 9), []api.Window{window(0, 9)}},
		{[]api.Window{window(4, 5), window(4, 5)}, window(4, 6), []api.Window{window(5, 6)}},
		// Windows beside w, and across its bounds.
		{[]api.Window{window(0, 3), window(9, 12)}, window(3, 9), []api.Window{window(3, 9)}},
		{[]api.Window{window(0, 2), window(11, 12)}, window(3, 9), []api.Window{window(3, 9)}},
		{[]api.Window{window(0, 4), window(8, 12)}, window(3, 9), []api.Window{window(4, 8)}},
		{[]api.Window{window(-5, 4), window(8, end+5)}, window(-3, end+3), []api.Window{window(4, 8)}},
		{[]api.Window{window(20, 30), window(40, 50)}, window(3, 9), []api.Window{window(3, 9)}},
		{[]api.Window{window(0, 20)}, window(3, 9), nil},
		{[]api.Window{window(3, 9)}, window(3, 9), nil},
	} {
		if got := keys.Gaps(signing(x.signs...), x.w); !slices.Equal(got, x.want) {
			t.Errorf("Gaps of %v in %v = %v, not %v", x.signs, x.w, got, x.want)
		}
	}
}

// P24.6: a ring with errors and with many keys has gaps as well.
func TestGapsInvalid(t *testing.T) {
	var l []api.Key
	var want []api.Window
	for n := range 100 {
		l = append(l, api.Key{ID: "a b", Sign: window(990-10*n, 995-10*n)})
		want = append(want, window(10*n+5, 10*n+10))
	}
	before := slices.Clone(l)
	if got := keys.Gaps(l, window(0, 1000)); !slices.Equal(got, want) {
		t.Errorf("Gaps of many keys = %v", got)
	}
	if !slices.Equal(l, before) {
		t.Errorf("Gaps changed its argument: %v", l)
	}
}

// modelGaps returns the gaps instant by instant.
func modelGaps(l []api.Key, w api.Window, least, most int) []api.Window {
	var gaps []api.Window
	for at := least; at < most; at++ {
		signs := slices.ContainsFunc(l, func(k api.Key) bool { return in(k.Sign, at) })
		if at < 0 || at >= api.MaxTime || !in(w, at) || signs {
			continue
		}
		if len(gaps) == 0 || gaps[len(gaps)-1].Until != at {
			gaps = append(gaps, window(at, at))
		}
		gaps[len(gaps)-1].Until++
	}
	return gaps
}

// P24.6: an instant lies in a gap exactly if no key signs at it.
func TestGapsDefinition(t *testing.T) {
	r := rand.New(rand.NewSource(4))
	gaps := 0
	for range 20000 {
		l, w := careless(r, 12), window(r.Intn(18)-3, r.Intn(18)-3)
		if r.Intn(2) == 0 {
			l = random(r, 12)
		}
		shift := []int{0, api.MaxTime - 10}[r.Intn(2)]
		for i := range l {
			l[i].Sign = window(l[i].Sign.From+shift, l[i].Sign.Until+shift)
		}
		w = window(w.From+shift, w.Until+shift)
		want := modelGaps(l, w, shift-10, shift+30)
		got := keys.Gaps(l, w)
		if !slices.Equal(got, want) {
			t.Fatalf("Gaps of %v in %v = %v, not %v", l, w, got, want)
		}
		for at := shift - 5; at < shift+20; at++ {
			inGap := slices.ContainsFunc(got, func(g api.Window) bool { return clock.In(g, at) && at == clock.Add(at, 0) })
			signs := slices.ContainsFunc(l, func(k api.Key) bool { return in(k.Sign, at) })
			if inGap != (in(w, at) && at >= 0 && at < api.MaxTime && !signs) {
				t.Fatalf("Gaps of %v in %v at %d: %v", l, w, at, inGap)
			}
		}
		gaps += len(got)
	}
	if gaps < 5000 {
		t.Errorf("%d gaps", gaps)
	}
}
