package clock

import (
	"math"
	"slices"
	"testing"

	"identity/api"
)

// window makes a window.
func window(from, until int) api.Window {
	return api.Window{From: from, Until: until}
}

// instants are numbers around the limits of the instants, and others.
var instants = []int{math.MinInt, math.MinInt + 1, -api.MaxTime, -700, -1, 0, 1, 5, 599, 600, 601, 1 << 31, api.MaxTime - 700, api.MaxTime - 1, api.MaxTime, api.MaxTime + 1, math.MaxInt - 1, math.MaxInt}

// limit is the rule by which arguments are limited.
func limit(t, most int) int {
	if t < 0 {
		return 0
	}
	if t > most {
		return most
	}
	return t
}

// P4.1
func TestValid(t *testing.T) {
	for n, want := range map[int]bool{
		0: true, 1: true, api.MaxTime - 1: true, api.MaxTime: true,
		-1: false, api.MaxTime + 1: false, math.MinInt: false, math.MaxInt: false,
	} {
		if got := Valid(n); got != want {
			t.Errorf("Valid(%d) = %v", n, got)
		}
	}
}

// P4.1
func TestAdd(t *testing.T) {
	for _, x := range []struct{ t, d, want int }{
		{10, -5, 10},
		{10, 5, 15},
		{-10, 5, 5},
		{0, 0, 0},
		{api.MaxTime, 1, api.MaxTime},
		{api.MaxTime - 1, 1, api.MaxTime},
		{api.MaxTime - 2, 1, api.MaxTime - 1},
		{api.MaxTime, api.MaxTime, api.MaxTime},
		{math.MaxInt, math.MaxInt, api.MaxTime},
		{math.MaxInt, math.MinInt, api.MaxTime},
		{math.MinInt, math.MinInt, 0},
	} {
		if got := Add(x.t, x.d); got != x.want {
			t.Errorf("Add(%d, %d) = %d, not %d", x.t, x.d, got, x.want)
		}
	}
	for _, a := range instants {
		for _, d := range instants {
			want := limit(limit(a, api.MaxTime)+limit(d, api.MaxTime), api.MaxTime)
			if got := Add(a, d); got != want {
				t.Errorf("Add(%d, %d) = %d, not %d", a, d, got, want)
			}
		}
	}
}

// P4.1
func TestSub(t *testing.T) {
	for _, x := range []struct{ a, b, want int }{
		{3, 10, -7},
		{10, 3, 7},
		{5, 5, 0},
		{5, -5, 5},
		{-5, 5, -5},
		{api.MaxTime + 9, 1, api.MaxTime - 1},
		{1, api.MaxTime + 9, 1 - api.MaxTime},
		{math.MinInt, math.MaxInt, -api.MaxTime},
		{math.MaxInt, math.MinInt, api.MaxTime},
	} {
		if got := Sub(x.a, x.b); got != x.want {
			t.Errorf("Sub(%d, %d) = %d, not %d", x.a, x.b, got, x.want)
		}
	}
}

// P4.2
func TestIn(t *testing.T) {
	for _, x := range []struct {
		w    api.Window
		t    int
		want bool
	}{
		{window(10, 20), 9, false},
		{window(10, 20), 10, true},
		{window(10, 20), 19, true},
		{window(10, 20), 20, false},
		{window(10, 10), 10, false},
		{window(20, 10), 15, false},
		{window(0, 1), -5, true},
		{window(-9, 0), -5, false},
		{window(-9, 1), -5, true},
		{window(1, 9), -5, false},
		{window(api.MaxTime, api.MaxTime+1), math.MaxInt, true},
		{window(api.MaxTime+1, math.MaxInt), math.MaxInt - 1, false},
		{window(math.MinInt, math.MaxInt), 0, true},
	} {
		if got := In(x.w, x.t); got != x.want {
			t.Errorf("In(%v, %d) = %v", x.w, x.t, got)
		}
	}
}

// P4.2
func TestCheck(t *testing.T) {
	w := window(100, 200)
	for _, x := range []struct {
		w       api.Window
		t, skew int
		want    api.Errno
	}{
		{w, 95, 5, api.OK},
		{w, 94, 5, api.ErrEarly},
		{w, 204, 5, api.OK},
		{w, 205, 5, api.ErrExpired},
		{w, 99, 0, api.ErrEarly},
		{w, 100, 0, api.OK},
		{w, 199, 0, api.OK},
		{w, 200, 0, api.ErrExpired},
		{w, 99, -1, api.ErrEarly},
		{w, 100, -1, api.OK},
		{w, 199, -1, api.OK},
		{w, 199, math.MinInt, api.OK},
		{w, 200, math.MinInt, api.ErrExpired},
		{w, 799, 600, api.OK},
		{w, 800, 600, api.ErrExpired},
		{w, 800, 601, api.ErrExpired},
		{w, 800, math.MaxInt, api.ErrExpired},
		{window(700, 900), 99, 601, api.ErrEarly},
		{window(700, 900), 100, 601, api.OK},
		{window(700, 900), -1, 600, api.ErrEarly},
		{window(600, 900), -1, 600, api.OK},
		{window(10, 10), 10, 0, api.ErrExpired},
		{window(10, 10), 10, 1, api.OK},
		{window(10, 10), 9, 0, api.ErrEarly},
		{window(10, 9), 10, 5, api.ErrArg},
		{window(10, 9), 0, 0, api.ErrArg},
		{window(10, 9), 99, 0, api.ErrArg},
		{window(math.MaxInt, math.MinInt), 0, 0, api.ErrArg},
		{window(-5, 0), -5, 0, api.ErrExpired},
		{window(-5, 0), -5, 1, api.OK},
		{window(api.MaxTime+1, api.MaxTime+2), math.MaxInt, 0, api.ErrEarly},
		{window(math.MinInt, math.MaxInt), 0, 0, api.OK},
	} {
		if got := Check(x.w, x.t, x.skew); got != x.want {
			t.Errorf("Check(%v, %d, %d) = %d, not %d", x.w, x.t, x.skew, int(got), int(x.want))
		}
	}
}

// P4.3
func TestCommon(t *testing.T) {
	for _, x := range []struct {
		a, b, want api.Window
		ok         bool
	}{
		{window(1, 5), window(3, 9), window(3, 5), true},
		{window(3, 9), window(1, 5), window(3, 5), true},
		{window(1, 9), window(3, 5), window(3, 5), true},
		{window(1, 5), window(1, 5), window(1, 5), true},
		{window(1, 4), window(3, 9), window(3, 4), true},
		{window(1, 3), window(3, 9), api.Window{}, false},
		{window(3, 9), window(1, 3), api.Window{}, false},
		{window(1, 2), window(3, 9), api.Window{}, false},
		{window(5, 5), window(1, 9), api.Window{}, false},
		{window(9, 1), window(1, 9), api.Window{}, false},
		{window(-9, 9), window(-3, 12), window(-3, 9), true},
		{window(math.MinInt, math.MaxInt), window(math.MinInt, 0), window(math.MinInt, 0), true},
	} {
		if got, ok := Common(x.a, x.b); got != x.want || ok != x.ok {
			t.Errorf("Common(%v, %v) = %v, %v", x.a, x.b, got, ok)
		}
	}
}

// P4.4
func TestUnion(t *testing.T) {
	for _, x := range []struct{ l, want []api.Window }{
		{nil, nil},
		{[]api.Window{}, nil},
		{[]api.Window{window(7, 7), window(9, 3)}, nil},
		{[]api.Window{window(5, 9), window(1, 3), window(3, 4), window(7, 7)}, []api.Window{window(1, 4), window(5, 9)}},
		{[]api.Window{window(1, 9), window(2, 3)}, []api.Window{window(1, 9)}},
		{[]api.Window{window(1, 3), window(1, 9), window(1, 2)}, []api.Window{window(1, 9)}},
		{[]api.Window{window(4, 6), window(3, 4), window(2, 3)}, []api.Window{window(2, 6)}},
		{[]api.Window{window(4, 6), window(4, 6)}, []api.Window{window(4, 6)}},
		{[]api.Window{window(3, 4), window(1, 2)}, []api.Window{window(1, 2), window(3, 4)}},
		{[]api.Window{window(5, 2), window(1, 9)}, []api.Window{window(1, 9)}},
		{[]api.Window{window(api.MaxTime, api.MaxTime+9), window(-9, -3), window(-3, -1)}, []api.Window{window(-9, -1), window(api.MaxTime, api.MaxTime+9)}},
		{[]api.Window{window(0, math.MaxInt), window(math.MinInt, 0)}, []api.Window{window(math.MinInt, math.MaxInt)}},
	} {
		kept := slices.Clone(x.l)
		got := Union(x.l)
		if !slices.Equal(got, x.want) {
			t.Errorf("Union(%v) = %v, not %v", x.l, got, x.want)
		}
		if !slices.Equal(x.l, kept) {
			t.Errorf("Union changed its argument %v", kept)
		}
		if len(got) > 0 {
			got[0] = window(77, 78)
			if !slices.Equal(x.l, kept) {
				t.Errorf("Union(%v) shares memory with its argument", kept)
			}
		}
	}
}

// windows are all windows of a few numbers.
func windows(from, to int) []api.Window {
	var all []api.Window
	for a := from; a <= to; a++ {
		for b := from; b <= to; b++ {
			all = append(all, window(a, b))
		}
	}
	return all
}

// holds reports whether one of the windows contains n: the definition, without
// limits.
func holds(n int, l ...api.Window) bool {
	return slices.ContainsFunc(l, func(w api.Window) bool { return w.From <= n && n < w.Until })
}

// checkUnion compares a union with its definition for the numbers of a range.
func checkUnion(t *testing.T, l []api.Window, from, to int) {
	u := Union(l)
	for n := from; n <= to; n++ {
		if holds(n, u...) != holds(n, l...) {
			t.Fatalf("Union(%v) = %v differs at %d", l, u, n)
		}
	}
	for i, w := range u {
		if w.From >= w.Until || i > 0 && u[i-1].Until >= w.From {
			t.Fatalf("Union(%v) = %v is not the least list", l, u)
		}
	}
}

// P4.4, P4.6
func TestUnionOfAllWindows(t *testing.T) {
	all := windows(-2, 3)
	for _, a := range all {
		checkUnion(t, []api.Window{a}, -3, 4)
		for _, b := range all {
			checkUnion(t, []api.Window{a, b}, -3, 4)
			for _, c := range all {
				checkUnion(t, []api.Window{a, b, c}, -3, 4)
			}
		}
	}
}

// P4.4: a long list, in an order that is not sorted.
func TestUnionOfManyWindows(t *testing.T) {
	var l []api.Window
	for i := range 5000 {
		from := i * 7919 % 10007
		l = append(l, window(from, from+i%4))
	}
	checkUnion(t, l, -1, 10020)
}

// P4.6
func TestCommonOfAllWindows(t *testing.T) {
	all := windows(-2, 4)
	for _, a := range all {
		for _, b := range all {
			w, ok := Common(a, b)
			for n := -3; n <= 5; n++ {
				both := holds(n, a) && holds(n, b)
				if ok && holds(n, w) != both || !ok && both {
					t.Fatalf("Common(%v, %v) = %v, %v differs at %d", a, b, w, ok, n)
				}
				if n >= 0 && In(w, n) != (In(a, n) && In(b, n)) {
					t.Fatalf("In of Common(%v, %v) differs at %d", a, b, n)
				}
			}
			if ok && w.From >= w.Until || !ok && w != (api.Window{}) {
				t.Fatalf("Common(%v, %v) = %v, %v", a, b, w, ok)
			}
		}
	}
}

// P4.6
func TestCheckAndIn(t *testing.T) {
	for _, w := range windows(-3, 6) {
		for n := -4; n <= 8; n++ {
			if w.From < w.Until && (Check(w, n, 0) == api.OK) != In(w, n) {
				t.Errorf("Check(%v, %d, 0) and In differ", w, n)
			}
			accepted := false
			for skew := -1; skew <= 12; skew++ {
				ok := Check(w, n, skew) == api.OK
				if accepted && !ok {
					t.Errorf("Check(%v, %d, %d) is an error, but with a lesser skew it is none", w, n, skew)
				}
				accepted = ok
			}
		}
	}
}

// P4.8
func TestArithmetic(t *testing.T) {
	for _, a := range instants {
		for _, d := range instants {
			from, life := limit(a, api.MaxTime), limit(d, api.MaxTime)
			sum := Add(a, d)
			if sum < from || !Valid(sum) {
				t.Errorf("Add(%d, %d) = %d", a, d, sum)
			}
			got := Sub(sum, a)
			if got > life || from+life <= api.MaxTime && got != life {
				t.Errorf("Sub(Add(%d, %d), %d) = %d", a, d, a, got)
			}
		}
	}
}
