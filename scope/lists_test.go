package scope_test

import (
	"math/rand"
	"slices"
	"strings"
	"testing"

	"identity/scope"
)

// covered reports whether an element of l includes s.
func covered(l []string, s string) bool {
	return slices.ContainsFunc(l, func(x string) bool { return includes(x, s) })
}

// sorted returns the sorted form of a list by its definition.
func sorted(l []string) []string {
	var least []string
	for _, s := range l {
		other := func(x string) bool { return x != s && includes(x, s) }
		if isScope(s) && !slices.ContainsFunc(l, other) {
			least = append(least, s)
		}
	}
	slices.Sort(least)
	return slices.Compact(least)
}

// common returns what Common is to return, by its definition.
func common(a, b []string) []string {
	var l []string
	for _, s := range a {
		if covered(b, s) {
			l = append(l, s)
		}
	}
	for _, s := range b {
		if covered(a, s) {
			l = append(l, s)
		}
	}
	return sorted(l)
}

// minus returns what Minus is to return, by its definition.
func minus(a, b []string) []string {
	var l []string
	for _, s := range a {
		if !covered(b, s) {
			l = append(l, s)
		}
	}
	return sorted(l)
}

// P29.3
func TestSorted(t *testing.T) {
	for _, x := range []struct{ l, want []string }{
		{nil, nil},
		{[]string{}, nil},
		{[]string{"a"}, []string{"a"}},
		{[]string{"mail.read", "a", "mail"}, []string{"a", "mail"}},
		{[]string{"mail", "a", "mail.read"}, []string{"a", "mail"}},
		{[]string{"b", "a", "b", "a"}, []string{"a", "b"}},
		{[]string{"a.b.c", "a"}, []string{"a"}},
		{[]string{"a.b.c", "a.b", "a.c"}, []string{"a.b", "a.c"}},
		{[]string{"ab", "a-b", "a.b", "a:b", "A"}, []string{"A", "a-b", "a.b", "a:b", "ab"}},
		{[]string{"a.b", "a-b", "a"}, []string{"a", "a-b"}},
		{[]string{"", ".", "a..b", "a.", " ", "é"}, nil},
		{[]string{"a.", "a.b"}, []string{"a.b"}},
		{[]string{"", "a.b", "a..b"}, []string{"a.b"}},
		{[]string{bytes(63), bytes(62) + ".b", bytes(62), bytes(65)}, []string{bytes(62), bytes(63)}},
		{append(numbered(100), "s100000.a", "b"), append([]string{"b"}, numbered(100)...)},
	} {
		before := slices.Clone(x.l)
		got := scope.Sorted(x.l)
		if !slices.Equal(got, x.want) {
			t.Errorf("Sorted of %q = %q, not %q", x.l, got, x.want)
		}
		clear(got)
		if !slices.Equal(x.l, before) {
			t.Errorf("Sorted changed or returned its argument %q", before)
		}
	}
}

// P29.4
func TestWithin(t *testing.T) {
	for _, x := range []struct {
		a, b []string
		want bool
	}{
		{nil, nil, true},
		{nil, []string{"a"}, true},
		{nil, []string{""}, true},
		{[]string{"a"}, nil, false},
		{[]string{"a"}, []string{"a"}, true},
		{[]string{"a.b"}, []string{"c", "a"}, true},
		{[]string{"a.b", "a.c", "a.b", "d"}, []string{"d", "a"}, true},
		{[]string{"a.b", "b"}, []string{"a"}, false},
		{[]string{"b", "a.b"}, []string{"a"}, false},
		{[]string{"a"}, []string{"a.b", "a.c"}, false},
		{[]string{"ab"}, []string{"a"}, false},
		{[]string{"a"}, []string{"", "a.", "A"}, false},
		{[]string{""}, nil, false},
		{[]string{""}, []string{""}, false},
		{[]string{"a", ""}, []string{"a", ""}, false},
		{[]string{"a", "a."}, []string{"a"}, false},
		{numbered(40), numbered(50), true},
		{numbered(50), numbered(49), false},
	} {
		a, b := slices.Clone(x.a), slices.Clone(x.b)
		if got := scope.Within(x.a, x.b); got != x.want {
			t.Errorf("Within of %q and %q = %v", x.a, x.b, got)
		}
		if !slices.Equal(a, x.a) || !slices.Equal(b, x.b) {
			t.Errorf("Within changed %q or %q", a, b)
		}
	}
}

// P29.5
func TestCommonAndMinus(t *testing.T) {
	mail := []string{"mail", "files.x"}
	for _, x := range []struct{ a, b, common, minus []string }{
		{nil, nil, nil, nil},
		{mail, nil, nil, []string{"files.x", "mail"}},
		{nil, mail, nil, nil},
		{mail, mail, []string{"files.x", "mail"}, nil},
		{mail, []string{"mail.read", "files"}, []string{"files.x", "mail.read"}, []string{"mail"}},
		{[]string{"mail.read", "files"}, mail, []string{"files.x", "mail.read"}, []string{"files"}},
		{[]string{"z", "b", "a", "z"}, []string{"b.c", "b.d", "b.c"}, []string{"b.c", "b.d"}, []string{"a", "b", "z"}},
		{[]string{"a", "a.b"}, []string{"a.b"}, []string{"a.b"}, []string{"a"}},
		{[]string{"a", "a.b"}, []string{"a.b.c", "a"}, []string{"a"}, nil},
		{[]string{"a.b", "a.c"}, []string{"a.b"}, []string{"a.b"}, []string{"a.c"}},
		{[]string{"", "a.", "x"}, []string{"", "a.", "x.y"}, []string{"x.y"}, []string{"x"}},
		{[]string{"a.b"}, []string{"a."}, nil, []string{"a.b"}},
		{[]string{"ab", "a-b"}, []string{"a"}, nil, []string{"a-b", "ab"}},
		{numbered(40), numbered(20), numbered(20), numbered(40)[20:]},
	} {
		a, b := slices.Clone(x.a), slices.Clone(x.b)
		got := scope.Common(x.a, x.b)
		if !slices.Equal(got, x.common) {
			t.Errorf("Common of %q and %q = %q, not %q", x.a, x.b, got, x.common)
		}
		clear(got)
		got = scope.Minus(x.a, x.b)
		if !slices.Equal(got, x.minus) {
			t.Errorf("Minus of %q and %q = %q, not %q", x.a, x.b, got, x.minus)
		}
		clear(got)
		if !slices.Equal(a, x.a) || !slices.Equal(b, x.b) {
			t.Errorf("Common or Minus changed or returned an argument of %q and %q", a, b)
		}
	}
}

// P29.3 to P29.5: random lists and the definitions.
func TestDefinitions(t *testing.T) {
	r := rand.New(rand.NewSource(2))
	for range 20000 {
		a, b := random(r, 6), random(r, 6)
		if got := scope.Sorted(a); !slices.Equal(got, sorted(a)) {
			t.Fatalf("Sorted of %q = %q", a, got)
		}
		if got := scope.Common(a, b); !slices.Equal(got, common(a, b)) {
			t.Fatalf("Common of %q and %q = %q", a, b, got)
		}
		if got := scope.Minus(a, b); !slices.Equal(got, minus(a, b)) {
			t.Fatalf("Minus of %q and %q = %q", a, b, got)
		}
		uncovered := func(s string) bool { return !covered(b, s) }
		if got := scope.Within(a, b); got == slices.ContainsFunc(a, uncovered) {
			t.Fatalf("Within of %q and %q = %v", a, b, got)
		}
	}
}

// P29.8
func TestCovers(t *testing.T) {
	r := rand.New(rand.NewSource(3))
	some := slices.Concat(names(), short("abc.-", 4))
	for range 200 {
		l := random(r, 6)
		least := scope.Sorted(l)
		if again := scope.Sorted(least); !slices.Equal(again, least) {
			t.Fatalf("Sorted of %q = %q", least, again)
		}
		for _, s := range slices.Concat(some, l) {
			if covered(l, s) != covered(least, s) {
				t.Fatalf("%q, but not Sorted of it, or the reverse, covers %q", l, s)
			}
		}
	}
}

// P29.9
func TestMeet(t *testing.T) {
	r := rand.New(rand.NewSource(4))
	some := slices.Concat(names(), short("abc.-", 4))
	for range 200 {
		a, b := random(r, 6), random(r, 6)
		both := scope.Common(a, b)
		for _, s := range slices.Concat(some, a, b) {
			if covered(both, s) != (covered(a, s) && covered(b, s)) {
				t.Fatalf("Common of %q and %q covers %q: %v", a, b, s, covered(both, s))
			}
		}
	}
}

// P29.10
func TestParts(t *testing.T) {
	r := rand.New(rand.NewSource(5))
	for range 20000 {
		a, b := random(r, 6), random(r, 6)
		rest := scope.Minus(a, b)
		for _, s := range a {
			if isScope(s) && !covered(b, s) && !covered(rest, s) {
				t.Fatalf("neither %q nor Minus of it and %q covers %q", b, a, s)
			}
		}
		for _, s := range rest {
			if covered(b, s) {
				t.Fatalf("Minus of %q and %q contains %q", a, b, s)
			}
		}
	}
}

// P29.3 to P29.5: the functions accept all lists, also long ones.
func TestLong(t *testing.T) {
	const n = 100000
	l := numbered(n)
	below := make([]string, n)
	for i, s := range l {
		below[n-1-i] = s + ".a.b"
	}
	if got := scope.Sorted(append(slices.Clone(below), l...)); !slices.Equal(got, l) {
		t.Errorf("Sorted of %d scopes = %d scopes", 2*n, len(got))
	}
	slices.Reverse(l)
	if !scope.Within(below, l) || scope.Within(l, below) {
		t.Error("Within of long lists")
	}
	slices.Reverse(below)
	if got := scope.Common(l, below); !slices.Equal(got, below) {
		t.Errorf("Common of %d scopes = %d scopes", 2*n, len(got))
	}
	if got := scope.Minus(l, below); len(got) != n || !slices.IsSorted(got) {
		t.Errorf("Minus of %d scopes = %d scopes", 2*n, len(got))
	}
	if got := scope.Sorted([]string{strings.Repeat("a.", 1000000) + "a", strings.Repeat("a", 1000000)}); len(got) != 0 {
		t.Errorf("Sorted of long strings = %d scopes", len(got))
	}
}
