package name

import (
	"slices"
	"strings"
	"testing"

	"identity/api"
)

// names returns names in normal form with at most three components, among them
// components with marks in their values.
func names() []string {
	single := []string{"a=a", "a=b", "b=a", `a=\,`, `a=-`, `a=a\,a\=a`, `a=\\`, "aa=a"}
	all := append([]string{""}, single...)
	from := 1
	for range 2 {
		to := len(all)
		for _, s := range all[from:to] {
			for _, c := range single {
				all = append(all, c+","+s)
			}
		}
		from = to
	}
	return all
}

// others are strings that are no names in normal form.
var others = []string{" ", "a", "A=a", "a=A", "a= b", "a=b, a=b", "a=b,", "1=a", `a=\b`, "a=a=a", "\xff", "a=\u00e9", strings.Repeat("a=b,", api.MaxDepth) + "a=b"}

// parts returns the components of a name.
func parts(t *testing.T, s string) []api.Pair {
	l, e := Parse(s)
	if e != api.OK {
		t.Fatalf("Parse(%q) = %d", s, int(e))
	}
	return l
}

// P5.3
func TestParent(t *testing.T) {
	for s, want := range map[string]string{
		"ou=staff":            "",
		"cn=ann,ou=staff":     "ou=staff",
		`cn=lee\, ann,ou=a\,`: `ou=a\,`,
		`cn=a\\,ou=b,o=c`:     "ou=b,o=c",
		chain(api.MaxDepth):   chain(api.MaxDepth - 1),
	} {
		if got, ok := Parent(s); !ok || got != want {
			t.Errorf("Parent(%q) = %q, %v", s, got, ok)
		}
	}
	for _, s := range append(others, "") {
		if got, ok := Parent(s); ok || got != "" {
			t.Errorf("Parent(%q) = %q, %v", s, got, ok)
		}
	}
}

// P5.3
func TestDepth(t *testing.T) {
	for s, want := range map[string]int{"": 0, "ou=staff": 1, "cn=ann,ou=staff": 2, `cn=a\,b\=c`: 1, `cn=a\\,b=c`: 2} {
		if got := Depth(s); got != want {
			t.Errorf("Depth(%q) = %d", s, got)
		}
	}
	for n := range api.MaxDepth + 1 {
		if got := Depth(chain(n)); got != n {
			t.Errorf("Depth of %d components = %d", n, got)
		}
	}
	for _, s := range others {
		if got := Depth(s); got != 0 {
			t.Errorf("Depth(%q) = %d", s, got)
		}
	}
}

// P5.3
func TestChild(t *testing.T) {
	for _, x := range []struct {
		parent string
		p      api.Pair
		want   string
	}{
		{"ou=staff", pair("CN", "Ann"), "cn=ann,ou=staff"},
		{"", pair("OU", "Staff"), "ou=staff"},
		{"o=x", pair("cn", "Lee,  Ann"), `cn=lee\, ann,o=x`},
		{`o=\=\+`, pair("cn", `\`), `cn=\\,o=\=\+`},
		{chain(api.MaxDepth - 1), pair("A", "B"), chain(api.MaxDepth)},
	} {
		if got, e := Child(x.parent, x.p); e != api.OK || got != x.want {
			t.Errorf("Child(%q, %q) = %q, %d", x.parent, x.p, got, int(e))
		}
	}
	for _, x := range []struct {
		parent string
		p      api.Pair
		want   api.Errno
	}{
		{"OU=staff", pair("", ""), api.ErrForm},
		{"ou", pair("cn", "a"), api.ErrForm},
		{chain(api.MaxDepth + 1), pair("1", ""), api.ErrForm},
		{"ou=staff", pair("1", ""), api.ErrName},
		{"ou=staff", pair("cn", ""), api.ErrType},
		{"ou=staff", pair("cn", " a"), api.ErrType},
		{chain(api.MaxDepth), pair("c n", "a"), api.ErrName},
		{chain(api.MaxDepth), pair("cn", "a "), api.ErrType},
		{chain(api.MaxDepth), pair("cn", "a"), api.ErrLimit},
	} {
		if got, e := Child(x.parent, x.p); e != x.want || got != "" {
			t.Errorf("Child(%q, %q) = %q, %d, not %d", x.parent, x.p, got, int(e), int(x.want))
		}
	}
}

// P5.3: parents and children are each other's.
func TestParentOfChild(t *testing.T) {
	for _, s := range names() {
		c, e := Child(s, pair("Cn", `A,  \b`))
		if e != api.OK || Depth(c) != Depth(s)+1 {
			t.Fatalf("Child(%q) = %q, %d", s, c, int(e))
		}
		if p, ok := Parent(c); !ok || p != s {
			t.Fatalf("Parent(%q) = %q, %v", c, p, ok)
		}
		p, ok := Parent(s)
		if ok != (s != "") {
			t.Fatalf("Parent(%q) = %q, %v", s, p, ok)
		}
		if !ok {
			continue
		}
		if c, e := Child(p, parts(t, s)[0]); e != api.OK || c != s {
			t.Fatalf("Child of the parent of %q = %q, %d", s, c, int(e))
		}
	}
}

// P5.4
func TestUnder(t *testing.T) {
	for _, x := range []struct {
		s, base string
		want    bool
	}{
		{"", "", true},
		{"ou=b", "", true},
		{"", "ou=b", false},
		{"cn=a,ou=b", "ou=b", true},
		{"cn=a,ou=b", "cn=a,ou=b", true},
		{"ou=b", "cn=a,ou=b", false},
		{"cn=a,ou=b", "cn=a", false},
		{"cn=a,ou=b", "u=b", false},
		{"cn=a,ou=b", "ou=bb", false},
		{"cn=a,ou=b,o=c", "ou=b,o=c", true},
		{"cn=a,ou=b,o=c", "o=c", true},
		{"cn=a,ou=b,o=c", "cn=a,o=c", false},
		{"cn=a,ou=b,o=c", "ou=b", false},
		{`cn=a\,ou\=b`, "ou=b", false},
		{`cn=a\\,ou=b`, "ou=b", true},
		{`cn=a,ou=b\,c`, `ou=b\,c`, true},
		{`cn=a\,ou=b`, "ou=b", false},
		{"CN=a,ou=b", "ou=b", false},
		{"cn=a,ou=b", "OU=b", false},
		{"cn=a,ou=b", " ", false},
		{"A=b", "A=b", false},
		{"A=b", "", false},
	} {
		if got := Under(x.s, x.base); got != x.want {
			t.Errorf("Under(%q, %q) = %v", x.s, x.base, got)
		}
	}
}

// P5.4: against the definition, on which reflexivity, transitivity and
// antisymmetry depend.
func TestUnderDefinition(t *testing.T) {
	all := names()
	for _, s := range all {
		above := map[string]bool{}
		for up, ok := s, true; ok; up, ok = Parent(up) {
			above[up] = true
		}
		if len(above) != Depth(s)+1 {
			t.Fatalf("%q has %d names above", s, len(above))
		}
		for _, base := range all {
			if got := Under(s, base); got != above[base] {
				t.Fatalf("Under(%q, %q) = %v", s, base, got)
			}
		}
		for _, o := range others {
			if Under(s, o) || Under(o, s) || Under(o, o) {
				t.Fatalf("Under of %q and %q", s, o)
			}
		}
	}
}

// P5.4
func TestUnderOrder(t *testing.T) {
	all := names()[:73]
	for _, a := range all {
		if !Under(a, a) || !Under(a, "") {
			t.Fatalf("Under(%q) is not reflexive, or not under the root", a)
		}
		if p, ok := Parent(a); ok && (!Under(a, p) || Under(p, a)) {
			t.Fatalf("%q is not under its parent %q alone", a, p)
		}
		for _, b := range all {
			if a != b && Under(a, b) && Under(b, a) {
				t.Fatalf("%q and %q are under each other", a, b)
			}
			for _, c := range all {
				if Under(a, b) && Under(b, c) && !Under(a, c) {
					t.Fatalf("%q is under %q, and this under %q", a, b, c)
				}
			}
		}
	}
}

// P5.5
func TestRebase(t *testing.T) {
	for _, x := range []struct{ s, from, to, want string }{
		{"cn=ann,ou=staff", "ou=staff", "ou=people,o=x", "cn=ann,ou=people,o=x"},
		{"cn=ann,ou=staff", "cn=ann,ou=staff", "o=x", "o=x"},
		{"cn=ann,ou=staff", "ou=staff", "", "cn=ann"},
		{"cn=ann,ou=staff", "", "o=x", "cn=ann,ou=staff,o=x"},
		{"cn=ann,ou=staff", "cn=ann,ou=staff", "", ""},
		{"cn=ann,ou=staff", "ou=staff", "ou=staff", "cn=ann,ou=staff"},
		{"ou=staff,ou=staff", "ou=staff", "cn=b,ou=staff", "ou=staff,cn=b,ou=staff"},
		{"", "", "", ""},
		{"", "", "o=x", "o=x"},
		{`cn=a\,b,ou=\=`, `ou=\=`, `ou=\\`, `cn=a\,b,ou=\\`},
		{"o=x," + chain(api.MaxDepth-1), chain(api.MaxDepth - 1), chain(1), "o=x,a=b"},
		{"o=x", "", chain(api.MaxDepth - 1), "o=x," + chain(api.MaxDepth-1)},
		{"o=x", "o=x", chain(api.MaxDepth), chain(api.MaxDepth)},
	} {
		if got, e := Rebase(x.s, x.from, x.to); e != api.OK || got != x.want {
			t.Errorf("Rebase(%q, %q, %q) = %q, %d", x.s, x.from, x.to, got, int(e))
		}
	}
}

// P5.5
func TestRebaseErrors(t *testing.T) {
	for _, x := range []struct {
		s, from, to string
		want        api.Errno
	}{
		{"CN=ann", "ou=staff", "o=x", api.ErrForm},
		{"cn=ann", "OU=staff", "o=x", api.ErrForm},
		{"cn=ann", "ou=staff", "o = x", api.ErrForm},
		{"A=b", "A=b", "", api.ErrForm},
		{"o=x", "", chain(api.MaxDepth + 1), api.ErrForm},
		{"ou=staff", "cn=ann,ou=staff", "", api.ErrNone},
		{"", "ou=staff", "", api.ErrNone},
		{"cn=ann,ou=staff", "cn=ann", "o=x", api.ErrNone},
		{`cn=a\,ou\=staff`, "ou=staff", "", api.ErrNone},
		{"o=x", "o=y", chain(api.MaxDepth), api.ErrNone},
		{"o=x", "", chain(api.MaxDepth), api.ErrLimit},
		{"cn=ann,ou=staff", "ou=staff", chain(api.MaxDepth), api.ErrLimit},
		{chain(api.MaxDepth), "a=b", "o=x,o=y", api.ErrLimit},
	} {
		if got, e := Rebase(x.s, x.from, x.to); e != x.want || got != "" {
			t.Errorf("Rebase(%q, %q, %q) = %q, %d, not %d", x.s, x.from, x.to, got, int(e), int(x.want))
		}
	}
}

// P5.5: a name that is renamed back is the same as before.
func TestRebaseBack(t *testing.T) {
	all := names()[:73]
	for _, s := range all {
		for from, ok := s, true; ok; from, ok = Parent(from) {
			for _, to := range all {
				kept := len(parts(t, s)) - len(parts(t, from))
				want, e := Format(slices.Concat(parts(t, s)[:kept], parts(t, to)))
				if e != api.OK {
					t.Fatal(int(e))
				}
				there, e := Rebase(s, from, to)
				if e != api.OK || there != want {
					t.Fatalf("Rebase(%q, %q, %q) = %q, %d, not %q", s, from, to, there, int(e), want)
				}
				if back, e := Rebase(there, to, from); e != api.OK || back != s {
					t.Fatalf("Rebase(%q, %q, %q) = %q, %d, not %q", there, to, from, back, int(e), s)
				}
			}
		}
	}
}

// P5.6
func TestCompare(t *testing.T) {
	for _, x := range []struct {
		a, b string
		want int
	}{
		{"", "", 0},
		{"", "a=a", -1},
		{"ou=staff", "cn=ann,ou=staff", -1},
		{"cn=ann,ou=staff", "ou=temp", -1},
		{"cn=ann,ou=staff", "cn=bob,ou=staff", -1},
		{"cn=z,ou=a", "cn=a,ou=b", -1},
		{"cn=z,o=b", "cn=a,ou=a", -1},
		{"a=z", "b=a", -1},
		{"a=z", "aa=a", -1},
		{"x=a,a=z", "x=a,aa=a", -1},
		{`a=\,`, "a=-", -1},      // by the byte of the value, not by the escape
		{`a=\=`, "a=a", -1},      // so here
		{"x=a,a=[", `a=\\`, -1},  // and here, after the escape
		{`a=a\,b`, "a=a-", -1},   // and inside
		{"a=a b", "a=a", 1},      // a longer value
		{"a=a b,o=x", "a=ab", 1}, // o comes after a
		{"a=b,o=x", "c=d,o=x", -1},
		{"a=b,o=x", "a=c,b=a,o=x", -1},
		{"", "!", -1},
		{"z=z", "!", -1},
		{"z=z", "A=a", -1},
		{"z=z", "", 1},
		{"!", "A=a", -1},
		{"A=a", "a", -1},
		{"A=a", "A=a", 0},
		{"A=a", "A=a ", -1},
		{"b= a,a=a", "a =a,b=b", 1}, // byte by byte, not by components
	} {
		if got := Compare(x.a, x.b); got != x.want {
			t.Errorf("Compare(%q, %q) = %d", x.a, x.b, got)
		}
		if got := Compare(x.b, x.a); got != -x.want {
			t.Errorf("Compare(%q, %q) = %d", x.b, x.a, got)
		}
	}
}

// P5.6
func TestCompareOrder(t *testing.T) {
	all := append(names(), others...)
	slices.Reverse(all)
	slices.SortFunc(all, Compare)
	for i, a := range all {
		for k, b := range all {
			want := min(max(i-k, -1), 1)
			if got := Compare(a, b); got != want {
				t.Fatalf("Compare(%q, %q) = %d, not %d", a, b, got, want)
			}
		}
	}
	if first := slices.IndexFunc(all, func(s string) bool { return !Valid(s) }); first != len(names()) || all[0] != "" {
		t.Errorf("the first string in no normal form is number %d", first)
	}
}

// P5.6: the names under one name are contiguous, and it is the first of them.
func TestCompareSubtrees(t *testing.T) {
	all := names()
	slices.SortFunc(all, Compare)
	for i, base := range all {
		n := 0
		for _, s := range all {
			if Under(s, base) {
				n++
			}
		}
		for _, s := range all[i : i+n] {
			if !Under(s, base) {
				t.Fatalf("%q lies between names under %q", s, base)
			}
		}
	}
}
