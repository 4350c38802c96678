package scope_test

import (
	"math/rand"
	"regexp"
	"slices"
	"strconv"
	"strings"
	"testing"

	"identity/api"
	"identity/scope"
)

// form is the form of scopes, whatever their length is.
var form = regexp.MustCompile(`^[A-Za-z0-9_:-]+(\.[A-Za-z0-9_:-]+)*$`)

// isScope reports whether s is a scope by its form and length.
func isScope(s string) bool {
	return len(s) <= api.MaxName && form.MatchString(s)
}

// includes reports whether a includes b: b begins with the parts of a.
func includes(a, b string) bool {
	p, q := strings.Split(a, "."), strings.Split(b, ".")
	return isScope(a) && isScope(b) && len(p) <= len(q) && slices.Equal(p, q[:len(p)])
}

// bytes returns n bytes of a word.
func bytes(n int) string {
	return strings.Repeat("b", n)
}

// numbered returns n different scopes, ascending.
func numbered(n int) []string {
	var l []string
	for i := range n {
		l = append(l, "s"+strconv.Itoa(100000+i))
	}
	return l
}

// short returns the strings of up to n bytes of an alphabet.
func short(alphabet string, n int) []string {
	l := []string{""}
	for first := 0; n > 0; n-- {
		last := len(l)
		for _, s := range l[first:last] {
			for i := range len(alphabet) {
				l = append(l, s+alphabet[i:i+1])
			}
		}
		first = last
	}
	return l
}

// names returns scopes, some of which include others or only look so.
func names() []string {
	return []string{"a", "A", "a.b", "a.b.c", "a.c", "ab", "a-b", "a-b.c", "a:b", "a_b", "a0", "b", "b.a", "0", "-", "-.-", "a.-", "a.B",
		"mail", "mail.read", "mail.read.all", "mailbox", "mail-x.read", bytes(64), bytes(62) + ".b", bytes(62), bytes(30) + "." + bytes(33)}
}

// notNames returns strings that are no scopes.
func notNames() []string {
	return []string{"", ".", "..", ".a", "a.", "a..b", "a...b", "a.b.", ".a.b", "a.b..", " ", " a", "a ", "a b", "a|b", "a,b", "a=b", "a/b", "a%2Eb", "*", "a.*",
		"é", "a.é", "a\n", "\x00", "\xff", bytes(65), bytes(63) + ".b", bytes(63) + ".", strings.Repeat(".", 64), strings.Repeat("a.", 40) + "a"}
}

// random returns a list of up to n strings, most of them scopes that include
// others.
func random(r *rand.Rand, n int) []string {
	related := []string{"a", "a.b", "a.b.c", "a.b.c.d", "a.b-c", "a.c", "ab", "b", "b.a", "b.a.c", "b-a"}
	var l []string
	for range r.Intn(n + 1) {
		from := related
		switch r.Intn(12) {
		case 0:
			from = notNames()
		case 1, 2:
			from = names()
		}
		l = append(l, from[r.Intn(len(from))])
	}
	return l
}

// P29.1
func TestCheck(t *testing.T) {
	long := numbered(api.MaxScopes)
	for want, lists := range map[api.Errno][][]string{
		api.OK:      {nil, {}, {"a"}, {"b", "a"}, {"a.b.c", "a"}, {"a", "A"}, {"level", "age"}, {"a", "a.b", "a.b.c"}, long},
		api.ErrName: {{""}, {"a..b"}, {"a", ""}, {"a", ".b", "a"}, {"a b", "a b"}, {"", "a", "a"}, append([]string{"a."}, long[1:]...)},
		api.ErrTwice: {{"a", "a"}, {"a", "b", "a"}, {"a.b", "a", "a.b"}, {"a", "a", ""}, {"a", "b", "b", "a..b"},
			append(slices.Clone(long[:15]), long[0]), append(slices.Clone(long[:15]), long[14])},
		api.ErrLimit: {numbered(api.MaxScopes + 1), numbered(1000), append(slices.Clone(long), ""), append(slices.Clone(long), long[0]), make([]string, 17), slices.Repeat([]string{"a"}, 17)},
	} {
		for _, l := range lists {
			before := slices.Clone(l)
			if e := scope.Check(l); e != want {
				t.Errorf("Check of %q = %d, not %d", l, int(e), int(want))
			}
			if !slices.Equal(l, before) {
				t.Errorf("Check changed %q", before)
			}
		}
	}
}

// P29.1: what is a scope, for many strings.
func TestScopes(t *testing.T) {
	all := slices.Concat(names(), notNames(), short("a.-", 6))
	for c := range 256 {
		b := string([]byte{byte(c)})
		all = append(all, b, "a"+b, b+"a", "a"+b+"a", "a."+b, b+".a", "a"+b+".a")
	}
	for n := range 70 {
		all = append(all, bytes(n), "a."+bytes(n), bytes(n)+".a", bytes(n)+"."+bytes(n))
	}
	scopes := 0
	for _, s := range all {
		want := api.ErrName
		if isScope(s) {
			want = api.OK
			scopes++
		}
		if e := scope.Check([]string{s}); e != want {
			t.Errorf("Check of %q = %d, not %d", s, int(e), int(want))
		}
		if is := scope.Implies(s, s); is != (want == api.OK) {
			t.Errorf("Implies of %q and itself = %v", s, is)
		}
	}
	if scopes < 500 || scopes > len(all)-500 {
		t.Errorf("%d of %d strings are scopes", scopes, len(all))
	}
	for _, s := range notNames() {
		if isScope(s) {
			t.Errorf("%q is a scope", s)
		}
	}
}

// P29.2
func TestTextAndParse(t *testing.T) {
	for s, l := range map[string][]string{
		"":                                 {},
		"a":                                {"a"},
		"a b.c":                            {"a", "b.c"},
		"b a a.b":                          {"b", "a", "a.b"},
		"mail:x files-y_z 0":               {"mail:x", "files-y_z", "0"},
		strings.Join(numbered(16), " "):    numbered(16),
		bytes(64) + " " + bytes(62) + ".x": {bytes(64), bytes(62) + ".x"},
	} {
		before := slices.Clone(l)
		if got, e := scope.Text(l); got != s || e != api.OK {
			t.Errorf("Text of %q = %q, %d", l, got, int(e))
		}
		if !slices.Equal(l, before) {
			t.Errorf("Text changed %q", before)
		}
		if got, e := scope.Parse(s); !slices.Equal(got, l) || e != api.OK {
			t.Errorf("Parse of %q = %q, %d", s, got, int(e))
		}
	}
}

// P29.2: the errors of Text and Parse.
func TestTextAndParseErrors(t *testing.T) {
	for s, want := range map[string]api.Errno{
		" ": api.ErrName, "  ": api.ErrName, " a": api.ErrName, "a ": api.ErrName, "a  b": api.ErrName, "a b ": api.ErrName,
		"a..b": api.ErrName, ".a": api.ErrName, "a b.": api.ErrName, "a\tb": api.ErrName, "a\n": api.ErrName, "a,b": api.ErrName,
		"a\u00a0b": api.ErrName, "a \xff": api.ErrName, bytes(65): api.ErrName, "a  a": api.ErrName, "- %20": api.ErrName,
		"a a": api.ErrTwice, "a b a": api.ErrTwice, "a a ": api.ErrTwice, "a.b a a.b c.": api.ErrTwice,
		strings.Join(numbered(17), " "): api.ErrLimit, strings.Repeat("a ", 16): api.ErrLimit, strings.Repeat(" ", 16): api.ErrLimit,
		strings.Repeat("a ", 15): api.ErrTwice, strings.Repeat(" ", 15): api.ErrName, strings.Repeat(" ", 100000): api.ErrLimit,
	} {
		if l, e := scope.Parse(s); len(l) != 0 || e != want {
			t.Errorf("Parse of %q = %q, %d, not %d", s, l, int(e), int(want))
		}
		if got, e := scope.Text(strings.Split(s, " ")); got != "" || e != want {
			t.Errorf("Text of the parts of %q = %q, %d, not %d", s, got, int(e), int(want))
		}
	}
	if got, e := scope.Text([]string{""}); got != "" || e != api.ErrName {
		t.Errorf("Text of an empty string = %q, %d", got, int(e))
	}
	if got, e := scope.Text([]string{"a b"}); got != "" || e != api.ErrName {
		t.Errorf("Text of a string with a space = %q, %d", got, int(e))
	}
}

// P29.2, P29.6: all short texts.
func TestShortTexts(t *testing.T) {
	accepted := 0
	for _, s := range short("ab. ", 7) {
		l, e := scope.Parse(s)
		if s != "" {
			if want := scope.Check(strings.Split(s, " ")); e != want {
				t.Fatalf("Parse of %q = %d, not %d", s, int(e), int(want))
			}
		}
		if e != api.OK {
			if len(l) != 0 {
				t.Fatalf("Parse of %q = %q, %d", s, l, int(e))
			}
			continue
		}
		accepted++
		if got, e := scope.Text(l); got != s || e != api.OK {
			t.Fatalf("Text of Parse of %q = %q, %d", s, got, int(e))
		}
	}
	if accepted < 500 {
		t.Errorf("%d texts were accepted", accepted)
	}
}

// P29.6: Parse inverts Text.
func TestParseInvertsText(t *testing.T) {
	r := rand.New(rand.NewSource(1))
	accepted := 0
	for range 20000 {
		l := random(r, 8)
		s, e := scope.Text(l)
		if e != scope.Check(l) {
			t.Fatalf("Text of %q = %d", l, int(e))
		}
		if e != api.OK {
			continue
		}
		accepted++
		if got, e := scope.Parse(s); !slices.Equal(got, l) || e != api.OK {
			t.Fatalf("Parse of Text of %q = %q, %d", l, got, int(e))
		}
	}
	if accepted < 1000 {
		t.Errorf("%d lists were accepted", accepted)
	}
}

// P29.4
func TestImplies(t *testing.T) {
	for _, x := range []struct {
		a, b string
		want bool
	}{
		{"mail", "mail", true}, {"mail", "mail.read", true}, {"mail", "mail.read.all", true}, {"mail.read", "mail.read.all", true},
		{"mail", "mailbox", false}, {"mail", "mail-x.read", false}, {"mail", "mail:read", false}, {"mail.read", "mail", false}, {"mail.read", "mail.write", false},
		{"mail", "Mail", false}, {"Mail", "mail.read", false}, {"mail", "x.mail", false}, {"mail", "", false}, {"", "mail", false},
		{"mail.", "mail.read", false}, {"mail", "mail.", false}, {"mail", "mail..read", false}, {"mail", "mail.read.", false}, {"mail", "mail.a b", false},
		{".", ".", false}, {"a.", "a.", false}, {"a b", "a b", false}, {"mail.read", "mail read", false}, {"mail.read", "mail-read.x", false},
		{bytes(62), bytes(62) + ".b", true}, {bytes(63), bytes(63) + ".b", false}, {bytes(64), bytes(64), true}, {bytes(65), bytes(65), false},
	} {
		if got := scope.Implies(x.a, x.b); got != x.want {
			t.Errorf("Implies of %q and %q = %v", x.a, x.b, got)
		}
	}
	all := slices.Concat(names(), notNames(), short("a.b", 4))
	for _, a := range all {
		for _, b := range all {
			if got := scope.Implies(a, b); got != includes(a, b) {
				t.Fatalf("Implies of %q and %q = %v", a, b, got)
			}
		}
	}
}

// P29.7
func TestOrder(t *testing.T) {
	all := slices.Concat(names(), notNames()[:12], short("a.", 5))
	for _, a := range all {
		for _, b := range all {
			if !scope.Implies(a, b) {
				continue
			}
			if a != b && scope.Implies(b, a) {
				t.Fatalf("%q and %q imply each other", a, b)
			}
			for _, c := range all {
				if scope.Implies(b, c) && !scope.Implies(a, c) {
					t.Fatalf("%q implies %q, which implies %q", a, b, c)
				}
			}
		}
	}
}
