package fold

import (
	"slices"
	"strings"
	"testing"

	"identity/api"
)

// texts returns all strings of at most n bytes of an alphabet.
func texts(alphabet string, n int) []string {
	all := []string{""}
	from := 0
	for range n {
		to := len(all)
		for _, s := range all[from:to] {
			for i := range len(alphabet) {
				all = append(all, s+alphabet[i:i+1])
			}
		}
		from = to
	}
	return all
}

// bytesOf returns the strings of one byte.
func bytesOf() []string {
	var all []string
	for c := range 256 {
		all = append(all, string([]byte{byte(c)}))
	}
	return all
}

// P1.1
func TestLower(t *testing.T) {
	const upper = "ABCDEFGHIJKLMNOPQRSTUVWXYZ"
	const lower = "abcdefghijklmnopqrstuvwxyz"
	for _, s := range bytesOf() {
		want := s
		if i := strings.Index(upper, s); i >= 0 {
			want = lower[i : i+1]
		}
		if got := Lower(s); got != want {
			t.Errorf("Lower(%q) = %q, not %q", s, got, want)
		}
	}
	for s, want := range map[string]string{
		"":          "",
		"Ann É":     "ann É",
		"  A  B ":   "  a  b ",
		"\xc0A\xff": "\xc0a\xff",
		"\u212a":    "\u212a", // the Kelvin sign is no letter here
		"X\x00Y\nZ": "x\x00y\nz",
	} {
		if got := Lower(s); got != want {
			t.Errorf("Lower(%q) = %q, not %q", s, got, want)
		}
	}
}

// P1.1
func TestTrim(t *testing.T) {
	for s, want := range map[string]string{
		"":              "",
		" ":             "",
		"    ":          "",
		"a":             "a",
		"  a b ":        "a b",
		"a  B":          "a  B",
		" a":            "a",
		"a ":            "a",
		"\ta\n":         "\ta\n",
		" \t ":          "\t",
		"\u00a0a\u2003": "\u00a0a\u2003",
		" \xff ":        "\xff",
	} {
		if got := Trim(s); got != want {
			t.Errorf("Trim(%q) = %q, not %q", s, got, want)
		}
	}
}

// P1.2
func TestFold(t *testing.T) {
	for s, want := range map[string]string{
		"":               "",
		"      ":         "",
		"  Ann   LEE ":   "ann lee",
		"A B":            "a b",
		"a  b   c    D":  "a b c d",
		"a\t\tB":         "a\t\tb",
		" \t  \t ":       "\t \t",
		"É  É":           "É É",
		"\xff  \xffA":    "\xff \xffa",
		"a\u00a0\u00a0b": "a\u00a0\u00a0b",
	} {
		if got := Fold(s); got != want {
			t.Errorf("Fold(%q) = %q, not %q", s, got, want)
		}
	}
	for _, s := range texts(" aB\t", 6) {
		want := Lower(Trim(s))
		for strings.Contains(want, "  ") {
			want = strings.ReplaceAll(want, "  ", " ")
		}
		if got := Fold(s); got != want {
			t.Fatalf("Fold(%q) = %q, not %q", s, got, want)
		}
	}
}

// The bytes of names and words.
const (
	letters   = "ABCDEFGHIJKLMNOPQRSTUVWXYZabcdefghijklmnopqrstuvwxyz"
	nameBytes = letters + "0123456789-"
	wordBytes = nameBytes + "_.:"
)

// P1.3
func TestCleanBytes(t *testing.T) {
	for c, s := range bytesOf() {
		printable := c >= 32 && c <= 126
		outer := printable && c != 32
		for in, want := range map[string]bool{s: outer, s + "a": outer, "a" + s: outer, "a" + s + "a": printable} {
			if got := Clean(in); got != want {
				t.Errorf("Clean(%q) = %v", in, got)
			}
		}
	}
	if !Clean("a  b") || Clean("a ") || Clean(" a") || Clean(" ") || Clean("") || Clean("é") {
		t.Error("Clean of the examples")
	}
}

// P1.3
func TestNameBytes(t *testing.T) {
	for _, s := range bytesOf() {
		first, further := strings.Contains(letters, s), strings.Contains(nameBytes, s)
		for in, want := range map[string]bool{s: first, s + "a": first, "a" + s: further, "a" + s + "a": further} {
			if got := Name(in); got != want {
				t.Errorf("Name(%q) = %v", in, got)
			}
		}
	}
	if !Name("x-1") || Name("1x") || Name("") || Name("-x") || Name("x_1") || Name("é") {
		t.Error("Name of the examples")
	}
}

// P1.3
func TestWordBytes(t *testing.T) {
	for _, s := range bytesOf() {
		want := strings.Contains(wordBytes, s)
		for _, in := range []string{s, s + "a", "a" + s, "a" + s + "a"} {
			if got := Word(in); got != want {
				t.Errorf("Word(%q) = %v", in, got)
			}
		}
	}
	if !Word("1x:a.b") || !Word("-") || Word("") || Word("a b") || Word("é") {
		t.Error("Word of the examples")
	}
}

// P1.3
func TestLengths(t *testing.T) {
	for _, x := range []struct {
		what string
		is   func(string) bool
		most int
	}{{"Clean", Clean, api.MaxValue}, {"Name", Name, api.MaxName}, {"Word", Word, api.MaxName}} {
		for n := range x.most + 2 {
			if got, want := x.is(strings.Repeat("a", n)), n >= 1 && n <= x.most; got != want {
				t.Errorf("%s of %d bytes = %v", x.what, n, got)
			}
		}
	}
}

// P1.4
func TestCompare(t *testing.T) {
	for _, x := range []struct {
		a, b string
		want int
	}{
		{"", "", 0},
		{"a", "a", 0},
		{"Ann", "bob", -1},
		{"bob", "Ann", 1},
		{"ann", "Ann", 1},
		{"Ann", "ann", -1},
		{"a  b", "A B", 1},
		{"", " ", -1},
		{" a", "a", -1},
		{"a ", "a", 1},
		{"ab", "a", 1},
		{"a", "AB", -1},
		{"a  c", "A B", 1},
		{"Z", "_", 1}, // by the byte z, not by the byte Z
		{"\xff", "z", 1},
		{"é", "É", 1},
	} {
		if got := Compare(x.a, x.b); got != x.want {
			t.Errorf("Compare(%q, %q) = %d", x.a, x.b, got)
		}
	}
}

// P1.4 and P1.7
func TestCompareOrder(t *testing.T) {
	all := texts(" aA_\xe9", 3)
	for _, a := range all {
		for _, b := range all {
			want := strings.Compare(Fold(a), Fold(b))
			if want == 0 {
				want = strings.Compare(a, b)
			}
			if got := Compare(a, b); got != want {
				t.Fatalf("Compare(%q, %q) = %d, not %d", a, b, got, want)
			}
			if Compare(b, a) != -want || (want == 0) != (a == b) {
				t.Fatalf("Compare(%q, %q) is not the opposite", b, a)
			}
		}
	}
	slices.SortFunc(all, Compare)
	for i, a := range all {
		for _, b := range all[i:] {
			if Compare(a, b) > 0 {
				t.Fatalf("%q comes before %q, but not by every way", a, b)
			}
		}
	}
}

// occurs is the definition of the parts between in P1.5: it tries every place.
func occurs(t string, parts []string) bool {
	if len(parts) == 0 {
		return true
	}
	part := Lower(parts[0])
	for i := range len(t) + 1 {
		if strings.HasPrefix(t[i:], part) && occurs(t[i+len(part):], parts[1:]) {
			return true
		}
	}
	return false
}

// matches is the definition of P1.5.
func matches(s string, parts []string) bool {
	if len(parts) < 2 {
		return false
	}
	t, last := Fold(s), len(parts)-1
	head, tail := Lower(parts[0]), Lower(parts[last])
	if !strings.HasPrefix(t, head) || !strings.HasSuffix(t, tail) || len(head)+len(tail) > len(t) {
		return false
	}
	return occurs(t[len(head):len(t)-len(tail)], parts[1:last])
}

// P1.5
func TestMatch(t *testing.T) {
	for _, x := range []struct {
		s     string
		parts []string
		want  bool
	}{
		{"Ann Lee", []string{"a", "n l", "e"}, true},
		{"ab", []string{"ab", "b"}, false},
		{"mail server 2", []string{"mail", "2"}, true},
		{"mail server 2", []string{"mail"}, false},
		{"mail", []string{"mail"}, false},
		{"", nil, false},
		{"", []string{}, false},
		{"", []string{""}, false},
		{"", []string{"", ""}, true},
		{"", []string{"", "a", ""}, false},
		{"a", []string{"A", ""}, true},
		{"A", []string{"", "a"}, true},
		{"A", []string{"a", "a"}, false},
		{"aa", []string{"a", "a"}, true},
		{"abc", []string{"ab", "bc"}, false},
		{"abc", []string{"a", "bc", "c"}, false},
		{"abcbc", []string{"a", "bc", "c"}, true},
		{"abcd", []string{"", "cd", "ab", ""}, false},
		{"abab", []string{"", "ab", "ab", "ab", ""}, false},
		{"  A  B  ", []string{"a b", ""}, true},
		{"a b", []string{"a ", "b"}, true},
		{"a  b", []string{"a  ", "b"}, false}, // the spaces of parts stay
		{"a", []string{" a", ""}, false},
		{"a", []string{"a", " "}, false},
		{"É", []string{"É", ""}, true},
		{"É", []string{"é", ""}, false},
		{"\xff", []string{"", "\xff"}, true},
	} {
		if got := Match(x.s, x.parts); got != x.want {
			t.Errorf("Match(%q, %q) = %v", x.s, x.parts, got)
		}
	}
}

// P1.5: all short strings and parts, against the definition.
func TestMatchDefinition(t *testing.T) {
	parts := texts("aB ", 2)
	for _, s := range texts("Ab ", 4) {
		for _, first := range parts {
			for _, last := range parts {
				for _, l := range [][]string{{first, last}, {first, "a", last}, {first, "B", "a", last}, {first, "ab", " ", last}} {
					if got := Match(s, l); got != matches(s, l) {
						t.Fatalf("Match(%q, %q) = %v", s, l, got)
					}
				}
			}
		}
	}
}

// P1.5: parts that are themselves repeated, where the leftmost place matters.
func TestMatchRepeated(t *testing.T) {
	between := texts("ab", 3)
	for _, s := range texts("ab", 6) {
		for _, one := range between {
			for _, two := range between {
				l := []string{"a", one, two, "b"}
				if got := Match(s, l); got != matches(s, l) {
					t.Fatalf("Match(%q, %q) = %v", s, l, got)
				}
			}
		}
	}
}

// DOC.md, rule 4
func TestMatchKeepsParts(t *testing.T) {
	parts := []string{"A", "B  ", "C"}
	Match("ab  c", parts)
	if !slices.Equal(parts, []string{"A", "B  ", "C"}) {
		t.Errorf("parts became %q", parts)
	}
}

// P1.6
func TestIdempotent(t *testing.T) {
	for _, s := range texts(" aB\t\xc9", 5) {
		for what, f := range map[string]func(string) string{"Lower": Lower, "Trim": Trim, "Fold": Fold} {
			if once := f(s); f(once) != once {
				t.Fatalf("%s of %q is changed a second time", what, s)
			}
		}
		if Fold(Lower(s)) != Fold(s) || Fold(Trim(s)) != Fold(s) {
			t.Fatalf("Fold(%q) depends on case or outer spaces", s)
		}
		if Clean(s) && !Clean(Fold(s)) {
			t.Fatalf("Fold of the value %q is no value", s)
		}
	}
	long := "A" + strings.Repeat(" ", api.MaxValue-2) + "Z"
	if !Clean(long) || Fold(long) != "a z" || !Clean(Fold(long)) {
		t.Error("Fold of a long value")
	}
}

// P1.7
func TestKindsInclude(t *testing.T) {
	all := texts("aZ0-_.: \x7f", 4)
	for _, n := range []int{api.MaxName, api.MaxName + 1, api.MaxValue, api.MaxValue + 1} {
		all = append(all, strings.Repeat("x", n))
	}
	for _, s := range all {
		if Name(s) && !Word(s) {
			t.Fatalf("the name %q is no word", s)
		}
		if Word(s) && !Clean(s) {
			t.Fatalf("the word %q is no value", s)
		}
	}
}

// P1.8
func TestMatchForms(t *testing.T) {
	lists := [][]string{{"", ""}, {"a", ""}, {"", "b"}, {"a", "b", "a"}, {"", " ", ""}, {"a ", "b"}, {"", "ab", "ab", ""}}
	for _, s := range texts("aB ", 5) {
		if !Match(s, []string{"", ""}) {
			t.Fatalf("Match(%q) of two empty parts is false", s)
		}
		for _, l := range lists {
			want := Match(s, l)
			for _, same := range []string{Fold(s), "  " + s, s + " ", strings.ReplaceAll(s, " ", "   "), strings.ToUpper(s)} {
				if Match(same, l) != want {
					t.Fatalf("Match(%q, %q) is not Match(%q, %q)", same, l, s, l)
				}
			}
			for i := 1; i < len(l); i++ {
				more := slices.Insert(slices.Clone(l), i, "", "")
				if Match(s, more) != want {
					t.Fatalf("Match(%q, %q) is not Match(%q, %q)", s, more, s, l)
				}
			}
		}
	}
}
