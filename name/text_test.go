package name

import (
	"slices"
	"strings"
	"testing"

	"identity/api"
	"identity/fold"
)

// pair makes a component.
func pair(key, value string) api.Pair {
	return api.Pair{Key: key, Value: value}
}

// texts returns all strings of at most n bytes of an alphabet.
func texts(alphabet string, n int) []string {
	all := []string{""}
	from := 0
	for range n {
		to := len(all)
		for _, s := range all[from:to] {
			for i := range len(alphabet) {
				all = append(all, s+alphabet[i:i+1])
			}
		}
		from = to
	}
	return all
}

// chain returns the text of n components.
func chain(n int) string {
	return strings.TrimSuffix(strings.Repeat("a=b,", n), ",")
}

// P5.1
func TestParse(t *testing.T) {
	long, key := strings.Repeat("v", api.MaxValue), strings.Repeat("k", api.MaxName)
	for _, x := range []struct {
		s    string
		want []api.Pair
	}{
		{"", nil},
		{`CN = Lee\, Ann , ou=Staff`, []api.Pair{pair("CN", "Lee, Ann"), pair("ou", "Staff")}},
		{"cn=a", []api.Pair{pair("cn", "a")}},
		{"  X-1  =  a  B  ", []api.Pair{pair("X-1", "a  B")}},
		{`o=\=\+\\\,`, []api.Pair{pair("o", `=+\,`)}},
		{`o=a\\,p=b`, []api.Pair{pair("o", `a\`), pair("p", "b")}},
		{`o=a\\\,p\=b`, []api.Pair{pair("o", `a\,p=b`)}},
		{`o=\, ,p=\,`, []api.Pair{pair("o", ","), pair("p", ",")}},
		{`o= \\ `, []api.Pair{pair("o", `\`)}},
		{"o=a,o=a", []api.Pair{pair("o", "a"), pair("o", "a")}},
		{`o=|%;"<>#`, []api.Pair{pair("o", `|%;"<>#`)}},
		{key + "=" + long, []api.Pair{pair(key, long)}},
		{"o=" + strings.Repeat(`\,`, api.MaxValue), []api.Pair{pair("o", strings.Repeat(",", api.MaxValue))}},
		{chain(api.MaxDepth), slices.Repeat([]api.Pair{pair("a", "b")}, api.MaxDepth)},
	} {
		if got, e := Parse(x.s); e != api.OK || !slices.Equal(got, x.want) {
			t.Errorf("Parse(%q) = %q, %d", x.s, got, int(e))
		}
	}
}

// P5.1
func TestParseErrors(t *testing.T) {
	for s, want := range map[string]api.Errno{
		" ": api.ErrForm, "cn": api.ErrForm, ",": api.ErrForm, "cn=a,": api.ErrForm, ",cn=a": api.ErrForm,
		"cn=a,,o=b": api.ErrForm, `cn\=a`: api.ErrForm,
		"cn=a=b": api.ErrForm, "cn==a": api.ErrForm, "cn=a+b": api.ErrForm, "cn=+": api.ErrForm,
		`cn=a\`: api.ErrForm, `cn=a\ `: api.ErrForm, `cn=a\b`: api.ErrForm, `cn=\ a`: api.ErrForm,
		`cn=\\\`: api.ErrForm, `cn=\\=`: api.ErrForm, "cn=a\\\xc3\xa9": api.ErrForm, `cn=\"`: api.ErrForm,

		"=a": api.ErrName, " =a": api.ErrName, "1n=a": api.ErrName, "c n=a": api.ErrName, `c\=n=a`: api.ErrName,
		`c\,n=a`: api.ErrName, "c+n=a": api.ErrName, `\cn=a`: api.ErrName, "\tcn=a": api.ErrName, "c_n=a": api.ErrName,
		strings.Repeat("k", api.MaxName+1) + "=a": api.ErrName,

		"cn=": api.ErrType, "cn=  ": api.ErrType, "cn=\ta": api.ErrType, "cn=a\x7f": api.ErrType, "cn=\u00e9": api.ErrType,
		"cn=" + strings.Repeat("v", api.MaxValue+1):   api.ErrType,
		"cn=" + strings.Repeat(`\=`, api.MaxValue+1):  api.ErrType,
		"cn=a" + strings.Repeat(" ", 300) + "\x00,cn": api.ErrType,

		// Several errors of one piece.
		"1=a+b": api.ErrForm, "1": api.ErrForm, "cn=\x00+": api.ErrForm, "1=": api.ErrName, "1=\x00": api.ErrName,

		// Several pieces.
		"1=a,cn": api.ErrName, "cn=,1=a": api.ErrType, "cn,1=a": api.ErrForm, "cn=a,1=a": api.ErrName, "cn=a,o=,p": api.ErrType,

		chain(api.MaxDepth + 1): api.ErrLimit, chain(1000): api.ErrLimit, chain(1000) + ",": api.ErrForm,
		chain(api.MaxDepth) + ",1=a": api.ErrName, chain(api.MaxDepth) + ",a=": api.ErrType, chain(api.MaxDepth+1) + ",a": api.ErrForm,
	} {
		if got, e := Parse(s); e != want || len(got) != 0 {
			t.Errorf("Parse(%q) = %q, %d, not %d", s, got, int(e), int(want))
		}
		if got, e := Clean(s); e != want || got != "" {
			t.Errorf("Clean(%q) = %q, %d, not %d", s, got, int(e), int(want))
		}
	}
}

// protect returns s with each escape and the byte after it replaced by two
// bytes above 127, so that what is left of the marks is not escaped.
func protect(s string) string {
	b := []byte(s)
	for i := 0; i+1 < len(b); i++ {
		if b[i] == '\\' {
			b[i], b[i+1] = 0xff, b[i+1]|0x80
			i++
		}
	}
	return string(b)
}

// parsePiece is the definition of the components of P5.1, on a protected piece
// without bytes above 127 of its own.
func parsePiece(piece string) (api.Pair, api.Errno) {
	key, value, found := strings.Cut(piece, "=")
	value = strings.Trim(value, " ")
	// A space that is escaped is no space at an end, but it is an error as well.
	if !found || strings.ContainsAny(value, `\=+`) {
		return api.Pair{}, api.ErrForm
	}
	for strings.Contains(value, "\xff") {
		before, after, _ := strings.Cut(value, "\xff")
		c := after[0] & 0x7f
		if !strings.ContainsRune(`,=+\`, rune(c)) {
			return api.Pair{}, api.ErrForm
		}
		value = before + string(rune(c)) + after[1:]
	}
	key = strings.Trim(key, " ")
	if !fold.Name(key) {
		return api.Pair{}, api.ErrName
	}
	if !fold.Clean(value) {
		return api.Pair{}, api.ErrType
	}
	return pair(key, value), api.OK
}

// parse is the definition of P5.1 for strings with bytes up to 127.
func parse(s string) ([]api.Pair, api.Errno) {
	var l []api.Pair
	if s == "" {
		return nil, api.OK
	}
	for _, piece := range strings.Split(protect(s), ",") {
		p, e := parsePiece(piece)
		if e != api.OK {
			return nil, e
		}
		l = append(l, p)
	}
	return l, api.OK
}

// P5.1: all short strings, against the definition.
func TestParseDefinition(t *testing.T) {
	all := texts(`a=,\+ 1`, 6)
	for _, s := range texts(`b=,\ `, 5) {
		all = append(all, "a=b"+s, "A="+s, `x= \\`+s)
	}
	found := map[api.Errno]int{}
	for _, s := range all {
		want, e := parse(s)
		if got, f := Parse(s); f != e || !slices.Equal(got, want) {
			t.Fatalf("Parse(%q) = %q, %d, not %q, %d", s, got, int(f), want, int(e))
		}
		found[e]++
	}
	for _, e := range []api.Errno{api.OK, api.ErrForm, api.ErrName, api.ErrType} {
		if found[e] == 0 {
			t.Errorf("no string with the result %d", int(e))
		}
	}
}

// P5.2
func TestFormat(t *testing.T) {
	long, key := strings.Repeat("V", api.MaxValue), strings.Repeat("K", api.MaxName)
	eight := slices.Repeat([]api.Pair{pair("A", "B")}, api.MaxDepth)
	for _, x := range []struct {
		l    []api.Pair
		want string
	}{
		{nil, ""},
		{[]api.Pair{}, ""},
		{[]api.Pair{pair("CN", "Lee,  Ann"), pair("ou", "Staff")}, `cn=lee\, ann,ou=staff`},
		{[]api.Pair{pair("O", `=+\,|%`)}, `o=\=\+\\\,|%`},
		{[]api.Pair{pair("o", "A   b    C")}, "o=a b c"},
		{[]api.Pair{pair("o", ", ,")}, `o=\, \,`},
		{[]api.Pair{pair(key, long)}, strings.ToLower(key + "=" + long)},
		{[]api.Pair{pair("o", strings.Repeat("+", api.MaxValue))}, "o=" + strings.Repeat(`\+`, api.MaxValue)},
		{eight, chain(api.MaxDepth)},
	} {
		if got, e := Format(x.l); e != api.OK || got != x.want {
			t.Errorf("Format(%q) = %q, %d", x.l, got, int(e))
		}
	}
}

// P5.2
func TestFormatErrors(t *testing.T) {
	good := pair("o", "a")
	many := slices.Repeat([]api.Pair{good}, api.MaxDepth+1)
	for _, x := range []struct {
		l    []api.Pair
		want api.Errno
	}{
		{[]api.Pair{pair("", "a")}, api.ErrName},
		{[]api.Pair{pair("1", "a")}, api.ErrName},
		{[]api.Pair{pair(" o", "a")}, api.ErrName},
		{[]api.Pair{pair("o=", "a")}, api.ErrName},
		{[]api.Pair{pair(strings.Repeat("o", api.MaxName+1), "a")}, api.ErrName},
		{[]api.Pair{pair("o", "")}, api.ErrType},
		{[]api.Pair{pair("o", " a")}, api.ErrType},
		{[]api.Pair{pair("o", "a ")}, api.ErrType},
		{[]api.Pair{pair("o", "\u00e9")}, api.ErrType},
		{[]api.Pair{pair("o", "a\n")}, api.ErrType},
		{[]api.Pair{pair("o", "a"+strings.Repeat(" ", api.MaxValue-1)+"b")}, api.ErrType},
		{[]api.Pair{pair("1", "")}, api.ErrName},
		{[]api.Pair{good, pair("1", "a"), pair("o", "")}, api.ErrName},
		{[]api.Pair{good, pair("o", ""), pair("1", "a")}, api.ErrType},
		{many, api.ErrLimit},
		{append(slices.Clone(many), pair("1", "a")), api.ErrName},
		{append(slices.Clone(many), pair("o", "")), api.ErrType},
	} {
		before := slices.Clone(x.l)
		if got, e := Format(x.l); e != x.want || got != "" {
			t.Errorf("Format(%q) = %q, %d, not %d", x.l, got, int(e), int(x.want))
		}
		if !slices.Equal(x.l, before) {
			t.Errorf("Format changed %q", before)
		}
	}
}

// P5.2
func TestClean(t *testing.T) {
	for s, want := range map[string]string{
		"":                         "",
		"CN=Ann Lee,OU=Staff":      "cn=ann lee,ou=staff",
		"cn=ann lee, ou=staff":     "cn=ann lee,ou=staff",
		" Cn =  ANN   Lee , o = x": "cn=ann lee,o=x",
		`O=A\,  B\+\=\\`:           `o=a\, b\+\=\\`,
	} {
		if got, e := Clean(s); e != api.OK || got != want {
			t.Errorf("Clean(%q) = %q, %d", s, got, int(e))
		}
	}
}

// P5.2
func TestValid(t *testing.T) {
	for s, want := range map[string]bool{
		"": true, "o=a": true, "cn=lee\\, ann,ou=staff": true, "o=a b": true, chain(api.MaxDepth): true,
		"O=a": false, "o=A": false, "o=a  b": false, " o=a": false, "o=a ": false, "o =a": false, "o= a": false, "o=a, p=b": false, "o=a ,p=b": false,
		" ": false, "o": false, "o=": false, "1=a": false, "o=a+b": false, `o=\a`: false, "o=a,": false, chain(api.MaxDepth + 1): false,
	} {
		if got := Valid(s); got != want {
			t.Errorf("Valid(%q) = %v", s, got)
		}
	}
}

// P5.2: what Clean and Format return is normal, and stays.
func TestNormal(t *testing.T) {
	normal := 0
	for _, s := range texts(`aB=,\ `, 7) {
		c, e := Clean(s)
		if Valid(s) != (e == api.OK && c == s) {
			t.Fatalf("Valid(%q) = %v", s, Valid(s))
		}
		if e != api.OK {
			continue
		}
		l, _ := Parse(s)
		if f, e := Format(l); e != api.OK || f != c {
			t.Fatalf("Clean(%q) = %q, but Format of the components is %q, %d", s, c, f, int(e))
		}
		if again, e := Clean(c); !Valid(c) || e != api.OK || again != c {
			t.Fatalf("Clean(%q) = %q, which becomes %q, %d", s, c, again, int(e))
		}
		back, e := Parse(c)
		for i, p := range l {
			l[i] = pair(fold.Lower(p.Key), fold.Fold(p.Value))
		}
		if e != api.OK || !slices.Equal(back, l) {
			t.Fatalf("the components of %q are %q, not %q", c, back, l)
		}
		normal++
	}
	if normal < 1000 {
		t.Errorf("%d strings only", normal)
	}
}
