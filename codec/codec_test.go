package codec

import (
	"encoding/base64"
	"math"
	"math/big"
	"slices"
	"strconv"
	"strings"
	"testing"

	"identity/api"
)

// texts returns all strings of at most n bytes of an alphabet.
func texts(alphabet string, n int) []string {
	all := []string{""}
	from := 0
	for range n {
		to := len(all)
		for _, s := range all[from:to] {
			for i := range len(alphabet) {
				all = append(all, s+alphabet[i:i+1])
			}
		}
		from = to
	}
	return all
}

// lists returns all lists of at most n strings of a set.
func lists(set []string, n int) [][]string {
	all := [][]string{nil}
	from := 0
	for range n {
		to := len(all)
		for _, l := range all[from:to] {
			for _, s := range set {
				all = append(all, append(slices.Clone(l), s))
			}
		}
		from = to
	}
	return all
}

// isPlain is the definition of a plain byte.
func isPlain(c int) bool {
	return c >= 33 && c <= 126 && !strings.ContainsRune("%|,=;\"", rune(c))
}

// P2.1
func TestEscape(t *testing.T) {
	for s, want := range map[string]string{
		"":             "",
		"a b=1":        "a%20b%3D1",
		"100%":         "100%25",
		"%|,=;\"":      "%25%7C%2C%3D%3B%22",
		"-_.:!#~":      "-_.:!#~",
		"\x00\x7f\xff": "%00%7F%FF",
		"é":            "%C3%A9",
	} {
		if got := Escape(s); got != want {
			t.Errorf("Escape(%q) = %q, not %q", s, got, want)
		}
	}
	for c := range 256 {
		s := string([]byte{byte(c)})
		want := s
		if !isPlain(c) {
			want = "%" + strings.ToUpper(string("0123456789abcdef"[c/16])+string("0123456789abcdef"[c%16]))
		}
		if got := Escape(s); got != want {
			t.Errorf("Escape(%q) = %q, not %q", s, got, want)
		}
	}
}

// P2.1
func TestEscapeConcatenates(t *testing.T) {
	all := texts("a%|= \xff", 3)
	for _, a := range all {
		for _, b := range all {
			if Escape(a+b) != Escape(a)+Escape(b) {
				t.Fatalf("Escape(%q) is not that of its parts", a+b)
			}
		}
		for _, c := range []byte(Escape(a)) {
			if !isPlain(int(c)) && c != '%' {
				t.Fatalf("Escape(%q) has the byte %d", a, c)
			}
		}
	}
}

// P2.1
func TestUnescape(t *testing.T) {
	for _, s := range texts("a%|=-2 \x00\xff", 4) {
		if got, e := Unescape(Escape(s)); e != api.OK || got != s {
			t.Fatalf("Unescape(Escape(%q)) = %q, %d", s, got, e)
		}
	}
	if got, e := Unescape("%7C"); e != api.OK || got != "|" {
		t.Errorf("Unescape of an escaped separator = %q, %d", got, e)
	}
	for _, s := range []string{
		"%7c", "%41", "a b", "100%", "%", "%2", "a%", "a%2", "%%20", "%2%30", "%G0", "%0G", "%+1", "% 1",
		"%C3%a9", "|", ",", "=", ";", "\"", "\x1f", "\x7f", "\x80", "é", "a=b", "%20 ", "%2D", "%7E",
	} {
		if got, e := Unescape(s); e != api.ErrForm || got != "" {
			t.Errorf("Unescape(%q) = %q, %d", s, got, e)
		}
	}
}

// P2.1: every string of one byte, and every escape of two bytes.
func TestUnescapeAll(t *testing.T) {
	forms := map[string]string{}
	for c := range 256 {
		s := string([]byte{byte(c)})
		forms[Escape(s)] = s
		if got, e := Unescape(s); isPlain(c) && (e != api.OK || got != s) || !isPlain(c) && (e != api.ErrForm || got != "") {
			t.Errorf("Unescape(%q) = %q, %d", s, got, e)
		}
	}
	for high := range 256 {
		for low := range 256 {
			form := string([]byte{'%', byte(high), byte(low)})
			s, is := forms[form]
			if got, e := Unescape(form); is && (e != api.OK || got != s) || !is && (e != api.ErrForm || got != "") {
				t.Errorf("Unescape(%q) = %q, %d", form, got, e)
			}
		}
	}
}

// P2.2
func TestJoinSplit(t *testing.T) {
	for form, l := range map[string][]string{
		"-":        nil,
		"":         {""},
		"%2D":      {"-"},
		"-|-":      {"-", "-"},
		"-|":       {"-", ""},
		"|-":       {"", "-"},
		"--":       {"--"},
		"-a":       {"-a"},
		"a||b%20c": {"a", "", "b c"},
		"|":        {"", ""},
		"||":       {"", "", ""},
		"%7C":      {"|"},
		"%252D":    {"%2D"},
		"%FF|%00":  {"\xff", "\x00"},
	} {
		if got := Join(l); got != form {
			t.Errorf("Join(%q) = %q, not %q", l, got, form)
		}
		if got, e := Split(form); e != api.OK || !slices.Equal(got, l) {
			t.Errorf("Split(%q) = %q, %d", form, got, e)
		}
	}
	if Join([]string{}) != "-" {
		t.Error("Join of an empty list that is not nil")
	}
	for _, s := range []string{"%2D|a", "a|%2D", "%2D|%2D", "%2D|", "%2d", "-%2D", "a|%41", "%41|a", "a| ", "%", "a|%|b", "a,b", "a%3D1|b,c", "é"} {
		if got, e := Split(s); e != api.ErrForm || len(got) != 0 {
			t.Errorf("Split(%q) = %q, %d", s, got, e)
		}
	}
}

// P2.2: all short lists have forms of their own, and no other string is one.
func TestJoinSplitInverse(t *testing.T) {
	forms := map[string][]string{}
	for _, l := range lists(texts("-a| ", 2), 3) {
		form := Join(l)
		if other, is := forms[form]; is {
			t.Fatalf("%q and %q have one form", l, other)
		}
		forms[form] = l
		if got, e := Split(form); e != api.OK || !slices.Equal(got, l) {
			t.Fatalf("Split(%q) = %q, %d", form, got, e)
		}
	}
	for _, s := range texts("-|%2D0", 6) {
		l, e := Split(s)
		if e == api.OK && Join(l) != s {
			t.Fatalf("Split(%q) = %q, whose form is %q", s, l, Join(l))
		}
		if e != api.OK && (e != api.ErrForm || len(l) != 0 || forms[s] != nil) {
			t.Fatalf("Split(%q) = %q, %d", s, l, e)
		}
	}
}

// P2.3
func TestPairs(t *testing.T) {
	for form, l := range map[string][]api.Pair{
		"":                 nil,
		"=":                {{}},
		"=|=":              {{}, {}},
		"a=1|b=x%3Dy":      {{Key: "a", Value: "1"}, {Key: "b", Value: "x=y"}},
		"a=":               {{Key: "a"}},
		"=a":               {{Value: "a"}},
		"-=-":              {{Key: "-", Value: "-"}},
		"a%3D%7C=%25|=%20": {{Key: "a=|", Value: "%"}, {Value: " "}},
		"a=1|a=1":          {{Key: "a", Value: "1"}, {Key: "a", Value: "1"}},
		"b=2|a=1":          {{Key: "b", Value: "2"}, {Key: "a", Value: "1"}},
	} {
		if got := Pairs(l); got != form {
			t.Errorf("Pairs(%q) = %q, not %q", l, got, form)
		}
		if got, e := ReadPairs(form); e != api.OK || !slices.Equal(got, l) {
			t.Errorf("ReadPairs(%q) = %q, %d", form, got, e)
		}
	}
	if Pairs([]api.Pair{}) != "" {
		t.Error("Pairs of an empty list that is not nil")
	}
	for _, s := range []string{"-", "a", "|", "a=1|", "|a=1", "a=1||b=2", "a=b=c", "==", "a=%41", "%41=a", "a=1|b", "a=1|b=%7c", "a b=c", "a=b,c", "a=b;", "é=a"} {
		if got, e := ReadPairs(s); e != api.ErrForm || len(got) != 0 {
			t.Errorf("ReadPairs(%q) = %q, %d", s, got, e)
		}
	}
}

// P2.3: all short lists of pairs, and all short strings.
func TestPairsInverse(t *testing.T) {
	forms := map[string]bool{}
	set := texts("a=|", 1)
	for _, l := range lists(set, 6) {
		var pairs []api.Pair
		for i := 0; i+1 < len(l); i += 2 {
			pairs = append(pairs, api.Pair{Key: l[i], Value: l[i+1]})
		}
		form := Pairs(pairs)
		forms[form] = true
		if got, e := ReadPairs(form); e != api.OK || !slices.Equal(got, pairs) {
			t.Fatalf("ReadPairs(%q) = %q, %d", form, got, e)
		}
	}
	for _, s := range texts("a=|%3D", 6) {
		l, e := ReadPairs(s)
		if e == api.OK && Pairs(l) != s {
			t.Fatalf("ReadPairs(%q) = %q, whose form is %q", s, l, Pairs(l))
		}
		if e != api.OK && (e != api.ErrForm || len(l) != 0 || forms[s]) {
			t.Fatalf("ReadPairs(%q) = %q, %d", s, l, e)
		}
	}
}

// P2.4
func TestInt(t *testing.T) {
	numbers := []int{math.MinInt, math.MinInt + 1, math.MaxInt, math.MaxInt - 1}
	for i := range 63 {
		numbers = append(numbers, 1<<i, 1<<i-1, 1<<i+1, -1<<i, -1<<i-1, -1<<i+1)
	}
	for n := -1100; n <= 1100; n++ {
		numbers = append(numbers, n)
	}
	for _, n := range numbers {
		form := big.NewInt(int64(n)).String()
		if got := Int(n); got != form {
			t.Errorf("Int(%s) = %q", form, got)
		}
		if got, e := ReadInt(form); e != api.OK || got != n {
			t.Errorf("ReadInt(%q) = %d, %d", form, got, e)
		}
	}
	if Int(-9223372036854775808) != "-9223372036854775808" {
		t.Error("Int of the least int")
	}
}

// P2.4
func TestReadIntErrors(t *testing.T) {
	zeros := strings.Repeat("0", 1000)
	for s, want := range map[string]api.Errno{
		"":                       api.ErrForm,
		"-":                      api.ErrForm,
		"--1":                    api.ErrForm,
		"-0":                     api.ErrForm,
		"+1":                     api.ErrForm,
		"+0":                     api.ErrForm,
		"00":                     api.ErrForm,
		"007":                    api.ErrForm,
		"-07":                    api.ErrForm,
		"1-":                     api.ErrForm,
		"1_0":                    api.ErrForm,
		"1a":                     api.ErrForm,
		"0x1":                    api.ErrForm,
		" 1":                     api.ErrForm,
		"1 ":                     api.ErrForm,
		"1.0":                    api.ErrForm,
		"1/":                     api.ErrForm,
		"1:":                     api.ErrForm,
		"\uff11":                 api.ErrForm, // a digit, but none from 0 to 9
		"1\u0661":                api.ErrForm,
		"1\xff":                  api.ErrForm,
		"9223372036854775808a":   api.ErrForm, // the form comes before the range
		"09223372036854775808":   api.ErrForm,
		"9223372036854775808":    api.ErrRange,
		"-9223372036854775809":   api.ErrRange,
		"9300000000000000000":    api.ErrRange,
		"18446744073709551616":   api.ErrRange,
		"-18446744073709551617":  api.ErrRange,
		"1" + zeros:              api.ErrRange,
		"-1" + zeros:             api.ErrRange,
		zeros + "1":              api.ErrForm,
		"1" + zeros + "\xff":     api.ErrForm,
		"99999999999999999999-1": api.ErrForm,
	} {
		if got, e := ReadInt(s); e != want || got != 0 {
			t.Errorf("ReadInt(%q) = %d, %d", s, got, e)
		}
	}
	for _, s := range texts("-+01 _", 5) {
		n, err := strconv.Atoi(s)
		is := err == nil && strconv.Itoa(n) == s
		got, e := ReadInt(s)
		if is && (e != api.OK || got != n) || !is && (e != api.ErrForm || got != 0) {
			t.Fatalf("ReadInt(%q) = %d, %d", s, got, e)
		}
	}
}

// P2.5
func TestBase64(t *testing.T) {
	for s, want := range map[string]string{
		"":             "",
		"A":            "QQ",
		"Ann!":         "QW5uIQ",
		"\x00":         "AA",
		"\x00\x00":     "AAA",
		"\x00\x00\x00": "AAAA",
		"\xff\xff\xff": "____",
		"\xfb\xef\xbe": "----",
	} {
		if got := Base64(s); got != want {
			t.Errorf("Base64(%q) = %q, not %q", s, got, want)
		}
		if got, e := ReadBase64(want); e != api.OK || got != s {
			t.Errorf("ReadBase64(%q) = %q, %d", want, got, e)
		}
	}
	// In this order, the groups of three bytes have the characters for 0 to 63.
	all := "\x00\x10\x83\x10\x51\x87\x20\x92\x8b\x30\xd3\x8f\x41\x14\x93\x51\x55\x97\x61\x96\x9b\x71\xd7\x9f" +
		"\x82\x18\xa3\x92\x59\xa7\xa2\x9a\xab\xb2\xdb\xaf\xc3\x1c\xb3\xd3\x5d\xb7\xe3\x9e\xbb\xf3\xdf\xbf"
	if got := Base64(all); got != "ABCDEFGHIJKLMNOPQRSTUVWXYZabcdefghijklmnopqrstuvwxyz0123456789-_" {
		t.Errorf("the characters of base64: %q", got)
	}
}

// P2.5: strings of all lengths up to 100, and all of one or two bytes.
func TestBase64Inverse(t *testing.T) {
	var all []string
	for a := range 256 {
		all = append(all, string([]byte{byte(a)}))
		for b := range 256 {
			all = append(all, string([]byte{byte(a), byte(b)}), string([]byte{byte(b), 'x', byte(a)}))
		}
	}
	long := ""
	for i := range 100 {
		long += string([]byte{byte(i * 37)})
		all = append(all, long)
	}
	for _, s := range all {
		form := Base64(s)
		if form != base64.RawURLEncoding.EncodeToString([]byte(s)) || len(form) != (4*len(s)+2)/3 {
			t.Fatalf("Base64(%q) = %q", s, form)
		}
		if got, e := ReadBase64(form); e != api.OK || got != s {
			t.Fatalf("ReadBase64(%q) = %q, %d", form, got, e)
		}
	}
}

// P2.5
func TestReadBase64Errors(t *testing.T) {
	for _, s := range []string{
		"Q", "QQQQQ", "QR", "QQR", "--9", "QQ==", "QQ=", "=", "Q+==", "QQ+Q", "QQ/Q", "QQ%Q",
		"QQQ\n", "QQ\r\n", "Q Q", "\n", "é", "ééé", "QQ\xff", "QQ\xffQ",
	} {
		if got, e := ReadBase64(s); e != api.ErrForm || got != "" {
			t.Errorf("ReadBase64(%q) = %q, %d", s, got, e)
		}
	}
	strict := base64.RawURLEncoding.Strict()
	for _, s := range texts("AQRgw_+=\xff", 5) {
		want, err := strict.DecodeString(s)
		got, e := ReadBase64(s)
		if err == nil && (e != api.OK || got != string(want)) || err != nil && (e != api.ErrForm || got != "") {
			t.Fatalf("ReadBase64(%q) = %q, %d", s, got, e)
		}
	}
	for c := range 256 {
		s := "AA" + string([]byte{byte(c)}) + "A"
		is := strings.IndexByte("ABCDEFGHIJKLMNOPQRSTUVWXYZabcdefghijklmnopqrstuvwxyz0123456789-_", byte(c)) >= 0
		if got, e := ReadBase64(s); is != (e == api.OK) || !is && (e != api.ErrForm || got != "") {
			t.Errorf("ReadBase64(%q) = %q, %d", s, got, e)
		}
	}
}

// DOC.md, rule 4
func TestArgumentsStay(t *testing.T) {
	l := []string{"a b", "-", "|"}
	p := []api.Pair{{Key: "a b", Value: "="}, {Key: "|"}}
	Join(l)
	Pairs(p)
	if !slices.Equal(l, []string{"a b", "-", "|"}) || !slices.Equal(p, []api.Pair{{Key: "a b", Value: "="}, {Key: "|"}}) {
		t.Errorf("the arguments became %q and %q", l, p)
	}
}
