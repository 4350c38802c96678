package entry_test

import (
	"slices"
	"strings"
	"testing"

	"identity/api"
	"identity/attrs"
	"identity/codec"
	"identity/entry"
)

// P8.6
func TestText(t *testing.T) {
	for _, x := range []struct {
		e    api.Entry
		want string
	}{
		{of("cn=ann"), "entry cn%3Dann\n"},
		{of("cn=ann", attr("sn", "a b")), "entry cn%3Dann\nsn a%20b\n"},
		{of("cn=ann", attr("SN", "b", "a b"), attr("Cn", "x=y")), "entry cn%3Dann\ncn x%3Dy\nsn a%20b\nsn b\n"},
		{of(`cn=lee\, ann,ou=staff`, attr("entry", "-"), attr("a", "%|;\"~")), "entry cn%3Dlee\\%2C%20ann%2Cou%3Dstaff\na %25%7C%3B%22~\nentry -\n"},
		{of("cn=ann", attr("num", "10", "9"), attr("NUM-2", "B", "b", "a")), "entry cn%3Dann\nnum 10\nnum 9\nnum-2 B\nnum-2 a\nnum-2 b\n"},
	} {
		before := copied(x.e)
		if got, bad := entry.Text(x.e); bad != api.OK || got != x.want {
			t.Errorf("Text(%q) = %q, %d", x.e, got, int(bad))
		}
		if !same(x.e, before) {
			t.Errorf("Text changed %q", before)
		}
	}
	// No limit is named for this form.
	long := of("cn=ann")
	for _, v := range numbered(api.MaxAttrs) {
		long.Attrs = append(long.Attrs, attr(v, numbered(api.MaxValues)...))
	}
	if got, bad := entry.Text(long); bad != api.OK || strings.Count(got, "\n") != 1+api.MaxAttrs*api.MaxValues {
		t.Errorf("Text of the longest lists has %d bytes, %d", len(got), int(bad))
	}
}

// P8.6
func TestTextErrors(t *testing.T) {
	for _, e := range []api.Entry{of(""), of("CN=ann"), of("cn=ann", attr("1", "a")), of("cn=ann", attr("cn")), of("cn=ann", attr("cn", "a", "a")), of("cn=ann", attr("cn", " ")), of("cn=ann", make([]api.Attr, api.MaxAttrs+1)...), of("cn=ann", attr("cn", numbered(api.MaxValues+1)...))} {
		want := entry.Check(e)
		if got, bad := entry.Text(e); bad != want || got != "" || bad == api.OK {
			t.Errorf("Text(%q) = %q, %d, not %d", e, got, int(bad), int(want))
		}
	}
}

// P8.7
func TestParse(t *testing.T) {
	for text, want := range map[string]api.Entry{
		"entry cn%3Dann\n":                               of("cn=ann"),
		"entry cn%3Dann\nsn a%20b\n":                     of("cn=ann", attr("sn", "a b")),
		"entry cn%3Dann\ncn x%3Dy\nsn a%20b\nsn b\n":     of("cn=ann", attr("cn", "x=y"), attr("sn", "a b", "b")),
		"entry cn%3Dx%2Co%3Dy\nentry -\nentry-1 entry\n": of("cn=x,o=y", attr("entry", "-"), attr("entry-1", "entry")),
	} {
		if got, bad := entry.Parse(text); bad != api.OK || !same(got, want) {
			t.Errorf("Parse(%q) = %q, %d", text, got, int(bad))
		}
	}
}

// P8.7
func TestParseErrors(t *testing.T) {
	head := "entry cn%3Dann\n"
	lines := func(l []string) string {
		s := head
		for _, v := range l {
			s += v + " a\n"
		}
		return s
	}
	for _, text := range []string{
		"", "\n", "entry", "entry\n", "entry \n", "cn%3Dann\n", "entry cn%3Dann", "\n" + head, " " + head, "Entry cn%3Dann\n", "entry  cn%3Dann\n", "entry cn%3Dann \n", "entry cn%3Dann\r\n", "cn cn%3Dann\n",
		"entry cn=ann\n", "entry cn%3dann\n", "entry CN%3Dann\n", "entry cn%3DAnn\n", "entry ann\n", "entry cn%3D\n", "entry cn%3Dann%2C\n", "entry cn%3Dann%2C%20o%3Dx\n", "entry %\n", "entry cn%3Dann%\n", "entry %63n%3Dann\n",
		head + "\n", head + "sn\n", head + "sn \n", head + "sn a", head + "sn a\n\n", head + " a\n", head + "sn  a\n", head + "sn a \n", head + "sn a b\n", head + "sn a\r\n", head + "sn a=b\n", head + "sn a%3db\n", head + "sn %61\n", head + "sn %\n", head + "sn a%\n", head + "sn a|b\n",
		head + "SN a\n", head + "1 a\n", head + "s_n a\n", head + "s%6E a\n", head + "sn %20a\n", head + "sn a%20\n", head + "sn %0A\n", head + "sn \u00e9\n", head + "sn %C3%A9\n", head + "sn " + strings.Repeat("a", api.MaxValue+1) + "\n", head + strings.Repeat("s", api.MaxName+1) + " a\n",
		head + "sn b\nsn a\n", head + "sn a\nsn a\n", head + "sn a\ncn a\n", head + "cn a\nsn a\ncn b\n", head + "sn a\n" + head, head + "cn a\nCN b\n", head + "b a\na-1 a\n",
		lines(numbered(api.MaxAttrs + 1)), lines(slices.Repeat([]string{"a"}, 9)), head + "sn " + strings.Join(numbered(api.MaxValues+1), "\nsn ") + "\n",
	} {
		if got, bad := entry.Parse(text); bad != api.ErrForm || !same(got, api.Entry{}) {
			t.Errorf("Parse(%q) = %q, %d", text, got, int(bad))
		}
	}
	for _, text := range []string{lines(numbered(api.MaxAttrs)), head + "sn " + strings.Join(numbered(api.MaxValues), "\nsn ") + "\n", head + "sn " + strings.Repeat("a", api.MaxValue) + "\n"} {
		if _, bad := entry.Parse(text); bad != api.OK {
			t.Errorf("Parse(%q) = %d", text, int(bad))
		}
	}
}

// variants returns the texts in which one byte of a text is left out, doubled or
// replaced or another one inserted, and those in which a line is doubled or two
// lines are exchanged.
func variants(text string) []string {
	all := []string{text}
	for i := range len(text) {
		all = append(all, text[:i]+text[i+1:], text[:i]+text[i:i+1]+text[i:], text[:i])
		for _, c := range []string{"a", "B", "1", "%", " ", "\n", "=", "%20", "%3D", "%2C"} {
			all = append(all, text[:i]+c+text[i:], text[:i]+c+text[i+1:])
		}
	}
	lines := strings.SplitAfter(text, "\n")
	for i := range lines {
		all = append(all, strings.Join(slices.Insert(slices.Clone(lines), i, lines[i]), ""))
		for j := range i {
			l := slices.Clone(lines)
			l[i], l[j] = l[j], l[i]
			all = append(all, strings.Join(l, ""))
		}
	}
	return all
}

// parse is the definition of P8.7, from the lines down.
func parse(text string) (api.Entry, bool) {
	lines := strings.SplitAfter(text, "\n")
	if lines[len(lines)-1] != "" {
		return api.Entry{}, false
	}
	var e api.Entry
	for i, l := range lines[:len(lines)-1] {
		word, value, found := strings.Cut(strings.TrimSuffix(l, "\n"), " ")
		v, bad := codec.Unescape(value)
		if !found || bad != api.OK || i == 0 && word != "entry" || strings.ToLower(word) != word {
			return api.Entry{}, false
		}
		last := len(e.Attrs) - 1
		switch {
		case i == 0:
			e.Name = v
		case last < 0 || e.Attrs[last].Name < word:
			e.Attrs = append(e.Attrs, attr(word, v))
		case e.Attrs[last].Name == word && e.Attrs[last].Values[len(e.Attrs[last].Values)-1] < v:
			e.Attrs[last].Values = append(e.Attrs[last].Values, v)
		default:
			return api.Entry{}, false
		}
	}
	return e, entry.Check(e) == api.OK
}

// P8.7: variants of a text, against the definition.
func TestParseDefinition(t *testing.T) {
	found := map[bool]int{}
	for _, text := range variants("entry cn%3Da%2Co%3Dx\nb a\nb c%20d\nbc b\nd-1 c\n") {
		want, ok := parse(text)
		if !ok {
			want = api.Entry{}
		}
		found[ok]++
		got, bad := entry.Parse(text)
		if !same(got, want) || ok != (bad == api.OK) || !ok && bad != api.ErrForm {
			t.Fatalf("Parse(%q) = %q, %d, not %q, %v", text, got, int(bad), want, ok)
		}
		if !ok {
			continue
		}
		if back, bad := entry.Text(got); bad != api.OK || back != text {
			t.Fatalf("Parse(%q) has the text %q, %d", text, back, int(bad))
		}
	}
	if found[true] < 50 || found[false] < 50 {
		t.Errorf("%d texts are forms, and %d are not", found[true], found[false])
	}
}

// P8.8
func TestRoundTrip(t *testing.T) {
	count := 0
	for _, e := range small() {
		if entry.Check(e) != api.OK {
			continue
		}
		count++
		text, bad := entry.Text(e)
		if bad != api.OK {
			t.Fatalf("Text(%q) = %d", e, int(bad))
		}
		back, bad := entry.Parse(text)
		if bad != api.OK || !same(back, of(e.Name, attrs.Sorted(e.Attrs)...)) || !entry.Equal(back, e) {
			t.Fatalf("Parse(%q) = %q, %d", text, back, int(bad))
		}
	}
	if count < 50 {
		t.Errorf("%d entries only", count)
	}
	// Every byte that a value can have.
	var every []string
	for c := byte(33); c < 127; c += 6 {
		every = append(every, string([]byte{c, c + 1, ' ', c + 2, c + 3, min(c+4, 126), min(c+5, 126)}))
	}
	e := of(`cn=\,\=\+\\ %|;"~`, attr("a", every...))
	text, bad := entry.Text(e)
	if bad != api.OK {
		t.Fatalf("Text(%q) = %d", e, int(bad))
	}
	if back, bad := entry.Parse(text); bad != api.OK || !entry.Equal(back, e) {
		t.Errorf("Parse(%q) = %q, %d", text, back, int(bad))
	}
}
