package access_test

import (
	"math/rand"
	"slices"
	"strings"
	"testing"

	"identity/access"
	"identity/api"
	"identity/codec"
)

// P14.2, P14.8: rules and their lines.
func TestText(t *testing.T) {
	for _, x := range []struct {
		l    []api.Rule
		want string
	}{
		{nil, ""},
		{[]api.Rule{allow("*", "")}, "allow * on - attrs - rights read,search,write,add,delete\n"},
		{[]api.Rule{{Subject: "self", Target: "o=x", Attrs: []string{"Mail"}, Rights: []api.Right{api.DeleteRight}}}, "deny self on o%3Dx attrs Mail rights delete\n"},
		{[]api.Rule{{Allow: true, Subject: "user:cn=ann", Attrs: []string{"cn", "mail"}, Rights: []api.Right{api.ReadRight, api.WriteRight}}}, "allow user:cn%3Dann on - attrs cn,mail rights read,write\n"},
		{[]api.Rule{{Subject: `group:cn=lee\, ann,o=x|y`, Target: `cn=a%b;"c,o=x`, Attrs: []string{"b-1", "a", "B-1"}, Rights: []api.Right{api.AddRight, api.SearchRight}}}, `deny group:cn%3Dlee\%2C%20ann%2Co%3Dx%7Cy on cn%3Da%25b%3B%22c%2Co%3Dx attrs b-1,a,B-1 rights add,search` + "\n"},
		{[]api.Rule{{Subject: "*", Rights: rights()[:1]}, {Allow: true, Subject: "self", Rights: rights()[2:3]}, {Subject: "*", Rights: rights()[:1]}}, "deny * on - attrs - rights read\nallow self on - attrs - rights write\ndeny * on - attrs - rights read\n"},
	} {
		before := copied(x.l)
		if got, e := access.Text(x.l); e != api.OK || got != x.want {
			t.Errorf("Text(%v) = %q, %d", x.l, got, int(e))
		}
		if !sameRules(x.l, before) {
			t.Errorf("Text changed %v", before)
		}
		if got, line, e := access.Parse(x.want); e != api.OK || line != 0 || !sameRules(got, x.l) {
			t.Errorf("Parse(%q) = %v, %d, %d", x.want, got, line, int(e))
		}
	}
}

// sized returns an access list with 64 rules, whose text has n bytes.
func sized(n int) []api.Rule {
	l := slices.Repeat([]api.Rule{{Allow: true, Subject: "*", Attrs: []string{"a"}, Rights: rights()[:1]}}, api.MaxRules)
	l = copied(l)
	n -= len(l) * len("allow * on - attrs a rights read\n")
	for i := 0; n > 0; i++ {
		k := min(n, api.MaxName-1)
		l[i].Attrs[0] += strings.Repeat("b", k)
		n -= k
	}
	return l
}

// P14.2: the errors of Text.
func TestTextErrors(t *testing.T) {
	for _, x := range []struct {
		l    []api.Rule
		want api.Errno
	}{
		{sized(api.MaxText), api.OK},
		{sized(api.MaxText + 1), api.ErrLimit},
		{append(sized(api.MaxText), allow("*", "")), api.ErrLimit},
		{append(sized(api.MaxText + 1)[1:], allow("all", "")), api.ErrForm},
		{append(sized(api.MaxText + 1)[1:], api.Rule{Subject: "*"}), api.ErrNone},
		{[]api.Rule{allow("user:", "")}, api.ErrName},
		{[]api.Rule{allow("*", "-")}, api.ErrName},
		{[]api.Rule{allow("*", "", "-")}, api.ErrName},
		{[]api.Rule{allow("*", "", slices.Repeat([]string{"a"}, api.MaxAttrs+1)...)}, api.ErrLimit},
		{[]api.Rule{{Subject: "*", Rights: []api.Right{6}}}, api.ErrArg},
		{[]api.Rule{{Subject: "*", Rights: []api.Right{1, 1}}}, api.ErrTwice},
	} {
		s, e := access.Text(x.l)
		if e != x.want || e != api.OK && s != "" {
			t.Errorf("Text(%v) = %q, %d, not %d", x.l, s, int(e), int(x.want))
		}
		if e == api.OK && len(s) != api.MaxText {
			t.Errorf("a text of %d bytes", len(s))
		}
	}
}

// P14.2: lines that are not possible.
func TestParseForm(t *testing.T) {
	good := "allow self on o%3Dx attrs cn,mail rights read,add\n"
	if _, _, e := access.Parse(good); e != api.OK {
		t.Fatalf("Parse = %d", int(e))
	}
	for _, s := range []string{
		"\n", " \n", "x\n", "x", " ",
		"allow self on o%3Dx attrs cn,mail rights read,add", // without a line feed
		"allow self on o%3Dx attrs cn,mail rights read,add\r\n",
		" allow self on o%3Dx attrs cn,mail rights read,add\n",
		"allow self on o%3Dx attrs cn,mail rights read,add \n",
		"allow  self on o%3Dx attrs cn,mail rights read,add\n",
		"allow self on o%3Dx attrs cn,mail rights\n",
		"allow self on o%3Dx attrs cn,mail rights \n",
		"allow self on o%3Dx attrs cn,mail rights read, add\n",
		"allow self on o%3Dx attrs  rights read,add\n",
		"allow self on  attrs cn,mail rights read,add\n",
		"allow  on o%3Dx attrs cn,mail rights read,add\n",
		"allow on o%3Dx attrs cn,mail rights read,add\n",
		"allow\tself on o%3Dx attrs cn,mail rights read,add\n",
		"Allow self on o%3Dx attrs cn,mail rights read,add\n",
		"permit self on o%3Dx attrs cn,mail rights read,add\n",
		"allow self in o%3Dx attrs cn,mail rights read,add\n",
		"allow self on o%3Dx attr cn,mail rights read,add\n",
		"allow self on o%3Dx attrs cn,mail right read,add\n",
		"allow user:cn=a on o%3Dx attrs cn,mail rights read,add\n",
		"allow user:cn%3da on o%3Dx attrs cn,mail rights read,add\n",
		"allow %73elf on o%3Dx attrs cn,mail rights read,add\n",
		"allow % on o%3Dx attrs cn,mail rights read,add\n",
		"allow self on o=x attrs cn,mail rights read,add\n",
		"allow self on %2D attrs cn,mail rights read,add\n",
		"allow self on o%3Dx,o%3Dy attrs cn,mail rights read,add\n",
		"allow self on o%3Dx attrs cn,mail rights Read\n",
		"allow self on o%3Dx attrs cn,mail rights read,\n",
		"allow self on o%3Dx attrs cn,mail rights ,read\n",
		"allow self on o%3Dx attrs cn,mail rights read,,add\n",
		"allow self on o%3Dx attrs cn,mail rights read,-\n",
		"allow self on o%3Dx attrs cn,mail rights -,-\n",
		"allow self on o%3Dx attrs cn,mail rights ,\n",
		"allow self on o%3Dx attrs cn,mail rights 1\n",
		"allow self on o%3Dx attrs cn,mail rights read;add\n",
		"allow self on o%3Dx attrs cn,mail rights see\n",
	} {
		for n, before := range []string{"", good, good + good} {
			if l, line, e := access.Parse(before + s); len(l) != 0 || line != n+1 || e != api.ErrForm {
				t.Errorf("Parse(%q) = %v, %d, %d", before+s, l, line, int(e))
			}
		}
		// The first line with an error ends the reading.
		if strings.HasSuffix(s, "\n") {
			if _, line, e := access.Parse(good + s + "x\n"); line != 2 || e != api.ErrForm {
				t.Errorf("Parse(%q) = %d, %d", good+s+"x\n", line, int(e))
			}
		}
	}
}

// P14.2: rules that Check does not accept.
func TestParseCheck(t *testing.T) {
	good := "deny * on - attrs - rights read\n"
	attrs := strings.Repeat("a,", api.MaxAttrs) + "a"
	for s, want := range map[string]api.Errno{
		"allow all on - attrs - rights read\n":                    api.ErrForm,
		"allow - on - attrs - rights -\n":                         api.ErrForm,
		"allow user: on - attrs - rights read\n":                  api.ErrName,
		"allow user:cn%3DA on - attrs - rights read\n":            api.ErrName,
		"allow group:x on - attrs - rights -\n":                   api.ErrName,
		"allow * on x attrs - rights read\n":                      api.ErrName,
		"allow * on -- attrs - rights read\n":                     api.ErrName,
		"allow * on o%3DX attrs - rights read\n":                  api.ErrName,
		"allow * on o%3Dx%0A attrs - rights read\n":               api.ErrName,
		"allow * on - attrs a,,b rights read\n":                   api.ErrName,
		"allow * on - attrs , rights read\n":                      api.ErrName,
		"allow * on - attrs a,- rights read\n":                    api.ErrName,
		"allow * on - attrs -,- rights read\n":                    api.ErrName,
		"allow * on - attrs a=b rights read\n":                    api.ErrName,
		"allow * on - attrs %61 rights read\n":                    api.ErrName,
		"allow * on - attrs \xff rights -\n":                      api.ErrName,
		"allow * on - attrs " + attrs + " rights -\n":             api.ErrLimit,
		"allow * on - attrs - rights -\n":                         api.ErrNone,
		"allow * on - attrs - rights read,read\n":                 api.ErrTwice,
		"allow * on - attrs - rights add,read,write,search,add\n": api.ErrTwice,
	} {
		for n, before := range []string{"", good, good + good} {
			for _, after := range []string{"", good, "x\n", "x", "allow all on - attrs - rights read\n"} {
				if l, line, e := access.Parse(before + s + after); len(l) != 0 || line != n+1 || e != want {
					t.Errorf("Parse(%q) = %v, %d, %d, not %d", before+s+after, l, line, int(e), int(want))
				}
			}
		}
	}
}

// P14.2: too many rules, and too long texts.
func TestParseLimits(t *testing.T) {
	good := "deny * on - attrs - rights read\n"
	full := strings.Repeat(good, api.MaxRules)
	if l, line, e := access.Parse(full); len(l) != api.MaxRules || line != 0 || e != api.OK {
		t.Errorf("Parse of %d lines = %d rules, %d, %d", api.MaxRules, len(l), line, int(e))
	}
	for s, want := range map[string]api.Errno{
		full + good:         api.ErrLimit,
		full + good + good:  api.ErrLimit,
		full + good + "x\n": api.ErrLimit,
		full + strings.Replace(good, "*", "all", 1): api.ErrLimit,
		full + "x\n": api.ErrForm,
		full + strings.Replace(good, "*", "%", 1): api.ErrForm,
		full + good[:len(good)-1]:                 api.ErrForm,
	} {
		if l, line, e := access.Parse(s); len(l) != 0 || line != api.MaxRules+1 || e != want {
			t.Errorf("Parse(%q) = %d, %d, not %d", s, line, int(e), int(want))
		}
	}
	s, _ := access.Text(sized(api.MaxText))
	if l, line, e := access.Parse(s); !sameRules(l, sized(api.MaxText)) || line != 0 || e != api.OK {
		t.Errorf("Parse of the longest text = %d, %d", line, int(e))
	}
	for _, s := range []string{s + "\n", s[:len(s)-1] + "xx", strings.Repeat("x", api.MaxText+1), "x\n" + s} {
		if l, line, e := access.Parse(s); len(l) != 0 || line != 0 || e != api.ErrLimit {
			t.Errorf("Parse of %d bytes = %d, %d", len(s), line, int(e))
		}
	}
	if _, line, e := access.Parse(strings.Repeat("x", api.MaxText)); line != 1 || e != api.ErrForm {
		t.Errorf("Parse of %d bytes = %d, %d", api.MaxText, line, int(e))
	}
}

// P14.2, P14.8: rules of which some are not accepted.
func TestRoundTrip(t *testing.T) {
	r := random{rand.New(rand.NewSource(4))}
	accepted := 0
	for range 20000 {
		l := r.rules()
		if r.Intn(2) > 0 {
			l = slices.DeleteFunc(l, func(x api.Rule) bool { return access.Check([]api.Rule{x}) != api.OK })
		}
		s, e := access.Text(l)
		if e != access.Check(l) {
			t.Fatalf("Text(%v) = %d", l, int(e))
		}
		if e != api.OK {
			continue
		}
		if got, line, e := access.Parse(s); e != api.OK || line != 0 || !sameRules(got, l) {
			t.Fatalf("Parse(%q) = %v, %d, %d", s, got, line, int(e))
		}
		accepted += len(l)
	}
	if accepted < 1000 {
		t.Errorf("%d rules were accepted", accepted)
	}
}

// P14.2, P14.8: texts in which some bytes are changed.
func TestEdited(t *testing.T) {
	r := random{rand.New(rand.NewSource(5))}
	text := "allow * on - attrs - rights read\ndeny user:cn%3Da on o%3Dx attrs cn,mail rights add,read\nallow self on cn%3Da%2Co%3Dx attrs sn rights -\n"
	text = strings.TrimSuffix(text, "-\n") + "write\n"
	counts := map[api.Errno]int{}
	for range 60000 {
		b := []byte(text)
		for range 1 + r.Intn(2) {
			i, j := r.Intn(len(b)), r.Intn(len(b))
			switch r.Intn(4) {
			case 0:
				b[i] = text[j%len(text)]
			case 1:
				b = slices.Delete(b, i, i+1)
			case 2:
				b = slices.Insert(b, i, b[j])
			case 3:
				b = slices.Delete(b, min(i, j), min(min(i, j)+r.Intn(10), len(b)))
			}
		}
		s := string(b)
		l, line, e := access.Parse(s)
		counts[e]++
		if e == api.OK {
			if got, bad := access.Text(l); bad != api.OK || got != s || line != 0 {
				t.Fatalf("Text of Parse(%q) = %q, %d, line %d", s, got, int(bad), line)
			}
			continue
		}
		checkError(t, s, line, e)
		if len(l) != 0 {
			t.Fatalf("Parse(%q) = %v, %d", s, l, int(e))
		}
	}
	for _, e := range []api.Errno{api.OK, api.ErrForm, api.ErrName} {
		if counts[e] < 30 {
			t.Errorf("%d texts had the error %d", counts[e], int(e))
		}
	}
}

// checkError checks that an error belongs to a line: the lines before it have none.
func checkError(t *testing.T, s string, line int, e api.Errno) {
	t.Helper()
	lines := strings.SplitAfter(s, "\n")
	if line < 1 || line > len(lines) {
		t.Fatalf("Parse(%q): the line %d", s, line)
	}
	if _, n, bad := access.Parse(strings.Join(lines[:line-1], "")); n != 0 || bad != api.OK {
		t.Fatalf("Parse(%q) = %d, %d, but the line %d before has %d", s, line, int(e), n, int(bad))
	}
	if _, n, bad := access.Parse(lines[line-1]); n != 1 || bad != e {
		t.Fatalf("Parse(%q) = %d, %d, but the line alone has %d", s, line, int(e), int(bad))
	}
}

// P14.2: the words are read as codec writes them.
func TestWords(t *testing.T) {
	for i := range 256 {
		s := "user:cn=a" + string([]byte{byte(i)}) + "b"
		target := "cn=a" + string([]byte{byte(i)}) + "b,o=x"
		line := "allow " + codec.Escape(s) + " on " + codec.Escape(target) + " attrs - rights read\n"
		l := []api.Rule{{Allow: true, Subject: s, Target: target, Rights: rights()[:1]}}
		want := access.Check(l)
		got, n, e := access.Parse(line)
		if e != want || (n == 1) != (e != api.OK) || (e == api.OK) != sameRules(got, l) {
			t.Errorf("Parse(%q) = %v, %d, %d, not %d", line, got, n, int(e), int(want))
		}
	}
}
