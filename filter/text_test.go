package filter_test

import (
	"regexp"
	"strings"
	"testing"

	"identity/api"
	"identity/filter"
)

// sized returns a conjunction whose text form has n bytes, from 4072 to 4160.
func sized(n int) api.Filter {
	f := and(times(15, equal("a", strings.Repeat("x", api.MaxValue)))...)
	left := n - len("(&)") - 15*(len("(a=)")+api.MaxValue)
	f.Kids = append(f.Kids, equal("a", strings.Repeat("y", left-len("(a=)"))))
	return f
}

// P9.2
func TestTexts(t *testing.T) {
	for text, f := range map[string]api.Filter{
		"(&)":                           and(),
		"(|)":                           or(),
		"(!(&))":                        not(and()),
		"(&(&)(|)(&))":                  and(and(), or(), and()),
		"(&(class=person)(!(mail=*)))":  and(equal("class", "person"), not(present("mail"))),
		"(|(&(a=1)(b>=2))(!(!(c<=3))))": or(and(equal("a", "1"), atLeast("b", "2")), not(not(atMost("c", "3")))),

		"(cn=Ann Lee)":        equal("cn", "Ann Lee"),
		"(CN-1=x)":            equal("CN-1", "x"),
		"(age>=30)":           atLeast("age", "30"),
		"(age<=-1)":           atMost("age", "-1"),
		"(mail=*)":            present("mail"),
		"(a=b=c)":             equal("a", "b=c"),
		"(a==b)":              equal("a", "=b"),
		"(a==)":               equal("a", "="),
		"(a=>b)":              equal("a", ">b"),
		"(a=<=b)":             equal("a", "<=b"),
		"(a>==)":              atLeast("a", "="),
		"(a<=>=<)":            atMost("a", ">=<"),
		"(a=&|!)":             equal("a", "&|!"),
		"(boss=cn=ann, ou=x)": equal("boss", "cn=ann, ou=x"),

		`(cn=a\2ab)`:        equal("cn", "a*b"),
		`(cn=\28\29\2a\5c)`: equal("cn", `()*\`),
		`(cn>=\2a)`:         atLeast("cn", "*"),
		`(cn<=\5c28)`:       atMost("cn", `\28`),
		`(cn=\5c\5c2a)`:     equal("cn", `\\2a`),
		`(cn=28 2a 5c)`:     equal("cn", "28 2a 5c"),
		`(&(a=\29)(b=\28))`: and(equal("a", ")"), equal("b", "(")),

		"(a=b*)":             substring("a", "b", ""),
		"(a=*b)":             substring("a", "", "b"),
		"(a=*b*)":            substring("a", "", "b", ""),
		"(a=b*c)":            substring("a", "b", "c"),
		"(a=b*c*d*e)":        substring("a", "b", "c", "d", "e"),
		"(a= b * c )":        substring("a", " b ", " c "),
		"(a= * )":            substring("a", " ", " "),
		"(a==*<)":            substring("a", "=", "<"),
		`(a=\2a*\2a)`:        substring("a", "*", "*"),
		`(a=*\28\5c*\29\2a)`: substring("a", "", `(\`, ")*"),
	} {
		before := copied(f)
		if got, e := filter.Text(f); e != api.OK || got != text {
			t.Errorf("Text(%v) = %q, %d, not %q", f, got, int(e), text)
		}
		if !same(f, before) {
			t.Errorf("Text changed %v", before)
		}
		if got, e := filter.Parse(text); e != api.OK || !same(got, f) {
			t.Errorf("Parse(%q) = %v, %d", text, got, int(e))
		}
	}
}

// P9.2: small filters, there and back, with memory of their own.
func TestRoundTrip(t *testing.T) {
	seen := map[string]api.Filter{}
	for _, f := range small() {
		text, e := filter.Text(f)
		if e != api.OK {
			t.Fatalf("Text(%v) = %d", f, int(e))
		}
		if g, ok := seen[text]; ok && !same(f, g) {
			t.Fatalf("%v and %v have the text form %q", f, g, text)
		}
		seen[text] = f
		got, e := filter.Parse(text)
		if e != api.OK || !same(got, f) {
			t.Fatalf("Parse(%q) = %v, %d", text, got, int(e))
		}
		for i := range got.Kids {
			spoil(got.Kids[i])
			if !same(api.Filter{Kind: got.Kind, Kids: got.Kids[i+1:]}, api.Filter{Kind: f.Kind, Kids: f.Kids[i+1:]}) {
				t.Fatalf("the kids of Parse(%q) share memory", text)
			}
		}
	}
}

// P9.2: the errors of Check, and the limit.
func TestTextErrors(t *testing.T) {
	for _, x := range []struct {
		f    api.Filter
		want api.Errno
	}{
		{api.Filter{}, api.ErrForm},
		{and(present("a"), substring("a", "b", "", "c")), api.ErrForm},
		{api.Filter{Kind: api.PresentFilter, Name: "a", Value: "*"}, api.ErrForm},
		{present("&a"), api.ErrName},
		{equal("a=", "b"), api.ErrName},
		{equal("a", ""), api.ErrType},
		{equal("a", "b "), api.ErrType},
		{nested(8, and()), api.ErrLimit},
		{and(times(64, and())...), api.ErrLimit},
		{endless(), api.ErrLimit},
		{sized(api.MaxText + 1), api.ErrLimit},
		{sized(api.MaxText + 60), api.ErrLimit},
		{and(times(63, equal("a", strings.Repeat("x", api.MaxValue)))...), api.ErrLimit},
		// The error of Check comes before that of the length.
		{and(append(sized(api.MaxText+1).Kids, present("1"))...), api.ErrName},
	} {
		if text, e := filter.Text(x.f); e != x.want || text != "" {
			t.Errorf("Text(%v) = %q, %d, not %d", x.f, text, int(e), int(x.want))
		}
	}
	for _, n := range []int{api.MaxText - 1, api.MaxText} {
		text, e := filter.Text(sized(n))
		if e != api.OK || len(text) != n {
			t.Fatalf("Text of %d bytes: %d, %d", n, len(text), int(e))
		}
		if f, e := filter.Parse(text); e != api.OK || !same(f, sized(n)) {
			t.Errorf("Parse of %d bytes: %d", n, int(e))
		}
	}
	// Three bytes are written for each of these.
	marks := equal("a", strings.Repeat(`\(`, api.MaxValue/2))
	if text, e := filter.Text(and(times(5, marks)...)); e != api.OK || len(text) != 3+5*(4+3*api.MaxValue) {
		t.Errorf("Text of marks: %d bytes, %d", len(text), int(e))
	}
	if text, e := filter.Text(and(times(6, marks)...)); e != api.ErrLimit || text != "" {
		t.Errorf("Text of too many marks: %d bytes, %d", len(text), int(e))
	}
}

// P9.2: what is not in the form.
func TestParseForm(t *testing.T) {
	for _, s := range []string{
		"", " ", "(", ")", "()", "a=b", "(a=b", "a=b)", "((a=b))", "(a=b))", "(a=b)(a=b)", " (a=b)", "(a=b) ", "(a=b)\n", "x(a=b)",
		"(a)", "(a b)", "(*)", "(\\)", "(a~b)", "(a<b)", "(a>b)", "(a<)", "(a>)", "(a<", "(a<>b)", "(a<<=b)", "(a><=b)", "(a>b=c)", "(a< =b)", "(a*=b)", "(*=b)", "(a\\=b)", "(\\2a=b)", "(a(=b)", "(a)=b)",
		"(a=(b)", "(a=b(c=d))", "(a=b)c)", "(a=(b))", "(a>=(b))", "(a=\\)", "(a=\\2)", "(a=\\2A)", "(a=\\5C)", "(a=\\2b)", "(a=\\41)", "(a=\\ 28)", "(a=b\\)", "(a=\\28\\2)", "(a=\\\\28)", "(a=*\\)", "(a=\\2*a)",
		"(a>=*)", "(a<=*)", "(a>=b*)", "(a<=*b)", "(a>=b*c)", "(=>*)*",
		"(&", "(&(a=b)", "(&(a=b)c)", "(&a=b)", "(& (a=b))", "(&(a=b) )", "(&(a=b) (c=d))", "(&&)", "(&|)", "(&)(|)", "(|(a=b)(c=d)", "(|(a=b)))", "(&(a=b)&(c=d))", "(|a)", "(&=b)", "(|=b)", "(!=b)",
		"(!", "(!)", "(!a=b)", "(!(a=b)", "(! (a=b))", "(!(a=b) )", "(!(a=b)(c=d))", "(!(a=b)c)", "(!!(a=b))", "(!&(a=b))", "(!())",
		// Parts that Check does not accept.
		"(a=**)", "(a=***)", "(a=b**c)", "(a=**b)", "(a=b**)", "(a=*b**)", "(a=" + strings.Repeat("b*", api.MaxValues) + ")",
		// Later errors of the form come before those of Check.
		"(&(1=a)(b=))x", "(&(1=a)(b=\\2))", "(&(a=)(!))", "(|(=)(a>=*))", "(&(1=a)", "(&(1=a)b)", "(a=)b", strings.Repeat("(&)", 65), "(&" + strings.Repeat("(&)", 65), strings.Repeat("(!", 10) + "(a=b)", strings.Repeat("(!", 2048), strings.Repeat("(", api.MaxText), strings.Repeat("(&", api.MaxText/2),
	} {
		if f, e := filter.Parse(s); e != api.ErrForm || !same(f, api.Filter{}) {
			t.Errorf("Parse(%q) = %v, %d", s, f, int(e))
		}
	}
}

// P9.2: the other errors.
func TestParseErrors(t *testing.T) {
	long := strings.Repeat("x", api.MaxValue+1)
	deep := func(n int) string {
		return strings.Repeat("(!", n) + "(a=b)" + strings.Repeat(")", n)
	}
	for s, want := range map[string]api.Errno{
		"(=a)":                   api.ErrName,
		"(=)":                    api.ErrName,
		"(=*)":                   api.ErrName,
		"(=a*b)":                 api.ErrName,
		"(>=)":                   api.ErrName,
		"(<=b)":                  api.ErrName,
		"(1=a)":                  api.ErrName,
		"( a=b)":                 api.ErrName,
		"(a =b)":                 api.ErrName,
		"(a~=b)":                 api.ErrName,
		"(a&=b)":                 api.ErrName,
		"(a!|=b)":                api.ErrName,
		"(é=b)":                  api.ErrName,
		"(\xff=b)":               api.ErrName,
		"(a\n>=b)":               api.ErrName,
		"(" + long[:65] + "=b)":  api.ErrName,
		"(a=)":                   api.ErrType,
		"(a>=)":                  api.ErrType,
		"(a= b)":                 api.ErrType,
		"(a=b )":                 api.ErrType,
		"(a<= )":                 api.ErrType,
		"(a=é)":                  api.ErrType,
		"(a=\xff)":               api.ErrType,
		"(a=\n)":                 api.ErrType,
		"(a=\x00*)":              api.ErrType,
		"(a=*\x7f)":              api.ErrType,
		"(a=" + long + ")":       api.ErrType,
		"(a=b*" + long + ")":     api.ErrType,
		"(a=" + long[1:] + ")":   api.OK,
		"(a=*" + long[1:] + "*)": api.OK,
		"(&(a=)(1=b))":           api.ErrType,
		"(&(1=b)(a=))":           api.ErrName,
		"(&(1=a)(a=b**c))":       api.ErrName,
		"(&(a=**)(1=a))":         api.ErrForm,
		"(&(&(1=a))(a=**))":      api.ErrName,
		"(1=" + strings.Repeat("b*", api.MaxValues) + ")": api.ErrForm,

		deep(7):                                  api.OK,
		deep(8):                                  api.ErrLimit,
		deep(1300):                               api.ErrLimit,
		"(&" + strings.Repeat("(|)", 63) + ")":   api.OK,
		"(&" + strings.Repeat("(|)", 64) + ")":   api.ErrLimit,
		"(&" + strings.Repeat("(|)", 1364) + ")": api.ErrLimit,
		"(&" + strings.Repeat("(1=a**b)", 64) + ")":      api.ErrLimit,
		"(a=" + strings.Repeat("x", api.MaxText-4) + ")": api.ErrType,

		// The length comes first, whatever the text is.
		"(a=" + strings.Repeat("x", api.MaxText-3) + ")": api.ErrLimit,
		strings.Repeat("x", api.MaxText+1):               api.ErrLimit,
		strings.Repeat("x", api.MaxText):                 api.ErrForm,
		strings.Repeat("(!", api.MaxText):                api.ErrLimit,
	} {
		f, e := filter.Parse(s)
		if e != want || e != api.OK && !same(f, api.Filter{}) {
			t.Errorf("Parse(%.40q) = %v, %d, not %d", s, f, int(e), int(want))
		}
	}
}

// forms returns the filters in the form of Parse by their texts of at most n
// bytes, with names and values that consist of the byte a and of signs.
func forms(n int) map[string]api.Filter {
	words := func(n int, pieces ...string) []string {
		all := []string{""}
		for i := 0; i < len(all); i++ {
			for _, p := range pieces {
				if len(all[i])+len(p) <= n {
					all = append(all, all[i]+p)
				}
			}
		}
		return all
	}
	texts := map[string]api.Filter{}
	for _, name := range words(n-3, "a", "!", "&") {
		if strings.HasPrefix(name, "!") || strings.HasPrefix(name, "&") {
			continue
		}
		for _, value := range words(n-3-len(name), "a", "=", "<", "!", "&", "*") {
			if parts := strings.Split(value, "*"); value == "*" {
				texts["("+name+"=*)"] = present(name)
			} else if len(parts) > 1 {
				texts["("+name+"="+value+")"] = substring(name, parts...)
			} else {
				texts["("+name+"="+value+")"] = equal(name, value)
				texts["("+name+"<="+value+")"] = atMost(name, value)
			}
		}
	}
	lists := map[string][]api.Filter{"": nil}
	// A list is one filter longer than another one, so each pass adds a level or an item.
	for before := -1; before < len(texts)+len(lists); {
		before = len(texts) + len(lists)
		longer := map[string][]api.Filter{}
		for list, kids := range lists {
			texts["(&"+list+")"] = and(kids...)
			for text, f := range texts {
				if len(list)+len(text)+3 <= n {
					longer[list+text] = append(kids[:len(kids):len(kids)], f)
				}
			}
		}
		for list, kids := range longer {
			lists[list] = kids
			if len(kids) == 1 {
				texts["(!"+list+")"] = not(kids[0])
			}
		}
	}
	return texts
}

// P9.2: every string of up to 7 bytes from eight, against the form.
func TestParseAll(t *testing.T) {
	const bytes, length = "()&!a=*<", 7
	texts := forms(length)
	found := map[api.Errno]int{}
	var try func(s string)
	try = func(s string) {
		f, inForm := texts[s]
		want := api.ErrForm
		if inForm {
			want = filter.Check(f)
		}
		got, e := filter.Parse(s)
		if e != want || e == api.OK && !same(got, f) || e != api.OK && !same(got, api.Filter{}) {
			t.Fatalf("Parse(%q) = %v, %d, not %v, %d", s, got, int(e), f, int(want))
		}
		found[e]++
		for i := 0; i < len(bytes) && len(s) < length; i++ {
			try(s + bytes[i:i+1])
		}
	}
	try("")
	for _, e := range []api.Errno{api.OK, api.ErrForm, api.ErrName, api.ErrType} {
		if found[e] == 0 {
			t.Errorf("no string with the result %d", int(e))
		}
	}
}

// inForm reports whether s has the form of Parse. The byte 1 is not part of s.
func inForm(s string) bool {
	const name, value = `([^()*\\=<>&|!][^()*\\=<>]*)?`, `([^()*\\]|\\28|\\29|\\2a|\\5c)*`
	s = regexp.MustCompile(`\(`+name+`([<>]=`+value+`|=(`+value+`\*)*`+value+`)\)`).ReplaceAllString(s, "\x01")
	node := regexp.MustCompile(`\((!\x01|[&|]\x01*)\)`)
	for node.MatchString(s) {
		s = node.ReplaceAllString(s, "\x01")
	}
	return s == "\x01"
}

// P9.2: texts with one byte too few, too many, or another one.
func TestParseEdited(t *testing.T) {
	found := map[api.Errno]int{}
	for _, text := range []string{`(&(class=person)(!(mail=*)))`, `(|(a>=1)(&)(b<=\28))`, `(cn=*\2ab*c d*)`, `(!(|(a==>)(&(c=x*y))))`, `(a=\5c\29)`} {
		for i := range len(text) + 1 {
			edited := []string{text[:i]}
			if i < len(text) {
				edited = append(edited, text[:i]+text[i+1:])
			}
			for _, c := range []string{"(", ")", "&", "|", "!", "=", "<", ">", "*", `\`, "2", "a", " ", "\xff", "()", "(&)", `\2a`, ">="} {
				edited = append(edited, text[:i]+c+text[i:])
				if i < len(text) {
					edited = append(edited, text[:i]+c+text[i+1:])
				}
			}
			for _, s := range edited {
				f, e := filter.Parse(s)
				found[e]++
				if e == api.OK {
					if back, e := filter.Text(f); e != api.OK || back != s {
						t.Errorf("Text of Parse(%q) = %q, %d", s, back, int(e))
					}
				}
				if e == api.OK && !inForm(s) || e == api.ErrForm && inForm(s) && !strings.Contains(s, "**") || e != api.OK && !same(f, api.Filter{}) {
					t.Errorf("Parse(%q) = %v, %d", s, f, int(e))
				}
				if e != api.OK && e != api.ErrForm && !inForm(s) {
					t.Errorf("Parse(%q) = %d, not in the form", s, int(e))
				}
			}
		}
	}
	for _, e := range []api.Errno{api.OK, api.ErrForm, api.ErrName, api.ErrType} {
		if found[e] == 0 {
			t.Errorf("no text with the result %d", int(e))
		}
	}
}
