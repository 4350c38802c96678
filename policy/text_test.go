package policy_test

import (
	"math"
	"math/rand"
	"regexp"
	"slices"
	"strconv"
	"strings"
	"testing"

	"identity/api"
	"identity/codec"
	"identity/policy"
)

// P30.2, P30.3, P30.6: rules and their lines.
func TestText(t *testing.T) {
	for _, x := range []struct {
		l    []api.PolicyRule
		want string
	}{
		{nil, ""},
		{[]api.PolicyRule{deny("a")}, "rule a deny\n"},
		{[]api.PolicyRule{permit("any", "mail")}, "rule any permit scopes mail\n"},
		{[]api.PolicyRule{denying(func(p *api.PolicyRule) {})}, "rule night deny if hour max 5 and trusted is no\n"},
		{[]api.PolicyRule{with(func(p *api.PolicyRule) {})}, "rule mail permit if group has cn%3Dg and risk max 40 scopes mail.read files level 2 age 600\n"},
		{[]api.PolicyRule{with(func(p *api.PolicyRule) { p.Level = 0 })}, "rule mail permit if group has cn%3Dg and risk max 40 scopes mail.read files age 600\n"},
		{[]api.PolicyRule{with(func(p *api.PolicyRule) { p.MaxAge = 0 })}, "rule mail permit if group has cn%3Dg and risk max 40 scopes mail.read files level 2\n"},
		{[]api.PolicyRule{with(func(p *api.PolicyRule) { p.Conditions, p.Level, p.MaxAge = nil, 3, math.MaxInt })}, "rule mail permit scopes mail.read files level 3 age 9223372036854775807\n"},
		{[]api.PolicyRule{deny("b", cond("user", "not", "if")), permit("a", "b", "a"), deny("c", cond("age", "min", "-1"))}, "rule b deny if user not if\nrule a permit scopes b a\nrule c deny if age min -1\n"},
		{[]api.PolicyRule{deny("rule", cond("group", "lacks", `a b|c,d;"%=e`), cond("scope", "has", "level"), cond("user", "is", "and"), cond("client", "is", "scopes"))},
			"rule rule deny if group lacks a%20b%7Cc%2Cd%3B%22%25%3De and scope has level and user is and and client is scopes\n"},
		{[]api.PolicyRule{permit("if", "scopes", "if", "and", "rule", "permit", "deny", "level.x")}, "rule if permit scopes scopes if and rule permit deny level.x\n"},
		{[]api.PolicyRule{permit("level", "a"), permit("age", "b")}, "rule level permit scopes a\nrule age permit scopes b\n"},
	} {
		before := copied(x.l)
		if got, e := policy.Text(x.l); got != x.want || e != api.OK {
			t.Errorf("Text of %v = %q, %d", x.l, got, int(e))
		}
		if !same(x.l, before) {
			t.Errorf("Text changed %v", before)
		}
		if got, line, e := policy.Parse(x.want); !same(got, x.l) || line != 0 || e != api.OK {
			t.Errorf("Parse of %q = %v, %d, %d", x.want, got, line, int(e))
		}
	}
}

// sized returns a policy with 64 rules, whose text has n bytes.
func sized(n int) []api.PolicyRule {
	l := rules(api.MaxRules)
	s, _ := policy.Text(l)
	n -= len(s)
	for i := 0; n > 0; i++ {
		k := min(n, api.MaxName-len(l[i].Name))
		l[i].Name += strings.Repeat("n", k)
		n -= k
	}
	return l
}

// P30.2, P30.3: the length of the text form.
func TestLength(t *testing.T) {
	s, e := policy.Text(sized(api.MaxText))
	if len(s) != api.MaxText || e != api.OK {
		t.Fatalf("Text of a long policy = %d bytes, %d", len(s), int(e))
	}
	if l, line, e := policy.Parse(s); !same(l, sized(api.MaxText)) || line != 0 || e != api.OK {
		t.Errorf("Parse of %d bytes = %d, %d", len(s), line, int(e))
	}
	wantCheckText := func(l []api.PolicyRule, want api.Errno) {
		t.Helper()
		if s, e := policy.Text(l); s != "" || e != want {
			t.Errorf("Text of %d rules = %q, %d, not %d", len(l), s, int(e), int(want))
		}
	}
	wantCheckText(sized(api.MaxText+1), api.ErrLimit)
	if e := policy.Check(sized(api.MaxText + 1)); e != api.OK {
		t.Errorf("Check of a longer policy = %d", int(e))
	}
	wantCheckText(append(sized(api.MaxText + 1)[1:], permit("x")), api.ErrNone)
	wantCheckText(append(sized(api.MaxText + 1)[1:], deny("x", api.Condition{})), api.ErrForm)
	for _, s := range []string{s + "\n", "\n" + s, s + "x", s[:len(s)-1] + "xx", strings.Repeat("x", api.MaxText+1), strings.Repeat("\n", 100000)} {
		if l, line, e := policy.Parse(s); len(l) != 0 || line != 0 || e != api.ErrLimit {
			t.Errorf("Parse of %d bytes = %v, %d, %d", len(s), l, line, int(e))
		}
	}
	for _, s := range []string{strings.Repeat("x", api.MaxText), strings.Repeat("\n", api.MaxText), strings.Repeat(" ", api.MaxText)} {
		if l, line, e := policy.Parse(s); len(l) != 0 || line != 1 || e != api.ErrForm {
			t.Errorf("Parse of %d bytes = %v, %d, %d", len(s), l, line, int(e))
		}
	}
}

// good is a line without errors; its name is not used elsewhere.
const good = "rule good permit if user not x scopes y level 1\n"

// wantError checks the error of a text, also after other lines and before some.
func wantError(t *testing.T, s string, want api.Errno) {
	t.Helper()
	for n, before := range []string{"", good, good + "rule more deny\n"} {
		for _, after := range []string{"", "rule last deny\n", "x\n", "x", "rule a permit\n", "rule  deny\n"} {
			if after != "" && !strings.HasSuffix(s, "\n") {
				continue
			}
			if l, line, e := policy.Parse(before + s + after); len(l) != 0 || line != n+1 || e != want {
				t.Errorf("Parse of %q = %v, %d, %d, not %d", before+s+after, l, line, int(e), int(want))
			}
		}
	}
}

// P30.3: lines that are not possible.
func TestParseForm(t *testing.T) {
	for _, s := range []string{
		"\n", " \n", "x\n", "x", " ", "\r\n", "rule\n", "rule \n", "rule a\n", "rule a \n", "rule deny\n", "rule permit scopes x\n",
		"rule a deny", "rule a permit scopes x level 2", "rule a deny\r\n", "rule a deny \n", " rule a deny\n", "rule  a deny\n", "rule a  deny\n", "rule\ta deny\n",
		"Rule a deny\n", "rules a deny\n", "a rule deny\n", "rule a Deny\n", "rule a allow\n", "rule a b deny\n", "rule a permit deny\n", "rule a deny deny\n",
		"rule a deny x\n", "rule a deny if\n", "rule a deny if \n", "rule a deny if user\n", "rule a deny if user is\n", "rule a deny if user is \n",
		"rule a deny if  user is x\n", "rule a deny if user  is x\n", "rule a deny if user is  x\n", "rule a deny user is x\n", "rule a deny If user is x\n",
		"rule a deny and user is y\n", "rule a deny if user is y and\n", "rule a deny if user is y and \n", "rule a deny if user is y and user\n",
		"rule a deny if user is y and user is\n", "rule a deny if user is y if user is z\n", "rule a deny if user is y user is z\n", "rule a deny if user is y, user is z\n",
		"rule a deny if user is y z\n", "rule a deny if and user is y\n", "rule a deny if user is y and and user is z\n", "rule a deny if user is y or user is z\n",
		"rule a deny if user is %\n", "rule a deny if user is %41\n", "rule a deny if user is %7c\n", "rule a deny if group has cn=g\n", "rule a deny if group has a|b\n",
		"rule a deny if group has a%2\n", "rule a deny if group has a,b\n", "rule a deny if group has é\n", "rule a deny if group has a\x00\n", "rule a deny if user is x%\n",
		"rule a permit scopes\n", "rule a permit scopes \n", "rule a permit scopes level\n", "rule a permit scopes age\n", "rule a permit scopes level 2\n", "rule a permit scopes age 600\n",
		"rule a permit scopes level x\n", "rule a permit scopes x level\n", "rule a permit scopes x level \n", "rule a permit scopes x age\n", "rule a permit scopes x level age\n",
		"rule a permit scopes x level y\n", "rule a permit scopes x age y\n", "rule a permit scopes x level 0\n", "rule a permit scopes x age 0\n", "rule a permit scopes x level 02\n",
		"rule a permit scopes x level +2\n", "rule a permit scopes x level -0\n", "rule a permit scopes x level 2 y\n", "rule a permit scopes x level 2 2\n", "rule a permit scopes x level 2 level 2\n",
		"rule a permit scopes x age 5 level 2\n", "rule a permit scopes x age 5 age 5\n", "rule a permit scopes x level 2 age\n", "rule a permit scopes x level 2 age 0\n", "rule a permit scopes x level age 5\n",
		"rule a permit scopes x level 2 scopes y\n", "rule a permit level 2 scopes x\n", "rule a permit age 5 scopes x\n", "rule a permit scopes x age 5 y\n", "rule a permit scopes  x\n",
		"rule a permit scopes x  y\n", "rule a permit scopes x \n", "rule a permit scopes x level  2\n", "rule a permit age 5 level 2\n", "rule a permit level 2 if user is x\n",
		"rule a permit scopes x age 9223372036854775808\n", "rule a permit scopes x level 99999999999999999999\n", "rule a permit scopes x age -9223372036854775809\n",
		"rule a permit x\n", "rule a permit mail scopes x\n", "rule a permit level\n", "rule a permit age\n", "rule a permit if user is x level\n", "rule a permit if user is x scopes\n",
		// These have another error too, which would be returned if they were possible.
		"rule % deny if\n", "rule good deny x\n", "rule a permit level 0\n", "rule a permit scopes a..b level x\n", "rule a deny scopes x level 0\n", "rule good permit if x y %7c\n",
	} {
		wantError(t, s, api.ErrForm)
	}
}

// P30.3: lines that are possible, of rules that Check does not accept.
func TestParseCheck(t *testing.T) {
	nine := "if risk max 1" + strings.Repeat(" and risk max 1", 8)
	for s, want := range map[string]api.Errno{
		"rule % deny\n":                                                api.ErrName,
		"rule a=b permit scopes x\n":                                   api.ErrName,
		"rule é deny if x y z\n":                                       api.ErrName,
		"rule a\r deny\n":                                              api.ErrName,
		"rule " + strings.Repeat("n", 65) + " deny\n":                  api.ErrName,
		"rule a\x00 permit scopes a..b level 9\n":                      api.ErrName,
		"rule good deny\n":                                             api.ErrTwice,
		"rule good permit if x y z\n":                                  api.ErrTwice,
		"rule a deny " + nine + "\n":                                   api.ErrLimit,
		"rule a permit " + nine + " and x y z\n":                       api.ErrLimit,
		"rule a deny if x is y\n":                                      api.ErrForm,
		"rule a deny if user has y\n":                                  api.ErrForm,
		"rule a deny if user is a%20b\n":                               api.ErrForm,
		"rule a deny if group has %20a\n":                              api.ErrForm,
		"rule a deny if group has %0A\n":                               api.ErrForm,
		"rule a deny if scope has a..b\n":                              api.ErrForm,
		"rule a deny if trusted is maybe\n":                            api.ErrForm,
		"rule a deny if risk min 05\n":                                 api.ErrForm,
		"rule a deny if risk min 9223372036854775808\n":                api.ErrForm,
		"rule a deny if and and and and if if if scopes x\n":           api.ErrForm,
		"rule a permit if x y z level 9\n":                             api.ErrForm,
		"rule a deny scopes x\n":                                       api.ErrArg,
		"rule a deny scopes a..b\n":                                    api.ErrArg,
		"rule a deny level 1\n":                                        api.ErrArg,
		"rule a deny if user is x level 9\n":                           api.ErrArg,
		"rule a deny age -1\n":                                         api.ErrArg,
		"rule a deny if user is x scopes x level 1 age 1\n":            api.ErrArg,
		"rule a permit\n":                                              api.ErrNone,
		"rule a permit if user is x\n":                                 api.ErrNone,
		"rule a permit level 9\n":                                      api.ErrNone,
		"rule a permit age -1\n":                                       api.ErrNone,
		"rule a permit if user is x level 1 age 1\n":                   api.ErrNone,
		"rule a permit scopes a..b\n":                                  api.ErrScope,
		"rule a permit scopes a a level 9\n":                           api.ErrScope,
		"rule a permit scopes x%20y\n":                                 api.ErrScope,
		"rule a permit scopes x\r\n":                                   api.ErrScope,
		"rule a permit scopes x and user is x\n":                       api.ErrScope,
		"rule a permit scopes x scopes y scopes\n":                     api.ErrScope,
		"rule a permit scopes " + strings.Join(scopes(17), " ") + "\n": api.ErrScope,
		"rule a permit scopes x level 4\n":                             api.ErrRange,
		"rule a permit scopes x level -1\n":                            api.ErrRange,
		"rule a permit scopes x age -1\n":                              api.ErrRange,
		"rule a permit scopes x level 9223372036854775807 age 1\n":     api.ErrRange,
		"rule a permit scopes x level 3 age -9223372036854775808\n":    api.ErrRange,
	} {
		if want != api.ErrTwice {
			wantError(t, s, want)
		}
		if l, line, e := policy.Parse(good + s); len(l) != 0 || line != 2 || e != want {
			t.Errorf("Parse of %q = %v, %d, %d, not %d", good+s, l, line, int(e), int(want))
		}
	}
}

// P30.3: too many lines.
func TestParseLimit(t *testing.T) {
	full, _ := policy.Text(rules(api.MaxRules))
	for s, want := range map[string]api.Errno{
		"rule x deny\n":                    api.ErrLimit,
		"rule x deny\nx\n":                 api.ErrLimit,
		"rule % permit\n":                  api.ErrLimit,
		"rule r0 deny\n":                   api.ErrLimit,
		"rule x deny if x y z\n":           api.ErrLimit,
		"x\n":                              api.ErrForm,
		"rule x deny":                      api.ErrForm,
		"rule x permit scopes x level 0\n": api.ErrForm,
	} {
		if l, line, e := policy.Parse(full + s); len(l) != 0 || line != api.MaxRules+1 || e != want {
			t.Errorf("Parse of the lines of 64 rules and %q = %v, %d, %d, not %d", s, l, line, int(e), int(want))
		}
	}
}

// P30.3: the parts of a line, present and absent.
func TestParts(t *testing.T) {
	for i := range 32 {
		words, want := "rule a permit", api.PolicyRule{Name: "a"}
		if i&16 != 0 {
			words, want.Deny = "rule a deny", true
		}
		if i&1 != 0 {
			words += " if user is level and client is age"
			want.Conditions = []api.Condition{cond("user", "is", "level"), cond("client", "is", "age")}
		}
		if i&2 != 0 {
			words += " scopes b if a"
			want.Scopes = []string{"b", "if", "a"}
		}
		if i&4 != 0 {
			words += " level 3"
			want.Level = 3
		}
		if i&8 != 0 {
			words += " age 7"
			want.MaxAge = 7
		}
		l, line, e := policy.Parse(words + "\n")
		bad := policy.Check([]api.PolicyRule{want})
		if e != bad || e == api.OK && (line != 0 || !same(l, []api.PolicyRule{want})) || e != api.OK && (line != 1 || len(l) != 0) {
			t.Errorf("Parse of %q = %v, %d, %d, not %d", words, l, line, int(e), int(bad))
		}
	}
}

// P30.2, P30.3: the value of a condition is written as codec.Escape writes it.
func TestEscapes(t *testing.T) {
	for i := range 256 {
		value := "a" + string([]byte{byte(i)}) + "b"
		line := "rule a deny if group has " + codec.Escape(value) + "\n"
		l := []api.PolicyRule{deny("a", cond("group", "has", value))}
		want := policy.Check(l)
		got, n, e := policy.Parse(line)
		if e != want || (n == 1) != (e != api.OK) || (e == api.OK) != same(got, l) {
			t.Errorf("Parse of %q = %v, %d, %d, not %d", line, got, n, int(e), int(want))
		}
		if s, e := policy.Text(l); e != want || (s == line) != (e == api.OK) {
			t.Errorf("Text of %v = %q, %d", l, s, int(e))
		}
	}
}

// P30.6: Parse inverts Text.
func TestRoundTrip(t *testing.T) {
	r := random{rand.New(rand.NewSource(5))}
	accepted := 0
	for range 20000 {
		var l []api.PolicyRule
		for range r.Intn(4) {
			l = append(l, r.rule())
		}
		if r.Intn(4) > 0 {
			l = slices.DeleteFunc(l, func(p api.PolicyRule) bool { return policy.Check([]api.PolicyRule{p}) != api.OK })
		}
		s, e := policy.Text(l)
		if e != policy.Check(l) {
			t.Fatalf("Text of %v = %d", l, int(e))
		}
		if e != api.OK {
			continue
		}
		if got, line, e := policy.Parse(s); !same(got, l) || !policy.Equal(got, l) || line != 0 || e != api.OK {
			t.Fatalf("Parse of %q = %v, %d, %d", s, got, line, int(e))
		}
		accepted += len(l)
	}
	if accepted < 3000 {
		t.Errorf("%d rules were accepted", accepted)
	}
}

// lineForm is the form of a line. Of the scopes it takes as few as possible, so
// that level and age are among them only if no line with other scopes is possible.
var lineForm = regexp.MustCompile(`^rule ([^ \n]+) (permit|deny)( if [^ \n]+ [^ \n]+ [^ \n]+(?: and [^ \n]+ [^ \n]+ [^ \n]+)*)?( scopes(?: [^ \n]+)+?)?( level [^ \n]+)?( age [^ \n]+)?$`)

// readLine returns the rule of a line, and whether the line is possible.
func readLine(line string) (api.PolicyRule, bool) {
	m := lineForm.FindStringSubmatch(line)
	if m == nil {
		return api.PolicyRule{}, false
	}
	p := api.PolicyRule{Name: m[1], Deny: m[2] == "deny"}
	ok := true
	// The words of a part come after the space before it.
	for words := strings.Split(m[3], " ")[1:]; len(words) > 0; words = words[4:] {
		value, e := codec.Unescape(words[3])
		ok = ok && e == api.OK
		p.Conditions = append(p.Conditions, cond(words[1], words[2], value))
	}
	if m[4] != "" {
		p.Scopes = strings.Split(m[4], " ")[2:]
	}
	number := func(part string, place *int) {
		if part == "" {
			return
		}
		s := strings.Split(part, " ")[2]
		*place, _ = strconv.Atoi(s)
		ok = ok && isNumber(s) && *place != 0
	}
	number(m[5], &p.Level)
	number(m[6], &p.MaxAge)
	return p, ok && !slices.Contains(p.Scopes, "level") && !slices.Contains(p.Scopes, "age")
}

// parse returns what Parse is to return, by its definition.
func parse(s string) ([]api.PolicyRule, int, api.Errno) {
	var l []api.PolicyRule
	for i, line := range strings.SplitAfter(s, "\n") {
		if line == "" {
			break
		}
		p, ok := readLine(strings.TrimSuffix(line, "\n"))
		if !ok || !strings.HasSuffix(line, "\n") {
			return nil, i + 1, api.ErrForm
		}
		l = append(l, p)
		if e := policy.Check(l); e != api.OK {
			return nil, i + 1, e
		}
	}
	return l, 0, api.OK
}

// wantParsed checks what Parse returns for a text, and returns the error.
func wantParsed(t *testing.T, s string) api.Errno {
	t.Helper()
	want, at, bad := parse(s)
	l, line, e := policy.Parse(s)
	if !same(l, want) || line != at || e != bad {
		t.Fatalf("Parse of %q = %v, %d, %d, not %v, %d, %d", s, l, line, int(e), want, at, int(bad))
	}
	if e == api.OK {
		if got, e := policy.Text(l); got != s || e != api.OK {
			t.Fatalf("Text of Parse of %q = %q, %d", s, got, int(e))
		}
	}
	return e
}

// P30.3, P30.6: texts in which some words are changed.
func TestEditedWords(t *testing.T) {
	r := random{rand.New(rand.NewSource(6))}
	text := "rule a permit if user is x and risk max 3 scopes b c level 1 age 5\nrule b deny if scope has level and group lacks age\nrule c permit scopes a level 2\n"
	counts := map[api.Errno]int{}
	for range 60000 {
		lines := strings.Split(text, "\n")
		for range 1 + r.Intn(2) {
			n := r.Intn(3)
			words := strings.Split(lines[n], " ")
			i := r.Intn(len(words) + 1)
			word := r.pick("rule", "a", "b", "permit", "deny", "if", "and", "user", "is", "has", "max", "x", "3", "0", "-1", "scopes", "level", "age", "c", "%", "%20", "")
			switch {
			case r.Intn(3) == 0 || i == len(words):
				words = slices.Insert(words, i, word)
			case r.Intn(2) == 0:
				words = slices.Delete(words, i, min(i+1+r.Intn(4), len(words)))
			default:
				words[i] = word
			}
			lines[n] = strings.Join(words, " ")
		}
		counts[wantParsed(t, strings.Join(lines, "\n"))]++
	}
	for _, e := range []api.Errno{api.OK, api.ErrForm, api.ErrName, api.ErrTwice, api.ErrArg, api.ErrNone, api.ErrScope, api.ErrRange} {
		if counts[e] < 30 {
			t.Errorf("%d texts had the error %d", counts[e], int(e))
		}
	}
}

// P30.3, P30.6: texts in which some bytes are changed.
func TestEditedBytes(t *testing.T) {
	r := random{rand.New(rand.NewSource(7))}
	text := "rule a permit if user is x scopes b c level 1 age 5\nrule b deny if group has a%20b\nrule c permit scopes a\n"
	counts := map[api.Errno]int{}
	for range 60000 {
		b := []byte(text)
		for range 1 + r.Intn(2) {
			i := r.Intn(len(b))
			switch r.Intn(4) {
			case 0:
				b[i] = text[r.Intn(len(text))]
			case 1:
				b = slices.Delete(b, i, i+1)
			case 2:
				b = slices.Insert(b, i, text[r.Intn(len(text))])
			case 3:
				b[i] = byte(r.Intn(256))
			}
		}
		counts[wantParsed(t, string(b))]++
	}
	for _, e := range []api.Errno{api.OK, api.ErrForm, api.ErrName} {
		if counts[e] < 30 {
			t.Errorf("%d texts had the error %d", counts[e], int(e))
		}
	}
}

// P30.3: a result shares no memory with another part of it.
func TestMemory(t *testing.T) {
	text := "rule a permit if user is x scopes b c\nrule b permit if user is y scopes d\n"
	l, _, _ := policy.Parse(text)
	for i := range l {
		_ = append(l[i].Conditions, cond("z", "z", "z"))
		_ = append(l[i].Scopes, "z")
	}
	if s, e := policy.Text(l); s != text || e != api.OK {
		t.Errorf("Text = %q, %d", s, int(e))
	}
	clear(l[0].Scopes)
	clear(l[0].Conditions)
	if s, e := policy.Text(l[1:]); s != "rule b permit if user is y scopes d\n" || e != api.OK {
		t.Errorf("Text = %q, %d", s, int(e))
	}
}
