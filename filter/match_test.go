package filter_test

import (
	"regexp"
	"slices"
	"strings"
	"testing"

	"identity/api"
	"identity/attrs"
	"identity/filter"
	"identity/fold"
	"identity/schema"
)

// attr makes an attribute.
func attr(name string, values ...string) api.Attr {
	return api.Attr{Name: name, Values: values}
}

// of makes an entry. The name of an entry does not matter.
func of(l ...api.Attr) api.Entry {
	return api.Entry{Name: "no name", Attrs: l}
}

// person returns a schema with every syntax.
func person() api.Schema {
	return api.Schema{Types: []api.AttrType{
		{Name: "class", Syntax: api.TextSyntax}, {Name: "cn", Syntax: api.TextSyntax}, {Name: "Code", Syntax: api.ExactSyntax},
		{Name: "age", Syntax: api.IntSyntax, Single: true}, {Name: "boss", Syntax: api.NameSyntax}, {Name: "active", Syntax: api.BoolSyntax}, {Name: "mail", Syntax: api.TextSyntax},
	}}
}

// ann returns an entry that has values of every syntax, among them ones that are not valid.
func ann() api.Entry {
	return of(attr("class", "Person", "staff"), attr("CN", "Ann  Lee"), attr("cn", "annie"), attr("code", "abcab", "X y"),
		attr("age", "030", "x", "-5"), attr("boss", "CN=Bob, O=x", "not a name"), attr("Active", "true", "maybe"), attr("mail"), attr("other", "a"))
}

// P9.3: every kind with every syntax.
func TestMatchComparisons(t *testing.T) {
	for text, want := range map[string]bool{
		"(class=person)": true, "(CLASS=PERSON)": true, "(class=Staff)": true, "(class=perso)": false, "(class=persons)": false,
		"(cn=ann lee)": true, "(cn=ANN   LEE)": true, "(cn=annie)": true, "(cn=annlee)": false, "(cn=ann)": false,
		"(cn>=ann lee)": true, "(cn>=annie)": true, "(cn>=annif)": false, "(cn<=ann lee)": true, "(cn<=ann led)": false, "(cn<=ann)": false, "(cn>=ANNIE)": true, "(cn<=b)": true, "(cn>=b)": false,

		"(code=abcab)": true, "(CODE=abcab)": true, "(code=ABCAB)": false, "(code=X y)": true, "(code=X  y)": false, "(code>=abcab)": true, "(code>=abcac)": false, "(code<=X y)": true, "(code<=X x)": false, "(code<=Z)": true, "(code>=a)": true,

		"(age=30)": true, "(age=0030)": true, "(age=-5)": true, "(age=-05)": true, "(age=3)": false, "(age=x)": false, "(age=-)": false, "(age=3 0)": false,
		"(age>=30)": true, "(age>=9)": true, "(age>=31)": false, "(age<=-5)": true, "(age<=-6)": false, "(age<=9)": true, "(age>=x)": false, "(age<=x)": false, "(age>=-9223372036854775808)": true, "(age<=9223372036854775807)": true, "(age<=9223372036854775808)": false,

		"(boss=cn=bob,o=x)": true, "(boss=CN = Bob , O = X)": true, "(boss=cn=bob)": false, "(boss=not a name)": false, "(boss>=o=x)": true, "(boss<=o=x)": false, "(boss<=cn=a,o=y)": true, "(boss>=cn=a,o=y)": false, "(boss<=cn=bob,o=x)": true, "(boss>=a)": false, "(boss<=a)": false,

		"(active=TRUE)": true, "(active=True)": true, "(active=false)": false, "(active=maybe)": false, "(active>=false)": true, "(active<=false)": false, "(active<=true)": true, "(active>=x)": false,

		"(cn=*)": true, "(CN=*)": true, "(age=*)": true, "(boss=*)": true, "(mail=*)": false, "(mail=a)": false, "(code=*)": true, "(active=*)": true,
		// No type: not satisfied, whatever the entry has.
		"(other=*)": false, "(other=a)": false, "(other>=a)": false, "(other<=a)": false, "(other=a*)": false, "(none=*)": false, "(name=no name)": false,

		"(cn=a*)": true, "(cn=ANN *)": true, "(cn=*LEE)": true, "(cn=*lee )": false, "(cn=ann*lee)": true, "(cn=ann  *)": false, "(cn=*n l*)": true, "(cn=* *)": true, "(cn=*  *)": false, "(cn=a*n*n*i*e)": true, "(cn=a*n*n*n*e)": false, "(cn=ann*nie)": false, "(cn=*nn*)": true, "(cn=*x*)": false, "(cn=*ann)": false, "(cn=lee*)": false, "(cn=annie*annie)": false,
		"(code=ab*ab)": true, "(code=ab*c*ab)": true, "(code=ab*bc*ab)": false, "(code=abc*cab)": false, "(code=AB*)": false, "(code=*CAB)": false, "(code=*B*)": false, "(code=*bca*)": true, "(code=*b*b*)": true, "(code=*b*b*b*)": false, "(code=X *)": true, "(code=x*)": false, "(code=* *)": true, "(code=*  *)": false, "(code=abcab*)": true, "(code=abcab*b)": false,
		// A value that both syntaxes would match, and other syntaxes.
		"(class=*)": true, "(class=p*n)": true, "(age=3*)": false, "(age=*0)": false, "(age=0*0)": false, "(boss=cn*)": false, "(boss=*x)": false, "(active=t*)": false, "(active=TR*E)": false, "(mail=a*)": false,
	} {
		f, e := filter.Parse(text)
		if e != api.OK {
			t.Fatalf("Parse(%q) = %d", text, int(e))
		}
		if got := filter.Match(person(), f, ann()); got != want {
			t.Errorf("Match of %s = %v", text, got)
		}
		if got := filter.Match(person(), not(f), ann()); got == want {
			t.Errorf("Match of (!%s) = %v", text, got)
		}
	}
}

// P9.3: values of an entry that are not valid satisfy nothing but PresentFilter.
func TestMatchInvalidValues(t *testing.T) {
	long := strings.Repeat("a", api.MaxValue+1)
	for _, value := range []string{"", " ", " ann", "ann ", "an\nn", "ann\x7f", "é", long} {
		for _, name := range []string{"cn", "code"} {
			e := of(attr(name, value))
			part := strings.Trim(value, " \n\x7fé")
			for _, f := range []api.Filter{atLeast(name, "!"), atMost(name, "~"), equal(name, "ann"), substring(name, "", "a", ""), substring(name, part, " "), substring(name, " ", part)} {
				if filter.Check(f) == api.OK && filter.Match(person(), f, e) {
					t.Errorf("Match(%v, %q)", f, value)
				}
			}
			if !filter.Match(person(), present(name), e) || filter.Match(person(), not(present(name)), e) {
				t.Errorf("Match of (%s=*), %q", name, value)
			}
		}
	}
	// Another value of the attribute counts.
	if !filter.Match(person(), equal("cn", "ANN"), of(attr("cn", " ann", "ann", long))) {
		t.Error("Match of one valid value among others")
	}
}

// P9.3: the nodes that are no comparisons.
func TestMatchNodes(t *testing.T) {
	yes, no := equal("cn", "annie"), equal("cn", "bob")
	for _, x := range []struct {
		f    api.Filter
		want bool
	}{
		{and(), true}, {or(), false}, {not(and()), false}, {not(or()), true},
		{and(yes), true}, {and(no), false}, {or(yes), true}, {or(no), false}, {not(yes), false}, {not(no), true},
		{and(yes, yes), true}, {and(yes, no), false}, {and(no, yes), false}, {and(yes, no, yes), false}, {and(no, no), false},
		{or(yes, yes), true}, {or(yes, no), true}, {or(no, yes), true}, {or(no, yes, no), true}, {or(no, no), false},
		{and(or(no, yes), not(no)), true}, {or(and(yes, no), not(yes)), false}, {not(not(not(yes))), false}, {and(and(or(and(yes)))), true},
		{nested(7, yes), false}, {nested(6, yes), true}, {or(times(63, no)...), false}, {or(append(times(62, no), yes)...), true}, {and(append(times(62, yes), no)...), false},
		{and(equal("class", "person"), not(present("mail"))), true}, {not(atLeast("mail", "a")), true}, {not(atLeast("other", "a")), true},
	} {
		before, e := copied(x.f), ann()
		if got := filter.Match(person(), x.f, e); got != x.want {
			t.Errorf("Match(%v) = %v", x.f, got)
		}
		if !same(x.f, before) || !slices.EqualFunc(e.Attrs, ann().Attrs, func(a, b api.Attr) bool { return a.Name == b.Name && slices.Equal(a.Values, b.Values) }) {
			t.Errorf("Match changed %v, or the entry", before)
		}
	}
}

// P9.3: a filter with an error is not satisfied, wherever the error is.
func TestMatchErrors(t *testing.T) {
	yes := equal("cn", "annie")
	for _, f := range []api.Filter{
		{}, {Kind: 9}, not(api.Filter{}), or(yes, api.Filter{}), or(yes, present("1")), or(yes, equal("cn", "")), not(equal("cn", " a")),
		{Kind: api.AndFilter, Name: "cn"}, {Kind: api.NotFilter}, {Kind: api.NotFilter, Kids: times(2, or())}, {Kind: api.EqualFilter, Name: "cn", Value: "annie", Parts: []string{"a"}}, {Kind: api.PresentFilter, Name: "cn", Value: "annie"},
		substring("cn"), substring("cn", "annie"), substring("cn", "", ""), substring("cn", "a", "", "e"), not(substring("cn", "x")),
		nested(8, yes), nested(9, yes), or(times(64, yes)...), and(times(64, yes)...), endless(),
	} {
		if filter.Match(person(), f, ann()) {
			t.Errorf("Match(%v)", f)
		}
	}
}

// P9.3: under a schema with an error no attribute has a type.
func TestMatchRejected(t *testing.T) {
	twice, headless := person(), person()
	twice.Types = append(twice.Types, api.AttrType{Name: "CN", Syntax: api.TextSyntax})
	headless.Types = headless.Types[1:]
	for _, s := range []api.Schema{{}, twice, headless} {
		if schema.Check(s) == api.OK {
			t.Fatalf("Check of %v", s)
		}
		for _, f := range []api.Filter{present("cn"), equal("cn", "annie"), atLeast("cn", "a"), atMost("cn", "z"), substring("cn", "a", ""), or(present("age"), present("class"))} {
			if filter.Match(s, f, ann()) || !filter.Match(s, not(f), ann()) {
				t.Errorf("Match(%v)", f)
			}
		}
		if !filter.Match(s, and(), ann()) || filter.Match(s, or(), ann()) {
			t.Error("Match without comparisons")
		}
	}
}

// strungs returns the strings of at most n pieces.
func strungs(n int, pieces ...string) []string {
	all, last := []string{""}, []string{""}
	for range n {
		var next []string
		for _, s := range last {
			for _, p := range pieces {
				next = append(next, s+p)
			}
		}
		all, last = append(all, next...), next
	}
	return all
}

// expression returns the regular expression of a value with these parts.
func expression(parts []string) *regexp.Regexp {
	var quoted []string
	for _, p := range parts {
		quoted = append(quoted, regexp.QuoteMeta(p))
	}
	return regexp.MustCompile("^" + strings.Join(quoted, ".*") + "$")
}

// P9.3: all short values and lists of up to five parts, against regular expressions.
func TestMatchSubstrings(t *testing.T) {
	ends, between := strungs(2, "a", "b", " "), strungs(2, "a", "B")[1:]
	var lists [][]string
	for i, first := range ends {
		for j, last := range ends {
			lists = append(lists, []string{first, last}, []string{first, between[(i+j)%len(between)], between[(i*j)%len(between)], between[i%len(between)], last})
			for k, p := range between {
				lists = append(lists, []string{first, p, last}, []string{first, p, between[(i+j+k)%len(between)], last})
			}
		}
	}
	values := strungs(5, "a", "B", " ")
	for _, parts := range lists {
		f, g := substring("code", parts...), substring("cn", parts...)
		if filter.Check(f) != api.OK {
			continue
		}
		exact, folded := expression(parts), expression(strings.Split(strings.ToLower(strings.Join(parts, "*")), "*"))
		for i, v := range values {
			if !fold.Clean(v) || i%3 != len(parts)%3 {
				continue
			}
			if got := filter.Match(person(), f, of(attr("code", v))); got != exact.MatchString(v) {
				t.Fatalf("Match(%q, %q) = %v", parts, v, got)
			}
			if got := filter.Match(person(), g, of(attr("cn", v))); got != folded.MatchString(fold.Fold(v)) {
				t.Fatalf("Match(%q, %q) without case = %v", parts, v, got)
			}
		}
	}
}

// entries returns entries that small filters tell from each other.
func entries() []api.Entry {
	l := []api.Entry{of()}
	for _, a := range []api.Attr{attr("a", "1"), attr("A", "2x", "x"), attr("b", "1"), attr("b", "2", "3"), attr("B", "x")} {
		for _, e := range slices.Clone(l) {
			l = append(l, of(append(slices.Clone(e.Attrs), a)...))
		}
	}
	return l
}

// letters returns a schema with the types a and b.
func letters() api.Schema {
	return api.Schema{Types: []api.AttrType{{Name: "class", Syntax: api.TextSyntax}, {Name: "a", Syntax: api.TextSyntax}, {Name: "b", Syntax: api.IntSyntax}}}
}

// satisfied is the definition of P9.3.
func satisfied(s api.Schema, f api.Filter, e api.Entry) bool {
	switch f.Kind {
	case api.AndFilter, api.OrFilter:
		n := 0
		for _, kid := range f.Kids {
			if satisfied(s, kid, e) {
				n++
			}
		}
		return f.Kind == api.AndFilter && n == len(f.Kids) || f.Kind == api.OrFilter && n > 0
	case api.NotFilter:
		return !satisfied(s, f.Kids[0], e)
	}
	typ, ok := schema.Type(s, f.Name)
	for _, x := range attrs.Get(e.Attrs, f.Name) {
		n, bad := schema.Compare(s, f.Name, x, f.Value)
		if ok && (f.Kind == api.PresentFilter || bad == api.OK && (f.Kind == api.EqualFilter && n == 0 || f.Kind == api.AtLeastFilter && n >= 0 || f.Kind == api.AtMostFilter && n <= 0) ||
			f.Kind == api.SubstringFilter && typ.Syntax == api.TextSyntax && fold.Match(x, f.Parts)) {
			return true
		}
	}
	return false
}

// P9.3, P9.6: small filters, against the definition, and what holds for conjunctions, disjunctions and negations.
func TestMatchDefinition(t *testing.T) {
	s := letters()
	found := map[bool]int{}
	for i, f := range small() {
		g := small()[i/2]
		for _, e := range entries() {
			want, other := satisfied(s, f, e), satisfied(s, g, e)
			found[want]++
			if got := filter.Match(s, f, e); got != want {
				t.Fatalf("Match(%v, %v) = %v", f, e, got)
			}
			if filter.Check(not(f)) == api.OK && filter.Match(s, not(f), e) == want {
				t.Fatalf("Match of %v and its negation, %v: %v", f, e, want)
			}
			for _, kids := range [][]api.Filter{{f, g}, {g, f}, {f, g, f}, {g, g, f}} {
				if filter.Match(s, and(kids...), e) != (want && other) || filter.Match(s, or(kids...), e) != (want || other) {
					t.Fatalf("Match of %v and %v, %v", f, g, e)
				}
			}
		}
	}
	if found[true] == 0 || found[false] == 0 {
		t.Errorf("results: %v", found)
	}
}
