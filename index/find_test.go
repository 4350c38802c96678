package index_test

import (
	"math/rand"
	"slices"
	"strings"
	"testing"

	"identity/api"
	"identity/attrs"
	"identity/filter"
	"identity/index"
	"identity/name"
	"identity/schema"
)

// P11.3
func TestFind(t *testing.T) {
	x := indexed(t, []string{"CN", "code", "age", "Boss", "active"}, people()...)
	for _, c := range []struct {
		attr, value, want string
		ok                bool
	}{
		{"cn", "ann", "cn=ann,o=x;cn=bob,o=x", true}, {"CN", "ANN", "cn=ann,o=x;cn=bob,o=x", true}, {"cn", "Ann  LEE", "cn=ann,o=x", true}, {"cn", "bob", "cn=bob,o=x", true},
		{"cn", "CID", "cn=cid,cn=bob,o=x", true}, {"cn", "an", "", true}, {"cn", "annie", "", true}, {"cn", "", "", true}, {"cn", " ann", "", true}, {"cn", "ann\n", "", true}, {"cn", strings.Repeat("a", api.MaxValue+1), "", true},
		{"code", "Ab", "cn=ann,o=x", true}, {"Code", "ab", "cn=bob,o=x", true}, {"CODE", "AB", "", true},
		{"age", "9", "cn=ann,o=x", true}, {"age", "009", "cn=ann,o=x", true}, {"Age", "10", "cn=bob,o=x", true}, {"age", "010", "cn=bob,o=x", true}, {"age", "-5", "cn=cid,cn=bob,o=x", true}, {"age", "-05", "cn=cid,cn=bob,o=x", true}, {"age", "50", "cn=cid,cn=bob,o=x", true}, {"age", "5", "", true}, {"age", "x", "", true}, {"age", "", "", true}, {"age", "-0", "", true}, {"age", "9223372036854775808", "", true},
		{"boss", "cn=bob,o=x", "cn=ann,o=x;cn=cid,cn=bob,o=x", true}, {"boss", "CN = BOB , O = X", "cn=ann,o=x;cn=cid,cn=bob,o=x", true}, {"BOSS", "o=x", "o=x", true}, {"boss", "nobody", "", true}, {"boss", "o=y", "", true}, {"boss", "", "", true},
		{"active", "TRUE", "cn=ann,o=x;cn=cid,cn=bob,o=x", true}, {"active", "true", "cn=ann,o=x;cn=cid,cn=bob,o=x", true}, {"active", "false", "cn=bob,o=x", true}, {"active", "yes", "", true},
		{"mail", "x", "", false}, {"class", "person", "", false}, {"none", "ann", "", false}, {"", "ann", "", false}, {"cn ", "ann", "", false}, {"c", "ann", "", false}, {"mail", "", "", false}, {"\u017fn", "ann", "", false},
	} {
		if l, ok := x.Find(c.attr, c.value); strings.Join(l, ";") != c.want || ok != c.ok {
			t.Errorf("Find(%q, %.80q) = %q, %v", c.attr, c.value, l, ok)
		}
	}
}

// P11.3
func TestRange(t *testing.T) {
	x := indexed(t, []string{"CN", "code", "age", "Boss", "active"}, people()...)
	for _, c := range []struct {
		attr, low, high, want string
		ok                    bool
	}{
		{"age", "", "", "cn=ann,o=x;cn=bob,o=x;cn=cid,cn=bob,o=x", true},
		{"age", "9", "10", "cn=ann,o=x;cn=bob,o=x", true}, {"AGE", "009", "0010", "cn=ann,o=x;cn=bob,o=x", true}, {"age", "9", "9", "cn=ann,o=x", true}, {"age", "10", "9", "", true}, {"age", "10", "", "cn=bob,o=x;cn=cid,cn=bob,o=x", true}, {"age", "", "9", "cn=ann,o=x;cn=cid,cn=bob,o=x", true}, {"age", "", "8", "cn=cid,cn=bob,o=x", true}, {"age", "-4", "8", "", true}, {"age", "-5", "-5", "cn=cid,cn=bob,o=x", true}, {"age", "51", "", "", true}, {"age", "", "-6", "", true},
		// No single value of cid is between the bounds, although they are between two of them.
		{"age", "11", "49", "", true}, {"age", "0", "49", "cn=ann,o=x;cn=bob,o=x", true},
		{"age", "x", "", "", true}, {"age", "", "x", "", true}, {"age", "x", "x", "", true}, {"age", "9", "x", "", true}, {"age", "x", "10", "", true}, {"age", " ", "", "", true}, {"age", "", "9223372036854775808", "", true}, {"age", "-9223372036854775808", "9223372036854775807", "cn=ann,o=x;cn=bob,o=x;cn=cid,cn=bob,o=x", true},
		{"cn", "", "", "cn=ann,o=x;cn=bob,o=x;cn=cid,cn=bob,o=x", true}, {"cn", "ANN", "ANN", "cn=ann,o=x;cn=bob,o=x", true}, {"cn", "ann ", "", "", true}, {"cn", "ann a", "ann z", "cn=ann,o=x", true}, {"cn", "ann!", "BOB", "cn=bob,o=x", true}, {"cn", "c", "D", "cn=cid,cn=bob,o=x", true}, {"cn", "cid", "b", "", true},
		{"code", "", "", "cn=ann,o=x;cn=bob,o=x", true}, {"code", "a", "", "cn=bob,o=x", true}, {"code", "", "a", "cn=ann,o=x", true}, {"code", "AB", "Ab", "cn=ann,o=x", true},
		{"boss", "", "", "o=x;cn=ann,o=x;cn=cid,cn=bob,o=x", true}, {"boss", "o=x", "", "o=x;cn=ann,o=x;cn=cid,cn=bob,o=x", true}, {"boss", "cn=a,O=x", "", "cn=ann,o=x;cn=cid,cn=bob,o=x", true}, {"boss", "", "cn=a,o=x", "o=x", true}, {"boss", "cn=z,o=w", "o=w", "", true}, {"boss", "nobody", "", "", true},
		{"active", "", "", "cn=ann,o=x;cn=bob,o=x;cn=cid,cn=bob,o=x", true}, {"active", "", "false", "cn=bob,o=x", true}, {"active", "true", "", "cn=ann,o=x;cn=cid,cn=bob,o=x", true}, {"active", "false", "true", "cn=ann,o=x;cn=bob,o=x;cn=cid,cn=bob,o=x", true}, {"active", "maybe", "", "", true},
		{"mail", "", "", "", false}, {"mail", "a", "b", "", false}, {"class", "", "", "", false}, {"none", "", "", "", false}, {"", "", "", "", false}, {"age ", "", "", "", false},
	} {
		if l, ok := x.Range(c.attr, c.low, c.high); strings.Join(l, ";") != c.want || ok != c.ok {
			t.Errorf("Range(%q, %q, %q) = %q, %v", c.attr, c.low, c.high, l, ok)
		}
	}
	y := indexed(t, []string{"age"}, of("o=x", attr("age", "7")))
	if l, ok := y.Range("AGE", "", "10"); !slices.Equal(l, []string{"o=x"}) || !ok {
		t.Errorf("Range of age 7: %q, %v", l, ok)
	}
}

// P11.3, P11.4: lists of names have an order of their own, and each name once.
func TestOrder(t *testing.T) {
	names := []string{"o=a", "cn=z,o=a", "cn=b,cn=z,o=a", "o=a b", "cn=a,o=a b", `o=a\,b`, "o=b", "cn=a,o=b"}
	x := indexed(t, []string{"cn", "age"})
	for _, i := range rand.New(rand.NewSource(1)).Perm(len(names)) {
		x.Put(of(names[i], attr("cn", "a", "A", "b"), attr("age", "1", "2", "01")))
	}
	cn := api.Filter{Kind: api.EqualFilter, Name: "cn", Value: "a"}
	age := api.Filter{Kind: api.PresentFilter, Name: "age"}
	for what, list := range map[string]func() ([]string, bool){
		"Find":    func() ([]string, bool) { return x.Find("cn", "a") },
		"Range":   func() ([]string, bool) { return x.Range("age", "1", "2") },
		"Equal":   func() ([]string, bool) { return x.Candidates(cn) },
		"Present": func() ([]string, bool) { return x.Candidates(age) },
		"Or":      func() ([]string, bool) { return x.Candidates(or(age, cn)) },
		"And":     func() ([]string, bool) { return x.Candidates(and(age, cn)) },
	} {
		l, ok := list()
		if !slices.Equal(l, names) || !ok {
			t.Errorf("%s: %q, %v", what, l, ok)
		}
		// A result is not the memory of the index.
		clear(l)
		if l, _ := list(); !slices.Equal(l, names) {
			t.Errorf("%s after its result was cleared: %q", what, l)
		}
	}
}

// and, or and not make filters of others.
func and(kids ...api.Filter) api.Filter { return api.Filter{Kind: api.AndFilter, Kids: kids} }
func or(kids ...api.Filter) api.Filter  { return api.Filter{Kind: api.OrFilter, Kids: kids} }
func not(kid api.Filter) api.Filter {
	return api.Filter{Kind: api.NotFilter, Kids: []api.Filter{kid}}
}

// P11.4
func TestCandidates(t *testing.T) {
	x := indexed(t, []string{"CN", "age"}, people()...)
	const ann, bob, cid, top = "cn=ann,o=x", "cn=bob,o=x", "cn=cid,cn=bob,o=x", "o=x"
	for text, want := range map[string]string{
		"(cn=ann)": ann + ";" + bob, "(CN=ANN)": ann + ";" + bob, "(cn=dan)": "", "(age=9)": ann, "(AGE=09)": ann, "(age=x)": "",
		"(mail=x)": "?", "(none=x)": "?", "(class=person)": "?", "(mail>=x)": "?", "(mail<=x)": "?", "(mail=*)": "?", "(none=*)": "?", "(mail=x*)": "?",
		"(age>=10)": bob + ";" + cid, "(age>=11)": cid, "(age<=9)": ann + ";" + cid, "(Age<=-6)": "", "(age>=x)": "", "(age<=x)": "", "(age>=51)": "",
		"(age=*)": top + ";" + ann + ";" + bob + ";" + cid, "(cn=*)": ann + ";" + bob + ";" + cid, "(CN=*)": ann + ";" + bob + ";" + cid,
		"(cn=a*)": "?", "(cn=*a)": "?", "(!(cn=ann))": "?", "(!(mail=x))": "?", "(!(!(cn=ann)))": "?",

		"(&)": "?", "(&(mail=x))": "?", "(&(mail=x)(cn=ann))": ann + ";" + bob, "(&(cn=ann)(mail=x))": ann + ";" + bob, "(&(mail=x)(class=a))": "?", "(&(!(cn=ann))(cn=a*))": "?", "(&(!(cn=ann))(cn=bob))": bob,
		"(&(cn=*)(cn=ann)(age=9))": ann, "(&(age=9)(cn=ann)(cn=*))": ann, "(&(cn=ann)(age>=10))": ann + ";" + bob, "(&(age>=10)(cn=ann))": bob + ";" + cid, "(&(cn=*)(age>=10)(cn=ann))": bob + ";" + cid, "(&(cn=bob)(age=9))": bob, "(&(age=9)(cn=bob))": ann, "(&(cn=ann)(cn=zoe)(age=9))": "", "(&(mail=x)(cn=zoe))": "",
		"(&(&)(cn=bob))": bob, "(&(&(mail=x)(cn=ann))(age>=10))": ann + ";" + bob, "(&(&(cn=ann)(age=9))(cn=bob))": ann,

		"(|)": "", "(|(cn=ann))": ann + ";" + bob, "(|(cn=ann)(mail=x))": "?", "(|(mail=x)(cn=ann))": "?", "(|(cn=bob)(age=9))": ann + ";" + bob, "(|(age=9)(cn=bob))": ann + ";" + bob, "(|(cn=zoe)(age=x))": "", "(|(cn=cid)(cn=cid)(age=50))": cid, "(|(&)(cn=ann))": "?", "(|(|)(cn=ann))": ann + ";" + bob, "(|(&(mail=x)(cn=bob))(age>=51))": bob, "(|(!(cn=ann))(cn=ann))": "?", "(|(|(cn=ann)(mail=x))(cn=bob))": "?", "(&(|(cn=ann)(mail=x))(cn=bob))": bob, "(&(|)(cn=bob))": "", "(!(|))": "?", "(!(&))": "?",
	} {
		f, e := filter.Parse(text)
		if e != api.OK {
			t.Fatalf("Parse(%q) = %d", text, int(e))
		}
		l, ok := x.Candidates(f)
		if got := strings.Join(l, ";"); ok != (want != "?") || ok && got != want || !ok && got != "" {
			t.Errorf("Candidates of %s = %q, %v", text, l, ok)
		}
	}
}

// P11.4: filters that filter.Check does not accept.
func TestCandidatesErrors(t *testing.T) {
	x := indexed(t, []string{"cn", "age"}, people()...)
	cn := api.Filter{Kind: api.EqualFilter, Name: "cn", Value: "bob"}
	of := func(kind api.FilterKind, name, value string) api.Filter {
		return api.Filter{Kind: kind, Name: name, Value: value}
	}
	deep := cn
	for range 1000 {
		deep = or(and(deep))
	}
	for i, c := range []struct {
		f    api.Filter
		want string
		ok   bool
	}{
		{api.Filter{}, "", false},
		{of(0, "cn", "bob"), "", false},
		{of(-1, "cn", "bob"), "", false},
		{of(9, "cn", "bob"), "", false},
		{api.Filter{Kind: 9, Kids: []api.Filter{cn}}, "", false},
		{api.Filter{Kind: api.NotFilter}, "", false},
		{and(api.Filter{}, cn), "cn=bob,o=x", true},
		{or(api.Filter{}, cn), "", false},
		{of(api.EqualFilter, "cn", ""), "", true},
		{of(api.EqualFilter, "cn", " bob"), "", true},
		{of(api.EqualFilter, "", "bob"), "", false},
		{of(api.EqualFilter, "mail", ""), "", false},
		// An empty value is no bound for Range, but it is not valid for a filter.
		{of(api.AtLeastFilter, "age", ""), "", true},
		{of(api.AtMostFilter, "age", ""), "", true},
		{of(api.AtLeastFilter, "cn", ""), "", true},
		{of(api.AtMostFilter, "cn", ""), "", true},
		{of(api.AtLeastFilter, "mail", ""), "", false},
		{of(api.AtMostFilter, "mail", ""), "", false},
		{of(api.AtMostFilter, "age", " 9"), "", true},
		{of(api.PresentFilter, "cn", "x"), "cn=ann,o=x;cn=bob,o=x;cn=cid,cn=bob,o=x", true},
		{api.Filter{Kind: api.EqualFilter, Name: "cn", Value: "bob", Parts: []string{"a"}, Kids: []api.Filter{{}}}, "cn=bob,o=x", true},
		{api.Filter{Kind: api.AndFilter, Name: "cn", Value: "ann", Kids: []api.Filter{cn}}, "cn=bob,o=x", true},
		{or(slices.Repeat([]api.Filter{cn}, api.MaxNodes)...), "cn=bob,o=x", true},
		{deep, "cn=bob,o=x", true},
	} {
		if l, ok := x.Candidates(c.f); strings.Join(l, ";") != c.want || ok != c.ok {
			t.Errorf("%d: %q, %v", i, l, ok)
		}
	}
}

// random returns one of some strings.
func random(r *rand.Rand, l ...string) string {
	return l[r.Intn(len(l))]
}

// samples returns values for an attribute, some of which are not valid.
func samples(attr string) []string {
	switch attr {
	case "age":
		return []string{"9", "10", "010", "-5", "-05", "100", "x", "0"}
	case "boss":
		return []string{"o=x", "O=x", "cn=a,o=x", "cn=A, o=x", "o=y", "cn=b,o=a", "none"}
	case "active":
		return []string{"true", "TRUE", "False", "no"}
	}
	return []string{"a", "A", "a b", "A  b", "b", "B", "9", "10"}
}

// randomEntry returns an entry with one of a few names, and some of the attributes.
func randomEntry(r *rand.Rand) api.Entry {
	e := of(random(r, "o=x", "cn=a,o=x", "cn=b,o=x", "cn=a,cn=b,o=x", "o=y", "cn=a,o=y", "o=a", "cn=c,o=a"))
	for _, i := range r.Perm(len(every))[:r.Intn(5)] {
		name, values := every[i], samples(every[i])
		if r.Intn(2) == 0 {
			name = strings.ToUpper(name)
		}
		perm := r.Perm(len(values))[:1+r.Intn(3)]
		a := api.Attr{Name: name}
		for _, j := range perm {
			a.Values = append(a.Values, values[j])
		}
		e.Attrs = append(e.Attrs, a)
	}
	return e
}

// examined returns the names of the entries of a list that satisfy a condition, in order.
func examined(l []api.Entry, wanted func(e api.Entry) bool) []string {
	var names []string
	for _, e := range l {
		if wanted(e) {
			names = append(names, e.Name)
		}
	}
	slices.SortFunc(names, name.Compare)
	return names
}

// hasBetween reports whether an entry has a value between two bounds, by the definition.
func hasBetween(e api.Entry, attr, low, high string) bool {
	return slices.ContainsFunc(attrs.Get(e.Attrs, attr), func(v string) bool {
		if _, bad := schema.Normal(staff(), attr, v); bad != api.OK {
			return false
		}
		m, bad := schema.Compare(staff(), attr, low, v)
		n, worse := schema.Compare(staff(), attr, v, high)
		return (low == "" || bad == api.OK && m <= 0) && (high == "" || worse == api.OK && n <= 0)
	})
}

// P11.6, P11.7: after any operations, Find and Range agree with an examination of all entries.
func TestAgrees(t *testing.T) {
	r := rand.New(rand.NewSource(1))
	found := 0
	for range 60 {
		names := slices.DeleteFunc(slices.Clone(every), func(string) bool { return r.Intn(4) == 0 })
		x := indexed(t, names)
		var all []api.Entry
		for range 25 {
			e := randomEntry(r)
			all = slices.DeleteFunc(all, func(a api.Entry) bool { return a.Name == e.Name })
			if r.Intn(4) == 0 {
				x.Drop(e.Name)
			} else {
				x.Put(e)
				all = append(all, e)
			}
			if x.Len() != len(all) {
				t.Fatalf("Len = %d for %q", x.Len(), all)
			}
			attr := random(r, every...)
			low, high := random(r, append(samples(attr), "")...), random(r, append(samples(attr), "")...)
			want := examined(all, func(e api.Entry) bool { return low != "" && hasBetween(e, attr, low, low) })
			l, ok := x.Find(strings.ToUpper(attr), low)
			if ok != slices.Contains(names, attr) || ok && !slices.Equal(l, want) || !ok && len(l) > 0 {
				t.Fatalf("Find(%q, %q) = %q, %v in %q", attr, low, l, ok, all)
			}
			want = examined(all, func(e api.Entry) bool { return hasBetween(e, attr, low, high) })
			l, ok = x.Range(attr, low, high)
			if ok != slices.Contains(names, attr) || ok && !slices.Equal(l, want) || !ok && len(l) > 0 {
				t.Fatalf("Range(%q, %q, %q) = %q, %v in %q", attr, low, high, l, ok, all)
			}
			found += len(l)
		}
		// The order of the operations does not matter.
		y := indexed(t, names)
		for _, i := range r.Perm(len(all)) {
			y.Put(all[i])
		}
		if got, want := listed(x), listed(y); got != want {
			t.Fatalf("%q: %s, not %s", all, got, want)
		}
	}
	if found < 500 {
		t.Errorf("only %d names were found", found)
	}
}

// randomFilter returns a filter with at most some levels.
func randomFilter(r *rand.Rand, levels int) api.Filter {
	attr := random(r, every...)
	f := api.Filter{Kind: api.FilterKind(1 + r.Intn(8)), Name: attr}
	if levels == 1 {
		f.Kind = api.EqualFilter + api.FilterKind(r.Intn(5))
	}
	switch f.Kind {
	case api.AndFilter, api.OrFilter, api.NotFilter:
		kids := r.Intn(4)
		if f.Kind == api.NotFilter {
			kids = 1
		}
		f.Name = ""
		for range kids {
			f.Kids = append(f.Kids, randomFilter(r, levels-1))
		}
	case api.SubstringFilter:
		f.Parts = []string{"a", ""}
	case api.EqualFilter, api.AtLeastFilter, api.AtMostFilter:
		f.Value = random(r, samples(attr)...)
	}
	return f
}

// told returns the candidates by the definition in P11.4.
func told(x *index.Index, f api.Filter) ([]string, bool) {
	_, indexed := x.Find(f.Name, "")
	_, bad := schema.Normal(staff(), f.Name, f.Value)
	switch f.Kind {
	case api.EqualFilter:
		return x.Find(f.Name, f.Value)
	case api.AtLeastFilter, api.AtMostFilter:
		if bad != api.OK {
			return nil, indexed
		}
		if f.Kind == api.AtLeastFilter {
			return x.Range(f.Name, f.Value, "")
		}
		return x.Range(f.Name, "", f.Value)
	case api.PresentFilter:
		return x.Candidates(f)
	case api.AndFilter:
		var shortest []string
		known := false
		for _, kid := range f.Kids {
			if l, ok := told(x, kid); ok && (!known || len(l) < len(shortest)) {
				shortest, known = l, true
			}
		}
		return shortest, known
	case api.OrFilter:
		var all []string
		for _, kid := range f.Kids {
			l, ok := told(x, kid)
			if !ok {
				return nil, false
			}
			all = append(all, l...)
		}
		slices.SortFunc(all, name.Compare)
		return slices.Compact(all), true
	}
	return nil, false
}

// P11.4, P11.5
func TestComplete(t *testing.T) {
	r := rand.New(rand.NewSource(2))
	known, unknown, spared := 0, 0, 0
	for range 40 {
		names := slices.DeleteFunc(slices.Clone(every), func(string) bool { return r.Intn(5) == 0 })
		x := indexed(t, names)
		byName := map[string]api.Entry{}
		for range 10 {
			e := randomEntry(r)
			x.Put(e)
			byName[e.Name] = e
		}
		for range 100 {
			f := randomFilter(r, 4)
			if filter.Check(f) != api.OK {
				t.Fatalf("a filter of the test: %v", f)
			}
			l, ok := x.Candidates(f)
			want, also := told(x, f)
			if ok != also || !slices.Equal(l, want) {
				t.Fatalf("Candidates(%v) = %q, %v, not %q, %v", f, l, ok, want, also)
			}
			if !ok {
				unknown++
				continue
			}
			known++
			spared += len(byName) - len(l)
			for _, e := range byName {
				if filter.Match(staff(), f, e) && !slices.Contains(l, e.Name) {
					t.Fatalf("Candidates(%v) = %q lacks %q", f, l, e)
				}
			}
		}
	}
	if known < 1000 || unknown < 1000 || spared < 1000 {
		t.Errorf("%d filters were known, %d were not, and %d entries were spared", known, unknown, spared)
	}
}

// P11.4: Candidates does not change its argument.
func TestCandidatesArgument(t *testing.T) {
	x := indexed(t, []string{"cn"}, people()...)
	kids := []api.Filter{{Kind: api.PresentFilter, Name: "CN"}, {Kind: api.EqualFilter, Name: "Cn", Value: "ANN"}}
	f := or(and(kids...), not(kids[0]))
	g := or(and(slices.Clone(kids)...), not(kids[0]))
	x.Candidates(f)
	if !filter.Equal(f, g) {
		t.Errorf("Candidates changed %v to %v", g, f)
	}
}
