package filter_test

import (
	"testing"

	"identity/api"
	"identity/filter"
)

// P9.5
func TestSimplify(t *testing.T) {
	for text, want := range map[string]string{
		"(a=1)":                               "(a=1)",
		"(&)":                                 "(&)",
		"(|)":                                 "(|)",
		"(!(a=1))":                            "(!(a=1))",
		"(!(!(a=1)))":                         "(a=1)",
		"(!(!(!(a>=1))))":                     "(!(a>=1))",
		"(!(&))":                              "(|)",
		"(!(|))":                              "(&)",
		"(!(!(|)))":                           "(|)",
		"(!(a=x*y))":                          "(!(a=x*y))",
		"(!(&(a=1)(!(b=2))))":                 "(|(!(a=1))(b=2))",
		"(!(|(a=*)(b<=2)(!(c=3))))":           "(&(!(a=*))(!(b<=2))(c=3))",
		"(&(a=1)(!(|(b=2)(c=3))))":            "(&(a=1)(&(!(b=2))(!(c=3))))",
		"(!(&(|(a=1)(b=2))(&(c=3)(!(d=4)))))": "(|(&(!(a=1))(!(b=2)))(|(!(c=3))(d=4)))",
		"(|(!(!(&(a=1))))(!(&(!(|(b=2)(c=3))))))": "(|(&(a=1))(|(|(b=2)(c=3))))",
		"(&(b=1)(a=1)(b=1)(&)(!(!(|))))":          "(&(b=1)(a=1)(b=1)(&)(|))",
		"(!(!(!(!(!(!(!(a=1))))))))":              "(!(a=1))",
		"(!(&(!(&(!(&(A=1)))))))":                 "(|(&(|(!(A=1)))))",
	} {
		f, e := filter.Parse(text)
		if e != api.OK {
			t.Fatalf("Parse(%q) = %d", text, int(e))
		}
		before := copied(f)
		g := filter.Simplify(f)
		if got, e := filter.Text(g); e != api.OK || got != want {
			t.Errorf("Simplify of %s = %s, %d, not %s", text, got, int(e), want)
		}
		spoil(g)
		if !same(f, before) {
			t.Errorf("Simplify changed %v", before)
		}
	}
}

// P9.5: f itself, if it or the result has an error.
func TestSimplifyErrors(t *testing.T) {
	a := present("a")
	double := func(f api.Filter) api.Filter { return not(not(f)) }
	for _, f := range []api.Filter{
		{}, {Kind: 9, Kids: []api.Filter{double(a)}}, double(api.Filter{}), double(present("1")), double(equal("a", "")), double(substring("a", "b")),
		{Kind: api.NotFilter}, {Kind: api.NotFilter, Kids: times(2, double(a))}, {Kind: api.NotFilter, Name: "x", Kids: times(1, not(a))}, {Kind: api.AndFilter, Value: "x", Kids: times(1, double(a))},
		{Kind: api.PresentFilter, Name: "a", Value: "b", Parts: []string{"c"}, Kids: times(1, double(a))},
		and(append(times(3, double(a)), present("1"))...),
		nested(8, a), nested(10, a), nested(1000, a), or(times(64, a)...), or(times(40, double(a))...),
		// The negations are too many nodes.
		not(and(times(62, a)...)), not(or(times(32, substring("a", "b", "c"))...)), and(not(or(times(31, a)...)), double(a), or(), or()),
	} {
		before := copied(f)
		g := filter.Simplify(f)
		if !same(g, before) || !same(f, before) {
			t.Errorf("Simplify(%v) = %v", before, g)
		}
		spoil(g)
		if !same(f, before) {
			t.Errorf("Simplify(%v) shares memory with it", before)
		}
	}
	for _, n := range []int{1, 30, 31} {
		f := not(and(times(n, a)...))
		if g := filter.Simplify(f); !same(g, or(times(n, not(a))...)) {
			t.Errorf("Simplify of %d nodes = %v", n+2, g)
		}
	}
	if g := filter.Simplify(and(not(or(times(30, a)...)), double(a), or())); !same(g, and(and(times(30, not(a))...), a, or())) {
		t.Errorf("Simplify to 64 nodes = %v", g)
	}
}

// moved moves the negations of f one step down, and reports whether it moved one.
func moved(f api.Filter) (api.Filter, bool) {
	f = copied(f)
	if f.Kind == api.NotFilter {
		kid := f.Kids[0]
		switch kid.Kind {
		case api.NotFilter:
			return kid.Kids[0], true
		case api.AndFilter, api.OrFilter:
			for i := range kid.Kids {
				kid.Kids[i] = not(kid.Kids[i])
			}
			kid.Kind = api.AndFilter + api.OrFilter - kid.Kind
			return kid, true
		}
	}
	some := false
	for i, kid := range f.Kids {
		g, ok := moved(kid)
		f.Kids[i] = g
		some = some || ok
	}
	return f, some
}

// simple reports whether the kid of each negation is a comparison.
func simple(f api.Filter) bool {
	if f.Kind == api.NotFilter && f.Kids[0].Kind < api.EqualFilter {
		return false
	}
	for _, kid := range f.Kids {
		if !simple(kid) {
			return false
		}
	}
	return true
}

// P9.5: small filters, against moving negations step by step.
func TestSimplifyDefinition(t *testing.T) {
	s := letters()
	for _, f := range small() {
		for _, f := range []api.Filter{f, not(f), not(and(f, present("a"), f)), or(not(f), not(or(not(f))))} {
			if filter.Check(f) != api.OK {
				continue
			}
			want := f
			for more := true; more; {
				want, more = moved(want)
			}
			got := filter.Simplify(f)
			if filter.Check(want) != api.OK {
				want = f
			}
			if !same(got, want) {
				t.Fatalf("Simplify(%v) = %v, not %v", f, got, want)
			}
			if !simple(got) && !same(got, f) {
				t.Fatalf("Simplify(%v) = %v, not simple", f, got)
			}
			if again := filter.Simplify(got); !same(again, got) {
				t.Fatalf("Simplify of Simplify(%v) = %v, not %v", f, again, got)
			}
			for _, e := range entries() {
				if filter.Match(s, f, e) != filter.Match(s, got, e) {
					t.Fatalf("Match of %v and of its Simplify, %v", f, e)
				}
			}
		}
	}
}
