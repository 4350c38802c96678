package filter_test

import (
	"slices"
	"strings"
	"testing"

	"identity/api"
	"identity/filter"
)

// and makes a conjunction.
func and(kids ...api.Filter) api.Filter {
	return api.Filter{Kind: api.AndFilter, Kids: kids}
}

// or makes a disjunction.
func or(kids ...api.Filter) api.Filter {
	return api.Filter{Kind: api.OrFilter, Kids: kids}
}

// not makes a negation.
func not(kid api.Filter) api.Filter {
	return api.Filter{Kind: api.NotFilter, Kids: []api.Filter{kid}}
}

// equal, atLeast and atMost make comparisons with a value.
func equal(name, value string) api.Filter {
	return api.Filter{Kind: api.EqualFilter, Name: name, Value: value}
}

func atLeast(name, value string) api.Filter {
	return api.Filter{Kind: api.AtLeastFilter, Name: name, Value: value}
}

func atMost(name, value string) api.Filter {
	return api.Filter{Kind: api.AtMostFilter, Name: name, Value: value}
}

// present makes a comparison with any value.
func present(name string) api.Filter {
	return api.Filter{Kind: api.PresentFilter, Name: name}
}

// substring makes a comparison with parts.
func substring(name string, parts ...string) api.Filter {
	return api.Filter{Kind: api.SubstringFilter, Name: name, Parts: parts}
}

// copied returns a deep copy.
func copied(f api.Filter) api.Filter {
	f.Parts = slices.Clone(f.Parts)
	f.Kids = slices.Clone(f.Kids)
	for i := range f.Kids {
		f.Kids[i] = copied(f.Kids[i])
	}
	return f
}

// same reports whether two filters are equal.
func same(f, g api.Filter) bool {
	if f.Kind != g.Kind || f.Name != g.Name || f.Value != g.Value || !slices.Equal(f.Parts, g.Parts) || len(f.Kids) != len(g.Kids) {
		return false
	}
	for i := range f.Kids {
		if !same(f.Kids[i], g.Kids[i]) {
			return false
		}
	}
	return true
}

// spoil changes everything in the memory of a filter.
func spoil(f api.Filter) {
	for i := range f.Parts {
		f.Parts[i] = "spoilt"
	}
	for i := range f.Kids {
		spoil(f.Kids[i])
		f.Kids[i] = api.Filter{Kind: 99}
	}
	_ = append(f.Parts, "spoilt")
	_ = append(f.Kids, api.Filter{Kind: 99})
}

// times makes a list of n equal filters.
func times(n int, f api.Filter) []api.Filter {
	return slices.Repeat([]api.Filter{f}, n)
}

// nested returns a filter with n negations around f.
func nested(n int, f api.Filter) api.Filter {
	for range n {
		f = not(f)
	}
	return f
}

// endless returns a filter that is its own kid.
func endless() api.Filter {
	kids := []api.Filter{{Kind: api.NotFilter}}
	kids[0].Kids = kids
	return kids[0]
}

// small returns filters without errors: comparisons, and nodes of up to two
// levels above them.
func small() []api.Filter {
	all := []api.Filter{equal("a", "1"), atLeast("B", "2"), atMost("b", "1"), present("a"), substring("a", "", "x")}
	for range 2 {
		level := slices.Clone(all)
		all = append(all, and(), or())
		for i, f := range level {
			g := level[(i*7+3)%len(level)]
			all = append(all, not(f), and(f), or(f), and(f, g), or(g, f), and(not(g), f, f), or(f, and(g, f)))
		}
	}
	return all
}

// P9.1
func TestCheck(t *testing.T) {
	long := strings.Repeat("x", api.MaxValue)
	attr := strings.Repeat("n", api.MaxName)
	full := slices.Repeat([]string{"p"}, api.MaxValues)
	good := equal("a", "b")
	for _, x := range []struct {
		f    api.Filter
		want api.Errno
	}{
		{and(), api.OK},
		{or(), api.OK},
		{api.Filter{Kind: api.AndFilter, Parts: []string{}, Kids: []api.Filter{}}, api.OK},
		{and(good, or(present("a"), atLeast("a", "b"), atMost("a", "b")), not(and())), api.OK},
		{equal(attr, long), api.OK},
		{atLeast("Mail-1", "a  b"), api.OK},
		{atMost("a", `(*)\`), api.OK},
		{substring("a", "", "b"), api.OK},
		{substring("a", "b", ""), api.OK},
		{substring("a", "", "b", ""), api.OK},
		{substring("a", " ", " b ", " "), api.OK},
		{substring("a", long, long), api.OK},
		{substring("a", full...), api.OK},

		// Kinds, and fields that a kind does not use.
		{api.Filter{}, api.ErrForm},
		{api.Filter{Kind: -1, Name: "a"}, api.ErrForm},
		{api.Filter{Kind: 9, Name: "a", Value: "b"}, api.ErrForm},
		{api.Filter{Kind: api.AndFilter, Name: "a"}, api.ErrForm},
		{api.Filter{Kind: api.OrFilter, Value: "a"}, api.ErrForm},
		{api.Filter{Kind: api.OrFilter, Parts: []string{""}}, api.ErrForm},
		{api.Filter{Kind: api.NotFilter}, api.ErrForm},
		{api.Filter{Kind: api.NotFilter, Kids: times(2, good)}, api.ErrForm},
		{api.Filter{Kind: api.NotFilter, Name: "a", Kids: times(1, good)}, api.ErrForm},
		{api.Filter{Kind: api.EqualFilter, Name: "a", Value: "b", Parts: []string{"c"}}, api.ErrForm},
		{api.Filter{Kind: api.AtMostFilter, Name: "a", Value: "b", Kids: times(1, good)}, api.ErrForm},
		{api.Filter{Kind: api.PresentFilter, Name: "a", Value: "*"}, api.ErrForm},
		{api.Filter{Kind: api.PresentFilter, Name: "a", Parts: []string{"", ""}}, api.ErrForm},
		{api.Filter{Kind: api.SubstringFilter, Name: "a", Value: "b", Parts: []string{"c", "d"}}, api.ErrForm},

		// Parts.
		{substring("a"), api.ErrForm},
		{substring("a", "b"), api.ErrForm},
		{substring("a", ""), api.ErrForm},
		{substring("a", "", ""), api.ErrForm},
		{substring("a", "", "", ""), api.ErrForm},
		{substring("a", "a", "", "b"), api.ErrForm},
		{substring("a", "", "", "b"), api.ErrForm},
		{substring("a", "b", "", ""), api.ErrForm},
		{substring("a", "a", "b", "", "c"), api.ErrForm},
		{substring("a", append(full, "p")...), api.ErrForm},
		{substring("a", "a\n", ""), api.ErrType},
		{substring("a", "", "a\x1f"), api.ErrType},
		{substring("a", "b", "\x7f", "c"), api.ErrType},
		{substring("a", "b", "é"), api.ErrType},
		{substring("a", "", long+"x"), api.ErrType},

		// Names and values.
		{equal("", "b"), api.ErrName},
		{present(""), api.ErrName},
		{present("1a"), api.ErrName},
		{substring("a b", "a", "b"), api.ErrName},
		{atLeast(attr+"n", "b"), api.ErrName},
		{equal("a", ""), api.ErrType},
		{atLeast("a", " b"), api.ErrType},
		{atMost("a", "b "), api.ErrType},
		{equal("a", "b\n"), api.ErrType},
		{equal("a", long+"x"), api.ErrType},
	} {
		before := copied(x.f)
		if e := filter.Check(x.f); e != x.want {
			t.Errorf("Check(%v) = %d, not %d", x.f, int(e), int(x.want))
		}
		if !same(x.f, before) {
			t.Errorf("Check changed %v", before)
		}
	}
}

// P9.1: which of several errors is returned.
func TestCheckOrder(t *testing.T) {
	form, name, value := api.Filter{}, equal("1", "b"), equal("a", "")
	many := times(api.MaxNodes, present("a"))
	for _, x := range []struct {
		f    api.Filter
		want api.Errno
	}{
		// In one comparison.
		{api.Filter{Kind: api.EqualFilter, Name: "1", Parts: []string{"c"}}, api.ErrForm},
		{substring("1", "", ""), api.ErrForm},
		{substring("a", "", "\n", "", ""), api.ErrForm},
		{equal("1", ""), api.ErrName},
		{substring("1", "\n", "b"), api.ErrName},

		// A node before its Kids, the Kids in order, and what is below one before the next one.
		{and(name, form), api.ErrName},
		{and(form, name), api.ErrForm},
		{and(value, name), api.ErrType},
		{or(present("a"), not(name), value), api.ErrName},
		{and(and(name), form), api.ErrName},
		{and(and(or(value)), name), api.ErrType},
		{and(and(), or(form), name), api.ErrForm},
		{api.Filter{Kind: api.OrFilter, Name: "a", Kids: []api.Filter{name}}, api.ErrForm},
		{api.Filter{Kind: api.NotFilter, Kids: []api.Filter{name, value}}, api.ErrForm},
		{api.Filter{Kind: api.EqualFilter, Name: "1", Kids: []api.Filter{value}}, api.ErrForm},
		{api.Filter{Kids: []api.Filter{name}}, api.ErrForm},

		// The limits of the whole before everything else.
		{and(append(many, form)...), api.ErrLimit},
		{and(append(slices.Clone(many[2:]), form)...), api.ErrForm},
		{nested(8, form), api.ErrLimit},
		{nested(7, form), api.ErrForm},
		{nested(7, name), api.ErrName},
		{and(name, nested(7, present("a"))), api.ErrLimit},
		{api.Filter{Kind: api.OrFilter, Name: "a", Kids: many}, api.ErrLimit},
		{api.Filter{Kind: api.EqualFilter, Kids: many}, api.ErrLimit},
		{api.Filter{Kids: times(1, nested(7, form))}, api.ErrLimit},
		{api.Filter{Kids: times(1, nested(6, form))}, api.ErrForm},
	} {
		if e := filter.Check(x.f); e != x.want {
			t.Errorf("Check(%v) = %d, not %d", x.f, int(e), int(x.want))
		}
	}
}

// P9.1: every kind with every choice of fields, by what the kind uses.
func TestCheckFields(t *testing.T) {
	uses := map[api.FilterKind]string{api.AndFilter: "kids", api.OrFilter: "kids", api.NotFilter: "kid", api.EqualFilter: "name value", api.AtLeastFilter: "name value", api.AtMostFilter: "name value", api.PresentFilter: "name", api.SubstringFilter: "name parts"}
	want := func(f api.Filter) api.Errno {
		u, known := uses[f.Kind]
		wrong := f.Name != "" && !strings.Contains(u, "name") || f.Value != "" && !strings.Contains(u, "value") || len(f.Parts) > 0 && !strings.Contains(u, "parts") || len(f.Kids) > 0 && !strings.Contains(u, "kid")
		switch {
		case !known || wrong || u == "kid" && len(f.Kids) != 1 || u == "name parts" && strings.Join(f.Parts, ",") != "x,y":
			return api.ErrForm
		case strings.Contains(u, "name") && f.Name != "a":
			return api.ErrName
		case strings.Contains(u, "value") && f.Value != "b":
			return api.ErrType
		}
		return api.OK
	}
	for kind := api.FilterKind(-2); kind <= 11; kind++ {
		for _, name := range []string{"", "a", "1"} {
			for _, value := range []string{"", "b", " b"} {
				for _, parts := range [][]string{nil, {}, {""}, {"x"}, {"x", "y"}, {"", ""}, {"x", "", "y"}} {
					for _, kids := range [][]api.Filter{nil, {}, {and()}, {and(), or()}} {
						f := api.Filter{Kind: kind, Name: name, Value: value, Parts: parts, Kids: kids}
						if e := filter.Check(f); e != want(f) {
							t.Errorf("Check(%v) = %d, not %d", f, int(e), int(want(f)))
						}
					}
				}
			}
		}
	}
}

// P9.1, P9.4: filters at and beyond the limits.
func TestLimits(t *testing.T) {
	a := present("a")
	for _, x := range []struct {
		f     api.Filter
		nodes int
		want  api.Errno
	}{
		{and(times(63, a)...), 64, api.OK},
		{and(times(64, a)...), 65, api.ErrLimit},
		{and(times(65, a)...), 65, api.ErrLimit},
		{and(times(100000, a)...), 65, api.ErrLimit},
		{or(times(31, not(a))...), 63, api.OK},
		{or(times(32, not(a))...), 65, api.ErrLimit},
		{or(append(times(31, not(a)), a)...), 64, api.OK},
		{and(times(10, or(times(10, a)...))...), 65, api.ErrLimit},
		{and(or(times(31, a)...), or(times(30, a)...)), 64, api.OK},
		{and(or(times(31, a)...), or(times(31, a)...)), 65, api.ErrLimit},
		{nested(7, a), 8, api.OK},
		{nested(8, a), 9, api.ErrLimit},
		{nested(7, and()), 8, api.OK},
		{and(a, nested(6, a), a), 10, api.OK},
		{and(a, nested(7, a), a), 11, api.ErrLimit},
		{and(nested(6, or(a)), a), 10, api.ErrLimit},
		{nested(63, a), 64, api.ErrLimit},
		{nested(64, a), 65, api.ErrLimit},
		{nested(50000, a), 65, api.ErrLimit},
		{endless(), 65, api.ErrLimit},
	} {
		if e := filter.Check(x.f); e != x.want {
			t.Errorf("Check of %d nodes = %d, not %d", x.nodes, int(e), int(x.want))
		}
		if n := filter.Nodes(x.f); n != x.nodes {
			t.Errorf("Nodes = %d, not %d", n, x.nodes)
		}
	}
}

// P9.4
func TestNodes(t *testing.T) {
	for _, x := range []struct {
		f    api.Filter
		want int
	}{
		{api.Filter{}, 1},
		{api.Filter{Kind: 77, Name: "1", Kids: []api.Filter{{}, {}}}, 3},
		{and(), 1},
		{equal("a", "b"), 1},
		{substring("a", "b", "c", "d"), 1},
		{and(equal("class", "person"), not(present("mail"))), 4},
		{or(and(present("a"), present("b")), not(or(present("c"), and()))), 8},
		{api.Filter{Kind: api.EqualFilter, Kids: times(3, and(and()))}, 7},
	} {
		if n := filter.Nodes(x.f); n != x.want {
			t.Errorf("Nodes(%v) = %d, not %d", x.f, n, x.want)
		}
	}
}

// P9.4
func TestNames(t *testing.T) {
	for _, x := range []struct {
		f    api.Filter
		want []string
	}{
		{and(), nil},
		{not(or()), nil},
		{equal("CN", "Mail"), []string{"cn"}},
		{or(equal("CN", "a"), equal("age", "1"), not(equal("cn", "b"))), []string{"age", "cn"}},
		{and(present("z"), atLeast("Y", "1"), atMost("x", "1"), substring("W-1", "a", "b"), not(and(or(present("Z"))))), []string{"w-1", "x", "y", "z"}},
		{and(present("ab"), present("a"), present("a-b"), present("B"), present("a1")), []string{"a", "a-b", "a1", "ab", "b"}},

		// None of a filter with an error, wherever it is.
		{present("1"), nil},
		{and(present("a"), equal("b", "")), nil},
		{and(present("a"), api.Filter{}), nil},
		{and(times(64, present("a"))...), nil},
		{nested(8, present("a")), nil},
		{endless(), nil},
	} {
		if l := filter.Names(x.f); !slices.Equal(l, x.want) {
			t.Errorf("Names = %q, not %q", l, x.want)
		}
	}
}

// P9.4
func TestEqual(t *testing.T) {
	f := substring("a", "b", "c")
	for _, x := range []struct {
		f, g api.Filter
		want bool
	}{
		{api.Filter{}, api.Filter{}, true},
		{api.Filter{}, api.Filter{Parts: []string{}, Kids: []api.Filter{}}, true},
		{and(f, not(f)), and(f, not(f)), true},
		{api.Filter{Kind: 99, Name: "1", Value: " ", Parts: []string{""}, Kids: []api.Filter{{}}}, api.Filter{Kind: 99, Name: "1", Value: " ", Parts: []string{""}, Kids: []api.Filter{{}}}, true},
		{nested(1000, f), nested(1000, f), true},

		{and(), or(), false},
		{equal("a", "b"), atLeast("a", "b"), false},
		{equal("a", "b"), equal("A", "b"), false},
		{equal("a", "b"), equal("a", "B"), false},
		{f, substring("a", "b", "d"), false},
		{f, substring("a", "c", "b"), false},
		{f, substring("a", "b", "c", ""), false},
		{f, substring("a", "b"), false},
		{f, substring("a"), false},
		{and(f), and(), false},
		{and(f), and(f, f), false},
		{and(f, present("a")), and(present("a"), f), false},
		{and(or(not(f))), and(or(not(present("a")))), false},
		{api.Filter{Kind: api.EqualFilter, Kids: []api.Filter{f}}, api.Filter{Kind: api.EqualFilter}, false},
		{nested(1000, f), nested(1001, f), false},
		{nested(1000, f), nested(1000, present("a")), false},
	} {
		if got := filter.Equal(x.f, x.g); got != x.want {
			t.Errorf("Equal(%v, %v) = %v", x.f, x.g, got)
		}
		if got := filter.Equal(x.g, x.f); got != x.want {
			t.Errorf("Equal(%v, %v) = %v", x.g, x.f, got)
		}
	}
	all := small()
	for i, f := range all {
		for j, g := range all[:min(len(all), 80)] {
			if got := filter.Equal(f, g); got != same(f, g) || i == j && !got {
				t.Fatalf("Equal(%v, %v) = %v", f, g, got)
			}
		}
	}
}
