package policy_test

import (
	"math"
	"slices"
	"strconv"
	"strings"
	"testing"

	"identity/api"
	"identity/policy"
)

// cond makes a condition.
func cond(field, op, value string) api.Condition {
	return api.Condition{Field: field, Op: op, Value: value}
}

// permit makes a rule that permits scopes.
func permit(name string, scopes ...string) api.PolicyRule {
	return api.PolicyRule{Name: name, Scopes: scopes}
}

// deny makes a rule that denies.
func deny(name string, conditions ...api.Condition) api.PolicyRule {
	return api.PolicyRule{Name: name, Deny: true, Conditions: conditions}
}

// with returns a rule without errors in which every field is set, with a change.
func with(change func(p *api.PolicyRule)) api.PolicyRule {
	p := api.PolicyRule{
		Name:       "mail",
		Conditions: []api.Condition{cond("group", "has", "cn=g"), cond("risk", "max", "40")},
		Scopes:     []string{"mail.read", "files"},
		Level:      2,
		MaxAge:     600,
	}
	change(&p)
	return p
}

// denying returns a rule without errors that denies, with a change.
func denying(change func(p *api.PolicyRule)) api.PolicyRule {
	p := deny("night", cond("hour", "max", "5"), cond("trusted", "is", "no"))
	change(&p)
	return p
}

// rules returns n rules with different names.
func rules(n int) []api.PolicyRule {
	var l []api.PolicyRule
	for i := range n {
		l = append(l, deny("r"+strconv.Itoa(i)))
	}
	return l
}

// scopes returns n different scopes.
func scopes(n int) []string {
	var l []string
	for i := range n {
		l = append(l, "s"+strconv.Itoa(i))
	}
	return l
}

// copied returns a deep copy of a policy.
func copied(l []api.PolicyRule) []api.PolicyRule {
	l = slices.Clone(l)
	for i := range l {
		l[i].Conditions, l[i].Scopes = slices.Clone(l[i].Conditions), slices.Clone(l[i].Scopes)
	}
	return l
}

// same reports whether two policies are equal.
func same(a, b []api.PolicyRule) bool {
	return slices.EqualFunc(a, b, func(p, q api.PolicyRule) bool {
		return p.Name == q.Name && p.Deny == q.Deny && p.Level == q.Level && p.MaxAge == q.MaxAge &&
			slices.Equal(p.Conditions, q.Conditions) && slices.Equal(p.Scopes, q.Scopes)
	})
}

// P30.1: policies without errors.
func TestCheck(t *testing.T) {
	eight := slices.Repeat([]api.Condition{cond("risk", "max", "1")}, 8)
	for _, l := range [][]api.PolicyRule{
		nil,
		{},
		{permit("a", "x")},
		{deny("a")},
		{deny("a"), permit("A", "x"), deny("b")},
		rules(api.MaxRules),
		{with(func(p *api.PolicyRule) {}), denying(func(p *api.PolicyRule) {})},
		{with(func(p *api.PolicyRule) { p.Name = strings.Repeat("n", api.MaxName) })},
		{with(func(p *api.PolicyRule) { p.Name = "if" }), permit("rule", "x"), permit("1x:a._-", "x")},
		{with(func(p *api.PolicyRule) { p.Conditions = nil }), denying(func(p *api.PolicyRule) { p.Conditions = nil })},
		{with(func(p *api.PolicyRule) { p.Conditions = eight }), denying(func(p *api.PolicyRule) { p.Conditions = eight })},
		{with(func(p *api.PolicyRule) { p.Scopes = scopes(api.MaxScopes) })},
		{with(func(p *api.PolicyRule) { p.Scopes = []string{"b", "a.b", "a", "scopes", "level.x", "ages", "Age"} })},
		{with(func(p *api.PolicyRule) { p.Level, p.MaxAge = 0, 0 })},
		{with(func(p *api.PolicyRule) { p.Level, p.MaxAge = 3, math.MaxInt })},
		{with(func(p *api.PolicyRule) { p.Level, p.MaxAge = 1, 1 })},
	} {
		before := copied(l)
		if e := policy.Check(l); e != api.OK {
			t.Errorf("Check of %v = %d", l, int(e))
		}
		if !same(l, before) {
			t.Errorf("Check changed %v", before)
		}
	}
}

// fault is a change that gives a rule an error.
type fault struct {
	want   api.Errno
	change func(p *api.PolicyRule)
}

// names are faults of the name of a rule. The name r0 is that of an earlier one.
func names() []fault {
	var l []fault
	for _, s := range []string{"", " ", "a b", "a ", "%", "a%2Eb", "a|b", "é", "a\n", "a\x00", "\xff", strings.Repeat("n", api.MaxName+1)} {
		l = append(l, fault{api.ErrName, func(p *api.PolicyRule) { p.Name = s }})
	}
	return append(l, fault{api.ErrTwice, func(p *api.PolicyRule) { p.Name = "r0" }})
}

// conditions are faults of the conditions of a rule.
func conditions() []fault {
	nine := slices.Repeat([]api.Condition{cond("risk", "max", "1")}, 9)
	return []fault{
		{api.ErrLimit, func(p *api.PolicyRule) { p.Conditions = nine }},
		{api.ErrLimit, func(p *api.PolicyRule) { p.Conditions = make([]api.Condition, 9) }},
		{api.ErrForm, func(p *api.PolicyRule) { p.Conditions = []api.Condition{{}} }},
		{api.ErrForm, func(p *api.PolicyRule) { p.Conditions = []api.Condition{cond("x", "is", "y")} }},
		{api.ErrForm, func(p *api.PolicyRule) { p.Conditions = append(slices.Clone(nine[:7]), cond("risk", "max", "x")) }},
		{api.ErrForm, func(p *api.PolicyRule) {
			p.Conditions = []api.Condition{cond("user", "has", "a"), cond("user", "is", "a")}
		}},
	}
}

// contents are faults of what a rule permits.
func contents() []fault {
	return []fault{
		{api.ErrNone, func(p *api.PolicyRule) { p.Scopes = nil }},
		{api.ErrNone, func(p *api.PolicyRule) { p.Scopes = []string{} }},
		{api.ErrScope, func(p *api.PolicyRule) { p.Scopes = []string{""} }},
		{api.ErrScope, func(p *api.PolicyRule) { p.Scopes = []string{"a", "a..b"} }},
		{api.ErrScope, func(p *api.PolicyRule) { p.Scopes = []string{"a", "b", "a"} }},
		{api.ErrScope, func(p *api.PolicyRule) { p.Scopes = scopes(api.MaxScopes + 1) }},
		{api.ErrScope, func(p *api.PolicyRule) { p.Scopes = []string{"level"} }},
		{api.ErrScope, func(p *api.PolicyRule) { p.Scopes = []string{"a", "age", "b"} }},
		{api.ErrRange, func(p *api.PolicyRule) { p.Level = -1 }},
		{api.ErrRange, func(p *api.PolicyRule) { p.Level = 4 }},
		{api.ErrRange, func(p *api.PolicyRule) { p.Level = math.MinInt }},
		{api.ErrRange, func(p *api.PolicyRule) { p.Level = math.MaxInt }},
		{api.ErrRange, func(p *api.PolicyRule) { p.MaxAge = -1 }},
		{api.ErrRange, func(p *api.PolicyRule) { p.MaxAge = math.MinInt }},
	}
}

// additions are faults of a rule that denies, but permits something too.
func additions() []fault {
	return []fault{
		{api.ErrArg, func(p *api.PolicyRule) { p.Scopes = []string{"a"} }},
		{api.ErrArg, func(p *api.PolicyRule) { p.Scopes = []string{""} }},
		{api.ErrArg, func(p *api.PolicyRule) { p.Level = 1 }},
		{api.ErrArg, func(p *api.PolicyRule) { p.Level = -1 }},
		{api.ErrArg, func(p *api.PolicyRule) { p.MaxAge = 1 }},
		{api.ErrArg, func(p *api.PolicyRule) { p.MaxAge = math.MinInt }},
	}
}

// wantCheck checks the error of a policy.
func wantCheck(t *testing.T, l []api.PolicyRule, want api.Errno) {
	t.Helper()
	if e := policy.Check(l); e != want {
		t.Errorf("Check of %v = %d, not %d", l, int(e), int(want))
	}
	if s, e := policy.Text(l); s != "" || e != want {
		t.Errorf("Text of %v = %q, %d, not %d", l, s, int(e), int(want))
	}
}

// P30.1, P30.2: each error, alone and with later ones.
func TestCheckErrors(t *testing.T) {
	for _, x := range []struct {
		base   func(change func(p *api.PolicyRule)) api.PolicyRule
		faults []fault
	}{
		{with, slices.Concat(names(), conditions(), contents())},
		{denying, slices.Concat(names(), conditions(), additions())},
	} {
		for i, f := range x.faults {
			wantCheck(t, []api.PolicyRule{deny("r0"), x.base(f.change)}, f.want)
			for _, g := range x.faults[i+1:] {
				wantCheck(t, []api.PolicyRule{deny("r0"), x.base(func(p *api.PolicyRule) {
					g.change(p)
					f.change(p)
				})}, f.want)
				other := x.base(g.change)
				if other.Name != "r0" {
					other.Name = "other"
				}
				// The errors of a rule come before those of the next one.
				wantCheck(t, []api.PolicyRule{deny("r0"), x.base(f.change), other}, f.want)
			}
		}
	}
}

// P30.1: the names of all earlier rules, and too many rules.
func TestCheckRules(t *testing.T) {
	l := rules(api.MaxRules - 1)
	for i := range l {
		wantCheck(t, append(slices.Clone(l), permit(l[i].Name, "a")), api.ErrTwice)
	}
	for _, last := range append(rules(2), deny("x"), deny(""), permit("x"), with(func(p *api.PolicyRule) { p.Level = 4 })) {
		wantCheck(t, append(rules(api.MaxRules), last), api.ErrLimit)
	}
	wantCheck(t, make([]api.PolicyRule, api.MaxRules+1), api.ErrLimit)
	wantCheck(t, make([]api.PolicyRule, api.MaxRules), api.ErrName)
	wantCheck(t, []api.PolicyRule{permit("a", "x"), permit("a"), permit("")}, api.ErrTwice)
	wantCheck(t, []api.PolicyRule{permit("a"), permit("a", "x")}, api.ErrNone)
}

// P30.5
func TestFields(t *testing.T) {
	want := []string{"age", "client", "group", "hour", "level", "risk", "scope", "tenant", "trusted", "user"}
	for range 2 {
		got := policy.Fields()
		if !slices.Equal(got, want) || !slices.IsSorted(got) {
			t.Fatalf("Fields = %q", got)
		}
		// The next result is not the same memory.
		clear(got)
	}
}

// P30.5
func TestEqual(t *testing.T) {
	base := []api.PolicyRule{with(func(p *api.PolicyRule) {}), denying(func(p *api.PolicyRule) {}), permit("x", "y")}
	for i, change := range []func(l []api.PolicyRule) []api.PolicyRule{
		func(l []api.PolicyRule) []api.PolicyRule { l[0].Name = "Mail"; return l },
		func(l []api.PolicyRule) []api.PolicyRule { l[0].Deny = true; return l },
		func(l []api.PolicyRule) []api.PolicyRule { l[0].Level = 1; return l },
		func(l []api.PolicyRule) []api.PolicyRule { l[0].MaxAge = 601; return l },
		func(l []api.PolicyRule) []api.PolicyRule { l[0].Scopes = nil; return l },
		func(l []api.PolicyRule) []api.PolicyRule { l[0].Scopes[1] = "Files"; return l },
		func(l []api.PolicyRule) []api.PolicyRule { l[0].Scopes = append(l[0].Scopes, "files"); return l },
		func(l []api.PolicyRule) []api.PolicyRule { slices.Reverse(l[0].Scopes); return l },
		func(l []api.PolicyRule) []api.PolicyRule { l[0].Conditions = nil; return l },
		func(l []api.PolicyRule) []api.PolicyRule { l[0].Conditions = l[0].Conditions[:1]; return l },
		func(l []api.PolicyRule) []api.PolicyRule { slices.Reverse(l[1].Conditions); return l },
		func(l []api.PolicyRule) []api.PolicyRule { l[1].Conditions[0].Field = "risk"; return l },
		func(l []api.PolicyRule) []api.PolicyRule { l[1].Conditions[0].Op = "min"; return l },
		func(l []api.PolicyRule) []api.PolicyRule { l[1].Conditions[1].Value = "yes"; return l },
		func(l []api.PolicyRule) []api.PolicyRule { l[2].Scopes[0] = ""; return l },
		func(l []api.PolicyRule) []api.PolicyRule { slices.Reverse(l); return l },
		func(l []api.PolicyRule) []api.PolicyRule { return l[:2] },
		func(l []api.PolicyRule) []api.PolicyRule { return l[1:] },
		func(l []api.PolicyRule) []api.PolicyRule { return append(l, api.PolicyRule{}) },
		func(l []api.PolicyRule) []api.PolicyRule { return nil },
	} {
		changed := change(copied(base))
		if policy.Equal(base, changed) || policy.Equal(changed, base) {
			t.Errorf("change %d: %v is equal", i, changed)
		}
		if !policy.Equal(changed, copied(changed)) {
			t.Errorf("change %d: %v is not equal to itself", i, changed)
		}
	}
	none := []api.PolicyRule{{Name: "a", Conditions: []api.Condition{}, Scopes: []string{}}}
	if !policy.Equal(none, []api.PolicyRule{{Name: "a"}}) || !policy.Equal([]api.PolicyRule{{Name: "a"}}, none) || !policy.Equal(nil, []api.PolicyRule{}) {
		t.Error("lists without elements are not equal")
	}
}
