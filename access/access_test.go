package access_test

import (
	"math/rand"
	"slices"
	"strconv"
	"strings"
	"testing"

	"identity/access"
	"identity/api"
	"identity/attrs"
	"identity/name"
)

// attr makes an attribute.
func attr(name string, values ...string) api.Attr {
	return api.Attr{Name: name, Values: values}
}

// of makes an entry.
func of(name string, l ...api.Attr) api.Entry {
	return api.Entry{Name: name, Attrs: l}
}

// same reports whether two entries are equal as they are.
func same(a, b api.Entry) bool {
	return a.Name == b.Name && slices.EqualFunc(a.Attrs, b.Attrs, func(x, y api.Attr) bool {
		return x.Name == y.Name && slices.Equal(x.Values, y.Values)
	})
}

// copiedEntry returns a deep copy of an entry.
func copiedEntry(e api.Entry) api.Entry {
	l := slices.Clone(e.Attrs)
	for i := range l {
		l[i].Values = slices.Clone(l[i].Values)
	}
	return of(e.Name, l...)
}

// sameRules reports whether two access lists are equal.
func sameRules(a, b []api.Rule) bool {
	return slices.EqualFunc(a, b, func(x, y api.Rule) bool {
		return x.Allow == y.Allow && x.Subject == y.Subject && x.Target == y.Target && slices.Equal(x.Attrs, y.Attrs) && slices.Equal(x.Rights, y.Rights)
	})
}

// copied returns a deep copy of an access list.
func copied(l []api.Rule) []api.Rule {
	l = slices.Clone(l)
	for i := range l {
		l[i].Attrs, l[i].Rights = slices.Clone(l[i].Attrs), slices.Clone(l[i].Rights)
	}
	return l
}

// rights are all rights in their order.
func rights() []api.Right {
	return []api.Right{api.ReadRight, api.SearchRight, api.WriteRight, api.AddRight, api.DeleteRight}
}

// allow makes a rule that allows all rights.
func allow(subject, target string, attrs ...string) api.Rule {
	return api.Rule{Allow: true, Subject: subject, Target: target, Attrs: attrs, Rights: rights()}
}

// deny makes a rule that denies all rights.
func deny(subject, target string, attrs ...string) api.Rule {
	return api.Rule{Subject: subject, Target: target, Attrs: attrs, Rights: rights()}
}

// user makes a subject.
func user(s string, groups ...string) api.Subject {
	return api.Subject{User: s, Groups: groups}
}

// malformed are strings that are no names in normal form.
var malformed = []string{" ", "x", "o=", "O=x", "o=X", "o =x", "ou=s, o=x", "ou=s,o=x ", "ou=s,,o=x", "*", "self", strings.Repeat("a=b,", api.MaxDepth) + "o=x"}

// P14.1
func TestCheck(t *testing.T) {
	good := func() api.Rule {
		return api.Rule{Allow: true, Subject: "*", Target: "ou=s,o=x", Attrs: []string{"mail", "cn"}, Rights: []api.Right{api.WriteRight, api.ReadRight}}
	}
	for want, changes := range map[api.Errno][]func(r *api.Rule){
		api.OK: {
			func(r *api.Rule) {},
			func(r *api.Rule) { r.Allow = false },
			func(r *api.Rule) { r.Subject = "self" },
			func(r *api.Rule) { r.Subject = "user:cn=ann" },
			func(r *api.Rule) { r.Subject = `group:cn=a\,b,o=x` },
			func(r *api.Rule) { r.Target = "" },
			func(r *api.Rule) { r.Target = strings.Repeat("a=b,", api.MaxDepth-1) + "o=x" },
			func(r *api.Rule) { r.Attrs = nil },
			func(r *api.Rule) { r.Attrs = []string{"CN", "cn", "cn", strings.Repeat("n", api.MaxName)} },
			func(r *api.Rule) { r.Attrs = slices.Repeat([]string{"cn"}, api.MaxAttrs) },
			func(r *api.Rule) { r.Rights = rights() },
			func(r *api.Rule) { slices.Reverse(r.Rights) },
		},
		api.ErrForm: {
			func(r *api.Rule) { r.Subject = "" },
			func(r *api.Rule) { r.Subject = "**" },
			func(r *api.Rule) { r.Subject = "* " },
			func(r *api.Rule) { r.Subject = "Self" },
			func(r *api.Rule) { r.Subject = "selfs" },
			func(r *api.Rule) { r.Subject = "user" },
			func(r *api.Rule) { r.Subject = "group" },
			func(r *api.Rule) { r.Subject = "User:cn=ann" },
			func(r *api.Rule) { r.Subject = " user:cn=ann" },
			func(r *api.Rule) { r.Subject = "GROUP:cn=ann" },
			func(r *api.Rule) { r.Subject = "cn=ann" },
		},
		api.ErrName: {
			func(r *api.Rule) { r.Subject = "user:" },
			func(r *api.Rule) { r.Subject = "group:" },
			func(r *api.Rule) { r.Subject = "user:user:cn=ann" },
			func(r *api.Rule) { r.Attrs = []string{"cn", ""} },
			func(r *api.Rule) { r.Attrs = []string{"c_n", "cn"} },
			func(r *api.Rule) { r.Attrs = []string{"1"} },
			func(r *api.Rule) { r.Attrs = []string{"-"} },
			func(r *api.Rule) { r.Attrs = []string{"cn "} },
			func(r *api.Rule) { r.Attrs = []string{strings.Repeat("n", api.MaxName+1)} },
		},
		api.ErrLimit: {func(r *api.Rule) { r.Attrs = slices.Repeat([]string{"cn"}, api.MaxAttrs+1) }},
		api.ErrNone:  {func(r *api.Rule) { r.Rights = nil }, func(r *api.Rule) { r.Rights = []api.Right{} }},
		api.ErrArg: {
			func(r *api.Rule) { r.Rights = []api.Right{0} },
			func(r *api.Rule) { r.Rights = []api.Right{-1} },
			func(r *api.Rule) { r.Rights = append(rights(), 6) },
			func(r *api.Rule) { r.Rights = []api.Right{1 << 40} },
		},
		api.ErrTwice: {
			func(r *api.Rule) { r.Rights = []api.Right{api.AddRight, api.AddRight} },
			func(r *api.Rule) { r.Rights = append(rights(), api.ReadRight) },
		},
	} {
		for i, change := range changes {
			r := good()
			change(&r)
			for _, l := range [][]api.Rule{{r}, {good(), r}, {r, good()}} {
				before := copied(l)
				if e := access.Check(l); e != want {
					t.Errorf("Check(%v) = %d, not %d (%d)", l, int(e), int(want), i)
				}
				if !sameRules(l, before) {
					t.Errorf("Check changed %v", before)
				}
			}
		}
	}
	for _, s := range malformed {
		for _, r := range []api.Rule{allow("user:"+s, ""), allow("group:"+s, ""), allow("*", s)} {
			if e := access.Check([]api.Rule{r}); e != api.ErrName {
				t.Errorf("Check(%v) = %d", r, int(e))
			}
		}
	}
}

// P14.1: lists as a whole.
func TestCheckLists(t *testing.T) {
	for _, x := range []struct {
		l    []api.Rule
		want api.Errno
	}{
		{nil, api.OK},
		{[]api.Rule{}, api.OK},
		{slices.Repeat([]api.Rule{allow("*", "")}, api.MaxRules), api.OK},
		{slices.Repeat([]api.Rule{allow("*", "")}, api.MaxRules+1), api.ErrLimit},
		{make([]api.Rule, api.MaxRules), api.ErrForm},
		{make([]api.Rule, api.MaxRules+1), api.ErrLimit},
	} {
		if e := access.Check(x.l); e != x.want {
			t.Errorf("Check of %d rules = %d, not %d", len(x.l), int(e), int(x.want))
		}
	}
}

// P14.1: which of several errors is returned.
func TestCheckOrder(t *testing.T) {
	long := slices.Repeat([]string{"cn"}, api.MaxAttrs+1)
	// Each rule has the error and all later ones.
	rules := []struct {
		r    api.Rule
		want api.Errno
	}{
		{api.Rule{Subject: "all", Target: "x", Attrs: append(long, "1"), Rights: []api.Right{0, 0}}, api.ErrForm},
		{api.Rule{Subject: "user:", Attrs: long, Rights: []api.Right{0}}, api.ErrName},
		{api.Rule{Subject: "*", Target: "x", Attrs: long}, api.ErrName},
		{api.Rule{Subject: "*", Attrs: append(long, "1")}, api.ErrName},
		{api.Rule{Subject: "*", Attrs: append([]string{"1"}, long...), Rights: []api.Right{0}}, api.ErrName},
		{api.Rule{Subject: "*", Attrs: long}, api.ErrLimit},
		{api.Rule{Subject: "*", Attrs: long, Rights: []api.Right{0}}, api.ErrLimit},
		{api.Rule{Subject: "*"}, api.ErrNone},
		{api.Rule{Subject: "*", Rights: []api.Right{0, 0}}, api.ErrArg},
		{api.Rule{Subject: "*", Rights: []api.Right{1, 7, 1}}, api.ErrArg},
		{api.Rule{Subject: "*", Rights: []api.Right{1, 1, 7}}, api.ErrTwice},
	}
	for _, x := range rules {
		if e := access.Check([]api.Rule{x.r}); e != x.want {
			t.Errorf("Check(%v) = %d, not %d", x.r, int(e), int(x.want))
		}
		for _, y := range rules {
			if e := access.Check([]api.Rule{allow("self", "o=x"), x.r, y.r}); e != x.want {
				t.Errorf("Check(%v, %v) = %d, not %d", x.r, y.r, int(e), int(x.want))
			}
		}
	}
}

// P14.3
func TestApplies(t *testing.T) {
	ann, nobody := user("cn=ann,o=x", "cn=g", "cn=h"), api.Subject{}
	for _, x := range []struct {
		subject, target string
		u               api.Subject
		entry           string
		want            bool
	}{
		{"*", "", nobody, "", true},
		{"*", "", ann, "cn=b,o=x", true},
		{"*", "o=x", ann, "cn=b,o=x", true},
		{"*", "o=x", ann, "o=x", true},
		{"*", "o=x", ann, "", false},
		{"*", "o=x", ann, "cn=b,o=y", false},
		{"*", "cn=b,o=x", ann, "o=x", false},
		{"*", "o=x", ann, "cn=b,po=x", false},
		{"*", "o=x", ann, `cn=b\,o=x`, false},

		{"self", "", ann, "cn=ann,o=x", true},
		{"self", "o=x", ann, "cn=ann,o=x", true},
		{"self", "o=y", ann, "cn=ann,o=x", false},
		{"self", "", ann, "cn=ann,cn=ann,o=x", false},
		{"self", "", ann, "o=x", false},
		{"self", "", nobody, "", false},
		{"self", "", user("CN=ann,o=x"), "cn=ann,o=x", false},

		{"user:cn=ann,o=x", "", ann, "o=x", true},
		{"user:cn=ann,o=x", "o=y", ann, "o=x", false},
		{"user:cn=ann", "", ann, "o=x", false},
		{"user:CN=ann,o=x", "", ann, "o=x", false},
		{"user:cn=g", "", ann, "o=x", false},
		{"user:", "", nobody, "o=x", false},
		{"user:no name", "", user("no name"), "o=x", true},
		{"User:cn=ann,o=x", "", ann, "o=x", false},

		{"group:cn=g", "", ann, "o=x", true},
		{"group:cn=h", "o=x", ann, "o=x", true},
		{"group:cn=h", "o=y", ann, "o=x", false},
		{"group:cn=i", "", ann, "o=x", false},
		{"group:CN=g", "", ann, "o=x", false},
		{"group:cn=ann,o=x", "", ann, "o=x", false},
		{"group:cn=g", "", nobody, "o=x", false},
		{"group:", "", nobody, "o=x", false},
		{"group:", "", user("", ""), "o=x", true},
		{"group:no name", "", user("", "cn=g", "no name"), "o=x", true},
		{"GROUP:cn=g", "", ann, "o=x", false},

		{"", "", ann, "o=x", false},
		{"", "", user("", ""), "o=x", false},
		{"**", "", ann, "o=x", false},
		{"Self", "", ann, "cn=ann,o=x", false},
		{"cn=ann,o=x", "", ann, "o=x", false},
		{"user", "", user("user", "user"), "o=x", false},
	} {
		r := api.Rule{Subject: x.subject, Target: x.target}
		if got := access.Applies(r, x.u, x.entry); got != x.want {
			t.Errorf("Applies(%v, %v, %q) = %v", r, x.u, x.entry, got)
		}
	}
	// No rule applies to what is no name, or with a target that is none.
	for _, s := range malformed {
		for _, subject := range []string{"*", "self", "user:" + s, "group:cn=g"} {
			u := user(s, "cn=g")
			if access.Applies(allow(subject, ""), u, s) || access.Applies(allow(subject, s), u, s) || access.Applies(allow(subject, s), u, "ou=s,o=x") {
				t.Errorf("a rule about %q applies to %q", subject, s)
			}
		}
	}
}

// P14.4
func TestDecide(t *testing.T) {
	only := func(r api.Rule, l ...api.Right) api.Rule {
		r.Rights = l
		return r
	}
	ann := user("cn=ann,o=x", "cn=g")
	for i, x := range []struct {
		l    []api.Rule
		attr string
		want bool
		k    int
	}{
		{nil, "cn", false, -1},
		{[]api.Rule{allow("*", "")}, "cn", true, 0},
		{[]api.Rule{allow("*", "")}, "", true, 0},
		{[]api.Rule{deny("*", "")}, "cn", false, 0},
		{[]api.Rule{allow("user:cn=bob", ""), allow("*", "o=y")}, "cn", false, -1},

		// The rights.
		{[]api.Rule{only(allow("*", ""))}, "cn", false, -1},
		{[]api.Rule{only(allow("*", ""), 1, 2, 4, 5)}, "cn", false, -1},
		{[]api.Rule{only(allow("*", ""), 9, 3)}, "cn", true, 0},
		{[]api.Rule{only(deny("*", "cn=ann,o=x"), 1), allow("*", "")}, "cn", true, 1},

		// The attributes.
		{[]api.Rule{allow("*", "", "mail", "CN")}, "cn", true, 0},
		{[]api.Rule{allow("*", "", "cn")}, "Cn", true, 0},
		{[]api.Rule{allow("*", "", "cn")}, "mail", false, -1},
		{[]api.Rule{allow("*", "", "cn")}, "", false, -1},
		{[]api.Rule{allow("*", "", "")}, "", false, -1},
		{[]api.Rule{allow("*", "", "cn", "")}, "", false, -1},
		{[]api.Rule{allow("*", "", "k1")}, "\u212a1", false, -1},
		{[]api.Rule{allow("*", "", "no name")}, "NO name", true, 0},

		// The deepest target.
		{[]api.Rule{allow("*", ""), deny("*", "o=x")}, "cn", false, 1},
		{[]api.Rule{allow("*", "o=x"), deny("*", "")}, "cn", true, 0},
		{[]api.Rule{deny("*", ""), deny("*", "o=x"), allow("*", "cn=ann,o=x")}, "cn", true, 2},
		{[]api.Rule{allow("*", "cn=ann,o=x"), deny("*", "o=x"), deny("*", "")}, "cn", true, 0},
		{[]api.Rule{deny("*", "o=x", "mail"), allow("*", "")}, "cn", true, 1},
		{[]api.Rule{deny("*", "cn=ann,o=y"), allow("*", "")}, "cn", true, 1},

		// Of several, the first one that denies.
		{[]api.Rule{allow("*", "o=x"), deny("*", "o=x", "cn"), deny("self", "o=x")}, "cn", false, 1},
		{[]api.Rule{deny("group:cn=g", "o=x"), allow("*", "o=x"), deny("*", "o=x")}, "cn", false, 0},
		{[]api.Rule{deny("*", ""), allow("*", "o=x"), allow("self", "o=x")}, "cn", true, 1},
		{[]api.Rule{allow("self", "o=x", "mail"), allow("*", "o=x"), deny("*", "")}, "cn", true, 1},
		{[]api.Rule{deny("self", "o=x", "mail"), allow("*", "o=x"), deny("*", "")}, "cn", true, 1},
	} {
		before := copied(x.l)
		if is, k := access.Decide(x.l, ann, "cn=ann,o=x", x.attr, api.WriteRight); is != x.want || k != x.k {
			t.Errorf("%d: Decide = %v, %d, not %v, %d", i, is, k, x.want, x.k)
		}
		if !sameRules(x.l, before) {
			t.Errorf("%d: Decide changed %v", i, before)
		}
	}
}

// P14.3, P14.4: names and rights that there are not.
func TestDecideInvalid(t *testing.T) {
	for _, s := range malformed {
		if is, k := access.Decide([]api.Rule{allow("*", ""), allow("*", s)}, user(s), s, "cn", api.ReadRight); is || k != -1 {
			t.Errorf("Decide for %q = %v, %d", s, is, k)
		}
	}
	l := []api.Rule{allow("*", ""), {Allow: true, Subject: "*", Rights: []api.Right{9, -1}}}
	for right, want := range map[api.Right]int{0: -1, 6: -1, 9: 1, -1: 1} {
		if is, k := access.Decide(l, user(""), "o=x", "cn", right); is != (want >= 0) || k != want {
			t.Errorf("Decide for the right %d = %v, %d", int(right), is, k)
		}
	}
}

// P14.4: the first one of many equal rules decides.
func TestDecideFirst(t *testing.T) {
	l := slices.Repeat([]api.Rule{allow("*", "", "cn"), allow("*", "o=x", "cn"), allow("*", "o=x", "mail"), deny("*", "o=x", "mail")}, api.MaxRules/4)
	for attr, want := range map[string]int{"cn": 1, "mail": 3, "sn": -1} {
		if is, k := access.Decide(l, user(""), "cn=a,o=x", attr, api.ReadRight); is != (attr == "cn") || k != want {
			t.Errorf("Decide for %s = %v, %d", attr, is, k)
		}
	}
	l = append(l, deny("*", "o=x"), deny("*", "o=x"))
	if is, k := access.Decide(l, user(""), "cn=a,o=x", "cn", api.ReadRight); is || k != api.MaxRules {
		t.Errorf("Decide = %v, %d", is, k)
	}
}

// P14.4: the examples of the chapter.
func TestExamples(t *testing.T) {
	l, _, e := access.Parse("allow * on - attrs - rights read\ndeny * on cn%3Dann attrs mail rights read\n")
	if e != api.OK {
		t.Fatalf("Parse = %d", int(e))
	}
	for _, x := range []struct {
		entry, attr string
		want        bool
		k           int
	}{{"cn=ann", "mail", false, 1}, {"cn=ann", "cn", true, 0}, {"cn=bob", "mail", true, 0}} {
		if is, k := access.Decide(l, user("cn=cid"), x.entry, x.attr, api.ReadRight); is != x.want || k != x.k {
			t.Errorf("Decide for %s of %q = %v, %d", x.attr, x.entry, is, k)
		}
	}
	l = []api.Rule{{Allow: true, Subject: "self", Rights: []api.Right{api.WriteRight}}}
	for _, x := range []struct {
		user, entry string
		want        bool
	}{{"cn=ann", "cn=ann", true}, {"cn=ann", "cn=bob", false}, {"", "", false}} {
		if is, _ := access.Decide(l, user(x.user), x.entry, "cn", api.WriteRight); is != x.want {
			t.Errorf("%q may write %q: %v", x.user, x.entry, is)
		}
	}
}

// P14.5
func TestView(t *testing.T) {
	l := []api.Rule{
		{Allow: true, Subject: "*", Target: "ou=s,o=x", Attrs: []string{"CN", "mail"}, Rights: []api.Right{api.ReadRight}},
		{Allow: true, Subject: "*", Attrs: []string{"age"}, Rights: []api.Right{api.SearchRight, api.WriteRight}},
		{Subject: "user:cn=bob", Target: "ou=s,o=x", Attrs: []string{"Mail"}, Rights: []api.Right{api.ReadRight}},
		{Allow: true, Subject: "user:cn=root", Rights: rights()},
	}
	all := []api.Attr{attr("Mail", "m2", "m1"), attr("age", "7"), attr("CN", "b"), attr("cn", "a", "b"), attr("sn"), attr("", "x")}
	sorted := attrs.Sorted(all)
	for _, x := range []struct {
		user, entry string
		want        []api.Attr
	}{
		{"", "cn=a,ou=s,o=x", []api.Attr{attr("cn", "a", "b"), attr("mail", "m1", "m2")}},
		{"cn=bob", "cn=a,ou=s,o=x", []api.Attr{attr("cn", "a", "b")}},
		{"cn=root", "cn=a,ou=s,o=x", []api.Attr{sorted[0], sorted[1], sorted[2], sorted[3]}},
		{"cn=root", "o=x", sorted},
		{"cn=bob", "o=x", nil},
		{"cn=root", "O=x", nil},
	} {
		e := of(x.entry, all...)
		before, rules := copiedEntry(e), copied(l)
		want := of(x.entry, x.want...)
		if len(x.want) == 0 {
			want = api.Entry{}
		}
		got, ok := access.View(l, user(x.user), e)
		if ok != (len(x.want) > 0) || !same(got, want) {
			t.Errorf("View of %q for %q = %q, %v", x.entry, x.user, got, ok)
		}
		for _, a := range got.Attrs {
			clear(a.Values)
		}
		clear(got.Attrs)
		if !same(e, before) || !sameRules(l, rules) {
			t.Errorf("View of %q for %q changed its arguments", x.entry, x.user)
		}
	}
	if got, ok := access.View(l, user("cn=root"), of("o=x", attr("cn"))); ok || !same(got, api.Entry{}) {
		t.Errorf("View of no attributes = %q, %v", got, ok)
	}
}

// P14.6, P14.7
func TestWritesAndVisible(t *testing.T) {
	l := []api.Rule{
		{Allow: true, Subject: "*", Target: "o=x", Attrs: []string{"cn", "mail"}, Rights: []api.Right{api.WriteRight, api.SearchRight}},
		{Allow: true, Subject: "self", Rights: []api.Right{api.WriteRight}},
		{Subject: "self", Target: "o=x", Attrs: []string{"mail"}, Rights: []api.Right{api.WriteRight}},
		{Allow: true, Subject: "user:cn=root", Rights: []api.Right{api.SearchRight, api.ReadRight}},
		{Subject: "user:cn=root", Target: "o=x", Attrs: []string{"age"}, Rights: []api.Right{api.SearchRight}},
	}
	for _, x := range []struct {
		user, entry     string
		names           []string
		writes, visible bool
	}{
		{"", "o=x", nil, true, false},
		{"", "o=x", []string{"CN"}, true, true},
		{"", "o=x", []string{"cn", "mail", "cn"}, true, true},
		{"", "o=x", []string{"cn", "age"}, false, false},
		{"", "o=x", []string{"age", "cn"}, false, false},
		{"", "o=x", []string{""}, false, false},
		{"", "o=y", nil, true, false},
		{"", "o=y", []string{"cn"}, false, false},
		{"", "O=x", []string{"cn"}, false, false},
		{"o=x", "o=x", []string{"cn", "age", ""}, true, false},
		{"o=x", "o=x", []string{"cn", "mail"}, false, true},
		{"o=y", "o=y", []string{"cn", "mail"}, true, false},
		{"cn=root", "o=y", nil, true, true},
		{"cn=root", "o=y", []string{"age", "mail", ""}, false, true},
		{"cn=root", "o=x", []string{"cn", "Age"}, false, false},
		{"cn=root", "o=x", nil, true, true},
	} {
		var mods []api.Mod
		for i, s := range x.names {
			mods = append(mods, api.Mod{Op: api.ModOp(i), Name: s, Values: []string{"v"}})
		}
		want := api.OK
		if !x.writes {
			want = api.ErrDenied
		}
		if e := access.Writes(l, user(x.user), x.entry, mods); e != want {
			t.Errorf("Writes of %q of %q by %q = %d", x.names, x.entry, x.user, int(e))
		}
		before := slices.Clone(x.names)
		if got := access.Visible(l, user(x.user), x.entry, x.names); got != x.visible || !slices.Equal(before, x.names) {
			t.Errorf("Visible of %q of %q for %q = %v", x.names, x.entry, x.user, got)
		}
	}
}

// random makes random rules and questions.
type random struct{ *rand.Rand }

// pick returns one of some strings.
func (r random) pick(l ...string) string {
	return l[r.Intn(len(l))]
}

// some returns some of some strings.
func (r random) some(most int, l ...string) []string {
	var some []string
	for range r.Intn(most + 1) {
		some = append(some, r.pick(l...))
	}
	return some
}

// name returns the name of an entry, or seldom another string.
func (r random) name() string {
	return r.pick("", "o=x", "o=x", "ou=s,o=x", "ou=s,o=x", "cn=a,ou=s,o=x", "cn=a,ou=s,o=x", "cn=b,o=x", "o=y", "O=x")
}

// rule returns a rule that Check may not accept.
func (r random) rule() api.Rule {
	x := api.Rule{Allow: r.Intn(3) > 0, Subject: r.pick("*", "*", "self", "user:"+r.name(), "group:"+r.name(), "user", ""), Target: r.name(), Attrs: r.some(2, "cn", "CN", "mail", "")}
	for range r.Intn(5) {
		x.Rights = append(x.Rights, api.Right(r.Intn(4)))
	}
	return x
}

// rules returns an access list.
func (r random) rules() []api.Rule {
	var l []api.Rule
	for range r.Intn(8) {
		l = append(l, r.rule())
	}
	return l
}

// subject returns a subject.
func (r random) subject() api.Subject {
	return user(r.name(), r.some(2, "", "o=x", "cn=b,o=x")...)
}

// applies is the definition of the rules that apply.
func applies(r api.Rule, u api.Subject, entry string) bool {
	is := r.Subject == "*" || r.Subject == "self" && u.User == entry && u.User != "" || r.Subject == "user:"+u.User && u.User != ""
	for _, g := range u.Groups {
		is = is || r.Subject == "group:"+g
	}
	return is && name.Under(entry, r.Target)
}

// decide is the definition of a decision, for attributes of ASCII letters.
func decide(l []api.Rule, u api.Subject, entry, attr string, right api.Right) (bool, int) {
	var concerned []int
	deepest := -1
	for i, r := range l {
		has := len(r.Attrs) == 0
		for _, a := range r.Attrs {
			has = has || attr != "" && strings.EqualFold(a, attr)
		}
		if applies(r, u, entry) && slices.Contains(r.Rights, right) && has {
			concerned = append(concerned, i)
			deepest = max(deepest, name.Depth(r.Target))
		}
	}
	for _, allow := range []bool{false, true} {
		for _, i := range concerned {
			if name.Depth(l[i].Target) == deepest && l[i].Allow == allow {
				return allow, i
			}
		}
	}
	return false, -1
}

// P14.3 to P14.7
func TestDefinition(t *testing.T) {
	r := random{rand.New(rand.NewSource(1))}
	counts := map[string]int{}
	for range 30000 {
		l, u, entry := r.rules(), r.subject(), r.name()
		for _, x := range l {
			if got := access.Applies(x, u, entry); got != applies(x, u, entry) {
				t.Fatalf("Applies(%v, %v, %q) = %v", x, u, entry, got)
			}
		}
		seen := of(entry)
		e := of(entry, attr("sn", "s"), attr("mail", "m"), attr("Cn", "b", "a"))
		for _, a := range attrs.Sorted(e.Attrs) {
			is, k := decide(l, u, entry, a.Name, api.ReadRight)
			if got, i := access.Decide(l, u, entry, strings.ToUpper(a.Name), api.ReadRight); got != is || i != k {
				t.Fatalf("Decide(%v, %v, %q, %q) = %v, %d, not %v, %d", l, u, entry, a.Name, got, i, is, k)
			}
			if is {
				seen.Attrs = append(seen.Attrs, a)
			}
			counts["allowed "+strconv.FormatBool(is)+" by "+strconv.Itoa(min(k, 3))]++
		}
		if len(seen.Attrs) == 0 {
			seen = api.Entry{}
		}
		if got, ok := access.View(l, u, e); ok != (len(seen.Attrs) > 0) || !same(got, seen) {
			t.Fatalf("View(%v, %v, %q) = %q, %v", l, u, entry, got, ok)
		}
		counts["view of "+strconv.Itoa(len(seen.Attrs))]++
		r.checkNames(t, l, u, entry, counts)
	}
	for _, k := range []string{"-1", "0", "1", "2", "3"} {
		if counts["allowed false by "+k] < 300 || k != "-1" && counts["allowed true by "+k] < 300 {
			t.Errorf("decisions: %v", counts)
		}
	}
	for _, s := range []string{"view of 0", "view of 1", "view of 2", "view of 3", "writes true", "writes false", "visible true", "visible false"} {
		if counts[s] < 300 {
			t.Errorf("%s: %d", s, counts[s])
		}
	}
}

// checkNames checks Writes and Visible for some attributes.
func (r random) checkNames(t *testing.T, l []api.Rule, u api.Subject, entry string, counts map[string]int) {
	t.Helper()
	names := r.some(3, "cn", "Mail", "sn", "")
	all := func(names []string, right api.Right) bool {
		return !slices.ContainsFunc(names, func(s string) bool {
			is, _ := decide(l, u, entry, s, right)
			return !is
		})
	}
	var mods []api.Mod
	for _, s := range names {
		mods = append(mods, api.Mod{Name: s})
	}
	writes := all(names, api.WriteRight)
	if e := access.Writes(l, u, entry, mods); writes != (e == api.OK) || !writes != (e == api.ErrDenied) {
		t.Fatalf("Writes(%v, %v, %q, %q) = %d", l, u, entry, names, int(e))
	}
	visible := all(names, api.SearchRight)
	if len(names) == 0 {
		visible = all([]string{""}, api.SearchRight)
	}
	if access.Visible(l, u, entry, names) != visible {
		t.Fatalf("Visible(%v, %v, %q, %q) = %v", l, u, entry, names, !visible)
	}
	counts["writes "+strconv.FormatBool(writes)]++
	counts["visible "+strconv.FormatBool(visible)]++
}

// P14.9
func TestDefault(t *testing.T) {
	r := random{rand.New(rand.NewSource(2))}
	taken, moved := 0, 0
	for range 20000 {
		l, u, entry, right := r.rules(), r.subject(), r.name(), api.Right(r.Intn(4))
		attr := r.pick("cn", "mail", "sn", "")
		if is, k := access.Decide(nil, u, entry, attr, right); is || k != -1 {
			t.Fatalf("without rules: %v, %d", is, k)
		}
		// Each rule twice: one of several rules decides.
		l = append(l, l...)
		is, k := access.Decide(l, u, entry, attr, right)

		order := r.Perm(len(l))
		var shuffled []api.Rule
		for _, i := range order {
			shuffled = append(shuffled, l[i])
		}
		got, i := access.Decide(shuffled, u, entry, attr, right)
		if got != is || (i < 0) != (k < 0) {
			t.Fatalf("Decide(%v) = %v, but Decide(%v) = %v", l, is, shuffled, got)
		}
		if i >= 0 && order[i] != k {
			moved++
		}

		veto := api.Rule{Subject: "*", Target: entry, Attrs: r.some(1, "cn", "mail"), Rights: []api.Right{right}}
		vetoed := slices.Insert(slices.Clone(l), r.Intn(len(l)+1), veto)
		takes := len(veto.Attrs) == 0 || veto.Attrs[0] == attr
		if takes && is {
			taken++
		}
		if got, _ := access.Decide(vetoed, u, entry, attr, right); got != (is && !takes) {
			t.Fatalf("Decide(%v, %v, %q, %q) = %v", vetoed, u, entry, attr, got)
		}
	}
	if taken < 300 || moved < 100 {
		t.Errorf("%d rights were taken, %d indices changed", taken, moved)
	}
}

// P14.10
func TestLocal(t *testing.T) {
	r := random{rand.New(rand.NewSource(3))}
	dropped, stranger := 0, user("cn=stranger", "cn=strangers", "cn=more")
	for range 20000 {
		l, u, entry, right := r.rules(), r.subject(), r.name(), api.Right(r.Intn(4))
		attr := r.pick("cn", "mail", "sn", "")
		elsewhere := func(x api.Rule) bool { return !name.Under(entry, x.Target) }
		here := slices.DeleteFunc(slices.Clone(l), elsewhere)
		is, k := access.Decide(l, u, entry, attr, right)
		got, i := access.Decide(here, u, entry, attr, right)
		if got != is || (i < 0) != (k < 0) || i >= 0 && !sameRules(here[i:i+1], l[k:k+1]) {
			t.Fatalf("Decide(%v) = %v, %d, but Decide(%v) = %v, %d", l, is, k, here, got, i)
		}
		dropped += len(l) - len(here)
		is, k = access.Decide(l, api.Subject{}, entry, attr, right)
		if got, i := access.Decide(l, stranger, entry, attr, right); got != is || i != k {
			t.Fatalf("Decide(%v) for a stranger = %v, %d", l, got, i)
		}
	}
	if dropped < 1000 {
		t.Errorf("%d rules did not matter", dropped)
	}
}
