package claims_test

import (
	"math"
	"math/rand"
	"reflect"
	"slices"
	"strings"
	"testing"

	"identity/api"
	"identity/claims"
)

// full returns valid claims in which each field has contents of its own.
func full() api.Claims {
	return api.Claims{
		Kind: "access", Issuer: "https://id/a b", Subject: "cn=ann,o=x", Client: "web", Tenant: "t:1",
		ID: "j-1", Session: "s_1", Nonce: "n.1",
		Audience: []string{"mail", "files"}, Scopes: []string{"a.read", "b.read"}, Actors: []string{"bob", "cn=cid"},
		Issued: 90, NotBefore: 95, Expires: 300, AuthTime: 80, Level: 2,
	}
}

// least returns valid claims with as little contents as possible.
func least() api.Claims {
	return api.Claims{Kind: "a", Issuer: "b", Subject: "c", Client: "d", Tenant: "e", ID: "f", Audience: []string{"g"}}
}

// with returns the claims full with a change.
func with(change func(c *api.Claims)) api.Claims {
	c := full()
	change(&c)
	return c
}

// bytes returns n bytes.
func bytes(n int) string {
	return strings.Repeat("b", n)
}

// words returns n words in ascending order.
func words(n int) []string {
	var l []string
	for i := range n {
		l = append(l, "w"+string(rune('a'+i)))
	}
	return l
}

// notWords returns strings that are no words, but not the empty one.
func notWords() []string {
	return []string{" ", "a b", "k ", " k", "k|", "k%20", "a=b", "ké", "k\n", "\xff", bytes(api.MaxName + 1)}
}

// notValues returns strings that are no values.
func notValues() []string {
	return []string{"", " ", " s", "s ", "s\n", "é", "\x7f", "\xff", "\x00", bytes(api.MaxValue + 1)}
}

// fault is an error of claims, and a change that makes it.
type fault struct {
	want   api.Errno
	change func(c *api.Claims)
}

// faultGroups returns the faults in the order in which Check names them: those
// of one group change the same fields.
func faultGroups() [][]fault {
	return [][]fault{
		nameFaults(),
		audienceFaults(),
		scopeFaults(),
		actorFaults(),
		timeFaults(),
		{
			{api.ErrRange, func(c *api.Claims) { c.Level = -1 }},
			{api.ErrRange, func(c *api.Claims) { c.Level = 4 }},
			{api.ErrRange, func(c *api.Claims) { c.Level = math.MinInt }},
			{api.ErrRange, func(c *api.Claims) { c.Level = math.MaxInt }},
		},
	}
}

// nameFaults returns the faults of the fields that are strings.
func nameFaults() []fault {
	var l []fault
	for _, s := range append(notWords(), "") {
		l = append(l,
			fault{api.ErrName, func(c *api.Claims) { c.Kind = s }},
			fault{api.ErrName, func(c *api.Claims) { c.Client = s }},
			fault{api.ErrName, func(c *api.Claims) { c.Tenant = s }},
			fault{api.ErrName, func(c *api.Claims) { c.ID = s }})
	}
	for _, s := range notWords() {
		l = append(l,
			fault{api.ErrName, func(c *api.Claims) { c.Session = s }},
			fault{api.ErrName, func(c *api.Claims) { c.Nonce = s }})
	}
	for _, s := range notValues() {
		l = append(l,
			fault{api.ErrName, func(c *api.Claims) { c.Issuer = s }},
			fault{api.ErrName, func(c *api.Claims) { c.Subject = s }})
	}
	return l
}

// audienceFaults returns the faults of the audience.
func audienceFaults() []fault {
	l := []fault{
		{api.ErrNone, func(c *api.Claims) { c.Audience = nil }},
		{api.ErrNone, func(c *api.Claims) { c.Audience = []string{} }},
		{api.ErrLimit, func(c *api.Claims) { c.Audience = words(api.MaxScopes + 1) }},
		{api.ErrLimit, func(c *api.Claims) { c.Audience = make([]string, api.MaxScopes+1) }},
		{api.ErrName, func(c *api.Claims) { c.Audience = make([]string, api.MaxScopes) }},
		{api.ErrTwice, func(c *api.Claims) { c.Audience = []string{"a", "a"} }},
		{api.ErrTwice, func(c *api.Claims) { c.Audience = []string{"b", "a", "c", "a"} }},
		{api.ErrTwice, func(c *api.Claims) { c.Audience = append(words(15), "wa") }},
		{api.ErrTwice, func(c *api.Claims) { c.Audience = []string{"a", "a", "a b"} }},
		{api.ErrName, func(c *api.Claims) { c.Audience = []string{"a", "a b", "a"} }},
		{api.ErrName, func(c *api.Claims) { c.Audience = []string{"a b", "a b"} }},
		{api.ErrName, func(c *api.Claims) { c.Audience = []string{""} }},
	}
	for _, s := range notWords() {
		l = append(l,
			fault{api.ErrName, func(c *api.Claims) { c.Audience = []string{s, "a"} }},
			fault{api.ErrName, func(c *api.Claims) { c.Audience = []string{"a", s} }})
	}
	return l
}

// scopeFaults returns the faults of the scopes.
func scopeFaults() []fault {
	l := []fault{
		{api.ErrLimit, func(c *api.Claims) { c.Scopes = words(api.MaxScopes + 1) }},
		{api.ErrLimit, func(c *api.Claims) { c.Scopes = make([]string, api.MaxScopes+1) }},
		{api.ErrName, func(c *api.Claims) { c.Scopes = make([]string, api.MaxScopes) }},
		{api.ErrForm, func(c *api.Claims) { c.Scopes = []string{"a", "a"} }},
		{api.ErrForm, func(c *api.Claims) { c.Scopes = []string{"b", "a"} }},
		{api.ErrForm, func(c *api.Claims) { c.Scopes = []string{"a", "B"} }},
		{api.ErrForm, func(c *api.Claims) { c.Scopes = []string{"a", "c", "b"} }},
		{api.ErrForm, func(c *api.Claims) { c.Scopes = append(words(15), "wn") }},
		{api.ErrForm, func(c *api.Claims) { c.Scopes = []string{"b", "a", "a b"} }},
		{api.ErrName, func(c *api.Claims) { c.Scopes = []string{"b", "a b", "a"} }},
		{api.ErrName, func(c *api.Claims) { c.Scopes = []string{"b", "a b"} }},
		{api.ErrName, func(c *api.Claims) { c.Scopes = []string{""} }},
	}
	for _, s := range notWords() {
		l = append(l,
			fault{api.ErrName, func(c *api.Claims) { c.Scopes = []string{s, "zz"} }},
			fault{api.ErrName, func(c *api.Claims) { c.Scopes = []string{"a", s} }})
	}
	return l
}

// actorFaults returns the faults of the actors.
func actorFaults() []fault {
	l := []fault{
		{api.ErrLimit, func(c *api.Claims) { c.Actors = words(5) }},
		{api.ErrLimit, func(c *api.Claims) { c.Actors = make([]string, 5) }},
		{api.ErrName, func(c *api.Claims) { c.Actors = make([]string, 4) }},
	}
	for _, s := range notValues() {
		l = append(l,
			fault{api.ErrName, func(c *api.Claims) { c.Actors = []string{s} }},
			fault{api.ErrName, func(c *api.Claims) { c.Actors = []string{"a", "b", "c", s} }})
	}
	return l
}

// timeFaults returns the faults of the times.
func timeFaults() []fault {
	set := func(issued, notBefore, expires, authTime int) fault {
		return fault{api.ErrArg, func(c *api.Claims) {
			c.Issued, c.NotBefore, c.Expires, c.AuthTime = issued, notBefore, expires, authTime
		}}
	}
	return []fault{
		set(-1, 2, 3, 0), set(math.MinInt, 2, 3, 0),
		set(1, -1, 3, 0), set(1, math.MinInt, 3, 0),
		set(0, 0, -1, 0), set(-2, -2, -1, 0),
		set(1, 2, api.MaxTime+1, 0), set(1, 2, math.MaxInt, 0),
		set(1, 2, 3, -1), set(1, 2, 3, math.MinInt),
		set(1, 2, 3, api.MaxTime+1), set(1, 2, 3, math.MaxInt),
		set(4, 2, 3, 0), set(2, 4, 3, 0), set(api.MaxTime, 0, api.MaxTime-1, 0),
	}
}

// faults returns the faults of all groups.
func faults() []fault {
	return slices.Concat(faultGroups()...)
}

// P25.1
func TestCheck(t *testing.T) {
	for _, c := range []api.Claims{
		full(), least(),
		with(func(c *api.Claims) { c.Session, c.Nonce = "", "" }),
		with(func(c *api.Claims) { c.Kind, c.Client, c.Tenant, c.ID = "-", "_", "1x:a._-Z", ":" }),
		with(func(c *api.Claims) {
			c.Kind, c.Client, c.Tenant = bytes(api.MaxName), bytes(api.MaxName), bytes(api.MaxName)
			c.ID, c.Session, c.Nonce = bytes(api.MaxName), bytes(api.MaxName), bytes(api.MaxName)
			c.Issuer, c.Subject = bytes(api.MaxValue), bytes(api.MaxValue)
			c.Audience[0], c.Scopes[0], c.Actors[0] = bytes(api.MaxName), "-"+bytes(api.MaxName-1), bytes(api.MaxValue)
		}),
		with(func(c *api.Claims) { c.Issuer, c.Subject = "a  ~|=%\"", "!" }),
		with(func(c *api.Claims) { c.Audience, c.Scopes = words(api.MaxScopes), words(api.MaxScopes) }),
		// Only the scopes are ascending.
		with(func(c *api.Claims) { c.Audience = []string{"c", "a", "b", "A"} }),
		with(func(c *api.Claims) { c.Scopes = []string{"-", "A", "B", "a", "a.", "a.b"} }),
		// Check does not look for actors that occur twice.
		with(func(c *api.Claims) { c.Actors = []string{"x", "x", c.Subject, c.Subject} }),
		with(func(c *api.Claims) { c.Scopes, c.Actors = nil, nil }),
		with(func(c *api.Claims) { c.Scopes, c.Actors = []string{}, []string{} }),
		with(func(c *api.Claims) { c.Level = 0 }),
		with(func(c *api.Claims) { c.Level = 3 }),
		with(func(c *api.Claims) { c.Issued, c.NotBefore = c.Expires, c.Expires }),
		with(func(c *api.Claims) { c.Issued, c.NotBefore = 95, 90 }),
		with(func(c *api.Claims) { c.AuthTime = api.MaxTime }),
		with(func(c *api.Claims) { c.Issued, c.NotBefore, c.Expires = api.MaxTime, api.MaxTime, api.MaxTime }),
	} {
		if e := claims.Check(c); e != api.OK {
			t.Errorf("Check of %+v = %d", c, int(e))
		}
	}
	if e := claims.Check(api.Claims{}); e != api.ErrName {
		t.Errorf("Check of nothing = %d", int(e))
	}
}

// P25.1: each fault, alone and together with each one of a later group.
func TestCheckErrors(t *testing.T) {
	groups := faultGroups()
	for i, group := range groups {
		later := slices.Concat(groups[i+1:]...)
		for j, f := range group {
			if e := claims.Check(with(f.change)); e != f.want {
				t.Errorf("fault %d of group %d: %d, not %d", j, i, int(e), int(f.want))
			}
			for k, g := range later {
				c := with(f.change)
				g.change(&c)
				if e := claims.Check(c); e != f.want {
					t.Errorf("fault %d of group %d, and fault %d behind it: %d, not %d", j, i, k, int(e), int(f.want))
				}
			}
		}
	}
}

// expect returns what a receiver of the claims full expects.
func expect(now, skew int) api.Expect {
	return api.Expect{Kind: "access", Issuer: "https://id/a b", Audience: "files", Tenant: "t:1", Now: now, Skew: skew}
}

// P25.3
func TestAllow(t *testing.T) {
	for _, y := range []struct {
		now, skew int
		want      api.Errno
	}{
		{94, 0, api.ErrEarly}, {95, 0, api.OK}, {299, 0, api.OK}, {300, 0, api.ErrExpired},
		{89, 5, api.ErrEarly}, {90, 5, api.OK}, {304, 5, api.OK}, {305, 5, api.ErrExpired},
		{94, -5, api.ErrEarly}, {95, math.MinInt, api.OK}, {300, -5, api.ErrExpired},
		{0, 95, api.OK}, {0, 94, api.ErrEarly}, {-7, 95, api.OK}, {math.MinInt, 94, api.ErrEarly},
		{300 + api.MaxSkew - 1, api.MaxSkew, api.OK}, {300 + api.MaxSkew, api.MaxSkew, api.ErrExpired},
		{300 + api.MaxSkew - 1, math.MaxInt, api.OK}, {300 + api.MaxSkew, math.MaxInt, api.ErrExpired},
		{math.MaxInt, 0, api.ErrExpired},
	} {
		if e := claims.Allow(full(), expect(y.now, y.skew)); e != y.want {
			t.Errorf("Allow at %d with skew %d = %d, not %d", y.now, y.skew, int(e), int(y.want))
		}
	}
	for _, audience := range full().Audience {
		x := expect(95, 0)
		x.Audience = audience
		if e := claims.Allow(full(), x); e != api.OK {
			t.Errorf("Allow for %s = %d", audience, int(e))
		}
	}
}

// P25.3: the errors in their order.
func TestAllowErrors(t *testing.T) {
	type change func(x *api.Expect)
	steps := []struct {
		want    api.Errno
		changes []change
	}{
		{api.ErrArg, []change{
			func(x *api.Expect) { x.Kind = "" },
			func(x *api.Expect) { x.Kind = "id" },
			func(x *api.Expect) { x.Kind = "Access" },
		}},
		{api.ErrIssuer, []change{
			func(x *api.Expect) { x.Issuer = "" },
			func(x *api.Expect) { x.Issuer = "https://id/a  b" },
			func(x *api.Expect) { x.Issuer = "https://ID/a b" },
		}},
		{api.ErrTenant, []change{
			func(x *api.Expect) { x.Tenant = "" },
			func(x *api.Expect) { x.Tenant = "T:1" },
		}},
		{api.ErrAudience, []change{
			func(x *api.Expect) { x.Audience = "" },
			func(x *api.Expect) { x.Audience = "Files" },
			func(x *api.Expect) { x.Audience = "file" },
			func(x *api.Expect) { x.Audience = "mail|files" },
		}},
		{api.ErrEarly, []change{func(x *api.Expect) { x.Now = 94 }}},
		{api.ErrExpired, []change{func(x *api.Expect) { x.Now = 300 }}},
	}
	for i, step := range steps {
		for j, f := range step.changes {
			x := expect(100, 0)
			f(&x)
			if e := claims.Allow(full(), x); e != step.want {
				t.Errorf("change %d of step %d: %d, not %d", j, i, int(e), int(step.want))
			}
			for _, later := range steps[i+1:] {
				y := x
				if later.changes[0](&y); i < 4 && claims.Allow(full(), y) != step.want {
					t.Errorf("change %d of step %d comes after %d", j, i, int(later.want))
				}
			}
		}
	}
}

// P25.3: nothing else about the claims is checked.
func TestAllowUnchecked(t *testing.T) {
	if e := claims.Allow(api.Claims{}, api.Expect{}); e != api.ErrAudience {
		t.Errorf("Allow of nothing = %d", int(e))
	}
	if e := claims.Allow(api.Claims{Audience: []string{""}, Expires: 1}, api.Expect{}); e != api.OK {
		t.Errorf("Allow of almost nothing = %d", int(e))
	}
	if e := claims.Allow(api.Claims{Audience: []string{"", ""}}, api.Expect{}); e != api.ErrExpired {
		t.Errorf("Allow of an empty window = %d", int(e))
	}
	if e := claims.Allow(api.Claims{Audience: []string{"a b"}, NotBefore: 2, Expires: 1}, api.Expect{Audience: "a b", Now: 1}); e != api.ErrArg {
		t.Errorf("Allow of a window that ends before it begins = %d", int(e))
	}
	for i, f := range slices.Concat(scopeFaults(), actorFaults()) {
		if e := claims.Allow(with(f.change), expect(100, 0)); e != api.OK {
			t.Errorf("fault %d: %d", i, int(e))
		}
	}
	c := with(func(c *api.Claims) {
		c.Subject, c.Client, c.ID, c.Session, c.Nonce = "", "", "", " ", " "
		c.Issued, c.AuthTime, c.Level = -1, -1, -1
	})
	if e := claims.Allow(c, expect(100, 0)); e != api.OK {
		t.Errorf("Allow of claims with many faults = %d", int(e))
	}
}

// modelAllow is P25.9 with the order of the errors.
func modelAllow(c api.Claims, x api.Expect) api.Errno {
	now := min(max(x.Now, 0), api.MaxTime)
	skew := min(max(x.Skew, 0), api.MaxSkew)
	switch {
	case x.Kind != c.Kind:
		return api.ErrArg
	case x.Issuer != c.Issuer:
		return api.ErrIssuer
	case x.Tenant != c.Tenant:
		return api.ErrTenant
	case !slices.Contains(c.Audience, x.Audience):
		return api.ErrAudience
	case c.NotBefore > c.Expires:
		return api.ErrArg
	case now < c.NotBefore-skew:
		return api.ErrEarly
	case now >= c.Expires+skew:
		return api.ErrExpired
	}
	return api.OK
}

// P25.3, P25.9: small claims and receivers of all kinds.
func TestAllowDefinition(t *testing.T) {
	r := rand.New(rand.NewSource(25))
	some := func(l ...string) string { return l[r.Intn(len(l))] }
	seen := map[api.Errno]int{}
	for range 100000 {
		c := api.Claims{
			Kind: some("a", "a", "a", "b"), Issuer: some("a", "a", "a", "b"), Tenant: some("a", "a", "a", "b"),
			Audience:  []string{some("a", "b"), some("a", "b"), some("a", "b")}[:r.Intn(4)],
			NotBefore: r.Intn(10) - 1, Expires: r.Intn(10) - 1,
		}
		x := api.Expect{Kind: "a", Issuer: "a", Audience: some("a", "b"), Tenant: "a", Now: r.Intn(12) - 2, Skew: r.Intn(5) - 1}
		want := modelAllow(c, x)
		seen[want]++
		if e := claims.Allow(c, x); e != want {
			t.Fatalf("Allow of %+v and %+v = %d, not %d", c, x, int(e), int(want))
		}
	}
	for _, e := range []api.Errno{api.OK, api.ErrArg, api.ErrIssuer, api.ErrTenant, api.ErrAudience, api.ErrEarly, api.ErrExpired} {
		if seen[e] < 100 {
			t.Errorf("%d results %d", seen[e], int(e))
		}
	}
}

// equal is the definition of P25.6.
func equal(a, b api.Claims) bool {
	for _, c := range []*api.Claims{&a, &b} {
		for _, l := range []*[]string{&c.Audience, &c.Scopes, &c.Actors} {
			if len(*l) == 0 {
				*l = nil
			}
		}
	}
	return reflect.DeepEqual(a, b)
}

// P25.6
func TestEqual(t *testing.T) {
	all := []api.Claims{
		{}, full(), least(),
		with(func(c *api.Claims) { c.Kind += " " }),
		with(func(c *api.Claims) { c.Issuer += " " }),
		with(func(c *api.Claims) { c.Subject = "CN=ann,o=x" }),
		with(func(c *api.Claims) { c.Client = "" }),
		with(func(c *api.Claims) { c.Tenant = "\xff" }),
		with(func(c *api.Claims) { c.ID = "é" }),
		with(func(c *api.Claims) { c.Session = "" }),
		with(func(c *api.Claims) { c.Nonce = "n:1" }),
		with(func(c *api.Claims) { c.Session, c.Nonce = c.Nonce, c.Session }),
		with(func(c *api.Claims) { c.Audience = nil }),
		with(func(c *api.Claims) { c.Audience = []string{""} }),
		with(func(c *api.Claims) { c.Audience = []string{"-"} }),
		with(func(c *api.Claims) { c.Audience = []string{"files", "mail"} }),
		with(func(c *api.Claims) { c.Audience = []string{"mail|files"} }),
		with(func(c *api.Claims) { c.Audience = []string{"mail", "files", ""} }),
		with(func(c *api.Claims) { c.Audience = []string{"mail"} }),
		with(func(c *api.Claims) { c.Scopes = []string{"a.read"} }),
		with(func(c *api.Claims) { c.Scopes = []string{"a.read", "b.rea"} }),
		with(func(c *api.Claims) { c.Scopes = nil }),
		with(func(c *api.Claims) { c.Actors = nil }),
		with(func(c *api.Claims) { c.Actors = []string{"bob", "cn=cid", "bob"} }),
		with(func(c *api.Claims) { c.Scopes, c.Actors = c.Actors, c.Scopes }),
		with(func(c *api.Claims) { c.Issued++ }),
		with(func(c *api.Claims) { c.NotBefore = -c.NotBefore }),
		with(func(c *api.Claims) { c.Expires = math.MaxInt }),
		with(func(c *api.Claims) { c.AuthTime = math.MinInt }),
		with(func(c *api.Claims) { c.Level = 0 }),
		with(func(c *api.Claims) { c.Issued, c.NotBefore = c.NotBefore, c.Issued }),
	}
	for i, a := range all {
		for j, b := range all {
			if got := claims.Equal(a, b); got != (i == j) {
				t.Errorf("Equal of %d and %d = %v", i, j, got)
			}
		}
	}
	a := with(func(c *api.Claims) { c.Audience, c.Scopes, c.Actors = nil, nil, nil })
	b := with(func(c *api.Claims) { c.Audience, c.Scopes, c.Actors = []string{}, []string{}, []string{} })
	if !claims.Equal(a, b) || !claims.Equal(b, a) {
		t.Error("Equal of lists without elements")
	}
}
