package claims_test

import (
	"math"
	"math/rand"
	"slices"
	"testing"

	"identity/api"
	"identity/claims"
)

// wantClaims reports an error unless got and e are want and no error.
func wantClaims(t *testing.T, what string, got api.Claims, e api.Errno, want api.Claims) {
	t.Helper()
	if e != api.OK || !equal(got, want) {
		t.Errorf("%s = %+v, %d, not %+v", what, got, int(e), want)
	}
}

// wantNone reports an error unless got and e are no claims and the error want.
func wantNone(t *testing.T, what string, got api.Claims, e api.Errno, want api.Errno) {
	t.Helper()
	if e != want || !equal(got, api.Claims{}) {
		t.Errorf("%s = %+v, %d, not %d", what, got, int(e), int(want))
	}
}

// P25.4
func TestNarrow(t *testing.T) {
	for i, y := range []struct {
		scopes, audience []string
		expires          int
		change           func(c *api.Claims)
	}{
		{[]string{"a.read", "b.read"}, []string{"mail", "files"}, 300, func(c *api.Claims) {}},
		{nil, []string{"mail", "files"}, 300, func(c *api.Claims) { c.Scopes = nil }},
		{[]string{}, []string{"files"}, 299, func(c *api.Claims) { c.Scopes, c.Audience, c.Expires = nil, []string{"files"}, 299 }},
		{[]string{"b.read"}, []string{"mail"}, 95, func(c *api.Claims) {
			c.Scopes, c.Audience, c.Expires = []string{"b.read"}, []string{"mail"}, 95
		}},
		// The order is that of the claims, and each element is there once.
		{[]string{"b.read", "a.read"}, []string{"files", "mail"}, 300, func(c *api.Claims) {}},
		{[]string{"b.read", "a.read", "b.read"}, []string{"files", "files"}, 300, func(c *api.Claims) { c.Audience = []string{"files"} }},
	} {
		got, e := claims.Narrow(full(), y.scopes, y.audience, y.expires)
		want := full()
		y.change(&want)
		if wantClaims(t, "Narrow", got, e, want); t.Failed() {
			t.Fatalf("row %d", i)
		}
	}
	long := make([]string, 1000)
	for i := range long {
		long[i] = "files"
	}
	got, e := claims.Narrow(full(), nil, long, 100)
	wantClaims(t, "Narrow to a long list", got, e, with(func(c *api.Claims) {
		c.Scopes, c.Audience, c.Expires = nil, []string{"files"}, 100
	}))
}

// P25.4: the end is limited to the instants before it is used.
func TestNarrowEnd(t *testing.T) {
	at := func(issued, notBefore, expires int) api.Claims {
		return with(func(c *api.Claims) { c.Issued, c.NotBefore, c.Expires = issued, notBefore, expires })
	}
	for _, y := range []struct {
		c             api.Claims
		expires, want int
	}{
		{at(0, 0, 10), 0, 0}, {at(0, 0, 10), -1, 0}, {at(0, 0, 10), math.MinInt, 0}, {at(0, 0, 0), -1, 0},
		{at(3, 5, 10), 5, 5}, {at(5, 3, 10), 5, 5}, {at(5, 5, 10), 10, 10},
		{at(0, 0, api.MaxTime), api.MaxTime + 1, api.MaxTime}, {at(0, 0, api.MaxTime), math.MaxInt, api.MaxTime},
	} {
		want := y.c
		want.Expires = y.want
		got, e := claims.Narrow(y.c, y.c.Scopes, y.c.Audience, y.expires)
		wantClaims(t, "Narrow", got, e, want)
	}
	for _, y := range []struct {
		c       api.Claims
		expires int
	}{
		{at(3, 5, 10), 4}, {at(5, 3, 10), 4}, {at(3, 5, 10), 2}, {at(5, 5, 10), 11},
		{at(0, 1, 10), -1}, {at(1, 0, 10), math.MinInt}, {at(0, 0, 0), 1},
		{at(0, 0, api.MaxTime-1), api.MaxTime}, {at(0, 0, api.MaxTime-1), math.MaxInt},
	} {
		got, e := claims.Narrow(y.c, y.c.Scopes, y.c.Audience, y.expires)
		wantNone(t, "Narrow", got, e, api.ErrRange)
	}
}

// P25.4: the errors in their order.
func TestNarrowErrors(t *testing.T) {
	c := full()
	for _, f := range faults() {
		got, e := claims.Narrow(with(f.change), []string{"x"}, nil, 1)
		wantNone(t, "Narrow of a fault", got, e, f.want)
	}
	for _, scopes := range [][]string{{"x"}, {""}, {"a.read", "c.read"}, {"c.read", "a.read"}, {"A.read"}, {"a.read|b.read"}, {"mail"}} {
		for _, audience := range [][]string{c.Audience, nil, {"x"}} {
			for _, expires := range []int{300, 301, 94} {
				got, e := claims.Narrow(c, scopes, audience, expires)
				wantNone(t, "Narrow to other scopes", got, e, api.ErrScope)
			}
		}
	}
	for _, audience := range [][]string{nil, {}, {"x"}, {""}, {"mail", "x"}, {"x", "mail"}, {"Mail"}, {"a.read"}} {
		for _, expires := range []int{300, 301, 94} {
			got, e := claims.Narrow(c, c.Scopes, audience, expires)
			wantNone(t, "Narrow to another audience", got, e, api.ErrAudience)
		}
	}
	for _, expires := range []int{301, 94, 90, 0} {
		got, e := claims.Narrow(c, nil, []string{"mail"}, expires)
		wantNone(t, "Narrow to another end", got, e, api.ErrRange)
	}
}

// P25.5
func TestAct(t *testing.T) {
	c := with(func(c *api.Claims) { c.Actors = nil })
	var actors []string
	for _, actor := range []string{"bob", bytes(api.MaxValue), "CN=Ann,o=x", "Bob"} {
		got, e := claims.Act(c, actor)
		actors = append(actors, actor)
		wantClaims(t, "Act", got, e, with(func(c *api.Claims) { c.Actors = actors }))
		c = got
	}
	got, e := claims.Act(c, "eve")
	wantNone(t, "Act of a fifth actor", got, e, api.ErrLimit)
	got, e = claims.Act(least(), "a")
	want := least()
	want.Actors = []string{"a"}
	wantClaims(t, "Act of the least claims", got, e, want)
}

// P25.5: the errors in their order.
func TestActErrors(t *testing.T) {
	for _, f := range faults() {
		for _, actor := range []string{"x", "", full().Subject} {
			got, e := claims.Act(with(f.change), actor)
			wantNone(t, "Act of a fault", got, e, f.want)
		}
	}
	four := with(func(c *api.Claims) { c.Actors = []string{"a", "b", "c", "d"} })
	for _, c := range []api.Claims{full(), four} {
		for _, actor := range notValues() {
			got, e := claims.Act(c, actor)
			wantNone(t, "Act of no value", got, e, api.ErrName)
		}
		for _, actor := range append(c.Actors, c.Subject) {
			got, e := claims.Act(c, actor)
			wantNone(t, "Act of somebody known", got, e, api.ErrCycle)
		}
	}
	got, e := claims.Act(four, "e")
	wantNone(t, "Act of a fifth actor", got, e, api.ErrLimit)
}

// P25.4, P25.5: arguments are not changed, and share no memory with the result.
func TestMemory(t *testing.T) {
	c := full()
	for _, l := range []*[]string{&c.Audience, &c.Scopes, &c.Actors} {
		*l = append(make([]string, 0, 10), *l...)
	}
	scopes, audience := slices.Clone(c.Scopes), slices.Clone(c.Audience)
	n, e := claims.Narrow(c, scopes, audience, 200)
	a, f := claims.Act(c, "x")
	if e != api.OK || f != api.OK {
		t.Fatalf("%d, %d", int(e), int(f))
	}
	for _, d := range []api.Claims{n, a} {
		for _, l := range [][]string{d.Audience, d.Scopes, d.Actors} {
			for i := range l {
				l[i] = "!"
			}
			_ = append(l, "!")
		}
	}
	if !equal(c, full()) || !slices.Equal(scopes, full().Scopes) || !slices.Equal(audience, full().Audience) {
		t.Errorf("the arguments became %+v, %q, %q", c, scopes, audience)
	}
	for _, l := range [][]string{c.Audience, c.Scopes, c.Actors} {
		if l[:3][2] != "" {
			t.Errorf("the memory behind an argument became %q", l[:3])
		}
	}
}

// random returns valid claims with short lists.
func random(r *rand.Rand) api.Claims {
	part := func(l []string, least int) []string {
		n := least + r.Intn(len(l)-least+1)
		chosen := r.Perm(len(l))[:n]
		slices.Sort(chosen)
		var p []string
		for _, i := range chosen {
			p = append(p, l[i])
		}
		return p
	}
	c := full()
	c.Audience = part([]string{"d", "a", "c"}, 1)
	c.Scopes = part([]string{"x", "y", "z"}, 0)
	c.Actors = part([]string{"bob", "cid", "-", "dan"}, 0)
	c.Issued, c.NotBefore = r.Intn(5), r.Intn(5)
	c.Expires = max(c.Issued, c.NotBefore) + r.Intn(5)
	c.AuthTime, c.Level = r.Intn(9), r.Intn(4)
	if r.Intn(2) == 0 {
		c.Session = ""
	}
	return c
}

// within reports whether all elements of l are elements of all.
func within(l, all []string) bool {
	for _, s := range l {
		if !slices.Contains(all, s) {
			return false
		}
	}
	return true
}

// P25.8: random claims, narrowed and given further actors.
func TestLess(t *testing.T) {
	r := rand.New(rand.NewSource(8))
	narrowed, acted := 0, 0
	for range 20000 {
		c, other := random(r), random(r)
		n, e := claims.Narrow(c, other.Scopes, other.Audience, other.Expires)
		fits := within(other.Scopes, c.Scopes) && within(other.Audience, c.Audience) &&
			other.Expires <= c.Expires && other.Expires >= c.Issued && other.Expires >= c.NotBefore
		if (e == api.OK) != fits {
			t.Fatalf("Narrow of %+v to %+v: %d", c, other, int(e))
		}
		if e == api.OK {
			narrowed++
			want := c
			want.Scopes, want.Audience, want.Expires = other.Scopes, other.Audience, other.Expires
			wantLess(t, n, c, want)
		}
		if a, e := claims.Act(c, "eve"); e == api.OK {
			acted++
			want := c
			want.Actors = append(slices.Clone(c.Actors), "eve")
			wantLess(t, a, c, want)
		}
	}
	if narrowed < 500 || acted < 500 {
		t.Errorf("%d were narrowed, %d acted", narrowed, acted)
	}
}

// wantLess reports an error unless n is want and less than c, as P25.8 says.
func wantLess(t *testing.T, n, c, want api.Claims) {
	t.Helper()
	wantClaims(t, "less", n, api.OK, want)
	if e := claims.Check(n); e != api.OK {
		t.Fatalf("Check of %+v = %d", n, int(e))
	}
	if !within(n.Scopes, c.Scopes) || !within(n.Audience, c.Audience) || n.Expires > c.Expires {
		t.Fatalf("%+v is not less than %+v", n, c)
	}
	again, e := claims.Narrow(n, n.Scopes, n.Audience, n.Expires)
	wantClaims(t, "Narrow to what it has", again, e, n)
}
