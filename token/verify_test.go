package token_test

import (
	"math"
	"math/rand"
	"slices"
	"strings"
	"testing"

	"identity/api"
	"identity/claims"
	"identity/codec"
	"identity/digest"
	"identity/token"
)

// P26.3
func TestVerify(t *testing.T) {
	for _, y := range []struct {
		s         string
		now, skew int
		want      api.Errno
	}{
		// The claims begin at 95, and the first key ends at 200.
		{firstToken, 95, 0, api.OK}, {firstToken, 94, 0, api.ErrEarly}, {firstToken, 90, 5, api.OK}, {firstToken, 89, 5, api.ErrEarly},
		{firstToken, 199, 0, api.OK}, {firstToken, 200, 0, api.ErrExpired}, {firstToken, 209, 10, api.OK}, {firstToken, 210, 10, api.ErrExpired},
		// The second key begins at 100, and the claims end at 300.
		{secondToken, 99, 0, api.ErrEarly}, {secondToken, 100, 0, api.OK}, {secondToken, 95, 5, api.OK}, {secondToken, 94, 5, api.ErrEarly},
		{secondToken, 299, 0, api.OK}, {secondToken, 300, 0, api.ErrExpired}, {secondToken, 309, 10, api.OK}, {secondToken, 310, 10, api.ErrExpired},
		{secondToken, 300, -1, api.ErrExpired}, {secondToken, 100, math.MinInt, api.OK},
		{secondToken, 299 + api.MaxSkew, math.MaxInt, api.OK}, {secondToken, 300 + api.MaxSkew, math.MaxInt, api.ErrExpired},
		{secondToken, math.MinInt, 100, api.OK}, {secondToken, math.MinInt, 99, api.ErrEarly}, {secondToken, math.MaxInt, 0, api.ErrExpired},
	} {
		got, e := token.Verify(ring(), y.s, expect(y.now, y.skew))
		if y.want == api.OK {
			wantClaims(t, "Verify", got, e, full())
		} else {
			wantNone(t, "Verify", got, e, y.want)
		}
	}
	got, e := token.Verify([]api.Key{{ID: "..", Secret: "~", Accept: window(0, 1)}}, leastToken,
		api.Expect{Kind: "a", Issuer: "b", Audience: "g", Tenant: "e", Skew: 1})
	wantClaims(t, "Verify", got, e, least())
}

// P26.3: the ring need not be valid.
func TestVerifyRing(t *testing.T) {
	first := ring()[0]
	other := api.Key{ID: "k1", Secret: "another", Accept: window(0, 1000)}
	empty := api.Key{ID: "k1", Accept: window(math.MinInt, math.MaxInt)}
	wrong := api.Key{ID: "k1", Secret: "one", Accept: window(200, 10)}
	for _, y := range []struct {
		l    []api.Key
		s    string
		want api.Errno
	}{
		{nil, firstToken, api.ErrKey},
		{[]api.Key{first}, firstToken, api.OK},
		{[]api.Key{first}, secondToken, api.ErrKey},
		{append(make([]api.Key, api.MaxKeys+1), first), firstToken, api.OK},
		// The first key with the identifier counts.
		{[]api.Key{first, other}, firstToken, api.OK},
		{[]api.Key{other, first}, firstToken, api.ErrSignature},
		{[]api.Key{other, first}, signed("k1", "another", text(full())), api.OK},
		{[]api.Key{empty}, signed("k1", "", text(full())), api.OK},
		{[]api.Key{empty}, firstToken, api.ErrSignature},
		{[]api.Key{wrong, first}, firstToken, api.ErrArg},
		{[]api.Key{wrong, first}, firstToken[:len(firstToken)-1] + "8", api.ErrArg},
	} {
		got, e := token.Verify(y.l, y.s, expect(100, 0))
		if y.want == api.OK {
			wantClaims(t, "Verify", got, e, full())
		} else {
			wantNone(t, "Verify", got, e, y.want)
		}
	}
}

// P26.3: the errors in their order.
func TestVerifyErrors(t *testing.T) {
	for _, s := range notTokens() {
		for _, l := range [][]api.Key{ring(), nil} {
			got, e := token.Verify(l, s, api.Expect{})
			wantNone(t, "Verify of "+s, got, e, api.ErrForm)
			if n := token.Left(l, s, api.Expect{}); n != 0 {
				t.Errorf("Left of %q = %d", s, n)
			}
		}
	}
	for _, bad := range append(badTexts(), badText{text(full()), api.OK}) {
		for _, y := range []struct {
			id, secret string
			now        int
			want       api.Errno
		}{
			{"k3", "one", 50, api.ErrKey}, {"K1", "one", 50, api.ErrKey},
			{"k1", "one", 9, api.ErrEarly}, {"k1", "two", 9, api.ErrEarly},
			{"k1", "one", 200, api.ErrExpired}, {"k1", "two", 200, api.ErrExpired},
			{"k1", "two words", 50, api.ErrSignature}, {"k.2", "one", 150, api.ErrSignature},
		} {
			got, e := token.Verify(ring(), signed(y.id, y.secret, bad.s), api.Expect{Kind: "x", Now: y.now})
			wantNone(t, "Verify", got, e, y.want)
		}
		if bad.want != api.OK {
			got, e := token.Verify(ring(), signed("k1", "one", bad.s), api.Expect{Now: 50})
			wantNone(t, "Verify", got, e, bad.want)
		}
	}
	for _, y := range []struct {
		change func(x *api.Expect)
		want   api.Errno
	}{
		{func(x *api.Expect) { x.Kind = "id" }, api.ErrArg},
		{func(x *api.Expect) { x.Issuer = "you" }, api.ErrIssuer},
		{func(x *api.Expect) { x.Tenant = "t:2" }, api.ErrTenant},
		{func(x *api.Expect) { x.Audience = "calendar" }, api.ErrAudience},
	} {
		// At 50 the key is accepted, but the claims are early.
		for _, now := range []int{100, 50} {
			x := expect(now, 0)
			y.change(&x)
			got, e := token.Verify(ring(), firstToken, x)
			wantNone(t, "Verify", got, e, y.want)
		}
	}
}

// P26.3, P26.7: no token with one byte changed, removed or added is accepted.
func TestVerifyEdits(t *testing.T) {
	const edits = ".0123456789abcdefAQkz_- \n\xff"
	x := expect(150, 0)
	for _, s := range []string{firstToken, secondToken} {
		got, e := token.Verify(ring(), s, x)
		wantClaims(t, "Verify", got, e, full())
		for at := range len(s) {
			edited := []string{s[:at] + s[at+1:], s[:at]}
			for i := range len(edits) {
				edited = append(edited, s[:at]+edits[i:i+1]+s[at+1:], s[:at]+edits[i:i+1]+s[at:])
			}
			for _, other := range edited {
				if _, e := token.Verify(ring(), other, x); e == api.OK && other != s {
					t.Errorf("Verify accepts %q", other)
				}
			}
		}
	}
	last := firstToken[:len(firstToken)-1]
	for _, digit := range "012345689abcdef" {
		got, e := token.Verify(ring(), last+string(digit), x)
		wantNone(t, "Verify of another digit", got, e, api.ErrSignature)
	}
	// The signature belongs to the whole head: the identifier, too.
	keys := append(ring(), api.Key{ID: "k3", Secret: "one", Sign: window(10, 100), Accept: window(10, 200)})
	got, e := token.Verify(keys, "k3"+strings.TrimPrefix(firstToken, "k1"), x)
	wantNone(t, "Verify of another key with the same secret", got, e, api.ErrSignature)
}

// P26.6
func TestLeft(t *testing.T) {
	for _, y := range []struct {
		s               string
		now, skew, want int
	}{
		{firstToken, 95, 0, 105}, {firstToken, 94, 0, 0}, {firstToken, 199, 0, 1}, {firstToken, 200, 0, 0},
		{firstToken, 90, 5, 115}, {firstToken, 89, 5, 0}, {firstToken, 204, 5, 1}, {firstToken, 205, 5, 0},
		{secondToken, 290, 5, 15}, {secondToken, 100, 0, 200}, {secondToken, 99, 0, 0}, {secondToken, 299, 0, 1}, {secondToken, 300, 0, 0},
		{secondToken, 290, -5, 10}, {secondToken, 290, math.MinInt, 10},
		{secondToken, 290, api.MaxSkew, 10 + api.MaxSkew}, {secondToken, 290, math.MaxInt, 10 + api.MaxSkew},
		{secondToken, -7, 100, 400}, {secondToken, math.MinInt, 100, 400}, {secondToken, 0, 99, 0}, {secondToken, math.MaxInt, 600, 0},
	} {
		if n := token.Left(ring(), y.s, expect(y.now, y.skew)); n != y.want {
			t.Errorf("Left of %.3s at %d with skew %d = %d, not %d", y.s, y.now, y.skew, n, y.want)
		}
	}
	x := expect(150, 0)
	x.Audience = "calendar"
	if n := token.Left(ring(), firstToken, x); n != 0 {
		t.Errorf("Left for another audience = %d", n)
	}
	if n := token.Left(nil, firstToken, expect(150, 0)); n != 0 {
		t.Errorf("Left without keys = %d", n)
	}
	if n := token.Left(ring(), firstToken[:len(firstToken)-1]+"8", expect(150, 0)); n != 0 {
		t.Errorf("Left with another signature = %d", n)
	}
}

// P26.6: near the last instant, and with keys of a ring that is not valid.
func TestLeftLimits(t *testing.T) {
	const last = api.MaxTime
	for _, y := range []struct{ expires, until, now, skew, want int }{
		{last, last, last - 3, 0, 3}, {last, last, last, 0, 0}, {last, last, last, 1, 1}, {last, last, last - 3, 1, 4},
		{last, last, last - 3, api.MaxSkew, 4}, {last, last, math.MaxInt, api.MaxSkew, 1}, {last, last, last, -1, 0},
		{last - 5, last, last - 5, 3, 3}, {last - 5, last, last - 5, 6, 6}, {last - 5, last, last - 5, 7, 6},
		{last, last - 5, last - 5, 3, 3}, {last, last - 5, last - 5, 6, 6}, {last, last - 5, last - 5, 7, 6},
		{last, math.MaxInt, last - 3, 0, 3}, {last, math.MaxInt, last - 3, api.MaxSkew, 4}, {last, last + 1, last - 3, 2, 4},
		{last, last, 0, 0, last}, {last, last, math.MinInt, 1, last + 1}, {9, math.MaxInt, 0, 2, 11},
		{0, 0, 0, 0, 0}, {0, 0, 0, 3, 3}, {9, -2, 0, 3, 1}, {9, -3, 0, 3, 0},
	} {
		l := []api.Key{{ID: "k", Secret: "s", Accept: window(math.MinInt, y.until)}}
		c := with(func(c *api.Claims) { c.Issued, c.NotBefore, c.Expires = 0, 0, y.expires })
		if n := token.Left(l, signed("k", "s", text(c)), expect(y.now, y.skew)); n != y.want {
			t.Errorf("Left of %+v = %d", y, n)
		}
	}
}

// model is P26.3 by the definition, for tokens of the right form.
func model(l []api.Key, s string, x api.Expect) api.Errno {
	at := strings.LastIndexByte(s, '.')
	head := s[:at]
	middle := strings.LastIndexByte(head, '.')
	i := slices.IndexFunc(l, func(k api.Key) bool { return k.ID == head[:middle] })
	if i < 0 {
		return api.ErrKey
	}
	bytes, _ := codec.ReadBase64(head[middle+1:])
	c, e := claims.Decode(bytes)
	now, skew := min(max(x.Now, 0), api.MaxTime), min(max(x.Skew, 0), api.MaxSkew)
	switch k := l[i]; {
	case k.Accept.From > k.Accept.Until:
		return api.ErrArg
	case now+skew < k.Accept.From:
		return api.ErrEarly
	case now-skew >= k.Accept.Until:
		return api.ErrExpired
	case s != head+"."+digest.Text(digest.Mac(k.Secret, head)):
		return api.ErrSignature
	case e != api.OK:
		return e
	}
	return claims.Allow(c, x)
}

// drawn are arguments of Verify.
type drawn struct {
	l []api.Key
	c api.Claims
	s string
	x api.Expect
}

// draw returns arguments of Verify with instants up to 30: a token, whose
// signature may be wrong, and a receiver, who may expect something else.
func draw(r *rand.Rand) drawn {
	var d drawn
	for range r.Intn(4) {
		d.l = append(d.l, api.Key{
			ID:     []string{"k", "k.1", "."}[r.Intn(3)],
			Secret: []string{"a", "b"}[r.Intn(2)],
			Accept: window(r.Intn(20)-3, r.Intn(30)),
		})
	}
	expires := 5 + r.Intn(20)
	d.c = with(func(c *api.Claims) {
		c.Issued, c.NotBefore, c.Expires = r.Intn(expires), r.Intn(expires), expires
	})
	d.s = signed([]string{"k", "k.1", "."}[r.Intn(3)], []string{"a", "b"}[r.Intn(2)], text(d.c))
	d.x = expect(r.Intn(30)-2, r.Intn(5)-1)
	switch r.Intn(12) {
	case 0:
		d.x.Kind = "id"
	case 1:
		d.x.Issuer = "you"
	case 2:
		d.x.Audience = "calendar"
	case 3:
		d.x.Tenant = "t:2"
	}
	return d
}

// P26.3, P26.6, P26.7: random tokens, rings and receivers.
func TestVerifyDefinition(t *testing.T) {
	r := rand.New(rand.NewSource(26))
	seen := map[api.Errno]int{}
	for range 40000 {
		d := draw(r)
		want := model(d.l, d.s, d.x)
		seen[want]++
		got, e := token.Verify(d.l, d.s, d.x)
		if want == api.OK {
			wantClaims(t, "Verify", got, e, d.c)
		} else {
			wantNone(t, "Verify", got, e, want)
		}
		left := 0
		for x := d.x; model(d.l, d.s, x) == api.OK; left++ {
			x.Now = max(x.Now, 0) + 1
		}
		if n := token.Left(d.l, d.s, d.x); n != left {
			t.Fatalf("Left of %+v = %d, not %d", d, n, left)
		}
	}
	for _, e := range []api.Errno{
		api.OK, api.ErrKey, api.ErrArg, api.ErrEarly, api.ErrExpired, api.ErrSignature, api.ErrIssuer, api.ErrTenant, api.ErrAudience,
	} {
		if seen[e] < 100 {
			t.Errorf("%d results %d", seen[e], int(e))
		}
	}
}

// P26.7, P26.8: what Sign returns is verified, and different for different claims.
func TestSignVerify(t *testing.T) {
	r := rand.New(rand.NewSource(7))
	seen := map[string]api.Claims{}
	for range 5000 {
		c := with(func(c *api.Claims) {
			c.Expires = 100 + r.Intn(60)
			c.Issued, c.NotBefore = r.Intn(100), 80+r.Intn(20)
			c.Audience = [][]string{{"files"}, {"mail"}, {"mail", "files"}}[r.Intn(3)]
			c.Level = r.Intn(4)
		})
		now := 80 + r.Intn(100)
		s, e := token.Sign(ring(), c, now)
		if e != api.OK {
			t.Fatalf("Sign of %+v = %d", c, int(e))
		}
		if other, is := seen[s]; is && !claims.Equal(other, c) {
			t.Fatalf("%+v and %+v have one token", c, other)
		}
		seen[s] = c
		got, e := token.Peek(s)
		wantClaims(t, "Peek", got, e, c)
		x := expect(now, r.Intn(3))
		got, e = token.Verify(ring(), s, x)
		if want := claims.Allow(c, x); want == api.OK {
			wantClaims(t, "Verify", got, e, c)
		} else {
			wantNone(t, "Verify", got, e, want)
		}
	}
}
