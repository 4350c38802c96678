package token_test

import (
	"math"
	"slices"
	"strings"
	"testing"

	"identity/api"
	"identity/claims"
	"identity/codec"
	"identity/digest"
	"identity/token"
)

// The parts of the following tokens were calculated by another program.
const (
	fullPayload = "a2luZD1hY2Nlc3MKaXNzdWVyPWh0dHBzOi8vaWQvYSUyMGIKc3ViamVjdD1jbiUzRGFubiUyQ28lM0R4CmNsaWVudD13ZWIK" +
		"dGVuYW50PXQ6MQppZD1qLTEKc2Vzc2lvbj1zXzEKbm9uY2U9bi4xCmF1ZGllbmNlPW1haWx8ZmlsZXMKc2NvcGVzPWEucmVhZHxiLnJlYWQK" +
		"YWN0b3JzPWJvYnxjbiUzRGNpZAppc3N1ZWQ9OTAKbm90YmVmb3JlPTk1CmV4cGlyZXM9MzAwCmF1dGh0aW1lPTgwCmxldmVsPTIK"
	leastPayload = "a2luZD1hCmlzc3Vlcj1iCnN1YmplY3Q9YwpjbGllbnQ9ZAp0ZW5hbnQ9ZQppZD1mCnNlc3Npb249Cm5vbmNlPQphdWRpZW5jZT1n" +
		"CnNjb3Blcz0tCmFjdG9ycz0tCmlzc3VlZD0wCm5vdGJlZm9yZT0wCmV4cGlyZXM9MAphdXRodGltZT0wCmxldmVsPTAK"
	firstToken  = "k1." + fullPayload + ".632513fab4dc32e7"
	secondToken = "k.2." + fullPayload + ".ef2ccd2a11bf0d59"
	leastToken  = ".." + "." + leastPayload + ".3450dc2e7400e5ed"
)

// some is a signature that is none of a key of these tests.
const some = "0123456789abcdef"

// window returns a window.
func window(from, until int) api.Window {
	return api.Window{From: from, Until: until}
}

// ring returns two keys, of which the first one signs until 100, and the second one from 100 on.
func ring() []api.Key {
	return []api.Key{
		{ID: "k1", Secret: "one", Sign: window(10, 100), Accept: window(10, 200)},
		{ID: "k.2", Secret: "two words", Sign: window(100, 1000), Accept: window(100, 1100)},
	}
}

// full returns the claims of the first two tokens.
func full() api.Claims {
	return api.Claims{
		Kind: "access", Issuer: "https://id/a b", Subject: "cn=ann,o=x", Client: "web", Tenant: "t:1",
		ID: "j-1", Session: "s_1", Nonce: "n.1",
		Audience: []string{"mail", "files"}, Scopes: []string{"a.read", "b.read"}, Actors: []string{"bob", "cn=cid"},
		Issued: 90, NotBefore: 95, Expires: 300, AuthTime: 80, Level: 2,
	}
}

// least returns valid claims with as little contents as possible.
func least() api.Claims {
	return api.Claims{Kind: "a", Issuer: "b", Subject: "c", Client: "d", Tenant: "e", ID: "f", Audience: []string{"g"}}
}

// with returns the claims full with a change.
func with(change func(c *api.Claims)) api.Claims {
	c := full()
	change(&c)
	return c
}

// long returns valid claims whose text form has more than MaxText bytes.
func long() api.Claims {
	value := strings.Repeat("=", api.MaxValue)
	return with(func(c *api.Claims) {
		c.Issuer, c.Subject, c.Actors = value, value, []string{value, value, value, value}
	})
}

// expect returns what a receiver of the claims full expects.
func expect(now, skew int) api.Expect {
	return api.Expect{Kind: "access", Issuer: "https://id/a b", Audience: "files", Tenant: "t:1", Now: now, Skew: skew}
}

// signed returns a token of any text, with the signature of a secret by the definition.
func signed(id, secret, text string) string {
	head := id + "." + codec.Base64(text)
	return head + "." + digest.Text(digest.Mac(secret, head))
}

// bytes returns n bytes.
func bytes(n int) string {
	return strings.Repeat("b", n)
}

// notWords returns strings that are no words.
func notWords() []string {
	return []string{"", " ", "a b", "k ", " k", "k|", "k%20", "k=", "ké", "k\n", "\xff", bytes(api.MaxName + 1)}
}

// notSignatures returns strings that are no 16 hexadecimal digits.
func notSignatures() []string {
	return []string{"", "0", some[1:], some + "0", strings.ToUpper(some), "g" + some[1:], some[1:] + " ", "0x" + some[2:], "-" + some[1:], some[1:] + "\n", "é" + some[2:]}
}

// wantText reports an error unless got and e are the token want and no error.
func wantText(t *testing.T, what, got string, e api.Errno, want string) {
	t.Helper()
	if got != want || e != api.OK {
		t.Errorf("%s = %q, %d, not %q", what, got, int(e), want)
	}
}

// wantNoText reports an error unless got and e are no token and the error want.
func wantNoText(t *testing.T, what, got string, e, want api.Errno) {
	t.Helper()
	if got != "" || e != want {
		t.Errorf("%s = %q, %d, not %d", what, got, int(e), int(want))
	}
}

// wantClaims reports an error unless got and e are the claims want and no error.
func wantClaims(t *testing.T, what string, got api.Claims, e api.Errno, want api.Claims) {
	t.Helper()
	if !claims.Equal(got, want) || e != api.OK {
		t.Errorf("%s = %+v, %d, not %+v", what, got, int(e), want)
	}
}

// wantNone reports an error unless got and e are no claims and the error want.
func wantNone(t *testing.T, what string, got api.Claims, e, want api.Errno) {
	t.Helper()
	if !claims.Equal(got, api.Claims{}) || e != want {
		t.Errorf("%s = %+v, %d, not %d", what, got, int(e), int(want))
	}
}

// P26.1
func TestSign(t *testing.T) {
	for _, y := range []struct {
		l    []api.Key
		c    api.Claims
		now  int
		want string
	}{
		{ring(), full(), 10, firstToken},
		{ring(), full(), 99, firstToken},
		{ring(), full(), 100, secondToken},
		{ring(), full(), 999, secondToken},
		// Neither the claims nor the window Accept say when a token may be signed.
		{ring(), with(func(c *api.Claims) { c.Issued = 300 }), 10, signed("k1", "one", strings.Replace(text(full()), "issued=90", "issued=300", 1))},
		{[]api.Key{{ID: "..", Secret: "~", Sign: window(0, 1), Accept: window(0, 1)}}, least(), 0, leastToken},
		{[]api.Key{{ID: "..", Secret: "~", Sign: window(0, 1), Accept: window(0, 1)}}, least(), math.MinInt, leastToken},
		{[]api.Key{
			{ID: "..", Secret: "~", Sign: window(5, 9), Accept: window(0, 9)},
			{ID: "k3", Secret: "!", Sign: window(4, 9), Accept: window(0, 9)},
			{ID: "--", Secret: "!", Sign: window(5, 9), Accept: window(0, 9)},
		}, least(), 7, leastToken},
	} {
		got, e := token.Sign(y.l, y.c, y.now)
		wantText(t, "Sign", got, e, y.want)
	}
}

// text returns the text form of valid claims.
func text(c api.Claims) string {
	s, _ := claims.Encode(c)
	return s
}

// P26.1: the errors in their order.
func TestSignErrors(t *testing.T) {
	twice := append(ring(), ring()[0])
	for _, c := range []api.Claims{full(), long(), {}} {
		for _, now := range []int{50, 5} {
			got, e := token.Sign(twice, c, now)
			wantNoText(t, "Sign with a ring that is not valid", got, e, api.ErrTwice)
			got, e = token.Sign(make([]api.Key, api.MaxKeys+1), c, now)
			wantNoText(t, "Sign with many keys", got, e, api.ErrLimit)
			got, e = token.Sign(make([]api.Key, 1), c, now)
			wantNoText(t, "Sign with a key without contents", got, e, api.ErrName)
		}
	}
	for _, now := range []int{50, 5} {
		got, e := token.Sign(ring(), with(func(c *api.Claims) { c.Audience = nil }), now)
		wantNoText(t, "Sign of claims without an audience", got, e, api.ErrNone)
		got, e = token.Sign(nil, with(func(c *api.Claims) { c.Level = 4 }), now)
		wantNoText(t, "Sign of claims with level 4", got, e, api.ErrRange)
	}
	for _, c := range []api.Claims{full(), long()} {
		for _, now := range []int{9, 1000, 1099, math.MinInt, math.MaxInt} {
			got, e := token.Sign(ring(), c, now)
			wantNoText(t, "Sign while no key signs", got, e, api.ErrKey)
		}
		got, e := token.Sign(nil, c, 50)
		wantNoText(t, "Sign without keys", got, e, api.ErrKey)
	}
	got, e := token.Sign(ring(), long(), 50)
	wantNoText(t, "Sign of long claims", got, e, api.ErrLimit)
}

// P26.2
func TestSplit(t *testing.T) {
	for _, y := range []struct{ id, text, sum string }{
		{"k1", text(full()), "632513fab4dc32e7"},
		{"k.2", text(full()), "ef2ccd2a11bf0d59"},
		{"..", text(least()), "3450dc2e7400e5ed"},
		{"a.b..c:", text(least()), some},
		{".", text(least()), some},
		{bytes(api.MaxName), text(least()), "0000000000000000"},
		// The text form is not examined.
		{"k1", "", "ffffffffffffffff"},
		{"k1", "A", some},
		{"k1", "\x00\xff.é", some},
		{"k1", bytes(3 * api.MaxText), some},
	} {
		s := y.id + "." + codec.Base64(y.text) + "." + y.sum
		id, text, sum, e := token.Split(s)
		if id != y.id || text != y.text || sum != y.sum || e != api.OK {
			t.Errorf("Split of %q = %q, %q, %q, %d", s, id, text, sum, int(e))
		}
	}
	for _, s := range []string{firstToken, secondToken, leastToken} {
		id, text, sum, e := token.Split(s)
		if s != id+"."+codec.Base64(text)+"."+sum || e != api.OK {
			t.Errorf("Split of %q = %q, %q, %q, %d", s, id, text, sum, int(e))
		}
	}
}

// notTokens returns strings that are not of the form of a token.
func notTokens() []string {
	l := []string{
		"", ".", "..", "...", "a.b", "a", "k1", "k1." + some, "." + some, ".." + some, ".QQ." + some,
		"k1.QQ" + some, "k1.QQ.", "k1.QQ." + some + ".", ".k1.QQ." + some + " ", " k1.QQ." + some, "k1.QQ." + some + "\n",
		"k1. ." + some, "k1.Q." + some, "k1.QR." + some, "k1.QQ==." + some, "k1.Q+." + some, "k1.Q/." + some, "k1.QQ\n." + some, "k1.\xff\xff." + some,
		"k1.QQ." + some + "." + some[:15], "k1,QQ." + some, "k1.QQ," + some, "é.QQ." + some,
	}
	for _, s := range notWords() {
		l = append(l, s+".QQ."+some)
	}
	for _, s := range notSignatures() {
		l = append(l, "k1.QQ."+s)
	}
	return l
}

// P26.2
func TestSplitErrors(t *testing.T) {
	for _, s := range notTokens() {
		id, text, sum, e := token.Split(s)
		if id != "" || text != "" || sum != "" || e != api.ErrForm {
			t.Errorf("Split of %q = %q, %q, %q, %d", s, id, text, sum, int(e))
		}
	}
	// The payload of 16 digits is one, too.
	if id, _, sum, e := token.Split("k1." + some + "." + some); id != "k1" || sum != some || e != api.OK {
		t.Errorf("Split = %q, %q, %d", id, sum, int(e))
	}
}

// P26.4
func TestPeek(t *testing.T) {
	for _, y := range []struct {
		s    string
		want api.Claims
	}{
		{firstToken, full()}, {secondToken, full()}, {leastToken, least()},
		{"unknown." + fullPayload + "." + some, full()},
	} {
		got, e := token.Peek(y.s)
		wantClaims(t, "Peek", got, e, y.want)
	}
	for _, s := range notTokens() {
		got, e := token.Peek(s)
		wantNone(t, "Peek of "+s, got, e, api.ErrForm)
	}
	for _, y := range badTexts() {
		got, e := token.Peek(signed("k1", "one", y.s))
		wantNone(t, "Peek of "+y.s, got, e, y.want)
	}
}

// badText is a string that is no text form of claims, with the error of reading it.
type badText struct {
	s    string
	want api.Errno
}

// badTexts returns strings that are no text form of claims.
func badTexts() []badText {
	return []badText{
		{"", api.ErrForm},
		{"A", api.ErrForm},
		{text(full())[1:], api.ErrForm},
		{text(full()) + "\n", api.ErrForm},
		{strings.Replace(text(full()), "level=2", "level=4", 1), api.ErrForm},
		{strings.Replace(text(full()), "issued=90", "issued=301", 1), api.ErrForm},
		{bytes(api.MaxText), api.ErrForm},
		{bytes(api.MaxText + 1), api.ErrLimit},
		{text(full()) + bytes(api.MaxText), api.ErrLimit},
	}
}

// P26.5
func TestForge(t *testing.T) {
	for _, id := range []string{"k1", "k.2", ".", "..", "a.b..c:", bytes(api.MaxName)} {
		for _, sum := range []string{some, "0000000000000000", "ffffffffffffffff"} {
			got, e := token.Forge(id, full(), sum)
			wantText(t, "Forge", got, e, id+"."+fullPayload+"."+sum)
			back, text, last, e := token.Split(got)
			if c, _ := claims.Decode(text); back != id || last != sum || !claims.Equal(c, full()) || e != api.OK {
				t.Errorf("Split of Forge = %q, %q, %q, %d", back, text, last, int(e))
			}
		}
	}
	got, e := token.Forge("k1", full(), some)
	wantText(t, "Forge", got, e, "k1."+fullPayload+"."+some)
	c, e := token.Verify(ring(), got, expect(100, 0))
	wantNone(t, "Verify of Forge", c, e, api.ErrSignature)
	// The signature can happen to be right.
	got, e = token.Forge("k1", full(), "632513fab4dc32e7")
	wantText(t, "Forge", got, e, firstToken)
}

// P26.5: the errors in their order.
func TestForgeErrors(t *testing.T) {
	for _, id := range notWords() {
		got, e := token.Forge(id, full(), some)
		wantNoText(t, "Forge with a wrong identifier", got, e, api.ErrName)
		got, e = token.Forge(id, api.Claims{}, "")
		wantNoText(t, "Forge with nothing", got, e, api.ErrName)
		got, e = token.Forge(id, with(func(c *api.Claims) { c.Level = 4 }), "")
		wantNoText(t, "Forge with a wrong identifier and level", got, e, api.ErrName)
	}
	for _, sum := range append(notSignatures(), some) {
		got, e := token.Forge("k1", with(func(c *api.Claims) { c.Audience = nil }), sum)
		wantNoText(t, "Forge of claims without an audience", got, e, api.ErrNone)
		got, e = token.Forge("k1", with(func(c *api.Claims) { c.Level = 4 }), sum)
		wantNoText(t, "Forge of claims with level 4", got, e, api.ErrRange)
	}
	for _, sum := range notSignatures() {
		for _, c := range []api.Claims{full(), long()} {
			got, e := token.Forge("k1", c, sum)
			wantNoText(t, "Forge with a wrong signature", got, e, api.ErrForm)
		}
	}
	got, e := token.Forge("k1", long(), some)
	wantNoText(t, "Forge of long claims", got, e, api.ErrLimit)
}

// P26.1 to P26.6: arguments are not changed.
func TestArguments(t *testing.T) {
	l, c := ring(), full()
	s, _ := token.Sign(l, c, 50)
	got, _ := token.Verify(l, s, expect(100, 0))
	again, _ := token.Verify(l, s, expect(100, 0))
	for _, list := range [][]string{got.Audience, got.Scopes, got.Actors} {
		for i := range list {
			list[i] = "!"
		}
	}
	token.Left(l, s, expect(100, 0))
	token.Forge("k1", c, some)
	if !slices.Equal(l, ring()) || !claims.Equal(c, full()) || !claims.Equal(again, full()) {
		t.Errorf("the arguments became %+v, %+v, and the claims %+v", l, c, again)
	}
}
