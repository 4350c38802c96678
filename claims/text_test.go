package claims_test

import (
	"math/rand"
	"strings"
	"testing"

	"identity/api"
	"identity/claims"
)

// fullText is the text form of the claims full.
const fullText = "kind=access\nissuer=https://id/a%20b\nsubject=cn%3Dann%2Co%3Dx\nclient=web\ntenant=t:1\n" +
	"id=j-1\nsession=s_1\nnonce=n.1\naudience=mail|files\nscopes=a.read|b.read\nactors=bob|cn%3Dcid\n" +
	"issued=90\nnotbefore=95\nexpires=300\nauthtime=80\nlevel=2\n"

// leastText is the text form of the claims least.
const leastText = "kind=a\nissuer=b\nsubject=c\nclient=d\ntenant=e\nid=f\nsession=\nnonce=\naudience=g\nscopes=-\nactors=-\n" +
	"issued=0\nnotbefore=0\nexpires=0\nauthtime=0\nlevel=0\n"

// replaced returns the text form of the claims full with one line in place of another.
func replaced(old, new string) string {
	return strings.Replace(fullText, old, new, 1)
}

// long returns claims whose text form has MaxText + extra bytes.
func long(extra int) api.Claims {
	c := least()
	value := strings.Repeat("=", api.MaxValue) // each byte of it has a form of three
	c.Issuer, c.Subject, c.Actors = value, value, []string{value, value, value}
	c.Nonce = bytes(api.MaxName)
	c.Session = bytes(49 + extra)
	return c
}

// P25.2
func TestEncode(t *testing.T) {
	for _, y := range []struct {
		c    api.Claims
		want string
	}{
		{full(), fullText},
		{least(), leastText},
		{with(func(c *api.Claims) { c.Issuer = "-" }), replaced("issuer=https://id/a%20b", "issuer=-")},
		{with(func(c *api.Claims) { c.Audience = []string{"-"} }), replaced("mail|files", "%2D")},
		{with(func(c *api.Claims) { c.Actors = []string{"-", "-"} }), replaced("bob|cn%3Dcid", "-|-")},
		{with(func(c *api.Claims) { c.Actors = []string{"a|b", "%\""} }), replaced("bob|cn%3Dcid", "a%7Cb|%25%22")},
		{with(func(c *api.Claims) { c.AuthTime = api.MaxTime }), replaced("authtime=80", "authtime=1099511627776")},
	} {
		if got, e := claims.Encode(y.c); got != y.want || e != api.OK {
			t.Errorf("Encode of %+v = %q, %d, not %q", y.c, got, int(e), y.want)
		}
		got, e := claims.Decode(y.want)
		wantClaims(t, "Decode", got, e, y.c)
	}
	for i, f := range faults() {
		if got, e := claims.Encode(with(f.change)); got != "" || e != f.want {
			t.Errorf("Encode with fault %d = %q, %d, not %d", i, got, int(e), int(f.want))
		}
	}
}

// P25.2: the length of the text form.
func TestLength(t *testing.T) {
	s, e := claims.Encode(long(0))
	if len(s) != api.MaxText || e != api.OK {
		t.Fatalf("Encode of long claims = %d bytes, %d", len(s), int(e))
	}
	c, e := claims.Decode(s)
	wantClaims(t, "Decode", c, e, long(0))
	if s, e := claims.Encode(long(1)); s != "" || e != api.ErrLimit {
		t.Errorf("Encode of longer claims = %q, %d", s, int(e))
	}
	bad := long(1)
	bad.Level = 4
	if s, e := claims.Encode(bad); s != "" || e != api.ErrRange {
		t.Errorf("Encode of longer claims with a fault = %q, %d", s, int(e))
	}
	for _, y := range []struct {
		s    string
		want api.Errno
	}{
		{s + "\n", api.ErrLimit},
		{strings.Replace(s, "session=", "session=b", 1), api.ErrLimit},
		{bytes(api.MaxText + 1), api.ErrLimit},
		{bytes(api.MaxText), api.ErrForm},
		{s[1:] + "\n", api.ErrForm},
	} {
		c, e := claims.Decode(y.s)
		wantNone(t, "Decode", c, e, y.want)
	}
}

// P25.2
func TestDecodeErrors(t *testing.T) {
	lines := strings.SplitAfter(fullText, "\n")[:16]
	join := func(l ...string) string { return strings.Join(l, "") }
	var bad []string
	for i, line := range lines {
		before, after := join(lines[:i]...), join(lines[i+1:]...)
		key, value, _ := strings.Cut(line, "=")
		bad = append(bad,
			before+after,
			before+line+line+after,
			before+strings.ToUpper(key)+"="+value+after,
			before+key+value+after,
			before+key+"=="+value+after,
			before+key+" ="+value+after,
			before+key+"= "+value+after,
			before+" "+line+after,
			before+"\n"+line+after,
			before+"x=y\n"+line+after,
			before+strings.TrimSuffix(line, "\n")+after,
			before+strings.TrimSuffix(line, "\n")+"\r\n"+after,
			before+strings.TrimSuffix(line, "\n")+" \n"+after,
			before+strings.TrimSuffix(line, "\n")+"%\n"+after,
			before+strings.TrimSuffix(line, "\n")+"%41\n"+after,
			before+strings.TrimSuffix(line, "\n")+"%7c\n"+after,
			before+strings.TrimSuffix(line, "\n")+"\x00\n"+after,
			before+strings.TrimSuffix(line, "\n")+"é\n"+after,
			before,
		)
		for j := range i {
			swapped := append([]string(nil), lines...)
			swapped[i], swapped[j] = swapped[j], swapped[i]
			bad = append(bad, join(swapped...))
		}
	}
	bad = append(bad, "", "\n", fullText+"\n", fullText+"x", fullText+fullText, "\n"+fullText, " "+fullText,
		strings.ReplaceAll(fullText, "\n", "\r"), strings.ToUpper(fullText), fullText[:len(fullText)-1],
		replaced("session=s_1", "session=%2D%"), replaced("mail|files", "mail,files"), replaced("level=2", "level=+2"))
	for _, s := range bad {
		c, e := claims.Decode(s)
		wantNone(t, "Decode of "+s, c, e, api.ErrForm)
	}
}

// P25.2: a text of which Encode would return an error is none of any claims.
func TestDecodeFaults(t *testing.T) {
	for _, y := range [][2]string{
		{"kind=access", "kind="}, {"kind=access", "kind=a%20b"}, {"client=web", "client="}, {"tenant=t:1", "tenant="}, {"id=j-1", "id=%FF"},
		{"issuer=https://id/a%20b", "issuer="}, {"issuer=https://id/a%20b", "issuer=a%20"}, {"cn%3Dann%2Co%3Dx", ""}, {"cn%3Dann%2Co%3Dx", "%0A"},
		{"session=s_1", "session=%20"}, {"nonce=n.1", "nonce=%7C"},
		{"mail|files", "-"}, {"mail|files", ""}, {"mail|files", "mail|mail"}, {"mail|files", "mail|"}, {"mail|files", strings.Join(words(17), "|")},
		{"a.read|b.read", ""}, {"a.read|b.read", "b.read|a.read"}, {"a.read|b.read", "a.read|a.read"}, {"a.read|b.read", strings.Join(words(17), "|")},
		{"bob|cn%3Dcid", ""}, {"bob|cn%3Dcid", "a|b|c|d|e"}, {"bob|cn%3Dcid", "a|"}, {"bob|cn%3Dcid", "%20a"},
		{"issued=90", "issued=-1"}, {"issued=90", "issued=301"}, {"notbefore=95", "notbefore=-1"}, {"notbefore=95", "notbefore=301"},
		{"expires=300", "expires=94"}, {"expires=300", "expires=-1"}, {"expires=300", "expires=1099511627777"},
		{"authtime=80", "authtime=-1"}, {"authtime=80", "authtime=1099511627777"}, {"level=2", "level=-1"}, {"level=2", "level=4"},
		{"expires=300", "expires=9223372036854775808"}, {"expires=300", "expires=18446744073709551916"}, {"issued=90", "issued=-9223372036854775809"},
		{"issued=90", "issued="}, {"issued=90", "issued=090"}, {"level=2", "level=-0"}, {"level=2", "level=-"}, {"level=2", "level=0x2"},
	} {
		s := replaced(y[0], y[1])
		if s == fullText {
			t.Fatalf("%s is not in the text", y[0])
		}
		c, e := claims.Decode(s)
		wantNone(t, "Decode of "+s, c, e, api.ErrForm)
	}
}

// P25.7: Decode inverts Encode.
func TestDecodeInvertsEncode(t *testing.T) {
	r := rand.New(rand.NewSource(7))
	seen := map[string]api.Claims{}
	for range 5000 {
		c := random(r)
		c.Subject = string(rune(33+r.Intn(94))) + string(rune(32+r.Intn(95))) + string(rune(33+r.Intn(94)))
		s, e := claims.Encode(c)
		if e != api.OK {
			t.Fatalf("Encode of %+v = %d", c, int(e))
		}
		d, e := claims.Decode(s)
		wantClaims(t, "Decode of Encode", d, e, c)
		if other, is := seen[s]; is && !equal(other, c) {
			t.Fatalf("%+v and %+v have one form", c, other)
		}
		seen[s] = c
	}
}

// P25.7: Encode inverts Decode, for what edits of a text leave readable.
func TestEncodeInvertsDecode(t *testing.T) {
	const edits = "\n =%-|012a.é\x00"
	readable := 0
	try := func(s string) {
		c, e := claims.Decode(s)
		if e != api.OK {
			wantNone(t, "Decode", c, e, api.ErrForm)
			return
		}
		readable++
		if back, e := claims.Encode(c); back != s || e != api.OK {
			t.Errorf("Encode of Decode of %q = %q, %d", s, back, int(e))
		}
	}
	for _, text := range []string{fullText, leastText} {
		for at := range len(text) {
			try(text[:at])
			try(text[at:])
			try(text[:at] + text[at+1:])
			for i := range len(edits) {
				try(text[:at] + edits[i:i+1] + text[at:])
				try(text[:at] + edits[i:i+1] + text[at+1:])
			}
		}
	}
	r := rand.New(rand.NewSource(7))
	for range 100000 {
		b := []byte(leastText)
		for range 1 + r.Intn(3) {
			b[r.Intn(len(b))] = edits[r.Intn(len(edits))]
		}
		try(string(b))
	}
	if readable < 2000 {
		t.Errorf("%d readable texts", readable)
	}
}
