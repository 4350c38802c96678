package proof_test

import (
	"math/rand"
	"strings"
	"testing"

	"identity/api"
	"identity/digest"
	"identity/proof"
)

// plainBytes are the bytes of plain words.
const plainBytes = "ABCDEFGHIJKLMNOPQRSTUVWXYZabcdefghijklmnopqrstuvwxyz0123456789-_:"

// secrets returns secrets: any strings.
func secrets() []string {
	return []string{"", "k", " ", "a|b", "1:k", "\xff\n", strings.Repeat("k", 1000)}
}

// plainWords returns strings that are plain words.
func plainWords() []string {
	return []string{"a", "A", "0", "-", "_", ":", "s1", "S:1_-", strings.Repeat("s", api.MaxName)}
}

// notPlainWords returns strings that are no plain words.
func notPlainWords() []string {
	return []string{"", ".", "a.b", ".a", "a.", "..", " ", "a b", "a ", "a|b", "a,", "a%2Eb", "ä", "a\n", "\xff", "~", strings.Repeat("s", api.MaxName+1), strings.Repeat("s", api.MaxName-1) + "."}
}

// wantBound checks that a state is the one of a request.
func wantBound(t *testing.T, secret, session, state, request string) {
	t.Helper()
	if got, e := proof.Bound(secret, session, state); got != request || e != api.OK {
		t.Errorf("Bound of %q, %q, %q = %q, %d, not %q", secret, session, state, got, int(e), request)
	}
}

// wantUnbound checks the error of a state.
func wantUnbound(t *testing.T, secret, session, state string, want api.Errno) {
	t.Helper()
	if got, e := proof.Bound(secret, session, state); got != "" || e != want {
		t.Errorf("Bound of %q, %q, %q = %q, %d, not %d", secret, session, state, got, int(e), int(want))
	}
}

// P28.4: states that were calculated by another program.
func TestStateExamples(t *testing.T) {
	long := strings.Repeat("r", api.MaxName)
	for _, x := range []struct{ secret, session, request, want string }{
		{"k", "s1", "r1", "r1.50bdee59b7aea84d"},
		{"", "s", "r", "r.cc4bfd88ec60ca26"},
		{"a|b \xff", "S:1_-", "R:2_-", "R:2_-.762075432bedc60a"},
		{"k", strings.Repeat("s", api.MaxName), long, long + ".b1c1ae51cec3d3a2"},
	} {
		if got := proof.Bind(x.secret, x.session, x.request); got != x.want {
			t.Errorf("Bind of %q, %q, %q = %q, not %q", x.secret, x.session, x.request, got, x.want)
		}
		wantBound(t, x.secret, x.session, x.want, x.request)
	}
}

// P28.4: Bound returns the request that Bind bound.
func TestBindBound(t *testing.T) {
	for _, secret := range secrets() {
		for _, session := range plainWords() {
			for _, request := range plainWords() {
				state := proof.Bind(secret, session, request)
				if state != request+"."+digest.Mac(secret, session+"|"+request) {
					t.Errorf("Bind of %q, %q, %q = %q", secret, session, request, state)
				}
				wantBound(t, secret, session, state, request)
				// A state can be read again: nothing is kept.
				wantBound(t, secret, session, state, request)
			}
		}
	}
}

// P28.4: each byte in a session and in a request.
func TestBindBytes(t *testing.T) {
	for c := range 256 {
		b := string([]byte{byte(c)})
		plain := strings.Contains(plainBytes, b)
		for _, s := range []string{b, "a" + b, b + "a"} {
			if got := proof.Bind("k", s, "r"); (got != "") != plain {
				t.Errorf("Bind of the session %q = %q", s, got)
			}
			if got := proof.Bind("k", "s", s); (got != "") != plain {
				t.Errorf("Bind of the request %q = %q", s, got)
			}
			want := api.ErrForm
			if plain {
				want = api.ErrProof
			}
			wantUnbound(t, "k", s, "r.0000000000000000", want)
			wantUnbound(t, "k", "s", s+".0000000000000000", want)
		}
	}
}

// P28.4: Bind of what is no plain word.
func TestBindErrors(t *testing.T) {
	for _, secret := range secrets() {
		for _, wrong := range notPlainWords() {
			for _, word := range append(plainWords(), notPlainWords()...) {
				if got := proof.Bind(secret, wrong, word); got != "" {
					t.Errorf("Bind of %q, %q, %q = %q", secret, wrong, word, got)
				}
				if got := proof.Bind(secret, word, wrong); got != "" {
					t.Errorf("Bind of %q, %q, %q = %q", secret, word, wrong, got)
				}
			}
		}
	}
}

// P28.4: the errors of Bound in their order.
func TestBoundErrors(t *testing.T) {
	state := proof.Bind("k", "s1", "r1")
	code := state[len("r1."):]
	for _, session := range notPlainWords() {
		// The code is that of the session, if it were a plain word.
		wantUnbound(t, "k", session, "r1."+digest.Mac("k", session+"|r1"), api.ErrForm)
		wantUnbound(t, "k", session, "", api.ErrForm)
	}
	for _, request := range notPlainWords() {
		wantUnbound(t, "k", "s1", request+"."+digest.Mac("k", "s1|"+request), api.ErrForm)
	}
	for _, other := range []string{"", ".", "r1", "r1.", ".r1", code, "." + code, "r1" + code, "r1:" + code, "r1.." + code, "." + state, state + ".", state + "0", state + " ", " " + state, state[:len(state)-1], state + "." + code, "r1." + strings.ToUpper(code), "r1.+" + code[1:], "r1.0x" + code[2:], "r1." + code[:15] + "g", "r1." + code[:14] + "é", "r1." + code[:15] + "\x00", "r1.\n" + code[1:]} {
		wantUnbound(t, "k", "s1", other, api.ErrForm)
		wantUnbound(t, "l", "s2", other, api.ErrForm)
	}
	for _, x := range []struct{ secret, session, state string }{
		{"l", "s1", state}, {"", "s1", state}, {"K", "s1", state}, {"k ", "s1", state},
		{"k", "s2", state}, {"k", "S1", state}, {"k", "s", state}, {"k", "s1:r1", state},
		{"k", "s1", "r2." + code}, {"k", "s1", "R1." + code}, {"k", "s1", "r." + code}, {"k", "s1", "r11." + code},
		{"k", "s1", "r1.0000000000000000"}, {"k", "s1", "r1." + code[1:] + code[:1]},
		{"k", "r1", "s1." + code}, {"k", "s1", "r1." + digest.Text("s1|r1")}, {"k", "s1", "r1." + digest.Mac("k", "r1")},
	} {
		wantUnbound(t, x.secret, x.session, x.state, api.ErrProof)
	}
}

// P28.4: what Bound accepts is what Bind returns, and it accepts no state that
// differs in one byte.
func TestBoundEdits(t *testing.T) {
	r := rand.New(rand.NewSource(2))
	forms, proofs := 0, 0
	for range 100 {
		secret := random(r, "ab|: \xff", r.Intn(5))
		session := random(r, plainBytes, 1+r.Intn(8))
		request := random(r, plainBytes, 1+r.Intn(8))
		state := proof.Bind(secret, session, request)
		wantBound(t, secret, session, state, request)
		for _, other := range edits(state, "0fFg.:| \xff") {
			got, e := proof.Bound(secret, session, other)
			switch {
			case e == api.ErrForm && got == "":
				forms++
			case e == api.ErrProof && got == "":
				proofs++
			default:
				t.Fatalf("Bound of %q, %q, %q = %q, %d", secret, session, other, got, int(e))
			}
			if modelForm(other) != (e == api.ErrProof) {
				t.Fatalf("Bound of %q, %q, %q = %d", secret, session, other, int(e))
			}
		}
	}
	if forms < 10000 || proofs < 1000 {
		t.Errorf("%d errors of the form, and %d of the proof", forms, proofs)
	}
}

// modelForm reports whether a string has the form of a state: a plain word, a
// point, and 16 hexadecimal digits.
func modelForm(s string) bool {
	parts := strings.Split(s, ".")
	return len(parts) == 2 && len(parts[0]) >= 1 && len(parts[0]) <= 64 && strings.Trim(parts[0], plainBytes) == "" &&
		len(parts[1]) == 16 && strings.Trim(parts[1], "0123456789abcdef") == ""
}
