package proof_test

import (
	"math"
	"math/rand"
	"strconv"
	"strings"
	"testing"

	"identity/api"
	"identity/codec"
	"identity/digest"
	"identity/fold"
	"identity/proof"
)

// verifierBytes are the bytes of verifiers.
const verifierBytes = "ABCDEFGHIJKLMNOPQRSTUVWXYZabcdefghijklmnopqrstuvwxyz0123456789-._~"

// bytes returns n bytes of a verifier.
func bytes(n int) string {
	return strings.Repeat("b", n)
}

// random returns n random bytes of an alphabet.
func random(r *rand.Rand, alphabet string, n int) string {
	b := make([]byte, n)
	for i := range b {
		b[i] = alphabet[r.Intn(len(alphabet))]
	}
	return string(b)
}

// verifiers returns strings that are verifiers.
func verifiers() []string {
	l := []string{bytes(43), bytes(44), bytes(127), bytes(128), verifierBytes, verifierBytes[:43], strings.Repeat("~", 128), strings.Repeat(".", 43)}
	r := rand.New(rand.NewSource(1))
	for range 100 {
		l = append(l, random(r, verifierBytes, 43+r.Intn(128-43+1)))
	}
	return l
}

// notVerifiers returns strings that are no verifiers.
func notVerifiers() []string {
	return []string{"", "b", bytes(42), bytes(129), bytes(1000), bytes(42) + " ", " " + bytes(43), bytes(43) + "\n",
		bytes(43) + "+", bytes(43) + "/", bytes(43) + "=", bytes(43) + ":", bytes(43) + "|", bytes(20) + "%2D" + bytes(20),
		bytes(42) + "é", strings.Repeat("é", 43), bytes(42) + "\xff", "\x00" + bytes(43), strings.Repeat("é", 22)}
}

// notMethods returns numbers that are no methods.
func notMethods() []api.Method {
	return []api.Method{0, 3, -1, 4, math.MinInt, math.MaxInt}
}

// P28.1
func TestValid(t *testing.T) {
	for _, s := range verifiers() {
		if !proof.Valid(s) {
			t.Errorf("%q is no verifier", s)
		}
	}
	for _, s := range notVerifiers() {
		if proof.Valid(s) {
			t.Errorf("%q is a verifier", s)
		}
	}
	for n := range 300 {
		if got := proof.Valid(bytes(n)); got != (n >= 43 && n <= 128) {
			t.Errorf("Valid of %d bytes = %v", n, got)
		}
	}
}

// P28.1: each byte at the beginning, within, and at the end of a verifier.
func TestValidBytes(t *testing.T) {
	for c := range 256 {
		b := string([]byte{byte(c)})
		want := strings.Contains(verifierBytes, b)
		for _, s := range []string{b + bytes(42), bytes(21) + b + bytes(21), bytes(42) + b, bytes(127) + b} {
			if got := proof.Valid(s); got != want {
				t.Errorf("Valid of %q = %v", s, got)
			}
		}
	}
}

// P28.1: challenges that were calculated by another program.
func TestChallengeExamples(t *testing.T) {
	for verifier, want := range map[string]string{
		strings.Repeat("a", 43):           "ZGE0ODVlNjU2MmM0NjgzMg",
		strings.Repeat("b", 43):           "NjdkNGY2ZjYzMGMxY2FiMA",
		strings.Repeat("aZ9-._~", 7)[:43]: "OTQ1YzQ3YzRlM2JjY2YzYQ",
		strings.Repeat("~", 128):          "YjU2MzYxNjJmMzg5MjQ3Mw",
	} {
		if got, e := proof.Challenge(api.DigestMethod, verifier); got != want || e != api.OK {
			t.Errorf("Challenge of %q = %q, %d, not %q", verifier, got, int(e), want)
		}
		if got, e := proof.Challenge(api.PlainMethod, verifier); got != verifier || e != api.OK {
			t.Errorf("plain Challenge of %q = %q, %d", verifier, got, int(e))
		}
	}
}

// P28.1, P28.2: a challenge is the form of the digest, which it contains whole:
// verifiers with the same challenge have the same digest.
func TestChallenge(t *testing.T) {
	for _, verifier := range verifiers() {
		got, e := proof.Challenge(api.PlainMethod, verifier)
		if got != verifier || e != api.OK {
			t.Errorf("plain Challenge of %q = %q, %d", verifier, got, int(e))
		}
		got, e = proof.Challenge(api.DigestMethod, verifier)
		if got != codec.Base64(digest.Text(verifier)) || len(got) != 22 || e != api.OK {
			t.Errorf("Challenge of %q = %q, %d", verifier, got, int(e))
		}
		if sum, e := codec.ReadBase64(got); sum != digest.Text(verifier) || e != api.OK {
			t.Errorf("the challenge of %q contains %q, %d", verifier, sum, int(e))
		}
	}
}

// P28.1: the errors of Challenge and Check in their order.
func TestChallengeErrors(t *testing.T) {
	for _, verifier := range notVerifiers() {
		wantRejected(t, api.PlainMethod, verifier, api.ErrForm)
		wantRejected(t, api.DigestMethod, verifier, api.ErrForm)
	}
	for _, m := range notMethods() {
		for _, verifier := range append(notVerifiers(), verifiers()...) {
			wantRejected(t, m, verifier, api.ErrArg)
		}
	}
}

// wantRejected checks the error of Challenge and Check for a verifier.
func wantRejected(t *testing.T, m api.Method, verifier string, want api.Errno) {
	t.Helper()
	if got, e := proof.Challenge(m, verifier); got != "" || e != want {
		t.Errorf("Challenge of %d, %q = %q, %d, not %d", int(m), verifier, got, int(e), int(want))
	}
	for _, challenge := range []string{"", verifier, codec.Base64(digest.Text(verifier))} {
		if e := proof.Check(m, challenge, verifier); e != want {
			t.Errorf("Check of %d, %q, %q = %d, not %d", int(m), challenge, verifier, int(e), int(want))
		}
	}
}

// edits returns the strings that differ from s in one byte, replaced, removed
// or put in.
func edits(s, alphabet string) []string {
	var l []string
	for i := range len(s) + 1 {
		for j := range len(alphabet) {
			c := alphabet[j : j+1]
			l = append(l, s[:i]+c+s[i:])
			if i < len(s) && s[i] != alphabet[j] {
				l = append(l, s[:i]+c+s[i+1:])
			}
		}
		if i < len(s) {
			l = append(l, s[:i]+s[i+1:])
		}
	}
	return l
}

// P28.1: Check accepts the challenge of a verifier, and no other one.
func TestCheck(t *testing.T) {
	for _, verifier := range verifiers() {
		for _, m := range []api.Method{api.PlainMethod, api.DigestMethod} {
			challenge, _ := proof.Challenge(m, verifier)
			if e := proof.Check(m, challenge, verifier); e != api.OK {
				t.Errorf("Check of %d, %q = %d", int(m), verifier, int(e))
			}
			others := []string{"", " ", challenge + " ", " " + challenge, challenge + "=", challenge + "\n", challenge + challenge,
				digest.Text(verifier), strings.ToUpper(challenge) + ".", codec.Base64(digest.Text(challenge))}
			for _, other := range append(others, edits(challenge, "aZ9-.=\xff")...) {
				if e := proof.Check(m, other, verifier); e != api.ErrProof {
					t.Fatalf("Check of %d, %q, %q = %d", int(m), other, verifier, int(e))
				}
			}
		}
	}
}

// P28.1: another verifier, and another method.
func TestCheckOthers(t *testing.T) {
	l := verifiers()
	for i, verifier := range l {
		other := l[(i+1)%len(l)]
		for _, m := range []api.Method{api.PlainMethod, api.DigestMethod} {
			challenge, _ := proof.Challenge(m, verifier)
			if e := proof.Check(m, challenge, other); e != api.ErrProof {
				t.Errorf("Check of %d with the verifier %q for %q = %d", int(m), other, verifier, int(e))
			}
			if e := proof.Check(api.PlainMethod+api.DigestMethod-m, challenge, verifier); e != api.ErrProof {
				t.Errorf("Check of %q with another method than %d = %d", verifier, int(m), int(e))
			}
		}
	}
}

// P28.3: identifiers that were calculated by another program.
func TestUniqueExamples(t *testing.T) {
	for _, x := range []struct {
		seed string
		n    int
		want string
	}{
		{"s", 1, "ub6c638d2d3f4eceb"},
		{"s", 2, "uc49988ed0b74b981"},
		{"", 0, "u191dd3d3f29c59d4"},
		{"s", -1, "u0bf1b93078d2e18a"},
		{"3:s", 12, "ucf5e0fe2cc7e6c66"},
		{"a\xffb", math.MinInt, "u321dcc8bb174c0e9"},
		{"seed", math.MaxInt, "ua04fe7541254d009"},
	} {
		if got := proof.Unique(x.seed, x.n); got != x.want {
			t.Errorf("Unique of %q, %d = %q, not %q", x.seed, x.n, got, x.want)
		}
	}
}

// P28.3: identifiers are words of 17 bytes, and different for different seeds and numbers.
func TestUnique(t *testing.T) {
	seen := map[string]bool{}
	numbers := []int{math.MinInt, math.MaxInt, api.MaxTime, api.MaxTime + 1}
	for n := range 1000 {
		numbers = append(numbers, n, -n-1)
	}
	for _, seed := range []string{"", "s", "S", "1", ":", "1:", "1:s", "s:1", " ", "s ", "\xff", bytes(10000)} {
		for _, n := range numbers {
			got := proof.Unique(seed, n)
			if got != "u"+digest.Text(strconv.Itoa(n)+":"+seed) {
				t.Fatalf("Unique of %q, %d = %q", seed, n, got)
			}
			if len(got) != 17 || !fold.Word(got) || seen[got] {
				t.Fatalf("Unique of %q, %d = %q, which is no word or occurs twice", seed, n, got)
			}
			seen[got] = true
		}
	}
}
