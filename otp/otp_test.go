package otp_test

import (
	"fmt"
	"math"
	"math/rand"
	"slices"
	"strings"
	"testing"

	"identity/api"
	"identity/digest"
	"identity/otp"
)

// greatest is the greatest counter.
const greatest = 36650387592

// seed is a secret. Its codes of the counters same and twin are equal.
const (
	seed     = "seed"
	same     = 3827
	twin     = 3831
	sameCode = "743961"
)

// codeOf returns the code of a secret and a counter.
func codeOf(t *testing.T, secret string, counter int) string {
	t.Helper()
	c, e := otp.Code(secret, counter)
	if e != api.OK {
		t.Fatalf("Code of %q, %d = %d", secret, counter, int(e))
	}
	return c
}

// modelCode is the code by the definition of the chapter.
func modelCode(secret string, counter int) string {
	return fmt.Sprintf("%06d", digest.Sum(digest.Mac(secret, fmt.Sprint(counter)))%1000000)
}

// secrets returns strings that are secrets.
func secrets() []string {
	return []string{seed, "s", "a b", "~!|:;=%\"\\", strings.Repeat("k", api.MaxValue)}
}

// notSecrets returns strings that are no secrets.
func notSecrets() []string {
	return []string{"", " ", " seed", "seed ", "se\ned", "seéd", "\xff", "\x7f", "\x00seed", strings.Repeat("k", api.MaxValue+1)}
}

// notCodes returns strings that do not consist of six digits.
func notCodes() []string {
	return []string{"", "0", "12345", "1234567", "12345a", "a12345", "-12345", "+12345", " 12345", "12345 ", "1234.5", "12345/", "12345:", "1234é", "12345\x00", "1234\xff5", "٣٣٣", "٣23456", "0x1234", "000000\n"}
}

// P23.1: codes that were calculated by another program.
func TestCodeExamples(t *testing.T) {
	for _, x := range []struct {
		secret  string
		counter int
		want    string
	}{
		{seed, 0, "547938"},
		{seed, 1, "689047"},
		{seed, 7, "737353"},
		{seed, 10, "523784"},
		{seed, 18, "002674"},
		{seed, 409, "007375"},
		{seed, 824, "000602"},
		{seed, same, sameCode},
		{seed, twin, sameCode},
		{"a b", 59, "293182"},
		{"s", greatest, "700651"},
		{strings.Repeat("k", api.MaxValue), greatest / 2, "642657"},
	} {
		if got, e := otp.Code(x.secret, x.counter); got != x.want || e != api.OK {
			t.Errorf("Code of %q, %d = %q, %d, not %q", x.secret, x.counter, got, int(e), x.want)
		}
	}
}

// P23.1
func TestCodeDefinition(t *testing.T) {
	zeros := map[byte]int{}
	for _, secret := range secrets() {
		for n := range 4000 {
			for _, counter := range []int{n, n * 9161173, greatest - n} {
				got := codeOf(t, secret, counter)
				if got != modelCode(secret, counter) || len(got) != 6 {
					t.Fatalf("Code of %q, %d = %q", secret, counter, got)
				}
				zeros[got[0]]++
			}
		}
	}
	if len(zeros) != 10 {
		t.Errorf("first digits: %v", zeros)
	}
}

// P23.1: the errors of Code in their order.
func TestCodeErrors(t *testing.T) {
	wrong := []int{-1, -30, math.MinInt, greatest + 1, api.MaxTime, math.MaxInt}
	for _, counter := range wrong {
		if got, e := otp.Code(seed, counter); got != "" || e != api.ErrRange {
			t.Errorf("Code of %d = %q, %d", counter, got, int(e))
		}
	}
	for _, secret := range notSecrets() {
		for _, counter := range append(wrong, 0, 7) {
			if got, e := otp.Code(secret, counter); got != "" || e != api.ErrForm {
				t.Errorf("Code of %q, %d = %q, %d", secret, counter, got, int(e))
			}
		}
	}
}

// P23.1
func TestCounter(t *testing.T) {
	for now, want := range map[int]int{
		0: 0, 1: 0, 29: 0, 30: 1, 59: 1, 60: 2, 300: 10, 329: 10,
		-1: 0, -30: 0, math.MinInt: 0,
		api.MaxTime: greatest, api.MaxTime - 17: greatest - 1, api.MaxTime - 16: greatest, api.MaxTime + 1: greatest, api.MaxTime + 30: greatest, math.MaxInt: greatest,
	} {
		if got := otp.Counter(now); got != want {
			t.Errorf("Counter(%d) = %d, not %d", now, got, want)
		}
	}
}

// modelFind is the least counter from least to most, from 0 to the greatest one
// and after last, with a code.
func modelFind(secret, code string, last, least, most int) (int, api.Errno) {
	for counter := least; counter <= most; counter++ {
		if counter >= 0 && counter <= greatest && counter > last && modelCode(secret, counter) == code {
			return counter, api.OK
		}
	}
	return 0, api.ErrDenied
}

// P23.2
func TestVerify(t *testing.T) {
	seven, first, end := codeOf(t, seed, 7), codeOf(t, seed, 0), codeOf(t, seed, greatest)
	for _, x := range []struct {
		last, look int
		code       string
		want       int
		e          api.Errno
	}{
		{4, 3, seven, 7, api.OK},
		{4, 2, seven, 0, api.ErrDenied},
		{6, 1, seven, 7, api.OK},
		{6, 0, seven, 0, api.ErrDenied},
		{7, 16, seven, 0, api.ErrDenied},
		{-1, 8, seven, 7, api.OK},
		{-1, 7, seven, 0, api.ErrDenied},
		{-1, 1, first, 0, api.OK},
		{-1, 0, first, 0, api.ErrDenied},
		{0, 16, first, 0, api.ErrDenied},
		{-1, 16, "000000", 0, api.ErrDenied},
		{8, 10, "002674", 18, api.OK},
		{2, 16, "002674", 18, api.OK},
		{1, 16, "002674", 0, api.ErrDenied},
		// Of two counters with the code the least one is returned.
		{same - 1, 16, sameCode, same, api.OK},
		{same - 12, 16, sameCode, same, api.OK},
		{same, 3, sameCode, 0, api.ErrDenied},
		{same, 4, sameCode, twin, api.OK},
		{twin, 16, sameCode, 0, api.ErrDenied},
		// The greatest counter ends what is tried.
		{greatest - 1, 1, end, greatest, api.OK},
		{greatest - 1, 16, end, greatest, api.OK},
		{greatest - 16, 16, end, greatest, api.OK},
		{greatest - 16, 15, end, 0, api.ErrDenied},
		{greatest, 16, end, 0, api.ErrDenied},
		{greatest, 0, end, 0, api.ErrDenied},
		{greatest, 16, modelCode(seed, greatest+1), 0, api.ErrDenied},
		{greatest - 4, 16, modelCode(seed, greatest+2), 0, api.ErrDenied},
	} {
		if got, e := otp.Verify(seed, x.last, x.look, x.code); got != x.want || e != x.e {
			t.Errorf("Verify of %q after %d, %d = %d, %d, not %d, %d", x.code, x.last, x.look, got, int(e), x.want, int(x.e))
		}
	}
	if _, e := otp.Verify("seee", 4, 3, seven); e != api.ErrDenied {
		t.Errorf("Verify with another secret = %d", int(e))
	}
}

// P23.2: the errors of Verify in their order.
func TestVerifyErrors(t *testing.T) {
	wrongLast := []int{-2, math.MinInt, greatest + 1, math.MaxInt}
	wrongLook := []int{-1, math.MinInt, 17, math.MaxInt}
	code := codeOf(t, seed, 7)
	check := func(secret string, last, look int, code string, want api.Errno) {
		t.Helper()
		if got, e := otp.Verify(secret, last, look, code); got != 0 || e != want {
			t.Errorf("Verify of %q, %q after %d, %d = %d, %d, not %d", secret, code, last, look, got, int(e), int(want))
		}
	}
	for _, last := range wrongLast {
		check(seed, last, 1, code, api.ErrRange)
		check(seed, last, -1, code, api.ErrRange)
		check(" seed", last, 1, code, api.ErrForm)
		check(seed, last, 1, "12345", api.ErrForm)
	}
	for _, look := range wrongLook {
		check(seed, 6, look, code, api.ErrRange)
		check(seed, greatest, look, code, api.ErrRange)
		check(" seed", 6, look, code, api.ErrForm)
		check(seed, 6, look, "12345a", api.ErrForm)
	}
	for _, secret := range notSecrets() {
		check(secret, 6, 16, modelCode(secret, 7), api.ErrForm)
	}
	for _, s := range notCodes() {
		check(seed, 6, 16, s, api.ErrForm)
	}
}

// P23.2, P23.5, P23.6: random calls have the results of the definition.
func TestVerifyDefinition(t *testing.T) {
	r := rand.New(rand.NewSource(1))
	found := 0
	for range 20000 {
		secret := secrets()[r.Intn(5)]
		counter := []int{r.Intn(40), same + r.Intn(9), greatest - r.Intn(40)}[r.Intn(3)]
		last := min(max(-1, counter-12+r.Intn(24)), greatest)
		look, code := r.Intn(17), codeOf(t, secret, counter)
		want, wantError := modelFind(secret, code, last, last+1, last+look)
		got, e := otp.Verify(secret, last, look, code)
		if got != want || e != wantError {
			t.Fatalf("Verify of %q, %q after %d, %d = %d, %d, not %d, %d", secret, code, last, look, got, int(e), want, int(wantError))
		}
		if e != api.OK {
			continue
		}
		found++
		if codeOf(t, secret, got) != code || got <= last {
			t.Fatalf("Verify of %q, %q after %d = %d", secret, code, last, got)
		}
		if again, e := otp.Verify(secret, got, 16, code); e == api.OK && again <= got {
			t.Fatalf("%q accepted twice for %d", code, again)
		}
		for more := look; more <= 16; more++ {
			if wider, e := otp.Verify(secret, last, more, code); wider != got || e != api.OK {
				t.Fatalf("Verify with %d in place of %d = %d, %d", more, look, wider, int(e))
			}
		}
	}
	if found < 4000 {
		t.Errorf("found %d times", found)
	}
}

// P23.3
func TestVerifyAt(t *testing.T) {
	at := func(counter int) string { return codeOf(t, seed, counter) }
	for _, x := range []struct {
		last, now, skew int
		code            string
		want            int
		e               api.Errno
	}{
		{-1, 300, 59, at(9), 9, api.OK},
		{-1, 300, 59, at(10), 10, api.OK},
		{-1, 300, 59, at(11), 11, api.OK},
		{-1, 300, 59, at(8), 0, api.ErrDenied},
		{-1, 300, 59, at(12), 0, api.ErrDenied},
		{-1, 300, 60, at(8), 8, api.OK},
		{-1, 300, 60, at(12), 12, api.OK},
		{-1, 329, 0, at(10), 10, api.OK},
		{-1, 330, 0, at(10), 0, api.ErrDenied},
		{-1, 330, 29, at(10), 0, api.ErrDenied},
		{-1, 330, 30, at(10), 10, api.OK},
		// Counters up to last are not accepted.
		{8, 300, 30, at(9), 9, api.OK},
		{9, 300, 30, at(9), 0, api.ErrDenied},
		{9, 300, 30, at(10), 10, api.OK},
		{10, 300, 30, at(10), 0, api.ErrDenied},
		{10, 300, 30, at(11), 11, api.OK},
		{11, 300, 30, at(11), 0, api.ErrDenied},
		{greatest, 300, 600, at(10), 0, api.ErrDenied},
		// Of two counters with the code the least one is returned.
		{-1, same * 30, 120, sameCode, same, api.OK},
		{-1, twin * 30, 120, sameCode, same, api.OK},
		{-1, twin * 30, 119, sameCode, twin, api.OK},
		{same, twin * 30, 600, sameCode, twin, api.OK},
		{twin, twin * 30, 600, sameCode, 0, api.ErrDenied},
		// The skew is limited.
		{-1, 300, -1, at(10), 10, api.OK},
		{-1, 300, math.MinInt, at(10), 10, api.OK},
		{-1, 300, -60, at(9), 0, api.ErrDenied},
		{-1, 1500, 600, at(30), 30, api.OK},
		{-1, 1500, 600, at(70), 70, api.OK},
		{-1, 1500, 599, at(70), 0, api.ErrDenied},
		{-1, 1500, 630, at(29), 0, api.ErrDenied},
		{-1, 1500, math.MaxInt, at(71), 0, api.ErrDenied},
		{-1, 1500, math.MaxInt, at(70), 70, api.OK},
		// The instant is limited, and the counters as well.
		{-1, -1, 0, at(0), 0, api.OK},
		{-1, math.MinInt, 600, at(20), 20, api.OK},
		{-1, 0, 600, at(20), 20, api.OK},
		{-1, 0, 600, at(21), 0, api.ErrDenied},
		{0, 0, 600, at(0), 0, api.ErrDenied},
		{-1, 0, 600, modelCode(seed, -1), 0, api.ErrDenied},
		{-1, api.MaxTime, 0, at(greatest), greatest, api.OK},
		{-1, math.MaxInt, 600, at(greatest - 20), greatest - 20, api.OK},
		{-1, math.MaxInt, 600, at(greatest - 21), 0, api.ErrDenied},
		{greatest - 1, math.MaxInt, 600, at(greatest), greatest, api.OK},
		{greatest, math.MaxInt, 600, at(greatest), 0, api.ErrDenied},
		{-1, api.MaxTime, 600, modelCode(seed, greatest+1), 0, api.ErrDenied},
	} {
		if got, e := otp.VerifyAt(seed, x.last, x.now, x.skew, x.code); got != x.want || e != x.e {
			t.Errorf("VerifyAt of %q after %d at %d, %d = %d, %d, not %d, %d", x.code, x.last, x.now, x.skew, got, int(e), x.want, int(x.e))
		}
	}
}

// P23.3: the errors of VerifyAt in their order.
func TestVerifyAtErrors(t *testing.T) {
	code := codeOf(t, seed, 7)
	check := func(secret string, last int, code string, want api.Errno) {
		t.Helper()
		if got, e := otp.VerifyAt(secret, last, 210, 600, code); got != 0 || e != want {
			t.Errorf("VerifyAt of %q, %q after %d = %d, %d, not %d", secret, code, last, got, int(e), int(want))
		}
	}
	for _, last := range []int{-2, math.MinInt, greatest + 1, math.MaxInt} {
		check(seed, last, code, api.ErrRange)
		check(" seed", last, code, api.ErrForm)
		check(seed, last, "12345", api.ErrForm)
	}
	for _, secret := range notSecrets() {
		check(secret, -1, modelCode(secret, 7), api.ErrForm)
	}
	for _, s := range notCodes() {
		check(seed, -1, s, api.ErrForm)
	}
}

// P23.3, P23.5, P23.6: random calls have the results of the definition.
func TestVerifyAtDefinition(t *testing.T) {
	r := rand.New(rand.NewSource(2))
	found := 0
	for range 10000 {
		secret := secrets()[r.Intn(5)]
		counter := []int{r.Intn(40), same + r.Intn(9), greatest - r.Intn(40)}[r.Intn(3)]
		last := min(max(-1, counter-r.Intn(40)), greatest)
		now := counter*30 + r.Intn(1400) - 700
		skew, code := r.Intn(800)-100, codeOf(t, secret, counter)
		present, k := min(max(now, 0), api.MaxTime)/30, min(max(skew, 0), 600)/30
		want, wantError := modelFind(secret, code, last, present-k, present+k)
		got, e := otp.VerifyAt(secret, last, now, skew, code)
		if got != want || e != wantError {
			t.Fatalf("VerifyAt of %q, %q after %d at %d, %d = %d, %d, not %d, %d", secret, code, last, now, skew, got, int(e), want, int(wantError))
		}
		if now := codeOf(t, secret, present); present > last {
			if _, e := otp.VerifyAt(secret, last, present*30, skew, now); e != api.OK {
				t.Fatalf("VerifyAt of the present code %q at %d after %d = %d", now, present, last, int(e))
			}
		}
		if e != api.OK {
			continue
		}
		found++
		if codeOf(t, secret, got) != code || got <= last {
			t.Fatalf("VerifyAt of %q, %q after %d = %d", secret, code, last, got)
		}
		if again, e := otp.VerifyAt(secret, got, now, 600, code); e == api.OK && again <= got {
			t.Fatalf("%q accepted twice for %d", code, again)
		}
		for more := skew; more <= 700; more += 29 {
			if _, e := otp.VerifyAt(secret, last, now, more, code); e != api.OK {
				t.Fatalf("VerifyAt with the skew %d in place of %d = %d", more, skew, int(e))
			}
		}
	}
	if found < 3000 {
		t.Errorf("found %d times", found)
	}
}

// P23.4: codes that were calculated by another program.
func TestRecoveryExamples(t *testing.T) {
	got, e := otp.Recovery(seed, 3)
	if want := []string{"60e73ff694", "5add9587cb", "17542a4994"}; !slices.Equal(got, want) || e != api.OK {
		t.Errorf("Recovery = %v, %d, not %v", got, int(e), want)
	}
	if got, e := otp.Recovery("a b", 16); len(got) != 16 || got[15] != "c0c5d84f5a" || e != api.OK {
		t.Errorf("Recovery = %v, %d", got, int(e))
	}
}

// P23.4, P23.7
func TestRecoveryDefinition(t *testing.T) {
	for _, secret := range secrets() {
		var want []string
		for n := 1; n <= 16; n++ {
			want = append(want, digest.Mac(secret, fmt.Sprintf("recovery%d", n-1))[:10])
			got, e := otp.Recovery(secret, n)
			if !slices.Equal(got, want) || e != api.OK {
				t.Errorf("Recovery of %q, %d = %v, %d, not %v", secret, n, got, int(e), want)
			}
			got[0] = "changed"
			if again, _ := otp.Recovery(secret, n); !slices.Equal(again, want) {
				t.Errorf("Recovery of %q, %d after a change = %v", secret, n, again)
			}
		}
	}
}

// P23.4: the errors of Recovery in their order.
func TestRecoveryErrors(t *testing.T) {
	wrong := []int{0, -1, math.MinInt, 17, math.MaxInt}
	for _, n := range wrong {
		if got, e := otp.Recovery(seed, n); len(got) != 0 || e != api.ErrRange {
			t.Errorf("Recovery of %d = %v, %d", n, got, int(e))
		}
	}
	for _, secret := range notSecrets() {
		for _, n := range append(wrong, 1) {
			if got, e := otp.Recovery(secret, n); len(got) != 0 || e != api.ErrForm {
				t.Errorf("Recovery of %q, %d = %v, %d", secret, n, got, int(e))
			}
		}
	}
}

// P23.4
func TestRedeem(t *testing.T) {
	for _, x := range []struct {
		codes []string
		code  string
		want  []string
		e     api.Errno
	}{
		{[]string{"a", "b", "a"}, "a", []string{"b", "a"}, api.OK},
		{[]string{"a", "b", "a"}, "b", []string{"a", "a"}, api.OK},
		{[]string{"a", "b", "a"}, "c", nil, api.ErrNone},
		{[]string{"a", "b", "c"}, "c", []string{"a", "b"}, api.OK},
		{[]string{"b", "a", "c", "a"}, "a", []string{"b", "c", "a"}, api.OK},
		{[]string{"a"}, "a", nil, api.OK},
		{[]string{"a"}, "A", nil, api.ErrNone},
		{[]string{"a"}, "", nil, api.ErrNone},
		{[]string{"a"}, "a ", nil, api.ErrNone},
		{[]string{"ab"}, "a", nil, api.ErrNone},
		{nil, "a", nil, api.ErrNone},
		{nil, "", nil, api.ErrNone},
		{[]string{}, "", nil, api.ErrNone},
		{[]string{"", "x", ""}, "", []string{"x", ""}, api.OK},
		{[]string{"\xff\n", "é", "\x00"}, "\xff\n", []string{"é", "\x00"}, api.OK},
		{[]string{"\xff\n", "é", "\x00"}, "\xff", nil, api.ErrNone},
	} {
		if got, e := otp.Redeem(x.codes, x.code); !slices.Equal(got, x.want) || e != x.e {
			t.Errorf("Redeem of %q from %q = %q, %d, not %q, %d", x.code, x.codes, got, int(e), x.want, int(x.e))
		}
	}
}

// P23.4: the argument stays, and the result is new memory.
func TestRedeemMemory(t *testing.T) {
	codes := []string{"a", "b", "c", "d"}
	for _, code := range []string{"a", "b", "d"} {
		got, _ := otp.Redeem(codes[:3:4], code)
		for i := range got {
			got[i] = "changed"
		}
		_ = append(got, "more", "and more")
		if !slices.Equal(codes, []string{"a", "b", "c", "d"}) {
			t.Errorf("Redeem of %q changed its argument: %v", code, codes)
		}
	}
}

// P23.4, P23.7: each other element stays as often as before, in order.
func TestRedeemDefinition(t *testing.T) {
	r := rand.New(rand.NewSource(3))
	for range 5000 {
		codes := make([]string, r.Intn(8))
		for i := range codes {
			codes[i] = string(rune('a' + r.Intn(5)))
		}
		code := string(rune('a' + r.Intn(5)))
		got, e := otp.Redeem(codes, code)
		i := slices.Index(codes, code)
		if i < 0 {
			if len(got) != 0 || e != api.ErrNone {
				t.Fatalf("Redeem of %q from %q = %q, %d", code, codes, got, int(e))
			}
			continue
		}
		if e != api.OK || len(got) != len(codes)-1 || !slices.Equal(slices.Insert(slices.Clone(got), i, code), codes) {
			t.Fatalf("Redeem of %q from %q = %q, %d", code, codes, got, int(e))
		}
	}
}

// P23.4, P23.7: each recovery code is redeemed once.
func TestRecoveryRedeemed(t *testing.T) {
	codes, _ := otp.Recovery(seed, 16)
	left := codes
	for n, code := range codes {
		var e api.Errno
		left, e = otp.Redeem(left, code)
		if e != api.OK || len(left) != 15-n {
			t.Fatalf("Redeem of code %d = %d codes, %d", n, len(left), int(e))
		}
		if again, e := otp.Redeem(left, code); e != api.ErrNone || len(again) != 0 {
			t.Fatalf("Redeem of code %d again = %d", n, int(e))
		}
	}
}
