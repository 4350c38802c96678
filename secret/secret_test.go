package secret_test

import (
	"math"
	"slices"
	"strings"
	"testing"

	"identity/api"
	"identity/digest"
	"identity/fold"
	"identity/secret"
)

// good is a password.
const good = "correct Horse 1"

// made returns the verifier of a password.
func made(t *testing.T, password, salt string, rounds int) api.Verifier {
	t.Helper()
	v, e := secret.Make(password, salt, rounds)
	if e != api.OK {
		t.Fatalf("Make of %q, %q, %d = %d", password, salt, rounds, int(e))
	}
	return v
}

// bytes returns n bytes.
func bytes(n int) string {
	return strings.Repeat("b", n)
}

// P22.1
func TestMake(t *testing.T) {
	for _, password := range []string{"12345678", "        ", " a b c d ", bytes(api.MaxValue), "~!|:;=%\"\\", good} {
		for _, salt := range []string{"s", "a:b.c_d-1", bytes(api.MaxName)} {
			for _, rounds := range []int{1, 2, api.MaxRounds} {
				want := digest.Text(salt + "|" + password)
				for range rounds {
					want = digest.Text(want + "|" + salt)
				}
				v := made(t, password, salt, rounds)
				if v != (api.Verifier{Salt: salt, Rounds: rounds, Hash: want}) || !secret.Valid(v) {
					t.Errorf("Make of %q, %q, %d = %v, not %q", password, salt, rounds, v, want)
				}
			}
		}
	}
}

// notPasswords are strings that are no passwords.
func notPasswords() []string {
	return []string{"", "secret", "1234567", bytes(api.MaxValue + 1), "1234567\x1f", "12345678\n", "\x7f12345678", "passwörter", "1234\x005678", "12345678\xff"}
}

// P22.1: the errors of Make in their order.
func TestMakeErrors(t *testing.T) {
	for _, x := range []struct {
		password, salt string
		rounds         int
		want           api.Errno
	}{
		{"secret", "pepper", 3, api.ErrForm},
		{good, "", 3, api.ErrArg},
		{good, "a b", 3, api.ErrArg},
		{good, "sält", 3, api.ErrArg},
		{good, "a|b", 3, api.ErrArg},
		{good, bytes(api.MaxName + 1), 3, api.ErrArg},
		{good, "s", 0, api.ErrArg},
		{good, "s", -1, api.ErrArg},
		{good, "s", math.MinInt, api.ErrArg},
		{good, "s", api.MaxRounds + 1, api.ErrArg},
		{good, "s", math.MaxInt, api.ErrArg},
		{"secret", "a b", 3, api.ErrArg},
		{"secret", "s", 0, api.ErrArg},
	} {
		if v, e := secret.Make(x.password, x.salt, x.rounds); v != (api.Verifier{}) || e != x.want {
			t.Errorf("Make of %q, %q, %d = %v, %d, not %d", x.password, x.salt, x.rounds, v, int(e), int(x.want))
		}
	}
	for _, s := range notPasswords() {
		if v, e := secret.Make(s, "s", 1); v != (api.Verifier{}) || e != api.ErrForm {
			t.Errorf("Make of %q = %v, %d", s, v, int(e))
		}
	}
}

// P22.1: what makes a verifier invalid.
func TestValid(t *testing.T) {
	hash := "0123456789abcdef"
	for _, x := range []struct {
		v    api.Verifier
		want bool
	}{
		{api.Verifier{Salt: "s", Rounds: 1, Hash: hash}, true},
		{api.Verifier{Salt: bytes(api.MaxName), Rounds: api.MaxRounds, Hash: strings.Repeat("f", 16)}, true},
		{api.Verifier{Salt: "", Rounds: 1, Hash: hash}, false},
		{api.Verifier{Salt: "a b", Rounds: 1, Hash: hash}, false},
		{api.Verifier{Salt: bytes(api.MaxName + 1), Rounds: 1, Hash: hash}, false},
		{api.Verifier{Salt: "s", Rounds: 0, Hash: hash}, false},
		{api.Verifier{Salt: "s", Rounds: -1, Hash: hash}, false},
		{api.Verifier{Salt: "s", Rounds: api.MaxRounds + 1, Hash: hash}, false},
		{api.Verifier{Salt: "s", Rounds: 1, Hash: ""}, false},
		{api.Verifier{Salt: "s", Rounds: 1, Hash: hash[1:]}, false},
		{api.Verifier{Salt: "s", Rounds: 1, Hash: hash + "0"}, false},
		{api.Verifier{Salt: "s", Rounds: 1, Hash: "g" + hash[1:]}, false},
		{api.Verifier{Salt: "s", Rounds: 1, Hash: strings.ToUpper(hash)}, false},
		{api.Verifier{Salt: "s", Rounds: 1, Hash: " " + hash[1:]}, false},
		{api.Verifier{}, false},
	} {
		if got := secret.Valid(x.v); got != x.want {
			t.Errorf("Valid of %v = %v", x.v, got)
		}
	}
}

// P22.2, P22.7: a verifier checks its password and no other one.
func TestCheck(t *testing.T) {
	passwords := []string{good, "correct Horse 2", "Correct Horse 1", good + " ", " " + good, "12345678", "pepper|correct", bytes(api.MaxValue), bytes(api.MaxValue - 1)}
	for i, p := range passwords {
		for _, salt := range []string{"pepper", "salt"} {
			v := made(t, p, salt, 3)
			for j, other := range passwords {
				if got := secret.Check(v, other); got != (i == j) {
					t.Errorf("Check of %q for %q = %v", other, p, got)
				}
			}
			for _, s := range notPasswords() {
				if secret.Check(v, s) {
					t.Errorf("Check of %q for %q", s, p)
				}
			}
			for _, change := range []func(v *api.Verifier){
				func(v *api.Verifier) { v.Salt += "x" },
				func(v *api.Verifier) { v.Rounds++ },
				func(v *api.Verifier) { v.Hash = v.Hash[1:] + "0" },
				func(v *api.Verifier) { v.Hash = strings.ToUpper(v.Hash) + " " },
			} {
				changed := v
				change(&changed)
				if secret.Check(changed, p) {
					t.Errorf("Check of %q for %v", p, changed)
				}
			}
		}
	}
}

// P22.2: verifiers that are not valid, and strings that are no passwords, belong
// to nothing, also if the digest is the right one.
func TestCheckInvalid(t *testing.T) {
	for _, v := range []api.Verifier{{Salt: "a b", Rounds: 3}, {Salt: "", Rounds: 3}, {Salt: "s", Rounds: 0}, {Salt: "s", Rounds: -1}, {Salt: "s", Rounds: api.MaxRounds + 1}} {
		v.Hash = digest.Iterate(v.Salt, good, v.Rounds)
		if secret.Check(v, good) || secret.Reused([]api.Verifier{v}, good) {
			t.Errorf("Check for %v", v)
		}
	}
	for _, s := range notPasswords() {
		v := api.Verifier{Salt: "s", Rounds: 3, Hash: digest.Iterate("s", s, 3)}
		if secret.Check(v, s) || secret.Reused([]api.Verifier{v}, s) || !secret.Valid(v) {
			t.Errorf("Check of %q", s)
		}
	}
}

// P22.2
func TestReused(t *testing.T) {
	a, b, bad := made(t, good, "s", 1), made(t, "12345678", "r", 2), made(t, "87654321", "s", 1)
	bad.Rounds = 0
	for _, x := range []struct {
		l    []api.Verifier
		want string
	}{
		{nil, ""}, {[]api.Verifier{a}, good}, {[]api.Verifier{bad, a}, good}, {[]api.Verifier{a, bad}, good}, {[]api.Verifier{b, a}, good + ",12345678"}, {[]api.Verifier{bad}, ""}, {[]api.Verifier{b, {}}, "12345678"},
	} {
		before := slices.Clone(x.l)
		for _, p := range []string{good, "12345678", "87654321", "secret", ""} {
			if got := secret.Reused(x.l, p); got != slices.Contains(strings.Split(x.want, ","), p) && p != "" || got && p == "" {
				t.Errorf("Reused of %q for %v = %v", p, x.l, got)
			}
		}
		if !slices.Equal(x.l, before) {
			t.Errorf("changed: %v", x.l)
		}
	}
}

// P22.3
func TestQuality(t *testing.T) {
	for _, x := range []struct {
		password, user string
		want           api.Errno
	}{
		{"Abcdefg1", "ann", api.OK},
		{"xAnn-1234", "ann", api.ErrDenied},
		{"abcdefgh", "ann", api.ErrDenied},
		{"Abcdefg", "ann", api.ErrForm},
		{"ann", "ann", api.ErrForm},
		{"", "", api.ErrForm},
		{"ABCDEFG1", "ann", api.ErrDenied},
		{"abcdefg1", "ann", api.ErrDenied},
		{"1234-678", "ann", api.ErrDenied},
		{"12345678", "ann", api.ErrDenied},
		{"--------", "ann", api.ErrDenied},
		{"Abcdefgh", "ann", api.ErrDenied},
		{"Abcdefg ", "ann", api.OK},
		{"abcdefg1~", "ann", api.OK},
		{"ABCDEFG1@", "ann", api.OK},
		{"ABCDEFGz[", "ann", api.OK},
		{"aA1`bcde", "ann", api.OK},
		{"AZaz09/:", "ann", api.OK},
		{"AAAAAAA{", "ann", api.ErrDenied},
		{"zzzzzzz@", "ann", api.ErrDenied},
		{"9999999/", "ann", api.ErrDenied},
		{"0000000:", "ann", api.ErrDenied},
		{"Aann1234", "ANN", api.ErrDenied},
		{"A1234ANN", "aNn", api.ErrDenied},
		{"A-Ann-an", "annn", api.OK},
		{"A-an-1234", "an", api.OK},
		{"A-an-1234", "", api.OK},
		{"A-an-1234", "-1234", api.ErrDenied},
		{"A-an-1234", "A-an-1234", api.ErrDenied},
		{"A-an-1234", "A-an-12345", api.OK},
		{"A an 1234", "N 1", api.ErrDenied},
		{"A-\xe9n-1234", "ann", api.ErrForm},
		{"A-an-1234", "\xe9\xe9\xe9", api.OK},
	} {
		if e := secret.Quality(x.password, x.user); e != x.want {
			t.Errorf("Quality of %q for %q = %d, not %d", x.password, x.user, int(e), int(x.want))
		}
	}
	for _, s := range notPasswords() {
		if e := secret.Quality(s, "1234567"); e != api.ErrForm {
			t.Errorf("Quality of %q = %d", s, int(e))
		}
	}
}

// P22.3: each byte belongs to one of the classes.
func TestClasses(t *testing.T) {
	kinds := []func(c byte) bool{
		func(c byte) bool { return strings.IndexByte("abcdefghijklmnopqrstuvwxyz", c) >= 0 },
		func(c byte) bool { return strings.IndexByte("ABCDEFGHIJKLMNOPQRSTUVWXYZ", c) >= 0 },
		func(c byte) bool { return strings.IndexByte("0123456789", c) >= 0 },
	}
	for c := byte(32); c < 127; c++ {
		for _, rest := range []string{"aaaaaaA", "aaaaaa1", "aaaaaa-", "AAAAAA1", "AAAAAA-", "111111-"} {
			p := rest + string(rune(c))
			n, other := 0, false
			for i := range len(p) {
				other = other || !slices.ContainsFunc(kinds, func(kind func(byte) bool) bool { return kind(p[i]) })
			}
			for _, kind := range kinds {
				if slices.ContainsFunc([]byte(p), kind) {
					n++
				}
			}
			if other {
				n++
			}
			if e := secret.Quality(p, "user"); (e == api.OK) != (n >= 3) || e != api.OK && e != api.ErrDenied {
				t.Errorf("Quality of %q with %d classes = %d", p, n, int(e))
			}
		}
	}
}

// P22.3: a user in a password without case.
func TestQualityUser(t *testing.T) {
	p := "Zy-987-Ab cD"
	for i := range len(p) {
		for j := i; j <= len(p); j++ {
			for _, user := range []string{p[i:j], strings.ToUpper(p[i:j]), fold.Lower(p[i:j])} {
				want := api.OK
				if j-i >= 3 {
					want = api.ErrDenied
				}
				if e := secret.Quality(p, user); e != want {
					t.Errorf("Quality of %q for %q = %d", p, user, int(e))
				}
			}
		}
	}
}
