package secret_test

import (
	"math"
	"math/rand"
	"slices"
	"strconv"
	"testing"

	"identity/api"
	"identity/secret"
)

// locks returns new locks.
func locks(t *testing.T, most, window, lock int) *secret.Locks {
	t.Helper()
	k, e := secret.NewLocks(most, window, lock)
	if k == nil || e != api.OK {
		t.Fatalf("NewLocks of %d, %d, %d = %v, %d", most, window, lock, k, int(e))
	}
	return k
}

// fail records failures of ann.
func fail(k *secret.Locks, l ...int) {
	for _, now := range l {
		k.Fail("ann", now)
	}
}

// wantLocked checks that a user is locked up to an instant, but not at it.
func wantLocked(t *testing.T, what string, k *secret.Locks, user string, until int) {
	t.Helper()
	if until > 0 && !k.Locked(user, until-1) || k.Locked(user, until) {
		t.Errorf("%s: %s is not locked until %d: %v, %v", what, user, until, k.Locked(user, until-1), k.Locked(user, until))
	}
}

// P22.4
func TestNewLocks(t *testing.T) {
	for _, x := range []struct {
		most, window, lock int
		want               api.Errno
	}{
		{1, 1, 1, api.OK}, {api.MaxItems, api.MaxTime, api.MaxTime, api.OK}, {3, math.MaxInt, math.MaxInt, api.OK},
		{0, 10, 10, api.ErrArg}, {-1, 10, 10, api.ErrArg}, {math.MinInt, 10, 10, api.ErrArg}, {api.MaxItems + 1, 10, 10, api.ErrArg},
		{3, 0, 10, api.ErrArg}, {3, -1, 10, api.ErrArg}, {3, math.MinInt, 10, api.ErrArg},
		{3, 10, 0, api.ErrArg}, {3, 10, -1, api.ErrArg}, {3, 10, math.MinInt, api.ErrArg},
	} {
		k, e := secret.NewLocks(x.most, x.window, x.lock)
		if e != x.want || (k != nil) != (e == api.OK) {
			t.Errorf("NewLocks of %d, %d, %d = %v, %d", x.most, x.window, x.lock, k, int(e))
		}
		if k.Locked("ann", 0) || k.Failures("ann", 0) != 0 {
			t.Errorf("NewLocks of %d, %d, %d has failures", x.most, x.window, x.lock)
		}
	}
}

// DOC.md, rule 1: nil, and locks that NewLocks did not return.
func TestUnmade(t *testing.T) {
	made := locks(t, 1, 10, 10)
	fail(made, 5)
	copied := *made
	for i, k := range []*secret.Locks{nil, {}, new(secret.Locks), &copied} {
		k.Fail("ann", 6)
		k.Fail("bob", 6)
		k.Clear("ann")
		if k.Locked("ann", 5) || k.Failures("ann", 6) != 0 || k.Locked("bob", 6) {
			t.Errorf("%d: %v, %d", i, k.Locked("ann", 5), k.Failures("ann", 6))
		}
	}
	wantLocked(t, "after calls of a copy", made, "ann", 15)
	if made.Failures("ann", 6) != 1 || made.Locked("bob", 6) {
		t.Errorf("a copy changed the locks: %d", made.Failures("ann", 6))
	}
}

// P22.5, P22.6, P22.8: the examples of the chapter, and the ends of windows and locks.
func TestFail(t *testing.T) {
	for _, x := range []struct {
		most, window, lock int
		failures           []int
		until              int
	}{
		{2, 10, 100, []int{5, 9}, 109},
		{2, 10, 100, []int{5, 15}, 0},
		{2, 10, 100, []int{5, 14}, 114},
		{1, 5, 5, []int{3}, 8},
		{1, 1, 1, []int{3}, 4},
		{2, 1, 1, []int{3, 4}, 0},
		{2, 1, 1, []int{3, 3}, 4},
		{3, 10, 60, []int{0, 4, 10, 11}, 71},
		{3, 10, 60, []int{0, 4, 10}, 0},
		// Each failure of a locked user prolongs the lock.
		{3, 10, 60, []int{0, 4, 9, 50}, 110},
		{3, 10, 60, []int{0, 4, 9, 68}, 128},
		{3, 10, 60, []int{0, 4, 9, 69}, 69},
		{3, 10, 60, []int{0, 4, 9, 69, 70, 71}, 131},
		// Time may go backwards, and the lock does not end earlier for it.
		{2, 10, 100, []int{9, 5}, 0},
		{2, 10, 100, []int{9, 5, 5}, 105},
		{2, 10, 100, []int{9, 5, 9}, 109},
		{2, 10, 100, []int{50, 55, 5}, 155},
		{2, 10, 100, []int{50, 55, 5, 5, 6}, 155},
		{2, 10, 100, []int{50, 5, 55, 60}, 160},
		// Instants are limited.
		{1, 10, 5, []int{-7}, 5},
		{2, 10, 5, []int{math.MinInt, -1}, 5},
		{1, 10, 5, []int{api.MaxTime - 6}, api.MaxTime - 1},
		{1, 10, 5, []int{api.MaxTime - 3}, api.MaxTime},
		{1, 10, math.MaxInt, []int{7}, api.MaxTime},
		{2, math.MaxInt, 5, []int{0, api.MaxTime - 1}, api.MaxTime},
		{2, math.MaxInt, math.MaxInt, []int{0, api.MaxTime}, 0},
	} {
		k := locks(t, x.most, x.window, x.lock)
		fail(k, x.failures...)
		wantLocked(t, "failures at "+strconv.Itoa(len(x.failures))+" instants", k, "ann", x.until)
		for i, now := range []int{math.MinInt, -1, 0} {
			if got := k.Locked("ann", now); got != (x.until > 0) {
				t.Errorf("%v, %d: Locked at %d = %v", x, i, now, got)
			}
		}
		if k.Locked("ann", math.MaxInt) || k.Locked("ann", api.MaxTime) {
			t.Errorf("%v: locked at the end of time", x)
		}
	}
}

// P22.6: which failures count.
func TestFailures(t *testing.T) {
	k := locks(t, 5, 10, 60)
	fail(k, 5, 20, 12, 12, -4, math.MaxInt)
	for now, want := range map[int]int{math.MinInt: 1, -1: 1, 0: 1, 4: 1, 5: 2, 9: 2, 10: 1, 11: 1, 12: 3, 14: 3, 15: 2, 19: 2, 20: 3, 21: 3, 22: 1, 29: 1, 30: 0, api.MaxTime - 1: 0, api.MaxTime: 1, math.MaxInt: 1} {
		if got := k.Failures("ann", now); got != want {
			t.Errorf("Failures at %d = %d, not %d", now, got, want)
		}
		if k.Failures("bob", now) != 0 || k.Failures("Ann", now) != 0 || k.Failures("", now) != 0 {
			t.Errorf("failures of others at %d", now)
		}
	}
}

// P22.5: only the last MaxItems failures, in the order of the calls, are remembered.
func TestRemembered(t *testing.T) {
	k := locks(t, api.MaxItems, 10, 60)
	fail(k, 100)
	for range api.MaxItems - 1 {
		fail(k, 7)
	}
	if n, m := k.Failures("ann", 7), k.Failures("ann", 100); n != api.MaxItems-1 || m != 1 || k.Locked("ann", 0) {
		t.Errorf("failures: %d, %d", n, m)
	}
	// The first one is forgotten, although its instant is the latest one.
	fail(k, 7)
	if n, m := k.Failures("ann", 7), k.Failures("ann", 100); n != api.MaxItems || m != 0 {
		t.Errorf("failures: %d, %d", n, m)
	}
	wantLocked(t, "MaxItems failures", k, "ann", 67)
	for i := range 3 * api.MaxItems {
		fail(k, 50)
		if n, m := k.Failures("ann", 7), k.Failures("ann", 50); n != max(0, api.MaxItems-1-i) || m != min(i+1, api.MaxItems) {
			t.Errorf("failures after %d more: %d, %d", i+1, n, m)
		}
	}
}

// P22.5: users are words, and at most MaxItems have failures.
func TestUsers(t *testing.T) {
	k := locks(t, 1, 10, 60)
	for _, user := range []string{"", "a b", "änn", bytes(api.MaxName + 1), "a,b", "a\n"} {
		k.Fail(user, 5)
		if k.Locked(user, 5) || k.Failures(user, 5) != 0 {
			t.Errorf("%q is locked", user)
		}
		k.Clear(user)
	}
	users := []string{"Ann", "ann", "1:a.b_c-d", bytes(api.MaxName)}
	for i := len(users); i < api.MaxItems; i++ {
		users = append(users, strconv.Itoa(i))
	}
	for i, user := range users {
		k.Fail(user, i)
		wantLocked(t, "a failure", k, user, i+60)
	}
	k.Fail("late", 5)
	k.Fail("late", 5)
	if k.Locked("late", 5) || k.Failures("late", 5) != 0 {
		t.Error("a user too many")
	}
	// The failures of those who have some are recorded.
	k.Fail("ann", 20)
	wantLocked(t, "a second failure", k, "ann", 80)
	k.Clear("late")
	k.Fail("late", 5)
	if k.Locked("late", 5) {
		t.Error("a user too many after Clear")
	}
	k.Clear("Ann")
	k.Fail("late", 5)
	wantLocked(t, "a user in the place of another one", k, "late", 65)
	k.Fail("Ann", 5)
	if k.Locked("Ann", 5) {
		t.Error("a user too many again")
	}
}

// P22.5, P22.8, P22.9: Clear ends everything about a user, and nothing about others.
func TestClear(t *testing.T) {
	k := locks(t, 2, 10, 60)
	fail(k, 5, 6)
	k.Fail("bob", 5)
	k.Fail("bob", 7)
	k.Clear("ann")
	k.Clear("eve")
	wantLocked(t, "Clear", k, "ann", 0)
	wantLocked(t, "Clear of another one", k, "bob", 67)
	if k.Failures("ann", 6) != 0 || k.Failures("bob", 7) != 2 {
		t.Errorf("failures: %d, %d", k.Failures("ann", 6), k.Failures("bob", 7))
	}
	fail(k, 8)
	wantLocked(t, "a failure after Clear", k, "ann", 0)
	fail(k, 9)
	wantLocked(t, "two failures after Clear", k, "ann", 69)
	wantLocked(t, "failures of another one", k, "bob", 67)
}

// history is what is remembered of a user by the definitions of the chapter.
type history struct {
	failures []int
	until    int
}

// counted returns how many failures count at an instant.
func (h history) counted(now, window int) int {
	l := slices.DeleteFunc(slices.Clone(h.failures), func(t int) bool { return t > now || now-t >= window })
	return len(l)
}

// P22.5, P22.6, P22.8, P22.9: random calls have the results of the definitions.
func TestLocksDefinition(t *testing.T) {
	r := rand.New(rand.NewSource(1))
	locked := 0
	for range 200 {
		most, window, lock := 1+r.Intn(4), 1+r.Intn(12), 1+r.Intn(20)
		k, now := locks(t, most, window, lock), 0
		model := map[string]history{}
		for range 100 {
			now = max(0, now+r.Intn(8)-2)
			user := []string{"ann", "bob", "eve"}[r.Intn(3)]
			if r.Intn(12) == 0 {
				k.Clear(user)
				delete(model, user)
			} else {
				k.Fail(user, now)
				h := model[user]
				wasLocked := now < h.until
				h.failures = append(h.failures, now)
				if wasLocked || h.counted(now, window) >= most {
					h.until = max(h.until, now+lock)
				}
				model[user] = h
			}
			for _, user := range []string{"ann", "bob", "eve"} {
				at := max(0, now+r.Intn(40)-20)
				h := model[user]
				if k.Locked(user, at) != (at < h.until) || k.Failures(user, at) != h.counted(at, window) {
					t.Fatalf("%s at %d: %v, %d, not %v", user, at, k.Locked(user, at), k.Failures(user, at), h)
				}
				if at < h.until {
					locked++
				}
			}
		}
	}
	if locked < 1000 {
		t.Errorf("locked %d times", locked)
	}
}
