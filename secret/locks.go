package secret

import (
	"identity/api"
	"identity/clock"
	"identity/fold"
)

// Locks counts failures and locks users.
type Locks struct {
	self               *Locks // the locks themselves, which tells them from a copy that NewLocks did not return
	most, window, lock int
	users              map[string]record // those who have failures
}

// record is what is remembered of a user.
type record struct {
	failures []int // the instants of the last ones, in the order of the calls
	until    int   // the user is locked before this instant
}

// made reports whether k are locks that NewLocks returned.
func (k *Locks) made() bool {
	return k != nil && k.self == k
}

// limited returns the instant or duration as which the argument t is used.
func limited(t int) int {
	return clock.Add(t, 0)
}

// NewLocks returns a counter that locks a user for lock seconds after most failures within window seconds.
func NewLocks(most, window, lock int) (*Locks, api.Errno) {
	window, lock = limited(window), limited(lock)
	if most < 1 || most > api.MaxItems || window < 1 || lock < 1 {
		return nil, api.ErrArg
	}
	k := &Locks{most: most, window: window, lock: lock, users: map[string]record{}}
	k.self = k
	return k, api.OK
}

// Fail records a failure.
func (k *Locks) Fail(user string, now int) {
	if !k.made() || !fold.Word(user) {
		return
	}
	r, known := k.users[user]
	if !known && len(k.users) >= api.MaxItems {
		return
	}
	now = limited(now)
	r.failures = append(r.failures, now)
	r.failures = r.failures[max(0, len(r.failures)-api.MaxItems):]
	if k.count(r, now) >= k.most || now < r.until {
		r.until = max(r.until, clock.Add(now, k.lock))
	}
	k.users[user] = r
}

// count returns how many failures count at an instant.
func (k *Locks) count(r record, now int) int {
	n := 0
	for _, t := range r.failures {
		if t <= now && now-t < k.window {
			n++
		}
	}
	return n
}

// Clear forgets the failures of a user.
func (k *Locks) Clear(user string) {
	if k.made() {
		delete(k.users, user)
	}
}

// Locked reports whether a user is locked.
func (k *Locks) Locked(user string, now int) bool {
	return k.made() && limited(now) < k.users[user].until
}

// Failures returns the number of failures of a user that count.
func (k *Locks) Failures(user string, now int) int {
	if !k.made() {
		return 0
	}
	return k.count(k.users[user], limited(now))
}
