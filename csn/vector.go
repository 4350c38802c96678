package csn

import (
	"slices"

	"identity/api"
)

// Check returns the first error of an update vector.
func Check(v []api.CSN) api.Errno {
	var seen [api.MaxReplicas]bool
	for i, c := range v {
		switch {
		case !Valid(c):
			return api.ErrArg
		case seen[c.Replica]:
			return api.ErrTwice
		case i > 0 && c.Replica < v[i-1].Replica:
			return api.ErrForm
		}
		seen[c.Replica] = true
	}
	return api.OK
}

// vector returns the update vector as which v counts.
func vector(v []api.CSN) []api.CSN {
	if Check(v) != api.OK {
		return nil
	}
	return v
}

// Covers reports whether a vector contains a change.
func Covers(v []api.CSN, c api.CSN) bool {
	return Valid(c) && slices.ContainsFunc(vector(v), func(e api.CSN) bool {
		return e.Replica == c.Replica && (e == c || Compare(e, c) > 0)
	})
}

// Note returns the vector after a change was received.
func Note(v []api.CSN, c api.CSN) []api.CSN {
	// A valid number alone is an update vector, any other one counts as none.
	return Join(v, []api.CSN{c})
}

// Join returns the vector that contains what either vector contains.
func Join(a, b []api.CSN) []api.CSN {
	return least(slices.Concat(vector(a), vector(b))...)
}

// least returns the least update vector that contains all these valid numbers.
func least(numbers ...api.CSN) []api.CSN {
	var v []api.CSN
	for replica := range api.MaxReplicas {
		if c, found := latest(replica, numbers...); found {
			v = append(v, c)
		}
	}
	return v
}

// latest returns the latest one of those of the numbers that are a replica's,
// and whether there is one.
func latest(replica int, numbers ...api.CSN) (last api.CSN, found bool) {
	for _, c := range numbers {
		if c.Replica == replica && (!found || Compare(c, last) > 0) {
			last, found = c, true
		}
	}
	return last, found
}

// Within reports whether everything that a contains is contained in b.
func Within(a, b []api.CSN) bool {
	return !slices.ContainsFunc(vector(a), func(c api.CSN) bool { return !Covers(b, c) })
}
