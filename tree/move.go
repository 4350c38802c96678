package tree

import (
	"identity/api"
	"identity/name"
)

// The kinds of errors of a move, in the order in which they count.
const (
	noEntry      = iota // there is nothing to move
	noName              // no entry can have the new name
	nameTaken           // an entry has the new name
	belowItself         // the entry would lie below itself
	noParent            // there is no entry to move it below
	rootMoved           // the entry is a root
	nameTooDeep         // a name would have too many components
	kindsOfMoves        // how many kinds there are
)

// Move renames an entry with all entries below it.
func (t *Tree) Move(from, to string) api.Errno {
	if !t.made() {
		return api.ErrNil
	}
	for kind, applies := range t.moveErrors(from, to) {
		if applies() {
			return moveErrno(kind)
		}
	}
	renamed := map[string][]api.Attr{}
	for s, l := range t.entries {
		if after, e := name.Rebase(s, from, to); e == api.OK {
			s = after
		}
		renamed[s] = l
	}
	t.entries = renamed
	return api.OK
}

// moveErrors returns for each kind of errors whether it applies to a move.
func (t *Tree) moveErrors(from, to string) [kindsOfMoves]func() bool {
	return [...]func() bool{
		noEntry:     func() bool { return !t.has(from) },
		noName:      func() bool { return !isName(to) },
		nameTaken:   func() bool { return t.has(to) },
		belowItself: func() bool { return name.Under(to, from) },
		noParent:    func() bool { return !t.hasParent(to) },
		rootMoved:   func() bool { return isRoot(from) },
		nameTooDeep: func() bool { return t.tooDeep(from, to) },
	}
}

// tooDeep reports whether a name would have too many components after a move.
func (t *Tree) tooDeep(from, to string) bool {
	for s := range t.entries {
		if _, e := name.Rebase(s, from, to); e == api.ErrLimit {
			return true
		}
	}
	return false
}

// moveErrno returns the error number of a kind of errors.
func moveErrno(kind int) api.Errno {
	switch kind {
	case noEntry, noParent:
		return api.ErrNone
	case noName:
		return api.ErrName
	case nameTaken:
		return api.ErrTwice
	case belowItself:
		return api.ErrCycle
	case rootMoved:
		return api.ErrState
	}
	return api.ErrLimit
}
