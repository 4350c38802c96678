package merge

import (
	"slices"
	"strings"

	"identity/api"
	"identity/name"
)

// conflictMark separates the value of a name from the identifier of an entry
// that lost this name to another one.
const conflictMark = "#"

// ownName returns the own name of an entry, or the empty string if it is not live.
func (s *State) ownName(id string) string {
	own, created := "", false
	// These records have no attribute, and the latest one is the last one.
	for _, c := range s.records[id][""] {
		switch c.Op {
		case api.RemoveEntry:
			return ""
		case api.CreateEntry:
			created = true
			fallthrough
		case api.RenameEntry:
			own = c.Name
		}
	}
	if !created {
		return ""
	}
	return own
}

// displayed returns the name under which an entry is displayed, or the empty
// string if it is not live.
func (s *State) displayed(id string) string {
	own := s.ownName(id)
	if own == "" || s.owner(own) == id {
		return own
	}
	return conflictName(own, id)
}

// owner returns the identifier of the owner of a name, or the empty string.
func (s *State) owner(own string) string {
	if len(s.named[own]) == 0 {
		return ""
	}
	return s.named[own][0]
}

// conflictName returns the name under which an entry is displayed that lost
// its own name.
func conflictName(own, id string) string {
	l, _ := name.Parse(own)
	// No identifier contains a capital letter, so it is in lower case already.
	end := conflictMark + id
	value := l[0].Value
	l[0].Value = value[:min(len(value), api.MaxValue-len(end))] + end
	s, _ := name.Format(l)
	return s
}

// loser returns the identifier of the only entry that can be displayed under
// a name without being its owner.
func loser(s string) string {
	l, _ := name.Parse(s)
	if len(l) == 0 {
		return ""
	}
	return l[0].Value[strings.LastIndex(l[0].Value, conflictMark)+1:]
}

// Find returns the identifier of the entry with a name.
func (s *State) Find(name string) (string, bool) {
	if !s.made() || name == "" {
		return "", false
	}
	shown := slices.DeleteFunc([]string{s.owner(name), loser(name)}, func(id string) bool { return s.displayed(id) != name })
	if len(shown) == 0 {
		return "", false
	}
	return slices.Min(shown), true
}

// hasParent reports whether an entry that is displayed under a name is no orphan.
func (s *State) hasParent(shown string) bool {
	parent, _ := name.Parent(shown)
	if name.Depth(parent) <= 1 {
		return true
	}
	// Whether an entry is an orphan depends on its name only, so that any
	// entry with the name of the parent tells.
	_, found := s.Find(parent)
	return found && s.hasParent(parent)
}
