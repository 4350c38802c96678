package refint

import (
	"slices"
	"strings"

	"identity/api"
	"identity/attrs"
	"identity/name"
	"identity/tree"
)

// The attributes and the class by which an entry is a group.
const (
	classAttr  = "class"
	groupClass = "group"
	memberAttr = "member"
)

// isGroup reports whether an entry is a group.
func isGroup(e api.Entry) bool {
	// No byte but a letter of the word group is equal to one of its letters
	// without case: EqualFold compares as fold.Lower does.
	same := func(class string) bool { return strings.EqualFold(class, groupClass) }
	return slices.ContainsFunc(attrs.Get(e.Attrs, classAttr), same)
}

// groupRefs returns the references of an entry if it is a group.
func groupRefs(e api.Entry) []string {
	if !isGroup(e) {
		return nil
	}
	return references(attrs.Get(e.Attrs, memberAttr))
}

// reach calls next for a name, then for the names that it returns, and so on,
// once for each name. It returns all these names.
func reach(from string, next func(s string) []string) map[string]bool {
	reached := map[string]bool{from: true}
	for todo := []string{from}; len(todo) > 0; todo = todo[1:] {
		for _, s := range next(todo[0]) {
			if !reached[s] {
				reached[s] = true
				todo = append(todo, s)
			}
		}
	}
	return reached
}

// Members returns the users that belong to a group directly or through other groups.
func Members(t *tree.Tree, group string) ([]string, api.Errno) {
	if e, ok := t.Get(group); !ok || !isGroup(e) {
		return nil, api.ErrNone
	}
	var users []string
	reach(group, func(s string) []string {
		e, ok := t.Get(s)
		if ok && !isGroup(e) {
			users = append(users, s)
		}
		return groupRefs(e)
	})
	slices.SortFunc(users, name.Compare)
	return users, api.OK
}

// Groups returns the groups to which a user belongs directly or through other groups.
func Groups(t *tree.Tree, user string) []string {
	if e, ok := t.Get(user); !ok || isGroup(e) {
		return nil
	}
	pairs := surveyed(t, groupRefs).pairs
	groups := map[string][]string{}
	for _, p := range pairs {
		groups[p.Value] = append(groups[p.Value], p.Key)
	}
	belongs := reach(user, func(s string) []string { return groups[s] })
	var l []string
	for _, p := range pairs {
		if belongs[p.Key] {
			l = append(l, p.Key)
		}
	}
	// The references of a group come one after the other.
	return slices.Compact(l)
}
