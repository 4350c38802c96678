package digest

import "identity/api"

// Root returns the root of the hash tree of a list.
func Root(l []string) string {
	if len(l) == 0 {
		return Text("")
	}
	level := leaves(l)
	for len(level) > 1 {
		level = above(level)
	}
	return level[0]
}

// Path returns the siblings that prove that element i belongs to a hash tree.
func Path(l []string, i int) ([]string, api.Errno) {
	if i < 0 || i >= len(l) {
		return nil, api.ErrRange
	}
	var path []string
	for level := leaves(l); len(level) > 1; level = above(level) {
		if p := partner(i); p < len(level) {
			path = append(path, level[p])
		}
		i /= 2
	}
	return path, api.OK
}

// Proves reports whether a path proves that s is element i of n elements of a tree with this root.
func Proves(root, s string, i, n int, path []string) bool {
	if i < 0 || i >= n {
		return false
	}
	node := leaf(s)
	for n > 1 {
		if partner(i) < n {
			if len(path) == 0 {
				return false
			}
			node = joined(node, path[0], i)
			path = path[1:]
		}
		i /= 2
		// n+1 would overflow for the greatest n.
		n = n/2 + n%2
	}
	return len(path) == 0 && node == root
}

// The digits that keep leaves and inner nodes apart.
const (
	leafMark = "0"
	pairMark = "1"
)

// leaf returns the leaf of an element.
func leaf(s string) string {
	return Text(leafMark + s)
}

// leaves returns the lowest level of the tree of l.
func leaves(l []string) []string {
	level := make([]string, len(l))
	for i := range l {
		level[i] = leaf(l[i])
	}
	return level
}

// above returns the level that follows a level.
func above(level []string) []string {
	var next []string
	for i := 0; i < len(level); i += 2 {
		if partner(i) < len(level) {
			next = append(next, pair(level[i], level[i+1]))
		} else {
			next = append(next, level[i])
		}
	}
	return next
}

// pair returns the node above two nodes.
func pair(left, right string) string {
	return Text(pairMark + left + right)
}

// partner returns the index of the other node of the pair of node i.
func partner(i int) int {
	return i ^ 1
}

// joined returns the node above node i and its partner.
func joined(node, other string, i int) string {
	if i%2 == 0 {
		return pair(node, other)
	}
	return pair(other, node)
}
