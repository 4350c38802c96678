package digest

import (
	"fmt"
	"math"
	"slices"
	"testing"

	"identity/api"
)

// letters returns a list of n different strings.
func letters(n int) []string {
	l := make([]string, n)
	for i := range l {
		l[i] = fmt.Sprintf("element %d", i)
	}
	return l
}

// split returns the greatest power of two below n: the number of leaves to the
// left of the root.
func split(n int) int {
	k := 1
	for 2*k < n {
		k *= 2
	}
	return k
}

// modelRoot is the root of the hash tree, calculated from the root down.
func modelRoot(l []string) string {
	switch len(l) {
	case 0:
		return Text("")
	case 1:
		return Text("0" + l[0])
	}
	k := split(len(l))
	return Text("1" + modelRoot(l[:k]) + modelRoot(l[k:]))
}

// modelPath is the path of element i, calculated from the root down.
func modelPath(l []string, i int) []string {
	if len(l) == 1 {
		return nil
	}
	k := split(len(l))
	if i < k {
		return append(modelPath(l[:k], i), modelRoot(l[k:]))
	}
	return append(modelPath(l[k:], i-k), modelRoot(l[:k]))
}

// P3.4
func TestRoot(t *testing.T) {
	for n, want := range []string{
		"efd01f60ba992926",
		"47237bea37ffb045",
		"f2687592f7e9e72a",
		"c022f3337a7cf6c7",
		"d9cbda7ec250fad0",
		"8a5ed60166afd5d8",
	} {
		if got := Root([]string{"a", "b", "c", "d", "e"}[:n]); got != want {
			t.Errorf("Root of the first %d letters = %q, not %q", n, got, want)
		}
	}
	if Root(nil) != Text("") || Root([]string{"a"}) != Text("0a") || Root([]string{"a", "b"}) != Text("1"+Text("0a")+Text("0b")) {
		t.Error("Root of a short list")
	}
	for n := range 70 {
		l := letters(n)
		if got, want := Root(l), modelRoot(l); got != want {
			t.Errorf("Root of %d elements = %q, not %q", n, got, want)
		}
		if !slices.Equal(l, letters(n)) {
			t.Errorf("Root changed its list of %d elements", n)
		}
	}
}

// P3.4
func TestPath(t *testing.T) {
	abc := []string{"a", "b", "c"}
	for i, want := range [][]string{
		{Text("0b"), Text("0c")},
		{Text("0a"), Text("0c")},
		{Root(abc[:2])},
	} {
		if got, e := Path(abc, i); e != api.OK || !slices.Equal(got, want) {
			t.Errorf("Path(abc, %d) = %q, %d, not %q", i, got, int(e), want)
		}
	}
	if got, e := Path([]string{"a"}, 0); e != api.OK || len(got) != 0 {
		t.Errorf("Path(a, 0) = %q, %d", got, int(e))
	}
	for n := range 70 {
		l := letters(n)
		for i := range n {
			if got, e := Path(l, i); e != api.OK || !slices.Equal(got, modelPath(l, i)) {
				t.Errorf("Path of %d of %d = %q, %d", i, n, got, int(e))
			}
		}
		if !slices.Equal(l, letters(n)) {
			t.Errorf("Path changed its list of %d elements", n)
		}
	}
}

// P3.4
func TestPathErrors(t *testing.T) {
	for n := range 9 {
		for _, i := range []int{math.MinInt, -2, -1, n, n + 1, math.MaxInt} {
			if got, e := Path(letters(n), i); e != api.ErrRange || len(got) != 0 {
				t.Errorf("Path of %d of %d = %q, %d", i, n, got, int(e))
			}
		}
	}
}

// P3.5
func TestProves(t *testing.T) {
	a, b, c := Text("0a"), Text("0b"), Text("0c")
	ab := Text("1" + a + b)
	abc := Text("1" + ab + c)
	for _, x := range []struct {
		root, s string
		i, n    int
		path    []string
		want    bool
	}{
		{a, "a", 0, 1, nil, true},
		{a, "a", 0, 1, []string{}, true},
		{a, "a", 0, 2, nil, false},
		{a, "b", 0, 1, nil, false},
		{b, "a", 0, 1, nil, false},
		{a, "a", 0, 1, []string{b}, false},
		{ab, "a", 0, 2, []string{b}, true},
		{ab, "b", 1, 2, []string{a}, true},
		{ab, "a", 1, 2, []string{b}, false},
		{ab, "b", 0, 2, []string{a}, false},
		{ab, "a", 0, 2, []string{b, b}, false},
		{ab, "a", 0, 3, []string{b}, false},
		{ab, "a", 0, 1, []string{b}, false},
		{abc, "a", 0, 3, []string{b, c}, true},
		{abc, "b", 1, 3, []string{a, c}, true},
		{abc, "c", 2, 3, []string{ab}, true},
		{abc, "c", 1, 2, []string{ab}, true}, // the same calculation
		{abc, "c", 3, 4, []string{ab}, false},
		{abc, "a", 0, 3, []string{c, b}, false},
		{abc, "a", 0, 3, []string{b}, false},
		{abc, "a", 0, 3, []string{b, c, c}, false},
		{"", "a", 0, 1, nil, false},
		{Text(""), "", 0, 0, nil, false},
		{a, "a", -1, 1, nil, false},
		{a, "a", 1, 1, nil, false},
		{a, "a", 0, -1, nil, false},
		{a, "a", -1, 0, nil, false},
		{a, "a", math.MinInt, math.MaxInt, nil, false},
		{a, "a", math.MaxInt, math.MaxInt, nil, false},
		{a, "a", 0, math.MinInt, nil, false},
		{"47237BEA37FFB045", "a", 0, 1, nil, false},
	} {
		if got := Proves(x.root, x.s, x.i, x.n, x.path); got != x.want {
			t.Errorf("Proves(%q, %q, %d, %d, %q) = %v", x.root, x.s, x.i, x.n, x.path, got)
		}
	}
}

// P3.5: a tree may have as many leaves as an int counts.
func TestProvesOfTheGreatestTree(t *testing.T) {
	path := make([]string, 63)
	first, last := Text("0s"), Text("0s")
	for level := range path {
		path[level] = Text(fmt.Sprint(level))
		first = Text("1" + first + path[level])
		if level > 0 {
			last = Text("1" + path[level] + last)
		}
	}
	for _, n := range []int{math.MaxInt, math.MaxInt - 1} {
		if !Proves(first, "s", 0, n, path) || Proves(first, "s", 0, n, path[:62]) {
			t.Errorf("the first of %d leaves", n)
		}
	}
	// The last leaf has an even index, and no partner on the lowest level.
	if !Proves(last, "s", math.MaxInt-1, math.MaxInt, path[1:]) || Proves(last, "s", math.MaxInt-1, math.MaxInt, path) {
		t.Error("the last leaf")
	}
}

// P3.7
func TestPathsProve(t *testing.T) {
	for n := range 70 {
		l := letters(n)
		root := Root(l)
		for i := range n {
			path, _ := Path(l, i)
			kept := slices.Clone(path)
			if !Proves(root, l[i], i, n, path) {
				t.Errorf("the path of %d of %d does not prove", i, n)
			}
			if !slices.Equal(path, kept) {
				t.Errorf("Proves changed the path of %d of %d", i, n)
			}
			if Proves(root, l[i], i, n, append(path, root)) || len(path) > 0 && (Proves(root, l[i], i, n, path[1:]) || Proves(root, l[i], i, n, path[:len(path)-1])) {
				t.Errorf("another path of %d of %d proves", i, n)
			}
		}
	}
}

// P3.8: nothing but the elements is proved, whichever of the paths is used. The
// texts from which the nodes were made are no elements either.
func TestOnlyElementsAreProved(t *testing.T) {
	for n := 1; n <= 9; n++ {
		l := letters(n)
		root := Root(l)
		claims := append(letters(n+1), "", "x")
		for i := 0; i+1 < n; i += 2 {
			claims = append(claims, Text("0"+l[i])+Text("0"+l[i+1]))
		}
		for _, s := range claims {
			for i := range n {
				for j := range n {
					path, _ := Path(l, j)
					for cut := range len(path) + 1 {
						if Proves(root, s, i, n, path[cut:]) && s != l[i] {
							t.Errorf("%q is proved as element %d of %d", s, i, n)
						}
					}
				}
			}
		}
	}
}
