package change_test

import (
	"math"
	"math/rand"
	"slices"
	"strconv"
	"strings"
	"testing"

	"identity/api"
	"identity/attrs"
	"identity/change"
	"identity/csn"
)

// at makes a number.
func at(time, seq, replica int) api.CSN {
	return api.CSN{Time: time, Seq: seq, Replica: replica}
}

// id is the identifier of an entry.
const id = "00000000005-00000011-2"

// create, remove, rename, put and drop make a record of each kind.
func create(c api.CSN, name string) api.Change {
	return api.Change{CSN: c, Op: api.CreateEntry, ID: id, Name: name}
}

func remove(c api.CSN) api.Change {
	return api.Change{CSN: c, Op: api.RemoveEntry, ID: id}
}

func rename(c api.CSN, name string) api.Change {
	return api.Change{CSN: c, Op: api.RenameEntry, ID: id, Name: name}
}

func put(c api.CSN, attr, value string) api.Change {
	return api.Change{CSN: c, Op: api.PutValue, ID: id, Attr: attr, Value: value}
}

func drop(c api.CSN, attr, value string) api.Change {
	return api.Change{CSN: c, Op: api.DropValue, ID: id, Attr: attr, Value: value}
}

// kinds are valid records, one of each kind.
func kinds() []api.Change {
	c := at(9, 3, 1)
	return []api.Change{create(c, "cn=a,ou=s"), remove(c), rename(c, "cn=b,ou=s"), put(c, "cn", "a b"), drop(c, "cn", "a b")}
}

// badNames are strings that are no names in normal form, or the root.
var badNames = []string{"", " ", "x", "o=", "=x", "O=x", "o=X", "o =x", "ou=s, o=x", "ou=s,o=x ", "ou=s,,o=x", "cn=a  b", "1o=x", "cn=é", strings.Repeat("a=b,", api.MaxDepth) + "o=x"}

// badAttrs are strings that are no names in lower case.
var badAttrs = []string{"", " ", "1cn", "-cn", "c n", "cn ", "c_n", "é", "CN", "cN", "Cn", "mail-A", "mail-Z", "c\x00", strings.Repeat("a", api.MaxName+1)}

// badValues are strings that are no values.
var badValues = []string{"", " ", " a", "a ", "a\n", "a\x1fb", "a\x7f", "é", strings.Repeat("a", api.MaxValue+1)}

// badNumbers are no change sequence numbers.
var badNumbers = []api.CSN{at(-1, 0, 0), at(api.MaxTime+1, 0, 0), at(0, -1, 0), at(0, 1<<32, 0), at(0, 0, -1), at(0, 0, api.MaxReplicas), at(math.MinInt, 0, 0)}

// badIDs are no identifiers of entries.
var badIDs = []string{"", "x", id + " ", " " + id, "00000000005-00000011-8", "10000000001-00000011-2", "0000000000A-00000011-2", "00000000005-00000011"}

// P16.1: records of all kinds, up to their limits.
func TestCheck(t *testing.T) {
	top := at(api.MaxTime, 1<<32-1, api.MaxReplicas-1)
	deep := strings.Repeat("a=b,", api.MaxDepth-1) + "o=x"
	for _, c := range append(kinds(),
		create(at(0, 0, 0), "o=x"), create(top, deep), rename(top, deep), remove(top), create(top, `cn=lee\, ann,ou=s`),
		put(top, "a", "A"), put(top, "mail-2-", "~"), drop(top, "z", "a  B"),
		put(top, strings.Repeat("a", api.MaxName), strings.Repeat("a", api.MaxValue)),
		api.Change{CSN: top, Op: api.RemoveEntry, ID: "10000000000-ffffffff-7"},
		api.Change{CSN: top, Op: api.RemoveEntry, ID: "00000000000-00000000-0"},
	) {
		if e := change.Check(c); e != api.OK {
			t.Errorf("Check(%+v) = %d", c, int(e))
		}
	}
}

// P16.1: each single error.
func TestCheckErrors(t *testing.T) {
	expect := func(c api.Change, want api.Errno) {
		t.Helper()
		if e := change.Check(c); e != want {
			t.Errorf("Check(%+v) = %d, not %d", c, int(e), int(want))
		}
		if s, e := change.Line(c); s != "" || e != want {
			t.Errorf("Line(%+v) = %q, %d, not %d", c, s, int(e), int(want))
		}
	}
	for _, c := range kinds() {
		for _, number := range badNumbers {
			bad := c
			bad.CSN = number
			expect(bad, api.ErrArg)
		}
		for _, op := range []api.ChangeOp{math.MinInt, -1, 0, 6, 7, math.MaxInt} {
			bad := c
			bad.Op = op
			expect(bad, api.ErrArg)
		}
		for _, s := range badIDs {
			bad := c
			bad.ID = s
			expect(bad, api.ErrForm)
		}
	}
	for _, c := range kinds()[:3] {
		bad := c
		bad.Attr = "cn"
		expect(bad, api.ErrForm)
		bad = c
		bad.Value = "a"
		expect(bad, api.ErrForm)
	}
	for _, c := range kinds()[3:] {
		bad := c
		bad.Name = "o=x"
		expect(bad, api.ErrForm)
		for _, s := range badAttrs {
			bad = c
			bad.Attr = s
			expect(bad, api.ErrName)
		}
		for _, s := range badValues {
			bad = c
			bad.Value = s
			expect(bad, api.ErrType)
		}
	}
	expect(api.Change{CSN: at(9, 0, 0), Op: api.RemoveEntry, ID: id, Name: "o=x"}, api.ErrForm)
	expect(api.Change{CSN: at(9, 0, 0), Op: api.RemoveEntry, ID: id, Value: "a"}, api.ErrForm)
	for _, s := range badNames {
		expect(create(at(9, 0, 0), s), api.ErrName)
		expect(rename(at(9, 0, 0), s), api.ErrName)
	}
	expect(api.Change{}, api.ErrArg)
}

// P16.1: for all combinations of good and bad fields, the first error is the
// one that the promise names first.
func TestCheckOrder(t *testing.T) {
	count := map[api.Errno]int{}
	for _, number := range []api.CSN{at(1, 0, 0), at(-1, 0, 0)} {
		for op := api.ChangeOp(0); op <= 6; op++ {
			for _, s := range []string{id, "x"} {
				for _, name := range []string{"", "o=x", "o=X"} {
					for _, attr := range []string{"", "cn", "CN", "c n"} {
						for _, value := range []string{"", "a", " a"} {
							c := api.Change{CSN: number, Op: op, ID: s, Name: name, Attr: attr, Value: value}
							want := firstError(c)
							if e := change.Check(c); e != want {
								t.Errorf("Check(%+v) = %d, not %d", c, int(e), int(want))
							}
							count[want]++
						}
					}
				}
			}
		}
	}
	for _, e := range []api.Errno{api.OK, api.ErrArg, api.ErrForm, api.ErrName, api.ErrType} {
		if count[e] == 0 {
			t.Errorf("no result %d", int(e))
		}
	}
}

// firstError is the definition of Check for the fields of TestCheckOrder.
func firstError(c api.Change) api.Errno {
	named := c.Op == api.CreateEntry || c.Op == api.RenameEntry
	valued := c.Op == api.PutValue || c.Op == api.DropValue
	switch {
	case c.CSN.Time < 0:
		return api.ErrArg
	case !named && !valued && c.Op != api.RemoveEntry:
		return api.ErrArg
	case c.ID != id:
		return api.ErrForm
	case !named && c.Name != "", !valued && c.Attr != "", !valued && c.Value != "":
		return api.ErrForm
	case named && c.Name != "o=x":
		return api.ErrName
	case valued && c.Attr != "cn":
		return api.ErrName
	case valued && c.Value != "a":
		return api.ErrType
	}
	return api.OK
}

// P16.4: examples of Merge.
func TestMerge(t *testing.T) {
	a, b, c := remove(at(1, 0, 0)), put(at(1, 0, 1), "cn", "a"), create(at(2, 0, 0), "o=x")
	for _, x := range []struct{ a, b, want []api.Change }{
		{nil, nil, nil},
		{[]api.Change{a}, nil, []api.Change{a}},
		{[]api.Change{a}, []api.Change{a}, []api.Change{a}},
		{[]api.Change{a, a}, nil, []api.Change{a}},
		{[]api.Change{c, b, a}, []api.Change{b, c}, []api.Change{a, b, c}},
		{[]api.Change{c}, []api.Change{a, b}, []api.Change{a, b, c}},
		// A record with an error is left out, also if its number is that of another one.
		{[]api.Change{a, put(at(2, 0, 0), "cn", " a")}, []api.Change{{}, c}, []api.Change{a, c}},
		{[]api.Change{put(at(2, 0, 0), "CN", "a")}, []api.Change{remove(at(-1, 0, 0))}, nil},
		// Of different records with one number, the one with the least line is left.
		{[]api.Change{put(at(3, 0, 0), "cn", "b")}, []api.Change{put(at(3, 0, 0), "cn", "a")}, []api.Change{put(at(3, 0, 0), "cn", "a")}},
		{[]api.Change{put(at(3, 0, 0), "cn", "a")}, []api.Change{put(at(3, 0, 0), "cn", "b")}, []api.Change{put(at(3, 0, 0), "cn", "a")}},
		{[]api.Change{remove(at(3, 0, 0)), put(at(3, 0, 0), "cn", "a")}, []api.Change{drop(at(3, 0, 0), "cn", "a"), create(at(3, 0, 0), "o=x")}, []api.Change{create(at(3, 0, 0), "o=x")}},
		{[]api.Change{remove(at(3, 0, 0))}, []api.Change{rename(at(3, 0, 0), "o=a")}, []api.Change{remove(at(3, 0, 0))}},
		// The bytes of the lines count: ! comes before %20, and %7C before &.
		{[]api.Change{put(at(3, 0, 0), "cn", "a!")}, []api.Change{put(at(3, 0, 0), "cn", "a b")}, []api.Change{put(at(3, 0, 0), "cn", "a!")}},
		{[]api.Change{put(at(3, 0, 0), "cn", "a&")}, []api.Change{put(at(3, 0, 0), "cn", "a|")}, []api.Change{put(at(3, 0, 0), "cn", "a|")}},
		// The line is that of the whole record: the space after cn comes before the a of cna.
		{[]api.Change{put(at(3, 0, 0), "cna", "a")}, []api.Change{put(at(3, 0, 0), "cn", "z")}, []api.Change{put(at(3, 0, 0), "cn", "z")}},
	} {
		if got := change.Merge(x.a, x.b); !slices.Equal(got, x.want) {
			t.Errorf("Merge(%v, %v) = %v, not %v", x.a, x.b, got, x.want)
		}
		if got := change.Merge(x.b, x.a); !slices.Equal(got, x.want) {
			t.Errorf("Merge(%v, %v) = %v, not %v", x.b, x.a, got, x.want)
		}
	}
}

// lineOf is the definition of the line of a record.
func lineOf(c api.Change) string {
	word := map[api.ChangeOp]string{api.CreateEntry: "create", api.RemoveEntry: "remove", api.RenameEntry: "rename", api.PutValue: "put", api.DropValue: "drop"}[c.Op]
	s := word + " " + csn.Format(c.CSN) + " " + c.ID
	if c.Name != "" {
		s += " " + escaped(c.Name)
	}
	if c.Attr != "" {
		s += " " + c.Attr + " " + escaped(c.Value)
	}
	return s
}

// escaped is the definition of an escaped string.
func escaped(s string) string {
	var b strings.Builder
	for i := range len(s) {
		if s[i] < 33 || s[i] > 126 || strings.IndexByte(`%|,=;"`, s[i]) >= 0 {
			b.WriteString("%" + strings.ToUpper(strconv.FormatInt(int64(s[i])+256, 16)[1:]))
		} else {
			b.WriteByte(s[i])
		}
	}
	return b.String()
}

// random returns a record, in most cases a valid one, out of a few numbers and
// contents.
func random(r *rand.Rand) api.Change {
	pick := func(l ...string) string { return l[r.Intn(len(l))] }
	c := at(r.Intn(4), r.Intn(2), r.Intn(3))
	name := pick("o=x", "ou=s,o=x", "cn=a b,o=x", `cn=a\,b,o=x`)
	attr, value := pick("cn", "cna", "mail"), pick("a", "b", "a b", "a|b", "%", "-")
	if r.Intn(30) == 0 {
		c, name, attr, value = at(-1, 0, 0), "x", "CN", " "
	}
	switch r.Intn(6) {
	case 0:
		return create(c, name)
	case 1:
		return remove(c)
	case 2:
		return rename(c, name)
	case 3:
		return put(c, attr, value)
	case 4:
		return drop(c, attr, value)
	}
	return api.Change{CSN: c, Op: api.RemoveEntry, ID: pick("00000000000-00000000-0", "00000000007-00000000-7", "x")}
}

// randoms returns a list of up to n records.
func randoms(r *rand.Rand, n int) []api.Change {
	var l []api.Change
	for range r.Intn(n + 1) {
		l = append(l, random(r))
	}
	return l
}

// merged is the definition of Merge.
func merged(l []api.Change) []api.Change {
	least := map[string]string{}
	records := map[string]api.Change{}
	for _, c := range l {
		if change.Check(c) != api.OK {
			continue
		}
		number, s := csn.Format(c.CSN), lineOf(c)
		if old, found := least[number]; !found || s < old {
			least[number], records[number] = s, c
		}
	}
	var numbers []string
	for number := range least {
		numbers = append(numbers, number)
	}
	slices.Sort(numbers)
	var m []api.Change
	for _, number := range numbers {
		m = append(m, records[number])
	}
	return m
}

// P16.4, P16.8: Merge of random lists gives what the definition gives,
// whatever the order of the lists and of their elements; merging again changes
// nothing.
func TestMergeDefinition(t *testing.T) {
	r := rand.New(rand.NewSource(1))
	clashes, repeated := 0, 0
	for range 3000 {
		a, b := randoms(r, 12), randoms(r, 12)
		all := slices.Concat(a, b)
		want := merged(all)
		m := change.Merge(a, b)
		if !slices.Equal(m, want) {
			t.Fatalf("Merge(%v, %v) = %v, not %v", a, b, m, want)
		}
		r.Shuffle(len(all), func(i, k int) { all[i], all[k] = all[k], all[i] })
		for _, cut := range []int{0, len(all) / 2, len(all)} {
			if got := change.Merge(all[:cut], all[cut:]); !slices.Equal(got, m) {
				t.Fatalf("Merge(%v, %v) = %v, not %v", all[:cut], all[cut:], got, m)
			}
		}
		for _, x := range [][]api.Change{change.Merge(b, a), change.Merge(m, a), change.Merge(b, m), change.Merge(m, m), change.Merge(m, nil)} {
			if !slices.Equal(x, m) {
				t.Fatalf("merged again: %v, not %v", x, m)
			}
		}
		c := randoms(r, 12)
		if !slices.Equal(change.Merge(m, c), change.Merge(a, change.Merge(b, c))) {
			t.Fatalf("Merge is not associative: %v, %v, %v", a, b, c)
		}
		for i, x := range all {
			for _, y := range all[:i] {
				if change.Check(x) == api.OK && change.Check(y) == api.OK && x.CSN == y.CSN {
					if x == y {
						repeated++
					} else {
						clashes++
					}
				}
			}
		}
	}
	if clashes < 1000 || repeated < 300 {
		t.Errorf("%d clashes, %d repetitions", clashes, repeated)
	}
}

// P16.5: examples of Since and Vector.
func TestSince(t *testing.T) {
	first, second, third := remove(at(3, 0, 0)), remove(at(5, 0, 0)), put(at(4, 0, 2), "cn", "a")
	bad, unmarked := remove(at(6, 0, 9)), put(at(6, 0, 1), "CN", " ")
	for _, x := range []struct {
		l           []api.Change
		v           []api.CSN
		vector      []api.CSN
		since, none []api.Change // Since of v, and of the vector
	}{
		{nil, nil, nil, nil, nil},
		{nil, []api.CSN{at(1, 0, 0)}, nil, nil, nil},
		{[]api.Change{first, second}, nil, []api.CSN{at(5, 0, 0)}, []api.Change{first, second}, nil},
		{[]api.Change{second, first}, []api.CSN{at(3, 0, 0)}, []api.CSN{at(5, 0, 0)}, []api.Change{second}, nil},
		{[]api.Change{second, first, third}, []api.CSN{at(2, 9, 0)}, []api.CSN{at(5, 0, 0), at(4, 0, 2)}, []api.Change{second, first, third}, nil},
		{[]api.Change{third, first, second, first}, []api.CSN{at(9, 0, 1)}, []api.CSN{at(5, 0, 0), at(4, 0, 2)}, []api.Change{third, first, second, first}, nil},
		{[]api.Change{third, first, second, first}, []api.CSN{at(4, 0, 0), at(4, 0, 2)}, []api.CSN{at(5, 0, 0), at(4, 0, 2)}, []api.Change{second}, nil},
		// What is no update vector covers nothing.
		{[]api.Change{first}, []api.CSN{at(9, 0, 1), at(9, 0, 0)}, []api.CSN{at(3, 0, 0)}, []api.Change{first}, nil},
		{[]api.Change{first}, []api.CSN{at(9, 0, 0), at(9, 0, 8)}, []api.CSN{at(3, 0, 0)}, []api.Change{first}, nil},
		// The number of a record counts if it is valid, whatever else the record is.
		{[]api.Change{bad, unmarked, first}, nil, []api.CSN{at(3, 0, 0), at(6, 0, 1)}, []api.Change{bad, unmarked, first}, []api.Change{bad}},
		{[]api.Change{bad, {}, unmarked}, []api.CSN{at(0, 0, 0)}, []api.CSN{at(0, 0, 0), at(6, 0, 1)}, []api.Change{bad, unmarked}, []api.Change{bad}},
		{[]api.Change{remove(at(-1, 0, 0)), bad}, nil, nil, []api.Change{remove(at(-1, 0, 0)), bad}, []api.Change{remove(at(-1, 0, 0)), bad}},
	} {
		vector := change.Vector(x.l)
		if !slices.Equal(vector, x.vector) {
			t.Errorf("Vector(%v) = %v, not %v", x.l, vector, x.vector)
		}
		if got := change.Since(x.l, x.v); !slices.Equal(got, x.since) {
			t.Errorf("Since(%v, %v) = %v, not %v", x.l, x.v, got, x.since)
		}
		if got := change.Since(x.l, vector); !slices.Equal(got, x.none) {
			t.Errorf("Since(%v, %v) = %v, not %v", x.l, vector, got, x.none)
		}
	}
}

// P16.5, P16.10: Since and Vector of random lists give what their definitions
// give; Since of a list and its Vector are the records without a number.
func TestSinceDefinition(t *testing.T) {
	r := rand.New(rand.NewSource(2))
	covered, left := 0, 0
	for range 3000 {
		l, other := randoms(r, 15), change.Vector(randoms(r, 6))
		v := change.Vector(l)
		var greatest []api.CSN
		for replica := range api.MaxReplicas {
			best := at(-1, 0, 0)
			for _, c := range l {
				if csn.Valid(c.CSN) && c.CSN.Replica == replica && csn.Compare(c.CSN, best) > 0 {
					best = c.CSN
				}
			}
			if best.Time >= 0 {
				greatest = append(greatest, best)
			}
		}
		if !slices.Equal(v, greatest) || csn.Check(v) != api.OK {
			t.Fatalf("Vector(%v) = %v, not %v", l, v, greatest)
		}
		var since, odd []api.Change
		for _, c := range l {
			if csn.Covers(other, c.CSN) {
				covered++
			} else {
				since = append(since, c)
				left++
			}
			if !csn.Valid(c.CSN) {
				odd = append(odd, c)
			}
		}
		if got := change.Since(l, other); !slices.Equal(got, since) {
			t.Fatalf("Since(%v, %v) = %v, not %v", l, other, got, since)
		}
		if got := change.Since(l, v); !slices.Equal(got, odd) {
			t.Fatalf("Since(%v, %v) = %v, not %v", l, v, got, odd)
		}
	}
	if covered < 1000 || left < 1000 {
		t.Errorf("%d covered, %d left", covered, left)
	}
}

// attr makes an attribute.
func attr(name string, values ...string) api.Attr {
	return api.Attr{Name: name, Values: values}
}

// P16.6: examples of Edits.
func TestEdits(t *testing.T) {
	var none api.CSN
	for _, x := range []struct {
		before, after []api.Attr
		want          []api.Change
	}{
		{nil, nil, nil},
		{[]api.Attr{attr("cn", "a")}, []api.Attr{attr("cn", "a")}, nil},
		{[]api.Attr{attr("CN", "b", "a")}, []api.Attr{attr("cn", "a"), attr("Cn", "b", "a"), attr("mail")}, nil},
		{[]api.Attr{attr("cn", "a")}, []api.Attr{attr("cn", "b")}, []api.Change{drop(none, "cn", "a"), put(none, "cn", "b")}},
		{nil, []api.Attr{attr("MAIL", "m"), attr("cn", "b", "B", "a")}, []api.Change{put(none, "cn", "B"), put(none, "cn", "a"), put(none, "cn", "b"), put(none, "mail", "m")}},
		{[]api.Attr{attr("MAIL", "m"), attr("cn", "b", "a")}, nil, []api.Change{drop(none, "cn", "a"), drop(none, "cn", "b"), drop(none, "mail", "m")}},
		{[]api.Attr{attr("MAIL", "m"), attr("cn", "b", "a")}, []api.Attr{attr("cn", "a", "c")}, []api.Change{drop(none, "cn", "b"), drop(none, "mail", "m"), put(none, "cn", "c")}},
		{[]api.Attr{attr("cn", "a")}, []api.Attr{attr("cn", "A"), attr("b", "a")}, []api.Change{drop(none, "cn", "a"), put(none, "b", "a"), put(none, "cn", "A")}},
		// A value of one attribute is none of another one, and names and values do not run together.
		{[]api.Attr{attr("cn", "a")}, []api.Attr{attr("mail", "a")}, []api.Change{drop(none, "cn", "a"), put(none, "mail", "a")}},
		{[]api.Attr{attr("cn", "a")}, []api.Attr{attr("c", "na")}, []api.Change{drop(none, "cn", "a"), put(none, "c", "na")}},
		// All arguments are accepted as they are.
		{[]api.Attr{attr("", "", " ")}, []api.Attr{attr("", ""), attr("1 ", "\n")}, []api.Change{drop(none, "", " "), put(none, "1 ", "\n")}},
	} {
		for _, to := range []string{id, "", "x"} {
			want := slices.Clone(x.want)
			for i := range want {
				want[i].ID = to
			}
			if got := change.Edits(to, x.before, x.after); !slices.Equal(got, want) {
				t.Errorf("Edits(%q, %v, %v) = %v, not %v", to, x.before, x.after, got, want)
			}
		}
	}
}

// randomAttrs returns a list of attributes out of a few names and values.
func randomAttrs(r *rand.Rand) []api.Attr {
	names := []string{"cn", "CN", "mail", "x"}
	values := []string{"a", "b", "A", "c d"}
	var l []api.Attr
	for range r.Intn(4) {
		a := attr(names[r.Intn(len(names))])
		for range r.Intn(4) {
			a.Values = append(a.Values, values[r.Intn(len(values))])
		}
		l = append(l, a)
	}
	return l
}

// applied returns the list after the changes, one after the other.
func applied(t *testing.T, l []api.Attr, edits []api.Change) []api.Attr {
	t.Helper()
	e := api.OK
	for _, c := range edits {
		switch c.Op {
		case api.PutValue:
			l, e = attrs.Add(l, c.Attr, []string{c.Value})
		case api.DropValue:
			l, e = attrs.Remove(l, c.Attr, []string{c.Value})
		default:
			t.Fatalf("the kind of %v", c)
		}
		if e != api.OK {
			t.Fatalf("%v: %d", c, int(e))
		}
	}
	return l
}

// P16.6, P16.9: the changes are as few as the definition says, in its order,
// and turn one list into the other one.
func TestEditsTurn(t *testing.T) {
	r := rand.New(rand.NewSource(3))
	for range 5000 {
		before, after := randomAttrs(r), randomAttrs(r)
		got := change.Edits(id, before, after)
		if turned := applied(t, before, got); !attrs.Equal(turned, after) {
			t.Fatalf("Edits(%v, %v) = %v turn into %v", before, after, got, turned)
		}
		var want []api.Change
		for _, x := range []struct {
			op          api.ChangeOp
			from, other []api.Attr
		}{{api.DropValue, before, after}, {api.PutValue, after, before}} {
			for _, name := range []string{"cn", "mail", "x"} {
				for _, value := range []string{"A", "a", "b", "c d"} {
					if attrs.Has(x.from, name, value) && !attrs.Has(x.other, name, value) {
						want = append(want, api.Change{Op: x.op, ID: id, Attr: name, Value: value})
					}
				}
			}
		}
		if !slices.Equal(got, want) {
			t.Fatalf("Edits(%v, %v) = %v, not %v", before, after, got, want)
		}
	}
}

// DOC.md, rule 4: arguments are not modified, and results are new memory.
func TestNewMemory(t *testing.T) {
	// The capacity is greater than the length, so that an append in place
	// would be seen.
	a := append(make([]api.Change, 0, 20), put(at(9, 0, 0), "cn", "a"), remove(at(3, 0, 1)))
	b := append(make([]api.Change, 0, 20), create(at(1, 0, 0), "o=x"))
	v := append(make([]api.CSN, 0, 20), at(1, 0, 0), at(1, 0, 1))
	before := append(make([]api.Attr, 0, 9), attr("MAIL", "b", "a"), attr("cn", "c"))
	after := append(make([]api.Attr, 0, 9), attr("Mail", "c", "b"))
	wasA, wasB, wasV := slices.Clone(a[:cap(a)]), slices.Clone(b[:cap(b)]), slices.Clone(v[:cap(v)])
	for _, result := range [][]api.Change{change.Merge(a, b), change.Merge(a, nil), change.Merge(nil, b), change.Since(a, v), change.Since(b, nil), change.Since(a, nil), change.Edits(id, before, after)} {
		for i := range result {
			result[i] = api.Change{Op: 99}
		}
	}
	vector := change.Vector(a)
	vector[0] = at(99, 0, 0)
	change.Text(a)
	if !slices.Equal(a[:cap(a)], wasA) || !slices.Equal(b[:cap(b)], wasB) || !slices.Equal(v[:cap(v)], wasV) {
		t.Errorf("the arguments are %v, %v, %v", a, b, v)
	}
	if before[0].Name != "MAIL" || before[0].Values[0] != "b" || after[0].Name != "Mail" || after[0].Values[0] != "c" {
		t.Errorf("the arguments are %v, %v", before, after)
	}
}
