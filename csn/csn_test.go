package csn_test

import (
	"math"
	"math/rand"
	"regexp"
	"strconv"
	"strings"
	"testing"

	"identity/api"
	"identity/csn"
)

// maxSeq is the greatest Seq.
const maxSeq = 4294967295

// at makes a number.
func at(time, seq, replica int) api.CSN {
	return api.CSN{Time: time, Seq: seq, Replica: replica}
}

// extremes are values of fields next to the bounds of numbers and of int.
var extremes = []int{math.MinInt, -1, 0, 1, api.MaxReplicas - 1, api.MaxReplicas, maxSeq - 1, maxSeq, maxSeq + 1, api.MaxTime - 1, api.MaxTime, api.MaxTime + 1, math.MaxInt}

// everywhere returns all numbers, valid or not, with fields of a list.
func everywhere(fields []int) []api.CSN {
	var l []api.CSN
	for _, time := range fields {
		for _, seq := range fields {
			for _, replica := range fields {
				l = append(l, at(time, seq, replica))
			}
		}
	}
	return l
}

// valid is the definition of a number.
func valid(c api.CSN) bool {
	return c.Time >= 0 && c.Time <= 1099511627776 && c.Seq >= 0 && c.Seq <= maxSeq && c.Replica >= 0 && c.Replica <= 7
}

// before is the definition of the order.
func before(a, b api.CSN) bool {
	if a.Time != b.Time {
		return a.Time < b.Time
	}
	if a.Seq != b.Seq {
		return a.Seq < b.Seq
	}
	return a.Replica < b.Replica
}

// some are valid numbers, ascending.
func some() []api.CSN {
	var l []api.CSN
	for _, time := range []int{0, 1, 15, 16, 255, 1 << 39, api.MaxTime - 1, api.MaxTime} {
		for _, seq := range []int{0, 9, 10, 17, 1 << 31, maxSeq - 1, maxSeq} {
			for replica := range api.MaxReplicas {
				l = append(l, at(time, seq, replica))
			}
		}
	}
	return l
}

// P15.1: Valid at the bounds of each field.
func TestValid(t *testing.T) {
	for _, c := range []api.CSN{at(0, 0, 0), at(5, 17, 2), at(api.MaxTime, maxSeq, api.MaxReplicas-1)} {
		if !csn.Valid(c) {
			t.Errorf("Valid(%v) = false", c)
		}
	}
	for _, c := range []api.CSN{at(-1, 0, 0), at(api.MaxTime+1, 0, 0), at(0, -1, 0), at(0, maxSeq+1, 0), at(0, 0, -1), at(0, 0, api.MaxReplicas)} {
		if csn.Valid(c) {
			t.Errorf("Valid(%v) = true", c)
		}
	}
	for _, c := range everywhere(extremes) {
		if csn.Valid(c) != valid(c) {
			t.Errorf("Valid(%v) = %v", c, !valid(c))
		}
	}
}

// P15.1: Compare is by Time, then by Seq, then by Replica, for all values of
// the fields.
func TestCompare(t *testing.T) {
	for _, x := range []struct {
		a, b api.CSN
		want int
	}{
		{at(5, 17, 2), at(5, 17, 2), 0},
		{at(4, 18, 3), at(5, 17, 2), -1},
		{at(5, 16, 3), at(5, 17, 2), -1},
		{at(5, 17, 1), at(5, 17, 2), -1},
		{at(math.MinInt, 0, 0), at(math.MaxInt, 0, 0), -1},
		{at(0, math.MaxInt, 0), at(0, math.MinInt, 0), 1},
		{at(0, 0, math.MaxInt), at(0, 0, math.MinInt), 1},
	} {
		if got := csn.Compare(x.a, x.b); got != x.want {
			t.Errorf("Compare(%v, %v) = %d, not %d", x.a, x.b, got, x.want)
		}
		if got := csn.Compare(x.b, x.a); got != -x.want {
			t.Errorf("Compare(%v, %v) = %d, not %d", x.b, x.a, got, -x.want)
		}
	}
}

// P15.1: Compare is a total order, and 0 is for equal numbers only.
func TestCompareOrder(t *testing.T) {
	l := everywhere([]int{math.MinInt, -1, 0, 1, api.MaxTime, math.MaxInt})
	for _, a := range l {
		for _, b := range l {
			got := csn.Compare(a, b)
			if (got == 0) != (a == b) || (got == -1) != before(a, b) || got != -csn.Compare(b, a) || got < -1 || got > 1 {
				t.Fatalf("Compare(%v, %v) = %d", a, b, got)
			}
		}
	}
	few := everywhere([]int{-1, 0, 7})
	for _, a := range few {
		for _, b := range few {
			for _, c := range few {
				if csn.Compare(a, b) <= 0 && csn.Compare(b, c) <= 0 && csn.Compare(a, c) > 0 {
					t.Fatalf("Compare is not transitive: %v, %v, %v", a, b, c)
				}
			}
		}
	}
}

// P15.2: the text forms of examples, in both directions.
func TestFormat(t *testing.T) {
	for s, c := range map[string]api.CSN{
		"00000000005-00000011-2": at(5, 17, 2),
		"00000000000-00000000-0": at(0, 0, 0),
		"00000000000-00000001-3": at(0, 1, 3),
		"0000000000f-0000000a-7": at(15, 10, 7),
		"00000000010-deadbeef-1": at(16, 0xdeadbeef, 1),
		"0ffffffffff-fffffffe-6": at(api.MaxTime-1, maxSeq-1, 6),
		"10000000000-ffffffff-7": at(api.MaxTime, maxSeq, 7),
	} {
		if got := csn.Format(c); got != s {
			t.Errorf("Format(%v) = %q, not %q", c, got, s)
		}
		if got, e := csn.Parse(s); got != c || e != api.OK {
			t.Errorf("Parse(%q) = %v, %d", s, got, int(e))
		}
	}
}

// P15.2: Format is the empty string for what is no number.
func TestFormatInvalid(t *testing.T) {
	for _, c := range everywhere(extremes) {
		if got := csn.Format(c); (got != "") != valid(c) {
			t.Errorf("Format(%v) = %q", c, got)
		}
	}
}

// P15.2: Parse is the inverse of Format, and the order of the forms that of
// the numbers.
func TestFormatOrder(t *testing.T) {
	l := some()
	r := rand.New(rand.NewSource(1))
	for range 300 {
		l = append(l, at(r.Intn(api.MaxTime+1), r.Intn(maxSeq+1), r.Intn(api.MaxReplicas)))
	}
	for _, a := range l {
		s := csn.Format(a)
		if got, e := csn.Parse(s); got != a || e != api.OK {
			t.Errorf("Parse(%q) = %v, %d, not %v", s, got, int(e), a)
		}
		for _, b := range l {
			if strings.Compare(s, csn.Format(b)) != csn.Compare(a, b) {
				t.Errorf("the forms of %v and %v are in another order", a, b)
			}
		}
	}
}

// P15.2: the errors of Parse, in their order.
func TestParseErrors(t *testing.T) {
	for s, want := range map[string]api.Errno{
		"":                                  api.ErrForm,
		"-":                                 api.ErrForm,
		"--":                                api.ErrForm,
		"0-0-0":                             api.ErrForm,
		"00000000005-00000011-":             api.ErrForm,
		"00000000005-00000011":              api.ErrForm,
		"00000000005":                       api.ErrForm,
		"00000000005-00000011-02":           api.ErrForm,
		"00000000005-00000011-2-":           api.ErrForm,
		"00000000005-00000011--":            api.ErrForm,
		"00000000005-00000011-2 ":           api.ErrForm,
		" 00000000005-00000011-2":           api.ErrForm,
		"0000000005-00000011-2":             api.ErrForm,
		"000000000005-00000011-2":           api.ErrForm,
		"00000000005-0000011-2":             api.ErrForm,
		"00000000005-000000011-2":           api.ErrForm,
		"00000000005_00000011_2":            api.ErrForm,
		"00000000005-00000011 2":            api.ErrForm,
		"00000000005 00000011-2":            api.ErrForm,
		"0000000000500000011-2":             api.ErrForm,
		"0000000000F-00000011-2":            api.ErrForm,
		"00000000005-0000001F-2":            api.ErrForm,
		"+0000000005-00000011-2":            api.ErrForm,
		"00000000005-0x000011-2":            api.ErrForm,
		"00000000005-0000_011-2":            api.ErrForm,
		"0000000000g-00000011-2":            api.ErrForm,
		"00000000005-00000011-g":            api.ErrForm,
		"00000000005-00000011-\x00":         api.ErrForm,
		"0000000000é-00000011-2":            api.ErrForm,
		"fffffffffff-0000001G-f":            api.ErrForm,
		"00000000005-00000011-8":            api.ErrRange,
		"00000000005-00000011-9":            api.ErrRange,
		"00000000005-00000011-f":            api.ErrRange,
		"10000000001-00000011-2":            api.ErrRange,
		"fffffffffff-ffffffff-f":            api.ErrRange,
		"10000000000-ffffffff-8":            api.ErrRange,
		strings.Repeat("0", 1<<16) + "-0-0": api.ErrForm,
		strings.Repeat("-", 1<<16):          api.ErrForm,
	} {
		if got, e := csn.Parse(s); got != (api.CSN{}) || e != want {
			t.Errorf("Parse(%q) = %v, %d, not %d", s, got, int(e), int(want))
		}
	}
}

// the form that the chapter describes.
var form = regexp.MustCompile(`\A([0-9a-f]{11})-([0-9a-f]{8})-([0-9a-f])\z`)

// readByForm is the definition of Parse.
func readByForm(s string) (api.CSN, api.Errno) {
	m := form.FindStringSubmatch(s)
	if m == nil {
		return api.CSN{}, api.ErrForm
	}
	var n [3]int
	for i, digits := range m[1:] {
		u, err := strconv.ParseUint(digits, 16, 64)
		if err != nil {
			panic(err)
		}
		n[i] = int(u)
	}
	if c := at(n[0], n[1], n[2]); valid(c) {
		return c, api.OK
	}
	return api.CSN{}, api.ErrRange
}

// P15.2: Parse of edited forms gives what the definition gives.
func TestParseDefinition(t *testing.T) {
	count := map[api.Errno]int{}
	check := func(s string) {
		want, bad := readByForm(s)
		got, e := csn.Parse(s)
		if got != want || e != bad {
			t.Fatalf("Parse(%q) = %v, %d, not %v, %d", s, got, int(e), want, int(bad))
		}
		if e == api.OK && csn.Format(got) != s {
			t.Fatalf("Parse(%q) = %v, whose form is another one", s, got)
		}
		count[e]++
	}
	for _, s := range []string{"00000000005-00000011-2", "10000000000-ffffffff-7", "0000000abcd-0000ef01-0"} {
		for i := range len(s) + 1 {
			for b := range 256 {
				check(s[:i] + string([]byte{byte(b)}) + s[i:])
				if i < len(s) {
					check(s[:i] + string([]byte{byte(b)}) + s[i+1:])
				}
			}
			for k := i; k <= len(s); k++ {
				check(s[:i] + s[k:])
			}
		}
	}
	for _, e := range []api.Errno{api.OK, api.ErrForm, api.ErrRange} {
		if count[e] < 20 {
			t.Errorf("%d results with the error %d", count[e], int(e))
		}
	}
}

// P15.3: the examples and the bounds of Next, and its errors in their order.
func TestNext(t *testing.T) {
	for _, x := range []struct {
		last         api.CSN
		now, replica int
		want         api.CSN
		e            api.Errno
	}{
		{at(0, 0, 0), 0, 3, at(0, 1, 3), api.OK},
		{at(5, 17, 2), 4, 1, at(5, 18, 1), api.OK},
		{at(5, 17, 2), 5, 1, at(5, 18, 1), api.OK},
		{at(5, 17, 2), 6, 1, at(6, 0, 1), api.OK},
		{at(5, 17, 2), 9, 1, at(9, 0, 1), api.OK},
		{at(5, 17, 2), 9, 7, at(9, 0, 7), api.OK},
		{at(5, 17, 2), -1, 0, at(5, 18, 0), api.OK},
		{at(0, 0, 0), -1, 0, at(0, 1, 0), api.OK},
		{at(0, 0, 0), math.MinInt, 0, at(0, 1, 0), api.OK},
		{at(5, 17, 2), math.MaxInt, 1, at(api.MaxTime, 0, 1), api.OK},
		{at(5, 17, 2), api.MaxTime + 1, 1, at(api.MaxTime, 0, 1), api.OK},
		{at(5, 17, 2), api.MaxTime, 1, at(api.MaxTime, 0, 1), api.OK},
		{at(5, 17, 2), api.MaxTime - 1, 1, at(api.MaxTime-1, 0, 1), api.OK},
		{at(api.MaxTime, 17, 2), math.MaxInt, 1, at(api.MaxTime, 18, 1), api.OK},
		{at(5, maxSeq-1, 2), 5, 1, at(5, maxSeq, 1), api.OK},
		{at(5, maxSeq, 2), 6, 1, at(6, 0, 1), api.OK},
		{at(5, maxSeq, 2), 5, 1, api.CSN{}, api.ErrRange},
		{at(5, maxSeq, 2), 4, 3, api.CSN{}, api.ErrRange},
		{at(api.MaxTime, maxSeq, 7), math.MaxInt, 0, api.CSN{}, api.ErrRange},
		{at(-1, 0, 0), 5, 1, api.CSN{}, api.ErrArg},
		{at(api.MaxTime+1, 0, 0), 5, 1, api.CSN{}, api.ErrArg},
		{at(0, -1, 0), 5, 1, api.CSN{}, api.ErrArg},
		{at(0, maxSeq+1, 0), 0, 1, api.CSN{}, api.ErrArg},
		{at(0, 0, 8), 5, 1, api.CSN{}, api.ErrArg},
		{at(0, 0, -1), 5, 1, api.CSN{}, api.ErrArg},
		{at(1, 0, 0), 5, 8, api.CSN{}, api.ErrArg},
		{at(1, 0, 0), 5, -1, api.CSN{}, api.ErrArg},
		{at(1, maxSeq, 0), 1, -1, api.CSN{}, api.ErrArg},
		{at(1, maxSeq, 0), 1, api.MaxReplicas, api.CSN{}, api.ErrArg},
	} {
		if got, e := csn.Next(x.last, x.now, x.replica); got != x.want || e != x.e {
			t.Errorf("Next(%v, %d, %d) = %v, %d, not %v, %d", x.last, x.now, x.replica, got, int(e), x.want, int(x.e))
		}
	}
}

// P15.3: what Next returns is valid and comes after last, with the Time, Seq
// and Replica that the chapter describes.
func TestNextDefinition(t *testing.T) {
	count := map[api.Errno]int{}
	for _, last := range append(some(), everywhere([]int{-1, 0, 7, 8})...) {
		for _, now := range append(extremes, 15, 16, 17) {
			for _, replica := range []int{-1, 0, 3, 7, 8} {
				got, e := csn.Next(last, now, replica)
				count[e]++
				limited := min(max(now, 0), api.MaxTime)
				want := at(max(limited, last.Time), last.Seq+1, replica)
				if limited > last.Time {
					want.Seq = 0
				}
				var bad api.Errno
				switch {
				case !valid(last) || replica < 0 || replica > 7:
					want, bad = api.CSN{}, api.ErrArg
				case want.Seq > maxSeq:
					want, bad = api.CSN{}, api.ErrRange
				}
				if got != want || e != bad {
					t.Fatalf("Next(%v, %d, %d) = %v, %d, not %v, %d", last, now, replica, got, int(e), want, int(bad))
				}
				if e == api.OK && (!csn.Valid(got) || csn.Compare(got, last) != 1) {
					t.Fatalf("Next(%v, %d, %d) = %v does not come after it", last, now, replica, got)
				}
			}
		}
	}
	if count[api.OK] < 1000 || count[api.ErrRange] < 100 || count[api.ErrArg] < 1000 {
		t.Errorf("results: %v", count)
	}
}

// P15.3: a sequence of calls returns ascending numbers, with clocks that go
// back and forth.
func TestNextSequence(t *testing.T) {
	r := rand.New(rand.NewSource(2))
	last := at(0, 0, 0)
	for range 5000 {
		next, e := csn.Next(last, r.Intn(40)-5, r.Intn(api.MaxReplicas))
		if e != api.OK || csn.Compare(last, next) != -1 {
			t.Fatalf("after %v: %v, %d", last, next, int(e))
		}
		last = next
		if r.Intn(100) == 0 {
			last = at(r.Intn(30), maxSeq-r.Intn(30), r.Intn(api.MaxReplicas))
			if last.Seq+50 > maxSeq {
				last = at(r.Intn(30), r.Intn(30), r.Intn(api.MaxReplicas))
			}
		}
	}
}
