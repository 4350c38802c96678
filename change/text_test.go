package change_test

import (
	"math/rand"
	"slices"
	"strings"
	"testing"

	"identity/api"
	"identity/change"
)

// P16.2: the lines of examples, in both directions.
func TestLine(t *testing.T) {
	number := "00000000009-00000003-1"
	lines := []string{
		"create " + number + " " + id + " cn%3Da%2Cou%3Ds",
		"remove " + number + " " + id,
		"rename " + number + " " + id + " cn%3Db%2Cou%3Ds",
		"put " + number + " " + id + " cn a%20b",
		"drop " + number + " " + id + " cn a%20b",
	}
	all := kinds()
	all = append(all, create(at(0, 0, 0), `cn=lee\, ann,o=x`), put(at(api.MaxTime, 1<<32-1, 7), "mail-2", `%|,=;"~-`))
	lines = append(lines, "create 00000000000-00000000-0 "+id+` cn%3Dlee\%2C%20ann%2Co%3Dx`, "put 10000000000-ffffffff-7 "+id+" mail-2 %25%7C%2C%3D%3B%22~-")
	for i, c := range all {
		if s, e := change.Line(c); s != lines[i] || e != api.OK {
			t.Errorf("Line(%v) = %q, %d, not %q", c, s, int(e), lines[i])
		}
		if got, e := change.Parse(lines[i]); got != c || e != api.OK {
			t.Errorf("Parse(%q) = %v, %d, not %v", lines[i], got, int(e), c)
		}
	}
}

// noLines are strings that are not the line of a record.
func noLines() []string {
	number := "00000000009-00000003-1"
	put := "put " + number + " " + id + " cn a"
	remove := "remove " + number + " " + id
	l := []string{
		"", " ", "x", "put", "remove", "put ", "put " + number, "remove " + number, "remove " + number + " ",
		put + " ", " " + put, put + " x", put[1:], put[:len(put)-1], put + "\n", put + "\r", put + "\t", put + " #",
		strings.Replace(put, " ", "  ", 1), strings.Replace(put, " ", "\t", 1), strings.ToUpper(put), "Put" + put[3:], "puts" + put[3:],
		"add" + put[3:], "5" + put[3:], "delete " + number + " " + id,
		remove + " ", remove + " x", remove + " cn a", remove + " cn%3Da",
		"create" + put[3:], "rename" + put[3:], "create" + remove[6:], "rename" + remove[6:], "put" + remove[6:], "drop" + remove[6:],
		"create" + remove[6:] + " ", "create" + remove[6:] + " cn=a", "create" + remove[6:] + " cn%3da", "create" + remove[6:] + " cn%3DA", "create" + remove[6:] + " cn%3D%61",
		"create" + remove[6:] + " cn%3Da o%3Dx", "create" + remove[6:] + " cn%3Da%2C%20o%3Dx", "create" + remove[6:] + " -",
		"put x " + id + " cn a", "put " + number + " x cn a", "put 00000000009-00000003-8 " + id + " cn a", "put " + number + " 00000000009-00000003-8 cn a",
		"put  " + id + " cn a", "put " + number + "  cn a", "put 00000000009-0000000A-1 " + id + " cn a", "put " + number + " 0000000000A-00000003-1 cn a",
		"put " + number + " " + id + " CN a", "put " + number + " " + id + " cN a", "put " + number + " " + id + "  a", "put " + number + " " + id + " c%6E a", "put " + number + " " + id + " 1 a",
		"put " + number + " " + id + " cn ", "put " + number + " " + id + " cn %20a", "put " + number + " " + id + " cn a%20", "put " + number + " " + id + " cn a|b",
		"put " + number + " " + id + " cn %", "put " + number + " " + id + " cn %2", "put " + number + " " + id + " cn %zz", "put " + number + " " + id + " cn a%0A", "put " + number + " " + id + " cn %C3%A9",
		"put " + number + " " + id + " cn " + strings.Repeat("a", api.MaxValue+1),
		strings.Repeat(" ", 1<<16),
	}
	return l
}

// P16.2: Parse of what is not a line.
func TestParseErrors(t *testing.T) {
	for _, s := range noLines() {
		if c, e := change.Parse(s); c != (api.Change{}) || e != api.ErrForm {
			t.Errorf("Parse(%q) = %v, %d", s, c, int(e))
		}
	}
}

// P16.2, P16.7: Parse inverts Line for random records, and what it accepts of
// their edited lines is the line of the result.
func TestParseEdited(t *testing.T) {
	r := rand.New(rand.NewSource(4))
	accepted, rejected := 0, 0
	for range 4000 {
		c := random(r)
		s, e := change.Line(c)
		if e != change.Check(c) {
			t.Fatalf("Line(%v): %d", c, int(e))
		}
		if e != api.OK {
			continue
		}
		if got, e := change.Parse(s); s != lineOf(c) || got != c || e != api.OK {
			t.Fatalf("Parse(%q) = %v, %d, not %v", s, got, int(e), c)
		}
		for range 10 {
			i, k := r.Intn(len(s)+1), r.Intn(len(s)+1)
			edited := s[:min(i, k)] + []string{"", "", " ", "a", "%20", "A", "0", "cn", "\n"}[r.Intn(9)] + s[min(len(s), max(i, min(i, k)+r.Intn(3))):]
			got, e := change.Parse(edited)
			if e != api.OK {
				if e != api.ErrForm || got != (api.Change{}) {
					t.Fatalf("Parse(%q) = %v, %d", edited, got, int(e))
				}
				rejected++
				continue
			}
			if again, e := change.Line(got); again != edited || e != api.OK {
				t.Fatalf("Parse(%q) = %v, whose line is %q", edited, got, again)
			}
			accepted++
		}
	}
	if accepted < 1000 || rejected < 1000 {
		t.Errorf("%d accepted, %d rejected", accepted, rejected)
	}
}

// P16.3, P16.7: Read inverts Text, for lists in any order and with
// repetitions.
func TestText(t *testing.T) {
	all := kinds()
	for _, l := range [][]api.Change{nil, all[:1], all, {all[3], all[0], all[3]}} {
		want := ""
		for _, c := range l {
			want += lineOf(c) + "\n"
		}
		s, e := change.Text(l)
		if s != want || e != api.OK {
			t.Errorf("Text(%v) = %q, %d, not %q", l, s, int(e), want)
		}
		got, n, e := change.Read(s)
		if !slices.Equal(got, l) || n != 0 || e != api.OK {
			t.Errorf("Read(%q) = %v, %d, %d", s, got, n, int(e))
		}
	}
}

// P16.3: the first error of Check is the error of Text, but a list that is too
// long is an error before all others.
func TestTextErrors(t *testing.T) {
	good := remove(at(1, 0, 0))
	long := slices.Repeat([]api.Change{good}, api.MaxChanges)
	for _, x := range []struct {
		l    []api.Change
		want api.Errno
	}{
		{[]api.Change{{}}, api.ErrArg},
		{[]api.Change{good, put(at(1, 0, 0), "cn", ""), {}}, api.ErrType},
		{[]api.Change{good, put(at(1, 0, 0), "CN", ""), {}}, api.ErrName},
		{[]api.Change{good, good, {CSN: at(1, 0, 0), Op: api.RemoveEntry}}, api.ErrForm},
		{append(slices.Clone(long), good), api.ErrLimit},
		{append([]api.Change{{}}, long...), api.ErrLimit},
		{append([]api.Change{{}}, long[1:]...), api.ErrArg},
	} {
		if s, e := change.Text(x.l); s != "" || e != x.want {
			t.Errorf("Text of %d records: %d bytes, %d, not %d", len(x.l), len(s), int(e), int(x.want))
		}
	}
	s, e := change.Text(long)
	if e != api.OK || s != strings.Repeat(lineOf(good)+"\n", api.MaxChanges) {
		t.Errorf("Text of %d records: %d bytes, %d", len(long), len(s), int(e))
	}
	if l, n, e := change.Read(s); !slices.Equal(l, long) || n != 0 || e != api.OK {
		t.Errorf("Read of %d records: %d records, %d, %d", len(long), len(l), n, int(e))
	}
}

// P16.3: the number of the first line with an error, and its error, of which
// the one that the promise names first comes first.
func TestReadErrors(t *testing.T) {
	line := lineOf(kinds()[3])
	good := line + "\n"
	full := strings.Repeat(good, api.MaxChanges)
	for _, x := range []struct {
		s    string
		n    int
		want api.Errno
	}{
		{"x\n", 1, api.ErrForm},
		{"x", 1, api.ErrEnd},
		{line, 1, api.ErrEnd},
		{" ", 1, api.ErrEnd},
		{"\n", 1, api.ErrForm},
		{"\n" + line, 1, api.ErrForm},
		{good + line, 2, api.ErrEnd},
		{good + "x", 2, api.ErrEnd},
		{good + "\n", 2, api.ErrForm},
		{good + good + "x\n" + "y", 3, api.ErrForm},
		{good + "\r\n", 2, api.ErrForm},
		{good + line + "\r\n", 2, api.ErrForm},
		{good + "\n" + good, 2, api.ErrForm},
		{full + good, api.MaxChanges + 1, api.ErrLimit},
		{full + line, api.MaxChanges + 1, api.ErrLimit},
		{full + "x", api.MaxChanges + 1, api.ErrLimit},
		{full + "\n", api.MaxChanges + 1, api.ErrLimit},
		{full[:len(full)-1], api.MaxChanges, api.ErrEnd},
		{full[1:] + good, 1, api.ErrForm},
		{full[len(good):] + "x\n" + good, api.MaxChanges, api.ErrForm},
	} {
		if l, n, e := change.Read(x.s); len(l) != 0 || n != x.n || e != x.want {
			t.Errorf("Read of %d bytes: %d records, %d, %d, not %d, %d", len(x.s), len(l), n, int(e), x.n, int(x.want))
		}
	}
	for _, s := range noLines() {
		if strings.Contains(s, "\n") {
			continue
		}
		if l, n, e := change.Read(good + s + "\n" + good); len(l) != 0 || n != 2 || e != api.ErrForm {
			t.Errorf("Read with the second line %q: %v, %d, %d", s, l, n, int(e))
		}
	}
}

// P16.7: what Read accepts of edited texts is the text of the result.
func TestReadEdited(t *testing.T) {
	r := rand.New(rand.NewSource(5))
	accepted, rejected := 0, 0
	for range 5000 {
		var lines []string
		for _, c := range randoms(r, 5) {
			if s, e := change.Line(c); e == api.OK {
				lines = append(lines, s+"\n")
			}
		}
		s := strings.Join(lines, "")
		if i := r.Intn(len(s) + 1); r.Intn(2) == 0 {
			s = s[:i] + []string{"", "\n", "a", "0", " "}[r.Intn(5)] + s[min(len(s), i+r.Intn(2)):]
		}
		l, n, e := change.Read(s)
		if e != api.OK {
			if len(l) != 0 || n < 1 || n > strings.Count(s, "\n")+1 {
				t.Fatalf("Read(%q) = %v, %d, %d", s, l, n, int(e))
			}
			// The lines before the one with the error have none.
			before := strings.Join(strings.SplitAfter(s, "\n")[:n-1], "")
			if _, k, bad := change.Read(before); k != 0 || bad != api.OK {
				t.Fatalf("Read(%q) = %d, %d, but its beginning %d, %d", s, n, int(e), k, int(bad))
			}
			rejected++
			continue
		}
		if again, e := change.Text(l); again != s || n != 0 || e != api.OK {
			t.Fatalf("Read(%q) = %v, %d, whose text is %q", s, l, n, again)
		}
		accepted++
	}
	if accepted < 1000 || rejected < 1000 {
		t.Errorf("%d accepted, %d rejected", accepted, rejected)
	}
}
