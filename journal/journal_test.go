package journal_test

import (
	"math"
	"math/rand"
	"slices"
	"strconv"
	"strings"
	"testing"

	"identity/api"
	"identity/digest"
	"identity/journal"
)

// bytesOf returns the bytes of some records by their definition.
func bytesOf(records ...string) string {
	s := ""
	for _, r := range records {
		s += strconv.Itoa(len(r)) + ":" + r + digest.Text(r) + "\n"
	}
	return s
}

// odd are records that look like parts of their bytes, or are not text.
var odd = []string{"", "ab", "c\n", ":", "\n", "0:", "2:ab", "a\x00b", "é", "\xff", bytesOf("ab"), "ab" + digest.Text("ab"), strings.Repeat("x", 9), strings.Repeat("x", 10), strings.Repeat("\n", 100)}

// numbered returns n different records.
func numbered(n int) []string {
	var l []string
	for i := range n {
		l = append(l, "r"+strconv.Itoa(i))
	}
	return l
}

// holds compares everything that a journal shows.
func holds(t *testing.T, what string, j *journal.Journal, records []string, durable int) {
	t.Helper()
	if !slices.Equal(j.Records(), records) || j.Durable() != durable {
		t.Fatalf("%s: %d records, %.99q, %d durable, not %d, %.99q, %d", what, len(j.Records()), j.Records(), j.Durable(), len(records), records, durable)
	}
	if s := j.Bytes(); s != bytesOf(records[:durable]...) {
		t.Fatalf("%s: Bytes = %.99q", what, s)
	}
}

// appended adds records to a journal.
func appended(t *testing.T, j *journal.Journal, records ...string) {
	t.Helper()
	for _, r := range records {
		if e := j.Append(r); e != api.OK {
			t.Fatalf("Append of %.99q = %d", r, int(e))
		}
	}
}

// P19.1
func TestEncode(t *testing.T) {
	if s := journal.Encode("ab"); s != "2:ab"+digest.Text("ab")+"\n" || len(s) != 21 {
		t.Errorf("Encode = %q", s)
	}
	if s := journal.Encode(""); s != "0:"+digest.Text("")+"\n" {
		t.Errorf("Encode of nothing = %q", s)
	}
	long := []string{strings.Repeat("é", api.MaxText/2), strings.Repeat("x", api.MaxText+1), strings.Repeat("y", 1000000)}
	for _, r := range slices.Concat(odd, long) {
		if s := journal.Encode(r); s != bytesOf(r) {
			t.Errorf("Encode(%.99q) = %.99q", r, s)
		}
	}
}

// decodes compares what Decode returns.
func decodes(t *testing.T, s string, records []string, n int) {
	t.Helper()
	if l, size := journal.Decode(s); !slices.Equal(l, records) || size != n {
		t.Errorf("Decode(%.99q) = %.99q, %d, not %.99q, %d", s, l, size, records, n)
	}
}

// P19.2
func TestDecode(t *testing.T) {
	decodes(t, bytesOf("ab")+"2:a", []string{"ab"}, 21)
	decodes(t, "", nil, 0)
	top := strings.Repeat("x", api.MaxText)
	for _, l := range [][]string{odd, {top}, {top, "a", top}, {"a", "a", "a"}, numbered(1000)} {
		s := bytesOf(l...)
		decodes(t, s, l, len(s))
		decodes(t, s+bytesOf(top+"x")+bytesOf("ab"), l, len(s))
	}
	end := digest.Text("ab") + "\n"
	for _, bad := range []string{
		"x", ":", "::", "2", "2:", "2:a", "2:ab", "2:ab" + digest.Text("ab"), "2:ab\n", " ", "\n",
		"2:ab" + digest.Text("ab") + "\r", "2:ab" + digest.Text("ab") + "x\n", "2:ab" + digest.Text("ac") + "\n", "2:ab" + strings.ToUpper(end), "2:ab" + digest.Text("2:ab") + "\n",
		"02:ab" + end, "+2:ab" + end, " 2:ab" + end, "2 :ab" + end, "2,ab" + end, "2ab" + end, ":ab" + end, "0x2:ab" + end, "1:ab" + end, "3:ab" + end, "20:ab" + end, "-2:ab" + end, "٢:ab" + end,
		"00:" + digest.Text("") + "\n", "-0:" + digest.Text("") + "\n", ":" + digest.Text("") + "\n", "-1:" + digest.Text("") + "\n",
		strconv.Itoa(math.MaxInt) + ":ab" + end, strconv.Itoa(math.MinInt) + ":ab" + end, "99999999999999999999:ab" + end, "18446744073709551618:ab" + end, "4294967298:ab" + end,
		bytesOf(top + "x"), bytesOf(strings.Repeat("x", 1000000)),
	} {
		decodes(t, bad, nil, 0)
		decodes(t, bad+bytesOf("ab"), nil, 0)
		decodes(t, bytesOf("c", "")+bad+bytesOf("ab"), []string{"c", ""}, len(bytesOf("c", "")))
	}
}

// P19.2: the number of records is not limited.
func TestDecodeMany(t *testing.T) {
	l := numbered(api.MaxChanges + 10)
	s := bytesOf(l...)
	decodes(t, s, l, len(s))
}

// decoded is the definition of Decode.
func decoded(s string) (l []string, n int) {
search:
	for {
		rest := s[n:]
		for i := range len(rest) {
			for end := i; end <= len(rest); end++ {
				if r := rest[i:end]; strings.HasPrefix(rest, bytesOf(r)) {
					l, n = append(l, r), n+len(bytesOf(r))
					continue search
				}
			}
		}
		return l, n
	}
}

// P19.2: Decode of edited bytes is what the definition says.
func TestDecodeEdited(t *testing.T) {
	r := rand.New(rand.NewSource(1))
	partial, whole := 0, 0
	for range 400 {
		var l []string
		for range 1 + r.Intn(4) {
			l = append(l, odd[r.Intn(8)])
		}
		s := []byte(bytesOf(l...))
		for range r.Intn(3) {
			i := r.Intn(len(s))
			switch r.Intn(3) {
			case 0:
				s[i] = "0123456789:ab\n"[r.Intn(14)]
			case 1:
				s = slices.Delete(s, i, i+1)
			default:
				s = slices.Insert(s, i, "0123456789:ab\n"[r.Intn(14)])
			}
		}
		want, n := decoded(string(s))
		decodes(t, string(s), want, n)
		if n == len(s) {
			whole++
		} else if n > 0 {
			partial++
		}
	}
	if partial < 50 || whole < 50 {
		t.Errorf("%d partial and %d whole results", partial, whole)
	}
}

// P19.8: a prefix of the bytes of records has those records that end within it.
func TestDecodePrefix(t *testing.T) {
	s := bytesOf(odd...)
	var l []string
	n := 0
	for i := range len(s) + 1 {
		if len(l) < len(odd) && i == n+len(bytesOf(odd[len(l)])) {
			l, n = append(l, odd[len(l)]), i
		}
		decodes(t, s[:i], l, n)
	}
	if len(l) != len(odd) {
		t.Errorf("only %d records", len(l))
	}
}

// P19.9: a record of which one byte is changed is not read, nor what follows it.
func TestChanged(t *testing.T) {
	for _, record := range []string{"a", "ab", "12:ab", "\x00\xff\n", "drop a b c"} {
		s, start := []byte(bytesOf(record)), strings.Index(bytesOf(record), ":")+1
		for i := range len(record) {
			for c := range 256 {
				old := s[start+i]
				if byte(c) == old {
					continue
				}
				s[start+i] = byte(c)
				decodes(t, string(s), nil, 0)
				decodes(t, bytesOf("c")+string(s)+bytesOf("d"), []string{"c"}, len(bytesOf("c")))
				s[start+i] = old
			}
		}
	}
}

// P19.3
func TestNew(t *testing.T) {
	j := journal.New()
	holds(t, "New", j, nil, 0)
	if n := j.Sync(); n != 0 {
		t.Errorf("Sync = %d", n)
	}
	j.Crash(5)
	holds(t, "Crash of nothing", j, nil, 0)
	appended(t, j, "a")
	holds(t, "another journal", journal.New(), nil, 0)
}

// P19.3
func TestOpen(t *testing.T) {
	holds(t, "nothing", journal.Open(""), nil, 0)
	holds(t, "no bytes of records", journal.Open("x"+bytesOf("a")), nil, 0)
	holds(t, "odd records", journal.Open(bytesOf(odd...)), odd, len(odd))
	j := journal.Open(bytesOf("a", "b") + "1:c" + bytesOf("d"))
	holds(t, "a record without an end", j, []string{"a", "b"}, 2)
	appended(t, j, "e")
	holds(t, "Append", j, []string{"a", "b", "e"}, 2)
	j.Crash(0)
	holds(t, "Crash", j, []string{"a", "b"}, 2)
	l := numbered(api.MaxChanges + 1)
	for _, n := range []int{api.MaxChanges - 1, api.MaxChanges, api.MaxChanges + 1} {
		most := min(n, api.MaxChanges)
		j := journal.Open(bytesOf(l[:n]...))
		holds(t, "many records", j, l[:most], most)
		if e := j.Append("x"); (e == api.OK) != (n < api.MaxChanges) || e != api.OK && e != api.ErrLimit {
			t.Errorf("Append after %d records = %d", n, int(e))
		}
	}
}

// P19.4
func TestAppendSync(t *testing.T) {
	j := journal.New()
	appended(t, j, "a", "b")
	holds(t, "Append", j, []string{"a", "b"}, 0)
	if n := j.Sync(); n != 2 {
		t.Errorf("Sync = %d", n)
	}
	holds(t, "Sync", j, []string{"a", "b"}, 2)
	appended(t, j, odd...)
	all := slices.Concat([]string{"a", "b"}, odd)
	holds(t, "odd records", j, all, 2)
	for range 2 {
		if n := j.Sync(); n != len(all) {
			t.Errorf("Sync = %d", n)
		}
		holds(t, "Sync again", j, all, len(all))
	}
}

// P19.4: the limits of Append, after which nothing has changed.
func TestAppendLimit(t *testing.T) {
	j := journal.New()
	top := strings.Repeat("é", api.MaxText/2)
	appended(t, j, top)
	for _, r := range []string{top + "x", strings.Repeat("x", 1000000)} {
		if e := j.Append(r); e != api.ErrLimit {
			t.Errorf("Append of %d bytes = %d", len(r), int(e))
		}
	}
	holds(t, "long records", j, []string{top}, 0)
	l := append([]string{top}, numbered(api.MaxChanges-1)...)
	appended(t, j, l[1:2000]...)
	j.Sync()
	appended(t, j, l[2000:]...)
	for _, r := range []string{"", "x", top, top + "x"} {
		if e := j.Append(r); e != api.ErrLimit {
			t.Errorf("Append to a full journal = %d", int(e))
		}
	}
	holds(t, "a full journal", j, l, 2000)
	// What a crash loses is no longer there.
	j.Crash(len(bytesOf(l[2000:]...)) - 1)
	holds(t, "Crash", j, l[:api.MaxChanges-1], api.MaxChanges-1)
	appended(t, j, "x")
	if e := j.Append("y"); e != api.ErrLimit {
		t.Errorf("Append to a full journal = %d", int(e))
	}
}

// P19.5: the examples of the chapter.
func TestCrash(t *testing.T) {
	for _, x := range []struct {
		keep int
		left []string
	}{{25, []string{"ab"}}, {20, nil}, {21, []string{"ab"}}, {40, []string{"ab"}}, {41, []string{"ab", "c"}}} {
		j := journal.New()
		appended(t, j, "ab", "c")
		j.Crash(x.keep)
		holds(t, "Crash("+strconv.Itoa(x.keep)+")", j, x.left, len(x.left))
	}
}

// P19.5, P19.7: what every crash of a journal leaves is what was durable and
// a prefix of the rest; all of it is durable.
func TestCrashKeeps(t *testing.T) {
	written, pending := odd[:3], odd[3:]
	size := len(bytesOf(pending...))
	keeps := []int{math.MinInt, -1, size + 1, 2 * size, math.MaxInt}
	for i := range size + 1 {
		keeps = append(keeps, i)
	}
	for _, keep := range keeps {
		j := journal.New()
		appended(t, j, written...)
		j.Sync()
		appended(t, j, pending...)
		j.Crash(keep)
		left := 0
		for left < len(pending) && len(bytesOf(pending[:left+1]...)) <= keep {
			left++
		}
		want := odd[:3+left]
		holds(t, "Crash", j, want, len(want))
		j.Crash(keep)
		holds(t, "Crash again", j, want, len(want))
		appended(t, j, "x")
		holds(t, "Append", j, append(slices.Clone(want), "x"), len(want))
	}
}

// P19.3 to P19.8: random operations do what the definitions say.
func TestDefinition(t *testing.T) {
	r := rand.New(rand.NewSource(2))
	for range 200 {
		j, durable := journal.New(), 0
		var l []string
		for range 40 {
			switch r.Intn(8) {
			case 0:
				durable = len(l)
				if n := j.Sync(); n != durable {
					t.Fatalf("Sync = %d, not %d", n, durable)
				}
			case 1:
				pending := bytesOf(l[durable:]...)
				keep := r.Intn(len(pending) + 1)
				kept, _ := decoded(pending[:keep])
				j.Crash(keep)
				l = append(l[:durable], kept...)
				durable = len(l)
			case 2:
				j = journal.Open(j.Bytes())
				l = l[:durable]
			default:
				s := odd[r.Intn(8)]
				appended(t, j, s)
				l = append(l, s)
			}
			holds(t, "a random operation", j, l, durable)
			s := j.Bytes()
			decodes(t, s, l[:durable], len(s))
		}
	}
}

// P19.6: results are new memory, and two journals share nothing.
func TestMemory(t *testing.T) {
	j := journal.Open(bytesOf("a"))
	appended(t, j, "b")
	l := j.Records()
	_ = append(l, "spoilt")
	clear(l)
	_ = append(l[:1], "spoilt")
	holds(t, "changed results", j, []string{"a", "b"}, 1)
	first, second := journal.Open(j.Bytes()), journal.Open(j.Bytes())
	appended(t, first, "c")
	appended(t, second, "d")
	holds(t, "the first journal", first, []string{"a", "c"}, 1)
	holds(t, "the second journal", second, []string{"a", "d"}, 1)
	decoded, _ := journal.Decode(bytesOf("a", "b"))
	clear(decoded)
	decodes(t, bytesOf("a", "b"), []string{"a", "b"}, len(bytesOf("a", "b")))
}

// DOC.md, rule 1: nil, and journals that New and Open did not return.
func TestUnmade(t *testing.T) {
	made := journal.New()
	appended(t, made, "a")
	made.Sync()
	appended(t, made, "b")
	copied := *made
	for i, j := range []*journal.Journal{nil, {}, new(journal.Journal), &copied} {
		for _, r := range []string{"", "a", strings.Repeat("x", api.MaxText+1)} {
			if e := j.Append(r); e != api.ErrNil {
				t.Errorf("%d: Append = %d", i, int(e))
			}
		}
		j.Crash(0)
		if n := j.Sync(); n != 0 || j.Records() != nil || j.Durable() != 0 || j.Bytes() != "" {
			t.Errorf("%d: not the zero values: %d, %q, %d, %q", i, n, j.Records(), j.Durable(), j.Bytes())
		}
	}
	holds(t, "a journal with a copy", made, []string{"a", "b"}, 1)
}
