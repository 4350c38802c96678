package replica_test

import (
	"math"
	"slices"
	"strconv"
	"testing"

	"identity/api"
	"identity/csn"
	"identity/entry"
	"identity/replica"
)

// maxSeq is the greatest Seq of a number.
const maxSeq = 1<<32 - 1

// wantLog checks the log of a replica, without the records before from.
func wantLog(t *testing.T, r *replica.Replica, from int, want ...api.Change) {
	t.Helper()
	if l := r.Since(nil); len(l) < from || !slices.Equal(l[from:], want) {
		t.Errorf("the log is %v, not %v", l, want)
	}
}

// family returns a replica with units a, b in a, and c in b, and the orphans
// ou=o,ou=n,ou=x and ou=p,ou=o,ou=n,ou=x.
func family(t *testing.T) *replica.Replica {
	t.Helper()
	r := fresh(t, 1)
	added(t, r, 1, unit("ou=a,ou=x"), unit("ou=b,ou=a,ou=x"), unit("ou=c,ou=b,ou=a,ou=x"))
	if e := r.Receive([]api.Change{created(at(2, 0, 0), "ou=o,ou=n,ou=x"), created(at(2, 1, 0), "ou=p,ou=o,ou=n,ou=x"), created(at(2, 2, 0), "ou=w")}); e != api.OK {
		t.Fatalf("Receive = %d", int(e))
	}
	return r
}

// P18.2: Add returns the identifier, and makes the records of the normal form.
func TestAdd(t *testing.T) {
	r := fresh(t, 2)
	id, e := r.Add(api.Entry{Name: "CN=Ann, OU=x", Attrs: []api.Attr{attr("MAIL", "b", "A"), attr("Class", "Person"), attr("cn", "Ann  Lee"), attr("age", "007")}}, 5)
	if id != "00000000005-00000000-2" || e != api.OK {
		t.Fatalf("Add = %q, %d", id, int(e))
	}
	want := []api.Change{{CSN: at(5, 0, 2), Op: api.CreateEntry, ID: id, Name: "cn=ann,ou=x"}}
	for i, p := range []api.Pair{{Key: "age", Value: "7"}, {Key: "class", Value: "person"}, {Key: "cn", Value: "ann lee"}, {Key: "mail", Value: "A"}, {Key: "mail", Value: "b"}} {
		want = append(want, api.Change{CSN: at(5, i+1, 2), Op: api.PutValue, ID: id, Attr: p.Key, Value: p.Value})
	}
	wantLog(t, r, 0, want...)
	if e, ok := r.Get("cn=ann,ou=x"); !ok || !same(e, api.Entry{Name: "cn=ann,ou=x", Attrs: []api.Attr{attr("age", "7"), attr("class", "person"), attr("cn", "ann lee"), attr("mail", "A", "b")}}) {
		t.Errorf("Get = %q, %v", e, ok)
	}
	if id, e := r.Add(unit("ou=p,cn=ann,ou=x"), 4); id != csn.Format(at(5, 6, 2)) || e != api.OK {
		t.Errorf("Add with an earlier clock = %q, %d", id, int(e))
	}
	if id, e := r.Add(unit("ou=q,ou=z"), 6); id != csn.Format(at(6, 0, 2)) || e != api.OK {
		t.Errorf("Add with a later clock = %q, %d", id, int(e))
	}
	if e := r.Receive([]api.Change{created(at(9, 7, 7), "ou=r,ou=z")}); e != api.OK {
		t.Errorf("Receive = %d", int(e))
	}
	if id, e := r.Add(unit("ou=s,ou=z"), 8); id != csn.Format(at(9, 8, 2)) || e != api.OK {
		t.Errorf("Add after a received number = %q, %d", id, int(e))
	}
	for now, want := range map[int]api.CSN{0: at(0, 1, 3), -1: at(0, 1, 3), math.MinInt: at(0, 1, 3), api.MaxTime + 1: at(api.MaxTime, 0, 3), math.MaxInt: at(api.MaxTime, 0, 3)} {
		if id, e := fresh(t, 3).Add(unit("ou=s,ou=z"), now); id != csn.Format(want) || e != api.OK {
			t.Errorf("Add at %d = %q, %d", now, id, int(e))
		}
	}
}

// P18.2: the errors of Add in their order, after which nothing has changed.
func TestAddErrors(t *testing.T) {
	r, other := family(t), family(t)
	for _, e := range []api.Entry{
		{}, unit(""), unit("x"), unit("ou=x,"), {Name: "ou=y,ou=x"}, {Name: "ou=y,ou=n", Attrs: []api.Attr{attr("cn", "a")}},
		{Name: "ou=a,ou=x", Attrs: []api.Attr{attr("class", "unit"), attr("CLASS", "person")}},
		{Name: "ou=a,ou=x", Attrs: []api.Attr{attr("class", "Unit", "unit")}},
		{Name: "ou=x", Attrs: []api.Attr{attr("class", "robot")}},
		person("ou=a,ou=n", attr("phone", "1")), person("ou=a,ou=x", attr("age", "x")), person("ou=a,ou=x", attr("age", "1", "2")), person("ou=a,ou=x", attr("boss", "x")),
	} {
		_, want := entry.Normal(plan(), e)
		if id, bad := r.Add(e, 9); id != "" || bad != want || bad == api.OK {
			t.Errorf("Add of %q = %q, %d, not %d", e, id, int(bad), int(want))
		}
	}
	for s, want := range map[string]api.Errno{
		"ou=x":                         api.ErrTwice,
		"OU=z":                         api.ErrTwice,
		"ou=w":                         api.ErrTwice,
		"ou=a,ou=x":                    api.ErrTwice,
		"OU=C, ou=b,ou=a,ou=x":         api.ErrTwice,
		"ou=o,ou=n,ou=x":               api.ErrTwice,
		"ou=p,ou=o,ou=n,ou=x":          api.ErrTwice,
		"ou=n":                         api.ErrNone,
		"ou=y,ou=n":                    api.ErrNone,
		"ou=y,ou=w":                    api.ErrNone,
		"ou=y,ou=o,ou=n,ou=x":          api.ErrNone,
		"ou=y,ou=p,ou=o,ou=n,ou=x":     api.ErrNone,
		"ou=y,ou=b,ou=x":               api.ErrNone,
		"ou=b,ou=a,ou=z":               api.ErrNone,
		"ou=y,ou=d,ou=c,ou=b,ou=a,o=x": api.ErrNone,
	} {
		if id, e := r.Add(unit(s), 9); id != "" || e != want {
			t.Errorf("Add of %q = %q, %d, not %d", s, id, int(e), int(want))
		}
	}
	if !equal(r, other) {
		t.Errorf("an error changed the log: %v", r.Since(nil))
	}
}

// P18.2: the number of entries, with orphans, and the order of ErrLimit.
func TestAddLimit(t *testing.T) {
	r := family(t)
	for i := len(r.Entries()) + 3; i < api.MaxEntries; i++ {
		added(t, r, 3, unit("ou="+strconv.Itoa(i)+",ou=z"))
	}
	for s, want := range map[string]api.Errno{"ou=y,ou=x": api.ErrLimit, "ou=y,ou=c,ou=b,ou=a,ou=x": api.ErrLimit, "ou=a,ou=x": api.ErrTwice, "ou=y,ou=n": api.ErrNone, "x": api.ErrName} {
		if id, e := r.Add(unit(s), 9); id != "" || e != want {
			t.Errorf("Add of %q = %q, %d, not %d", s, id, int(e), int(want))
		}
	}
	if e := r.Rename("ou=100,ou=z", "ou=y,ou=99,ou=z", 4); e != api.OK {
		t.Errorf("Rename = %d", int(e))
	}
	if e := r.Modify("ou=98,ou=z", []api.Mod{{Op: api.AddValues, Name: "class", Values: []string{"person"}}, {Op: api.AddValues, Name: "cn", Values: []string{"a"}}}, 4); e != api.OK {
		t.Errorf("Modify = %d", int(e))
	}
	if e := r.Delete("ou=97,ou=z", 4); e != api.OK {
		t.Errorf("Delete = %d", int(e))
	}
	added(t, r, 5, unit("ou=y,ou=x"))
	if _, e := r.Add(unit("ou=97,ou=x"), 5); e != api.ErrLimit {
		t.Errorf("Add = %d", int(e))
	}
}

// P18.2: Modify makes the records of the difference, or none.
func TestModify(t *testing.T) {
	r := fresh(t, 6)
	added(t, r, 5, person("cn=a,ou=x", attr("mail", "m", "n")))
	id := csn.Format(at(5, 0, 6))
	if e := r.Modify("CN=a,ou=x", []api.Mod{{Op: api.ReplaceValues, Name: "MAIL", Values: []string{"o", "n", "l"}}, {Op: api.AddValues, Name: "boss", Values: []string{"CN=A, ou=x"}}, {Op: api.DeleteValues, Name: "cn", Values: []string{"A"}}, {Op: api.AddValues, Name: "cn", Values: []string{"B"}}}, 7); e != api.OK {
		t.Fatalf("Modify = %d", int(e))
	}
	var want []api.Change
	for i, x := range []struct {
		op          api.ChangeOp
		attr, value string
	}{{api.DropValue, "cn", "a"}, {api.DropValue, "mail", "m"}, {api.PutValue, "boss", "cn=a,ou=x"}, {api.PutValue, "cn", "b"}, {api.PutValue, "mail", "l"}, {api.PutValue, "mail", "o"}} {
		want = append(want, api.Change{CSN: at(7, i, 6), Op: x.op, ID: id, Attr: x.attr, Value: x.value})
	}
	wantLog(t, r, 5, want...)
	for _, l := range [][]api.Mod{nil, {{Op: api.AddValues, Name: "age", Values: []string{"7"}}, {Op: api.DeleteValues, Name: "age"}}, {{Op: api.ReplaceValues, Name: "cn", Values: []string{" B "[1:2]}}}} {
		if e := r.Modify("cn=a,ou=x", l, 9); e != api.OK {
			t.Errorf("Modify by %v = %d", l, int(e))
		}
	}
	wantLog(t, r, 5, want...)
	if e, ok := r.Get("cn=a,ou=x"); !ok || !same(e, api.Entry{Name: "cn=a,ou=x", Attrs: []api.Attr{attr("boss", "cn=a,ou=x"), attr("class", "person"), attr("cn", "b"), attr("mail", "l", "n", "o")}}) {
		t.Errorf("Get = %q, %v", e, ok)
	}
}

// P18.2: the errors of Modify in their order, after which nothing has changed.
func TestModifyErrors(t *testing.T) {
	r, other := family(t), family(t)
	bad := []api.Mod{{Op: 4}}
	for s, want := range map[string]api.Errno{"x": api.ErrName, "ou=x,": api.ErrName, "": api.ErrNone, "ou=x": api.ErrNone, "ou=w": api.ErrNone, "ou=y,ou=x": api.ErrNone, "ou=o,ou=n,ou=x": api.ErrNone, "ou=p,ou=o,ou=n,ou=x": api.ErrNone} {
		if e := r.Modify(s, bad, 9); e != want {
			t.Errorf("Modify of %q = %d, not %d", s, int(e), int(want))
		}
	}
	for _, l := range [][]api.Mod{bad, make([]api.Mod, api.MaxMods+1), {{Op: api.AddValues, Name: "phone"}}, {{Op: api.AddValues, Name: "cn"}}, {{Op: api.AddValues, Name: "age", Values: []string{"x"}}}, {{Op: api.AddValues, Name: "class", Values: []string{"UNIT"}}}, {{Op: api.DeleteValues, Name: "class"}}, {{Op: api.AddValues, Name: "cn", Values: []string{"a"}}}, {{Op: api.DeleteValues, Name: "cn"}}} {
		_, want := entry.Apply(plan(), unit("ou=a,ou=x"), l)
		if e := r.Modify("OU=a,ou=x", l, 9); e != want || e == api.OK {
			t.Errorf("Modify by %v = %d, not %d", l, int(e), int(want))
		}
	}
	if !equal(r, other) {
		t.Errorf("an error changed the log: %v", r.Since(nil))
	}
	// What was received need not be valid.
	if e := r.Receive([]api.Change{created(at(3, 0, 0), "cn=i,ou=x")}); e != api.OK {
		t.Fatalf("Receive = %d", int(e))
	}
	if e := r.Modify("cn=i,ou=x", []api.Mod{{Op: api.AddValues, Name: "class", Values: []string{"unit"}}}, 9); e != api.ErrArg {
		t.Errorf("Modify of an entry that is not valid = %d", int(e))
	}
}

// P18.2: Delete removes entries without children.
func TestDelete(t *testing.T) {
	r := family(t)
	n := len(r.Since(nil))
	for s, want := range map[string]api.Errno{"x": api.ErrName, "ou=": api.ErrName, "": api.ErrNone, "ou=x": api.ErrNone, "ou=w": api.ErrNone, "ou=y,ou=x": api.ErrNone, "ou=n,ou=x": api.ErrNone, "ou=o,ou=n,ou=x": api.ErrNone, "ou=p,ou=o,ou=n,ou=x": api.ErrNone, "ou=a,ou=x": api.ErrState, "OU=B,ou=a,ou=x": api.ErrState} {
		if e := r.Delete(s, 9); e != want {
			t.Errorf("Delete of %q = %d, not %d", s, int(e), int(want))
		}
	}
	wantLog(t, r, n)
	id := csn.Format(at(1, 4, 1))
	if e := r.Delete("OU=C,ou=b,ou=a,ou=x", 9); e != api.OK {
		t.Errorf("Delete = %d", int(e))
	}
	wantLog(t, r, n, api.Change{CSN: at(9, 0, 1), Op: api.RemoveEntry, ID: id})
	if e := r.Delete("ou=c,ou=b,ou=a,ou=x", 9); e != api.ErrNone {
		t.Errorf("Delete once more = %d", int(e))
	}
	if r.Delete("ou=b,ou=a,ou=x", 9) != api.OK || r.Delete("ou=a,ou=x", 9) != api.OK || len(r.Entries()) != 0 {
		t.Errorf("names: %q", names(r))
	}
	// The name of a removed entry is free.
	added(t, r, 9, unit("ou=a,ou=x"))
	if !slices.Equal(names(r), []string{"ou=a,ou=x"}) {
		t.Errorf("names: %q", names(r))
	}
}

// P18.2: Rename gives an entry without children another name.
func TestRename(t *testing.T) {
	r := family(t)
	n := len(r.Since(nil))
	from, id := "ou=c,ou=b,ou=a,ou=x", csn.Format(at(1, 4, 1))
	for i, to := range []string{"OU=D, ou=b,ou=a,ou=x", "ou=d,ou=a,ou=x", "ou=d,ou=z"} {
		if e := r.Rename(from, to, 9); e != api.OK {
			t.Fatalf("Rename of %q to %q = %d", from, to, int(e))
		}
		from = []string{"ou=d,ou=b,ou=a,ou=x", "OU=d , ou=a,ou=x", "ou=d,ou=z"}[i]
		if e, ok := r.Get(from); !ok || len(e.Attrs) != 1 {
			t.Errorf("Get = %q, %v", e, ok)
		}
	}
	wantLog(t, r, n, api.Change{CSN: at(9, 0, 1), Op: api.RenameEntry, ID: id, Name: "ou=d,ou=b,ou=a,ou=x"}, api.Change{CSN: at(9, 1, 1), Op: api.RenameEntry, ID: id, Name: "ou=d,ou=a,ou=x"}, api.Change{CSN: at(9, 2, 1), Op: api.RenameEntry, ID: id, Name: "ou=d,ou=z"})
	if want := []string{"ou=a,ou=x", "ou=b,ou=a,ou=x", "ou=d,ou=z"}; !slices.Equal(names(r), want) {
		t.Errorf("names: %q", names(r))
	}
	// The orphans are entries again when their parent exists.
	if e := r.Rename("ou=d,ou=z", "ou=n,ou=x", 9); e != api.OK {
		t.Errorf("Rename = %d", int(e))
	}
	if want := []string{"ou=a,ou=x", "ou=b,ou=a,ou=x", "ou=n,ou=x", "ou=o,ou=n,ou=x", "ou=p,ou=o,ou=n,ou=x"}; !slices.Equal(names(r), want) {
		t.Errorf("names: %q", names(r))
	}
	if e := r.Rename("ou=n,ou=x", "ou=m,ou=x", 9); e != api.ErrState {
		t.Errorf("Rename = %d", int(e))
	}
}

// P18.2: the errors of Rename in their order, after which nothing has changed.
func TestRenameErrors(t *testing.T) {
	r, other := family(t), family(t)
	leaf, inner, top := "ou=c,ou=b,ou=a,ou=x", "ou=b,ou=a,ou=x", "ou=a,ou=x"
	for _, x := range []struct {
		from, to string
		want     api.Errno
	}{
		{"x", "ou=y,ou=x", api.ErrName},
		{leaf, "x", api.ErrName},
		{leaf, "", api.ErrName},
		{"ou=y,ou=x", "x", api.ErrName},
		{"ou=y,ou=x", "", api.ErrName},
		{"", "", api.ErrName},
		{"", "ou=y,ou=x", api.ErrNone},
		{"ou=x", "ou=y", api.ErrNone},
		{"ou=x", "ou=x", api.ErrNone},
		{"ou=y,ou=x", "ou=y,ou=x", api.ErrNone},
		{"ou=y,ou=x", top, api.ErrNone},
		{"ou=o,ou=n,ou=x", "ou=y,ou=x", api.ErrNone},
		{"ou=w", "ou=y,ou=x", api.ErrNone},
		{leaf, leaf, api.OK},
		{"OU=c,ou=b,ou=a,ou=x", "ou = C,ou=b,ou=a,ou=x", api.OK},
		{inner, inner, api.OK},
		{top, "OU=A,ou=x", api.OK},
		{inner, top, api.ErrState},
		{inner, "ou=y," + inner, api.ErrState},
		{inner, "ou=y,ou=n", api.ErrState},
		{inner, "ou=y,ou=x", api.ErrState},
		{leaf, "OU=x", api.ErrTwice},
		{leaf, "ou=w", api.ErrTwice},
		{leaf, inner, api.ErrTwice},
		{leaf, "ou=p,ou=o,ou=n,ou=x", api.ErrTwice},
		{leaf, "ou=y," + leaf, api.ErrCycle},
		{leaf, "ou=y,ou=y," + leaf, api.ErrCycle},
		{leaf, "ou=y", api.ErrNone},
		{leaf, "ou=y,ou=w", api.ErrNone},
		{leaf, "ou=y,ou=n,ou=x", api.ErrNone},
		{leaf, "ou=y,ou=o,ou=n,ou=x", api.ErrNone},
		{leaf, "ou=y,ou=a,ou=z", api.ErrNone},
	} {
		if e := r.Rename(x.from, x.to, 9); e != x.want {
			t.Errorf("Rename of %q to %q = %d, not %d", x.from, x.to, int(e), int(x.want))
		}
	}
	if !equal(r, other) {
		t.Errorf("an error changed the log: %v", r.Since(nil))
	}
}

// crowded returns a replica with ou=a,ou=x and a log with n records.
func crowded(t *testing.T, n int) *replica.Replica {
	t.Helper()
	r := fresh(t, 1)
	added(t, r, 1, unit("ou=a,ou=x"))
	if e := r.Receive(puts(n - 2)); e != api.OK || len(r.Since(nil)) != n {
		t.Fatalf("Receive = %d", int(e))
	}
	return r
}

// operations are local operations that make n records on a replica with ou=a,ou=x.
func operations(r *replica.Replica, n, now int) []api.Errno {
	class := []api.Mod{{Op: api.AddValues, Name: "class", Values: []string{"person"}}, {Op: api.AddValues, Name: "cn", Values: []string{"a"}}}
	switch n {
	case 0:
		return []api.Errno{r.Modify("ou=a,ou=x", nil, now), r.Rename("ou=a,ou=x", "ou=a,ou=x", now)}
	case 1:
		return []api.Errno{r.Rename("ou=a,ou=x", "ou=b,ou=x", now), r.Delete("ou=a,ou=x", now)}
	}
	_, e := r.Add(unit("ou=c,ou=x"), now)
	return []api.Errno{e, r.Modify("ou=a,ou=x", class, now)}
}

// P18.2: the log of at most MaxChanges records.
func TestLogLimit(t *testing.T) {
	for _, x := range []struct{ records, length int }{{1, api.MaxChanges}, {2, api.MaxChanges - 1}, {2, api.MaxChanges}} {
		r := crowded(t, x.length)
		before := r.Since(nil)
		for i, e := range operations(r, x.records, 9) {
			if e != api.ErrLimit {
				t.Errorf("%v: operation %d = %d", x, i, int(e))
			}
		}
		for i, e := range operations(r, 0, 9) {
			if e != api.OK {
				t.Errorf("%v: operation %d without records = %d", x, i, int(e))
			}
		}
		if !slices.Equal(r.Since(nil), before) || !slices.Equal(names(r), []string{"ou=a,ou=x"}) {
			t.Errorf("%v: an error changed the log", x)
		}
		// All other errors come first.
		_, twice := r.Add(unit("ou=a,ou=x"), 9)
		_, none := r.Add(unit("ou=a,ou=n"), 9)
		if twice != api.ErrTwice || none != api.ErrNone || r.Delete("ou=n,ou=x", 9) != api.ErrNone || r.Rename("ou=a,ou=x", "ou=b,ou=n", 9) != api.ErrNone || r.Modify("ou=a,ou=x", []api.Mod{{Op: api.DeleteValues, Name: "class"}}, 9) != api.ErrSchema {
			t.Errorf("%v: errors other than that of the log", x)
		}
	}
	r := crowded(t, api.MaxChanges-3)
	if _, e := r.Add(unit("ou=c,ou=x"), 9); e != api.OK || len(r.Since(nil)) != api.MaxChanges-1 {
		t.Errorf("Add = %d", int(e))
	}
	if e := r.Delete("ou=c,ou=x", 9); e != api.OK || len(r.Since(nil)) != api.MaxChanges {
		t.Errorf("Delete = %d", int(e))
	}
}

// P18.2: the error of csn.Next comes after all others, and after that of the log.
func TestNumbers(t *testing.T) {
	end := api.Change{CSN: at(api.MaxTime, maxSeq, 7), Op: api.RemoveEntry, ID: csn.Format(at(3, 3, 3))}
	for _, x := range []struct{ records, left int }{{1, 0}, {2, 0}, {2, 1}} {
		r := crowded(t, 2)
		last := end
		last.CSN.Seq -= x.left
		if e := r.Receive([]api.Change{last}); e != api.OK {
			t.Fatalf("Receive = %d", int(e))
		}
		before := r.Since(nil)
		for i, e := range operations(r, x.records, 9) {
			if e != api.ErrRange {
				t.Errorf("%v: operation %d = %d", x, i, int(e))
			}
		}
		for i, e := range operations(r, 0, 9) {
			if e != api.OK {
				t.Errorf("%v: operation %d without records = %d", x, i, int(e))
			}
		}
		if !slices.Equal(r.Since(nil), before) || !slices.Equal(names(r), []string{"ou=a,ou=x"}) || r.Delete("ou=n,ou=x", 9) != api.ErrNone {
			t.Errorf("%v: an error changed the log", x)
		}
		if e := r.Receive(puts(api.MaxChanges - len(before))); e != api.OK {
			t.Fatalf("Receive = %d", int(e))
		}
		for i, e := range operations(r, x.records, 9) {
			if e != api.ErrLimit {
				t.Errorf("%v: operation %d with a full log = %d", x, i, int(e))
			}
		}
	}
	// A later clock begins a new time.
	r := crowded(t, 2)
	end.CSN.Time--
	if e := r.Receive([]api.Change{end}); e != api.OK {
		t.Fatalf("Receive = %d", int(e))
	}
	if e := r.Delete("ou=a,ou=x", api.MaxTime-1); e != api.ErrRange {
		t.Errorf("Delete = %d", int(e))
	}
	if e := r.Delete("ou=a,ou=x", api.MaxTime); e != api.OK || r.Vector()[0] != at(api.MaxTime, 0, 1) {
		t.Errorf("Delete = %d, %v", int(e), r.Vector())
	}
}
