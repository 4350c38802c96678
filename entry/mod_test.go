package entry_test

import (
	"slices"
	"strings"
	"testing"

	"identity/api"
	"identity/attrs"
	"identity/entry"
	"identity/schema"
)

// mod makes a modification.
func mod(op api.ModOp, name string, values ...string) api.Mod {
	return api.Mod{Op: op, Name: name, Values: values}
}

// The three kinds of modifications.
func add(name string, values ...string) api.Mod { return mod(api.AddValues, name, values...) }
func del(name string, values ...string) api.Mod { return mod(api.DeleteValues, name, values...) }
func put(name string, values ...string) api.Mod { return mod(api.ReplaceValues, name, values...) }

// ann is a normal entry under person.
func ann() api.Entry {
	return of("cn=ann", attr("class", "person"), attr("cn", "ann"), attr("num", "1", "2"))
}

// sameMods reports whether two lists of modifications are equal as they are.
func sameMods(a, b []api.Mod) bool {
	return slices.EqualFunc(a, b, func(x, y api.Mod) bool {
		return x.Op == y.Op && x.Name == y.Name && slices.Equal(x.Values, y.Values)
	})
}

// copiedMods returns a deep copy.
func copiedMods(l []api.Mod) []api.Mod {
	l = slices.Clone(l)
	for i := range l {
		l[i].Values = slices.Clone(l[i].Values)
	}
	return l
}

// P8.3
func TestApply(t *testing.T) {
	class, cn, num := attr("class", "person"), attr("cn", "ann"), attr("num", "1", "2")
	for _, x := range []struct {
		l    []api.Mod
		want []api.Attr
	}{
		{nil, []api.Attr{class, cn, num}},
		{[]api.Mod{}, []api.Attr{class, cn, num}},
		{[]api.Mod{add("CN", "Bob")}, []api.Attr{class, attr("cn", "ann", "bob"), num}},
		{[]api.Mod{add("num", "012", "-0")}, []api.Attr{class, cn, attr("num", "0", "1", "12", "2")}},
		{[]api.Mod{add("age", "007")}, []api.Attr{attr("age", "7"), class, cn, num}},
		{[]api.Mod{add("CODE", "b", "B")}, []api.Attr{class, cn, attr("code", "B", "b"), num}},
		{[]api.Mod{del("num", "01")}, []api.Attr{class, cn, attr("num", "2")}},
		{[]api.Mod{del("Num", "2", "1")}, []api.Attr{class, cn}},
		{[]api.Mod{del("num")}, []api.Attr{class, cn}},
		{[]api.Mod{put("cn", "Bob")}, []api.Attr{class, attr("cn", "bob"), num}},
		{[]api.Mod{put("Boss", "O = X")}, []api.Attr{attr("boss", "o=x"), class, cn, num}},
		{[]api.Mod{put("num", "2", "03")}, []api.Attr{class, cn, attr("num", "2", "3")}},
		{[]api.Mod{put("num")}, []api.Attr{class, cn}},
		{[]api.Mod{put("age")}, []api.Attr{class, cn, num}},
		{[]api.Mod{{Op: api.ReplaceValues, Name: "active", Values: []string{}}, put("active", "true")}, []api.Attr{attr("active", "TRUE"), class, cn, num}},

		// One after the other; the entries between need not be valid.
		{[]api.Mod{del("cn"), add("cn", "Bob")}, []api.Attr{class, attr("cn", "bob"), num}},
		{[]api.Mod{del("class"), del("cn"), add("class", "Robot")}, []api.Attr{attr("class", "robot"), num}},
		{[]api.Mod{put("class", "robot"), del("cn")}, []api.Attr{attr("class", "robot"), num}},
		{[]api.Mod{put("age", "7", "8"), del("age", "7")}, []api.Attr{attr("age", "8"), class, cn, num}},
		{[]api.Mod{add("age", "7"), del("age"), add("age", "8")}, []api.Attr{attr("age", "8"), class, cn, num}},
		{[]api.Mod{del("num", "1"), add("num", "1"), put("num", "5")}, []api.Attr{class, cn, attr("num", "5")}},
		{slices.Repeat([]api.Mod{del("num", "1"), add("num", "1")}, api.MaxMods/2), []api.Attr{class, cn, num}},
	} {
		before, mods := ann(), copiedMods(x.l)
		got, bad := entry.Apply(person(), before, x.l)
		if bad != api.OK || !same(got, of("cn=ann", x.want...)) {
			t.Errorf("Apply of %v = %q, %d", x.l, got, int(bad))
		}
		spoil(got)
		if !same(before, ann()) || !sameMods(x.l, mods) {
			t.Errorf("Apply changed %v or the entry", mods)
		}
	}
}

// P8.3: an entry that is not normal is refused before everything else.
func TestApplyNotNormal(t *testing.T) {
	class, cn := attr("class", "person"), attr("cn", "ann")
	for _, e := range []api.Entry{
		{},
		of("", class, cn),
		of("ann", class, cn),
		of("CN=ann", class, cn),
		of("cn=ann, o=x", class, cn),
		of("cn=ann", cn, class),
		of("cn=ann", class, attr("CN", "ann")),
		of("cn=ann", class, attr("cn", "Ann")),
		of("cn=ann", attr("class", "Person"), cn),
		of("cn=ann", class, attr("cn", "b", "a")),
		of("cn=ann", class, attr("cn", "a", "a")),
		of("cn=ann", class, attr("cn", "a"), attr("cn", "b")),
		of("cn=ann", class, cn, attr("num", "07")),
		of("cn=ann", class, cn, attr("num")),
		of("cn=ann", attr("age", "x"), class, cn),
		of("cn=ann", attr("age", "7", "8"), class, cn),
		of("cn=ann", class, cn, attr("mail", "m")),
		of("cn=ann", class),
		of("cn=ann", cn),
		of("cn=ann"),
	} {
		before := copied(e)
		for _, l := range [][]api.Mod{nil, {add("class", "person"), add("cn", "ann")}, {{}}, make([]api.Mod, api.MaxMods+1)} {
			if got, bad := entry.Apply(person(), e, l); bad != api.ErrArg || !same(got, api.Entry{}) {
				t.Errorf("Apply to %q = %q, %d", e, got, int(bad))
			}
		}
		if !same(e, before) {
			t.Errorf("Apply changed %q", before)
		}
	}
	rejected := person()
	rejected.Types = append(rejected.Types, rejected.Types[0])
	if got, bad := entry.Apply(rejected, ann(), nil); bad != api.ErrArg || !same(got, api.Entry{}) {
		t.Errorf("Apply under a schema with an error = %q, %d", got, int(bad))
	}
}

// P8.3: each error, and which of several is returned.
func TestApplyErrors(t *testing.T) {
	many := numbered(api.MaxValues + 1)
	good := slices.Repeat([]api.Mod{del("num", "1"), add("num", "1")}, api.MaxMods/2)
	for _, x := range []struct {
		l    []api.Mod
		want api.Errno
	}{
		// The number of modifications.
		{append(slices.Clone(good), put("num", "1")), api.ErrLimit},
		{append([]api.Mod{{}}, good...), api.ErrLimit},
		{append([]api.Mod{del("cn")}, good...), api.ErrLimit},

		// The kind.
		{[]api.Mod{{}}, api.ErrArg},
		{[]api.Mod{mod(0, "cn", "a")}, api.ErrArg},
		{[]api.Mod{mod(4, "cn")}, api.ErrArg},
		{[]api.Mod{mod(-1, "cn")}, api.ErrArg},
		{[]api.Mod{mod(4, "mail", "")}, api.ErrArg},
		{[]api.Mod{mod(4, "num", "x", "x")}, api.ErrArg},

		// The attribute.
		{[]api.Mod{add("mail", "m")}, api.ErrNone},
		{[]api.Mod{add("mail")}, api.ErrNone},
		{[]api.Mod{del("mail")}, api.ErrNone},
		{[]api.Mod{put("mail")}, api.ErrNone},
		{[]api.Mod{put("", "m")}, api.ErrNone},
		{[]api.Mod{put("1", "m")}, api.ErrNone},
		{[]api.Mod{put("cn ", "m")}, api.ErrNone},
		{[]api.Mod{put("mail", "m", "m")}, api.ErrNone},
		{[]api.Mod{put("person", " ")}, api.ErrNone},

		// The values.
		{[]api.Mod{add("num", "x")}, api.ErrType},
		{[]api.Mod{del("num", "x")}, api.ErrType},
		{[]api.Mod{put("num", "3", "x")}, api.ErrType},
		{[]api.Mod{add("cn", "")}, api.ErrType},
		{[]api.Mod{add("cn", " a")}, api.ErrType},
		{[]api.Mod{del("active", "x")}, api.ErrType},
		{[]api.Mod{del("boss", "x")}, api.ErrType},
		{[]api.Mod{add("num", "3", "03")}, api.ErrTwice},
		{[]api.Mod{del("num", "1", "01")}, api.ErrTwice},
		{[]api.Mod{del("num", "9", "9")}, api.ErrTwice},
		{[]api.Mod{del("age", "1", "1")}, api.ErrTwice},
		{[]api.Mod{put("cn", "Bob", "bob")}, api.ErrTwice},
		{[]api.Mod{put("cn", "Bob", "ann", "bob")}, api.ErrTwice},
		{[]api.Mod{put("num", "1", "01", "x")}, api.ErrType},
		{[]api.Mod{add("num", "1", "01", "x")}, api.ErrType},
		{[]api.Mod{put("code", append(many, many[0])...)}, api.ErrTwice},
		{[]api.Mod{add("num")}, api.ErrNone},
		{[]api.Mod{{Op: api.AddValues, Name: "age", Values: []string{}}}, api.ErrNone},

		// Those of attrs.
		{[]api.Mod{add("num", "02")}, api.ErrTwice},
		{[]api.Mod{add("cn", "Bob", "ANN")}, api.ErrTwice},
		{[]api.Mod{add("code", many...)}, api.ErrLimit},
		{[]api.Mod{add("code", many[1:]...), add("code", "x")}, api.ErrLimit},
		{[]api.Mod{del("age")}, api.ErrNone},
		{[]api.Mod{del("age", "7")}, api.ErrNone},
		{[]api.Mod{del("num", "3")}, api.ErrNone},
		{[]api.Mod{del("num", "1", "2", "3")}, api.ErrNone},
		{[]api.Mod{put("code", many...)}, api.ErrLimit},
		{[]api.Mod{del("num"), del("num")}, api.ErrNone},
		{[]api.Mod{del("num", "1"), del("num", "1")}, api.ErrNone},
		{[]api.Mod{add("num", "3"), add("num", "3")}, api.ErrTwice},
		{[]api.Mod{put("age", "3"), add("age", "03")}, api.ErrTwice},

		// The order of the modifications, and the schema at the end.
		{[]api.Mod{del("cn")}, api.ErrSchema},
		{[]api.Mod{put("cn")}, api.ErrSchema},
		{[]api.Mod{del("class")}, api.ErrSchema},
		{[]api.Mod{put("class", "robot")}, api.ErrSchema},
		{[]api.Mod{put("class", "staff")}, api.ErrSchema},
		{[]api.Mod{put("age", "1", "2")}, api.ErrSchema},
		{[]api.Mod{add("age", "1"), add("age", "2")}, api.ErrSchema},
		{[]api.Mod{del("cn"), {}}, api.ErrArg},
		{[]api.Mod{del("age"), {}}, api.ErrNone},
		{[]api.Mod{add("num", "x"), add("mail", "m")}, api.ErrType},
		{[]api.Mod{add("mail", "m"), add("num", "x")}, api.ErrNone},
		{[]api.Mod{put("age", "1", "2"), add("num", "2")}, api.ErrTwice},
		{[]api.Mod{add("num", "2"), add("num", "2", "x")}, api.ErrTwice},
		{[]api.Mod{put("age", "1", "2"), put("code", many...)}, api.ErrLimit},
	} {
		e := ann()
		if got, bad := entry.Apply(person(), e, x.l); bad != x.want || !same(got, api.Entry{}) {
			t.Errorf("Apply of %v = %q, %d, not %d", x.l, got, int(bad), int(x.want))
		}
		if !same(e, ann()) {
			t.Fatalf("Apply of %v changed the entry", x.l)
		}
	}
}

// P8.3: the limits of the attributes and values hold after each modification.
func TestApplyLimits(t *testing.T) {
	s := wide(api.MaxAttrs)
	names := numbered(api.MaxAttrs)
	full := of("cn=a", attr("class", "thing"))
	for _, n := range names[1:] {
		full.Attrs = append(full.Attrs, attr(n, "a"))
	}
	most := numbered(api.MaxValues)
	for _, x := range []struct {
		l    []api.Mod
		want api.Errno
	}{
		{nil, api.OK},
		{[]api.Mod{add(names[0], "a")}, api.ErrLimit},
		{[]api.Mod{put(names[0], "a")}, api.ErrLimit},
		{[]api.Mod{add(names[0], "a"), del(names[1])}, api.ErrLimit},
		{[]api.Mod{del(names[1]), add(names[0], "a")}, api.OK},
		{[]api.Mod{put(names[1]), put(names[0], "a")}, api.OK},
		{[]api.Mod{add(names[1], most[1:]...)}, api.OK},
		{[]api.Mod{add(names[1], most...)}, api.ErrLimit},
		{[]api.Mod{put(names[1], most...)}, api.OK},
		{[]api.Mod{put(names[1], append(most, "x")...)}, api.ErrLimit},
	} {
		if got, bad := entry.Apply(s, full, x.l); bad != x.want || (bad == api.OK) != (got.Name != "") {
			t.Errorf("Apply of %v = %d, not %d", x.l, int(bad), int(x.want))
		}
	}
}

// apply is the definition of P8.3 for a normal entry.
func apply(s api.Schema, e api.Entry, l []api.Mod) (api.Entry, api.Errno) {
	e = copied(e)
	for _, m := range l {
		if m.Op < api.AddValues || m.Op > api.ReplaceValues {
			return api.Entry{}, api.ErrArg
		}
		if _, ok := schema.Type(s, m.Name); !ok {
			return api.Entry{}, api.ErrNone
		}
		var values []string
		for _, v := range m.Values {
			n, bad := schema.Normal(s, m.Name, v)
			if bad != api.OK {
				return api.Entry{}, bad
			}
			values = append(values, n)
		}
		if len(slices.Compact(slices.Sorted(slices.Values(values)))) < len(values) {
			return api.Entry{}, api.ErrTwice
		}
		var bad api.Errno
		switch {
		case m.Op == api.AddValues:
			e.Attrs, bad = attrs.Add(e.Attrs, m.Name, values)
		case m.Op == api.DeleteValues:
			e.Attrs, bad = attrs.Remove(e.Attrs, m.Name, values)
		default:
			e.Attrs, bad = attrs.Replace(e.Attrs, m.Name, values)
		}
		if bad != api.OK {
			return api.Entry{}, bad
		}
	}
	if bad := schema.Valid(s, e); bad != api.OK {
		return api.Entry{}, bad
	}
	return e, api.OK
}

// P8.3, P8.9: pairs of modifications, against the definition; results are normal.
func TestApplyDefinition(t *testing.T) {
	var mods []api.Mod
	for op := range api.ModOp(5) {
		for name, lists := range map[string][][]string{
			"num": {nil, {"1"}, {"02", "1"}, {"3"}, {"x"}, {"4", "04"}}, "CN": {nil, {"Ann"}, {"Bob"}, {"bob", "BOB"}, {" "}},
			"age": {nil, {"7"}, {"7", "8"}}, "class": {nil, {"Robot"}, {"person"}}, "mail": {nil, {"m"}},
		} {
			for _, l := range lists {
				mods = append(mods, mod(op, name, l...))
			}
		}
	}
	s := person()
	found := map[api.Errno]int{}
	for _, m := range mods {
		for _, n := range mods {
			l := []api.Mod{m, n}
			want, f := apply(s, ann(), l)
			got, bad := entry.Apply(s, ann(), l)
			if bad != f || !same(got, want) {
				t.Fatalf("Apply of %v = %q, %d, not %q, %d", l, got, int(bad), want, int(f))
			}
			found[bad]++
			if bad != api.OK {
				continue
			}
			if again, bad := entry.Normal(s, got); bad != api.OK || !same(again, got) {
				t.Fatalf("Apply of %v = %q, which is not normal", l, got)
			}
		}
	}
	for _, e := range []api.Errno{api.OK, api.ErrArg, api.ErrNone, api.ErrType, api.ErrTwice, api.ErrSchema} {
		if found[e] == 0 {
			t.Errorf("no modifications with the result %d", int(e))
		}
	}
}

// P8.4
func TestDiff(t *testing.T) {
	e := func(l ...api.Attr) api.Entry { return of("cn=a", l...) }
	many, others := numbered(api.MaxValues), numbered(api.MaxValues + 1)[1:]
	for _, x := range []struct {
		a, b api.Entry
		want []api.Mod
	}{
		{e(), e(), nil},
		{e(attr("num", "1", "2")), e(attr("num", "2", "3")), []api.Mod{del("num", "1"), add("num", "3")}},
		{e(attr("num", "1", "2")), e(attr("NUM", "2", "1")), nil},
		{e(attr("num", "1")), e(), []api.Mod{del("num")}},
		{e(attr("NUM", "2", "1")), e(), []api.Mod{del("num")}},
		{e(), e(attr("Num", "2", "10", "1")), []api.Mod{add("num", "1", "10", "2")}},
		{e(attr("num", "1", "2")), e(attr("NUM", "4", "3")), []api.Mod{put("num", "3", "4")}},
		{e(attr("num", "1")), e(attr("num", "2")), []api.Mod{put("num", "2")}},
		{e(attr("num", "1", "2", "3")), e(attr("num", "2")), []api.Mod{del("num", "1", "3")}},
		{e(attr("num", "3", "1", "2")), e(attr("num", "2")), []api.Mod{del("num", "1", "3")}},
		{e(attr("num", "2")), e(attr("num", "3", "2", "1")), []api.Mod{add("num", "1", "3")}},
		{e(attr("num", "5", "1", "3")), e(attr("num", "4", "3", "2")), []api.Mod{del("num", "1", "5"), add("num", "2", "4")}},

		// Values are compared byte by byte.
		{e(attr("num", "7")), e(attr("num", "07")), []api.Mod{put("num", "07")}},
		{e(attr("cn", "a", "B")), e(attr("cn", "b", "a")), []api.Mod{del("cn", "B"), add("cn", "b")}},
		{e(attr("cn", "a b")), e(attr("cn", "a  b")), []api.Mod{put("cn", "a  b")}},

		// Attributes in the order of their names in lower case.
		{e(attr("b", "1"), attr("A", "1"), attr("c", "1")), e(attr("C", "2"), attr("D", "1"), attr("b", "1", "2")), []api.Mod{del("a"), add("b", "2"), put("c", "2"), add("d", "1")}},
		{e(attr("sn", "b", "a b"), attr("CN", "x")), e(attr("sn", "c"), attr("z", "1")), []api.Mod{del("cn"), put("sn", "c"), add("z", "1")}},
		{e(attr("Z", "1"), attr("a", "1")), e(), []api.Mod{del("a"), del("z")}},
		{e(), e(attr("Z", "1"), attr("a", "1")), []api.Mod{add("a", "1"), add("z", "1")}},

		// The names are not compared.
		{of("cn=a", attr("cn", "a")), of("o=b", attr("cn", "a")), nil},
		{of("cn=a", attr("cn", "a")), of("cn=b,o=c", attr("cn", "b")), []api.Mod{put("cn", "b")}},

		{e(attr("a", many...)), e(attr("a", others...)), []api.Mod{del("a", many[0]), add("a", others[api.MaxValues-1])}},

		// Entries that are not plain.
		{of("", attr("cn", "a")), e(attr("cn", "b")), nil},
		{e(attr("cn", "a")), of("", attr("cn", "b")), nil},
		{of("CN=a", attr("cn", "a")), e(attr("cn", "b")), nil},
		{e(attr("cn", "a")), of("cn=a, o=b"), nil},
		{e(attr("cn", "a"), attr("CN", "b")), e(), nil},
		{e(), e(attr("cn", "a", "a")), nil},
		{e(), e(attr("cn", " a")), nil},
		{e(attr("cn")), e(attr("cn", "a")), nil},
		{e(attr("cn", "a")), e(attr("cn")), nil},
		{e(attr("1", "a")), e(), nil},
		{e(), e(attr("a", numbered(api.MaxValues+1)...)), nil},
	} {
		a, b := copied(x.a), copied(x.b)
		got := entry.Diff(x.a, x.b)
		if !sameMods(got, x.want) {
			t.Errorf("Diff(%q, %q) = %v", x.a, x.b, got)
		}
		for _, m := range got {
			for i := range m.Values {
				m.Values[i] = "spoilt"
			}
		}
		if !same(x.a, a) || !same(x.b, b) {
			t.Errorf("Diff changed %q or %q", a, b)
		}
	}
}

// diff is the definition of P8.4 for plain entries.
func diff(a, b api.Entry) []api.Mod {
	var l []api.Mod
	for _, n := range attrs.Names(slices.Concat(a.Attrs, b.Attrs)) {
		old, now := attrs.Get(a.Attrs, n), attrs.Get(b.Attrs, n)
		gone := slices.DeleteFunc(slices.Clone(old), func(v string) bool { return slices.Contains(now, v) })
		come := slices.DeleteFunc(slices.Clone(now), func(v string) bool { return slices.Contains(old, v) })
		switch {
		case slices.Equal(old, now):
		case now == nil:
			l = append(l, del(n))
		case old == nil:
			l = append(l, add(n, now...))
		case len(gone) == len(old):
			l = append(l, put(n, now...))
		case len(gone) == 0:
			l = append(l, add(n, come...))
		case len(come) == 0:
			l = append(l, del(n, gone...))
		default:
			l = append(l, del(n, gone...), add(n, come...))
		}
	}
	return l
}

// P8.4: pairs of small entries, against the definition.
func TestDiffDefinition(t *testing.T) {
	all := small()
	for i, a := range all {
		for j := i % 7; j < len(all); j += 7 {
			b := all[j]
			var want []api.Mod
			if entry.Check(a) == api.OK && entry.Check(b) == api.OK {
				want = diff(a, b)
			}
			if got := entry.Diff(a, b); !sameMods(got, want) {
				t.Fatalf("Diff(%q, %q) = %v, not %v", a, b, got, want)
			}
		}
	}
}

// normalEntries returns the normal entries among the small ones, and others with many values, all with one name.
func normalEntries() []api.Entry {
	var all []api.Entry
	add := func(e api.Entry) {
		e.Name = "cn=a"
		n, bad := entry.Normal(person(), e)
		if bad == api.OK && !slices.ContainsFunc(all, func(x api.Entry) bool { return same(x, n) }) {
			all = append(all, n)
		}
	}
	for _, e := range small() {
		add(e)
	}
	values := numbered(2 * api.MaxValues)
	for _, i := range []int{0, 1, api.MaxValues - 1, api.MaxValues} {
		add(of("cn=a", attr("class", "person"), attr("cn", "x"), attr("code", values[i:i+api.MaxValues]...)))
	}
	return all
}

// P8.10
func TestApplyDiff(t *testing.T) {
	s := person()
	all := normalEntries()
	if len(all) < 40 {
		t.Fatalf("%d entries only", len(all))
	}
	for _, a := range all {
		for _, b := range all {
			l := entry.Diff(a, b)
			if got, bad := entry.Apply(s, a, l); bad != api.OK || !same(got, b) {
				t.Fatalf("Apply to %q of %v = %q, %d, not %q", a, l, got, int(bad), b)
			}
		}
	}
}

// P8.10: up to the limit of the modifications, and beyond.
func TestApplyDiffLimits(t *testing.T) {
	s := wide(api.MaxAttrs - 1)
	names := numbered(api.MaxAttrs - 1)
	class := attr("class", "thing")
	a, b := of("cn=a", class), of("cn=a", class)
	for i, n := range names {
		a.Attrs = append(a.Attrs, attr(n, "a", "b"))
		b.Attrs = append(b.Attrs, attr(n, "b", "c"))
		l := entry.Diff(a, b)
		if len(l) != 2*(i+1) {
			t.Fatalf("Diff of %d attributes has %d modifications", i+1, len(l))
		}
		got, bad := entry.Apply(s, a, l)
		if len(l) > api.MaxMods {
			if bad != api.ErrLimit || !same(got, api.Entry{}) {
				t.Errorf("Apply of %d modifications = %q, %d", len(l), got, int(bad))
			}
		} else if bad != api.OK || !same(got, b) {
			t.Errorf("Apply of %d modifications = %q, %d", len(l), got, int(bad))
		}
	}
	// All attributes are replaced by others, within the limit of both together.
	half := len(names) / 2
	a.Attrs, b.Attrs = []api.Attr{class}, []api.Attr{class}
	for i, n := range names {
		if i%2 == 0 && i < 2*half {
			a.Attrs = append(a.Attrs, attr(n, strings.Repeat("x", api.MaxValue)))
		} else {
			b.Attrs = append(b.Attrs, attr(n, "y"))
		}
	}
	if got, bad := entry.Apply(s, a, entry.Diff(a, b)); bad != api.OK || !same(got, b) {
		t.Errorf("Apply of an exchange of all attributes = %q, %d", got, int(bad))
	}
}
