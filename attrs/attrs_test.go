package attrs

import (
	"slices"
	"strconv"
	"strings"
	"testing"

	"identity/api"
	"identity/fold"
)

// attr makes an attribute.
func attr(name string, values ...string) api.Attr {
	return api.Attr{Name: name, Values: values}
}

// numbered returns n different values.
func numbered(n int) []string {
	var l []string
	for i := range n {
		l = append(l, "v"+strconv.Itoa(100+i))
	}
	return l
}

// many returns n attributes with different names.
func many(n int) []api.Attr {
	var l []api.Attr
	for _, v := range numbered(n) {
		l = append(l, attr(v, v))
	}
	return l
}

// same reports whether two lists are equal, attribute by attribute as they are.
func same(a, b []api.Attr) bool {
	return slices.EqualFunc(a, b, func(x, y api.Attr) bool {
		return x.Name == y.Name && slices.Equal(x.Values, y.Values)
	})
}

// copied returns a deep copy.
func copied(l []api.Attr) []api.Attr {
	l = slices.Clone(l)
	for i := range l {
		l[i].Values = slices.Clone(l[i].Values)
	}
	return l
}

// The parts from which small lists are made.
var (
	smallNames  = []string{"cn", "CN", "Mail", "b-2", ""}
	smallValues = [][]string{nil, {"b"}, {"B", "a"}, {"a", "b", "a"}, {""}}
)

// small returns all lists of at most three attributes that consist of the small parts.
func small() [][]api.Attr {
	all := [][]api.Attr{nil}
	from := 0
	for range 3 {
		to := len(all)
		for _, l := range all[from:to] {
			for _, name := range smallNames {
				for _, values := range smallValues {
					all = append(all, append(copied(l), attr(name, slices.Clone(values)...)))
				}
			}
		}
		from = to
	}
	return all
}

// normal is the definition of the normal form.
func normal(l []api.Attr) []api.Attr {
	var sorted []api.Attr
	for _, a := range l {
		name := strings.ToLower(a.Name)
		for _, v := range a.Values {
			i := slices.IndexFunc(sorted, func(b api.Attr) bool { return b.Name == name })
			if i < 0 {
				i = len(sorted)
				sorted = append(sorted, attr(name))
			}
			if !slices.Contains(sorted[i].Values, v) {
				sorted[i].Values = append(sorted[i].Values, v)
			}
		}
	}
	for _, a := range sorted {
		slices.Sort(a.Values)
	}
	slices.SortFunc(sorted, func(a, b api.Attr) int { return strings.Compare(a.Name, b.Name) })
	return sorted
}

// valuesOf is the definition of the values of an attribute.
func valuesOf(l []api.Attr, name string) []string {
	for _, a := range normal(l) {
		if a.Name == strings.ToLower(name) {
			return a.Values
		}
	}
	return nil
}

// with returns the normal form of l with other values of an attribute.
func with(l []api.Attr, name string, values []string) []api.Attr {
	others := slices.DeleteFunc(normal(l), func(a api.Attr) bool { return a.Name == strings.ToLower(name) })
	return normal(append(others, attr(name, values...)))
}

// P6.1
func TestCheck(t *testing.T) {
	long := strings.Repeat("v", api.MaxValue)
	for _, x := range []struct {
		l    []api.Attr
		want api.Errno
	}{
		{nil, api.OK},
		{[]api.Attr{attr("cn", "b", "a"), attr("Mail", "m")}, api.OK},
		{[]api.Attr{attr("cn", "a"), attr("sn", "a")}, api.OK},
		{[]api.Attr{attr("cn", "a", "A", "a  b", "a b")}, api.OK},
		{[]api.Attr{attr(strings.Repeat("n", api.MaxName), long)}, api.OK},
		{[]api.Attr{attr("cn", numbered(api.MaxValues)...)}, api.OK},
		{many(api.MaxAttrs), api.OK},

		{many(api.MaxAttrs + 1), api.ErrLimit},
		{make([]api.Attr, api.MaxAttrs+1), api.ErrLimit},

		{[]api.Attr{attr("", "a")}, api.ErrName},
		{[]api.Attr{attr("1", "a")}, api.ErrName},
		{[]api.Attr{attr("c_n", "a")}, api.ErrName},
		{[]api.Attr{attr(" cn", "a")}, api.ErrName},
		{[]api.Attr{attr(strings.Repeat("n", api.MaxName+1), "a")}, api.ErrName},
		{[]api.Attr{attr("cn", "a"), attr("CN", "a")}, api.ErrTwice},
		{[]api.Attr{attr("cn", "a"), attr("sn", "a"), attr("cn", "b")}, api.ErrTwice},
		{[]api.Attr{attr("cn")}, api.ErrNone},
		{[]api.Attr{{Name: "cn", Values: []string{}}}, api.ErrNone},
		{[]api.Attr{attr("cn", numbered(api.MaxValues+1)...)}, api.ErrLimit},
		{[]api.Attr{attr("cn", "")}, api.ErrForm},
		{[]api.Attr{attr("cn", " a")}, api.ErrForm},
		{[]api.Attr{attr("cn", "a ")}, api.ErrForm},
		{[]api.Attr{attr("cn", "a", "\u00e9")}, api.ErrForm},
		{[]api.Attr{attr("cn", long+"v")}, api.ErrForm},
		{[]api.Attr{attr("cn", "a", "b", "a")}, api.ErrTwice},
	} {
		before := copied(x.l)
		if e := Check(x.l); e != x.want {
			t.Errorf("Check(%q) = %d, not %d", x.l, int(e), int(x.want))
		}
		if !same(x.l, before) {
			t.Errorf("Check changed %q", before)
		}
	}
}

// P6.1: which of several errors is returned.
func TestCheckOrder(t *testing.T) {
	cn := attr("cn", "a")
	for _, x := range []struct {
		l    []api.Attr
		want api.Errno
	}{
		{append(many(api.MaxAttrs), attr("1")), api.ErrLimit},
		{[]api.Attr{attr("1"), attr("1")}, api.ErrName},
		{[]api.Attr{attr("1", numbered(api.MaxValues+1)...)}, api.ErrName},
		{[]api.Attr{attr("1", "")}, api.ErrName},
		{[]api.Attr{cn, attr("CN")}, api.ErrTwice},
		{[]api.Attr{cn, attr("Cn", numbered(api.MaxValues+1)...)}, api.ErrTwice},
		{[]api.Attr{cn, attr("cn", "")}, api.ErrTwice},
		{[]api.Attr{attr("cn", make([]string, api.MaxValues+1)...)}, api.ErrLimit},
		{[]api.Attr{attr("cn", "a", "", "a")}, api.ErrForm},
		{[]api.Attr{attr("cn", "a", "a", "")}, api.ErrTwice},
		{[]api.Attr{attr("cn", "", "")}, api.ErrForm},

		// An earlier attribute.
		{[]api.Attr{attr("cn"), attr("1", "a")}, api.ErrNone},
		{[]api.Attr{attr("cn", ""), attr("cn", "a")}, api.ErrForm},
		{[]api.Attr{attr("cn", "a", "a"), attr("sn")}, api.ErrTwice},
		{[]api.Attr{attr("cn", numbered(api.MaxValues+1)...), attr("sn", "")}, api.ErrLimit},
		{[]api.Attr{attr("sn", "a"), attr("1", "a"), attr("SN", "a")}, api.ErrName},
	} {
		if e := Check(x.l); e != x.want {
			t.Errorf("Check(%q) = %d, not %d", x.l, int(e), int(x.want))
		}
	}
}

// P6.2
func TestSorted(t *testing.T) {
	for _, x := range []struct{ l, want []api.Attr }{
		{nil, nil},
		{[]api.Attr{attr("cn"), attr("mail")}, nil},
		{[]api.Attr{attr("CN", "b", "a"), attr("cn", "a")}, []api.Attr{attr("cn", "a", "b")}},
		{[]api.Attr{attr("MAIL", "m"), attr("cn", "b", "a")}, []api.Attr{attr("cn", "a", "b"), attr("mail", "m")}},
		{[]api.Attr{attr("cn", "a"), attr("mail", "m"), attr("Cn", "B")}, []api.Attr{attr("cn", "B", "a"), attr("mail", "m")}},
		{[]api.Attr{attr("cn"), attr("CN", "a")}, []api.Attr{attr("cn", "a")}},
		{[]api.Attr{attr("cn", "a  b", "a b", "A b", "a b")}, []api.Attr{attr("cn", "A b", "a  b", "a b")}},
		{[]api.Attr{attr("\u00c9 1", "\xff", "")}, []api.Attr{attr("\u00c9 1", "", "\xff")}},
		{[]api.Attr{attr("b", "a"), attr("a-b", "a"), attr("ab", "a"), attr("a", "a")}, []api.Attr{attr("a", "a"), attr("a-b", "a"), attr("ab", "a"), attr("b", "a")}},
	} {
		if got := Sorted(x.l); !same(got, x.want) {
			t.Errorf("Sorted(%q) = %q", x.l, got)
		}
	}
	for _, l := range small() {
		before := copied(l)
		if got := Sorted(l); !same(got, normal(l)) {
			t.Fatalf("Sorted(%q) = %q", l, got)
		}
		if !same(l, before) {
			t.Fatalf("Sorted changed %q", before)
		}
	}
}

// P6.2
func TestEqual(t *testing.T) {
	l := []api.Attr{attr("CN", "b", "a"), attr("mail", "m")}
	for _, x := range []struct {
		a, b []api.Attr
		want bool
	}{
		{nil, []api.Attr{}, true},
		{nil, []api.Attr{attr("cn")}, true},
		{l, []api.Attr{attr("Mail", "m"), attr("cn", "a"), attr("cN", "b", "a")}, true},
		{l, nil, false},
		{nil, l, false},
		{l, l[:1], false},
		{l, []api.Attr{attr("cn", "a"), attr("mail", "m")}, false},
		{l, []api.Attr{attr("cn", "A", "b"), attr("mail", "m")}, false},
		{l, []api.Attr{attr("cn", "a", "b"), attr("mai", "m")}, false},
		{[]api.Attr{attr("cn", "a b")}, []api.Attr{attr("cn", "a  b")}, false},
		{[]api.Attr{attr("a", "x"), attr("b", "y")}, []api.Attr{attr("a", "y"), attr("b", "x")}, false},
	} {
		if got := Equal(x.a, x.b); got != x.want {
			t.Errorf("Equal(%q, %q) = %v", x.a, x.b, got)
		}
	}
	all := small()[:300]
	for _, a := range all {
		for _, b := range all {
			if got := Equal(a, b); got != same(normal(a), normal(b)) {
				t.Fatalf("Equal(%q, %q) = %v", a, b, got)
			}
		}
	}
}

// P6.3
func TestGetNamesPick(t *testing.T) {
	l := []api.Attr{attr("Mail", "m"), attr("cn", "b"), attr("CN", "a", "b"), attr("none"), attr("1 x", "y")}
	for name, want := range map[string][]string{"CN": {"a", "b"}, "cn": {"a", "b"}, "mAIL": {"m"}, "none": nil, "other": nil, "": nil, "1 X": {"y"}, "cn ": nil} {
		if got := Get(l, name); !slices.Equal(got, want) {
			t.Errorf("Get(%q) = %q", name, got)
		}
	}
	for _, x := range []struct {
		name, value string
		want        bool
	}{{"cn", "a", true}, {"CN", "b", true}, {"cn", "A", false}, {"cn", "", false}, {"mail", "a", false}, {"none", "", false}, {"other", "a", false}} {
		if got := Has(l, x.name, x.value); got != x.want {
			t.Errorf("Has(%q, %q) = %v", x.name, x.value, got)
		}
	}
	if got := Names(l); !slices.Equal(got, []string{"1 x", "cn", "mail"}) {
		t.Errorf("Names = %q", got)
	}
	cn, mail := attr("cn", "a", "b"), attr("mail", "m")
	for _, x := range []struct {
		names []string
		want  []api.Attr
	}{
		{nil, []api.Attr{attr("1 x", "y"), cn, mail}},
		{[]string{}, []api.Attr{attr("1 x", "y"), cn, mail}},
		{[]string{"MAIL", "other"}, []api.Attr{mail}},
		{[]string{"mail", "CN", "mail", "cn"}, []api.Attr{cn, mail}},
		{[]string{"other"}, nil},
		{[]string{""}, nil},
		{[]string{"none"}, nil},
	} {
		if got := Pick(l, x.names); !same(got, x.want) {
			t.Errorf("Pick(%q) = %q", x.names, got)
		}
	}
}

// P6.3: all small lists, against the definition.
func TestReadersDefinition(t *testing.T) {
	for _, l := range small() {
		before, all := copied(l), normal(l)
		var names []string
		for _, a := range all {
			names = append(names, a.Name)
		}
		if got := Names(l); !slices.Equal(got, names) {
			t.Fatalf("Names(%q) = %q", l, got)
		}
		if got := Pick(l, nil); !same(got, all) {
			t.Fatalf("Pick(%q) of all = %q", l, got)
		}
		for _, name := range append(smallNames, "other") {
			values := valuesOf(l, name)
			if got := Get(l, name); !slices.Equal(got, values) {
				t.Fatalf("Get(%q, %q) = %q", l, name, got)
			}
			for _, v := range []string{"a", "b", "B", "", "A"} {
				if got := Has(l, name, v); got != slices.Contains(values, v) {
					t.Fatalf("Has(%q, %q, %q) = %v", l, name, v, got)
				}
			}
			if got := Pick(l, []string{"other", name}); !same(got, normal([]api.Attr{attr(name, values...)})) {
				t.Fatalf("Pick(%q, %q) = %q", l, name, got)
			}
		}
		if !same(l, before) {
			t.Fatalf("%q was changed", before)
		}
	}
}

// change is one call of Add, Remove or Replace, and its result.
type change struct {
	l      []api.Attr
	name   string
	values []string
	want   []api.Attr
	errno  api.Errno
}

// run makes the calls of a list.
func run(t *testing.T, what string, f func([]api.Attr, string, []string) ([]api.Attr, api.Errno), changes []change) {
	for _, x := range changes {
		before, values := copied(x.l), slices.Clone(x.values)
		got, e := f(x.l, x.name, x.values)
		if e != x.errno || !same(got, x.want) {
			t.Errorf("%s(%q, %q, %q) = %q, %d, not %q, %d", what, x.l, x.name, x.values, got, int(e), x.want, int(x.errno))
		}
		if !same(x.l, before) || !slices.Equal(x.values, values) {
			t.Errorf("%s changed %q or %q", what, before, values)
		}
	}
}

// P6.4
func TestAdd(t *testing.T) {
	cn, mixed := []api.Attr{attr("cn", "c")}, []api.Attr{attr("Mail", "m"), attr("CN", "c"), attr("none")}
	full, most := []api.Attr{attr("cn", numbered(api.MaxValues-1)...)}, many(api.MaxAttrs)
	run(t, "Add", Add, []change{
		{cn, "cn", []string{"b", "a"}, []api.Attr{attr("cn", "a", "b", "c")}, api.OK},
		{nil, "CN", []string{"a"}, []api.Attr{attr("cn", "a")}, api.OK},
		{mixed, "cN", []string{"C", "d"}, []api.Attr{attr("cn", "C", "c", "d"), attr("mail", "m")}, api.OK},
		{mixed, "a", []string{"x"}, []api.Attr{attr("a", "x"), attr("cn", "c"), attr("mail", "m")}, api.OK},
		{mixed, "dn", []string{"x"}, []api.Attr{attr("cn", "c"), attr("dn", "x"), attr("mail", "m")}, api.OK},
		{mixed, "None", []string{"x"}, []api.Attr{attr("cn", "c"), attr("mail", "m"), attr("none", "x")}, api.OK},
		{full, "cn", []string{"w"}, []api.Attr{attr("cn", append(numbered(api.MaxValues-1), "w")...)}, api.OK},
		{most[:api.MaxAttrs-1], "w", []string{"w"}, append(many(api.MaxAttrs-1), attr("w", "w")), api.OK},
		{most, "V100", []string{"a"}, with(most, "v100", []string{"a", "v100"}), api.OK},

		{cn, "", []string{"a"}, nil, api.ErrName},
		{cn, "c n", nil, nil, api.ErrName},
		{cn, "cn", nil, nil, api.ErrNone},
		{cn, "cn", []string{}, nil, api.ErrNone},
		{many(api.MaxAttrs + 1), "cn", nil, nil, api.ErrNone},
		{cn, "cn", []string{""}, nil, api.ErrForm},
		{cn, "cn", []string{"a", "b "}, nil, api.ErrForm},
		{cn, "cn", []string{strings.Repeat("v", api.MaxValue+1)}, nil, api.ErrForm},
		{cn, "CN", []string{"c"}, nil, api.ErrTwice},
		{cn, "cn", []string{"a", "a"}, nil, api.ErrTwice},
		{cn, "cn", []string{"c", ""}, nil, api.ErrTwice},
		{cn, "cn", []string{"", "c"}, nil, api.ErrForm},
		{[]api.Attr{attr("cn", "")}, "cn", []string{""}, nil, api.ErrForm},
		{full, "cn", []string{"w", "x"}, nil, api.ErrLimit},
		{full, "cn", []string{"w", "x", "x"}, nil, api.ErrTwice},
		{nil, "cn", numbered(api.MaxValues + 1), nil, api.ErrLimit},
		{nil, "cn", append(numbered(api.MaxValues+1), ""), nil, api.ErrForm},
		{most, "w", []string{"w"}, nil, api.ErrLimit},
		{most, "w", []string{""}, nil, api.ErrForm},
		{many(api.MaxAttrs + 1), "v100", []string{"a"}, nil, api.ErrLimit},

		// Only the attribute that is changed is limited to MaxValues values.
		{[]api.Attr{attr("cn", numbered(20)...)}, "sn", []string{"a"}, []api.Attr{attr("cn", numbered(20)...), attr("sn", "a")}, api.OK},
	})
}

// P6.5
func TestRemove(t *testing.T) {
	mixed := []api.Attr{attr("Mail", "m"), attr("cn", "b", "a"), attr("CN", "c"), attr("none"), attr("sn", "s")}
	mail, sn := attr("mail", "m"), attr("sn", "s")
	run(t, "Remove", Remove, []change{
		{[]api.Attr{attr("cn", "a")}, "cn", []string{"a"}, nil, api.OK},
		{mixed, "CN", []string{"c", "a"}, []api.Attr{attr("cn", "b"), mail, sn}, api.OK},
		{mixed, "cn", []string{"b"}, []api.Attr{attr("cn", "a", "c"), mail, sn}, api.OK},
		{mixed, "cn", []string{"a", "b", "c"}, []api.Attr{mail, sn}, api.OK},
		{mixed, "cn", nil, []api.Attr{mail, sn}, api.OK},
		{mixed, "MAIL", []string{}, []api.Attr{attr("cn", "a", "b", "c"), sn}, api.OK},
		{mixed, "sn", nil, []api.Attr{attr("cn", "a", "b", "c"), mail}, api.OK},
		{many(api.MaxAttrs + 2), "V133", nil, many(api.MaxAttrs + 1), api.OK},
		{[]api.Attr{attr("cn", numbered(20)...)}, "cn", []string{"v119"}, []api.Attr{attr("cn", numbered(19)...)}, api.OK},
		{[]api.Attr{attr("cn", "", "a")}, "cn", []string{""}, []api.Attr{attr("cn", "a")}, api.OK},

		{mixed, "", nil, nil, api.ErrName},
		{mixed, "1", []string{"a"}, nil, api.ErrName},
		{[]api.Attr{attr("1", "a")}, "1", nil, nil, api.ErrName},
		{nil, "cn", []string{"a"}, nil, api.ErrNone},
		{nil, "cn", nil, nil, api.ErrNone},
		{mixed, "other", nil, nil, api.ErrNone},
		{mixed, "none", nil, nil, api.ErrNone},
		{mixed, "cn", []string{"A"}, nil, api.ErrNone},
		{mixed, "cn", []string{"a", "m"}, nil, api.ErrNone},
		{mixed, "cn", []string{"a", "a"}, nil, api.ErrNone},
		{mixed, "cn", []string{"a", ""}, nil, api.ErrNone},
	})
}

// P6.6
func TestReplace(t *testing.T) {
	mixed := []api.Attr{attr("Mail", "m"), attr("cn", "b", "a"), attr("CN", "c"), attr("none")}
	cn, mail, most := attr("cn", "a", "b", "c"), attr("mail", "m"), many(api.MaxAttrs)
	run(t, "Replace", Replace, []change{
		{mixed, "CN", []string{"z", "b"}, []api.Attr{attr("cn", "b", "z"), mail}, api.OK},
		{mixed, "d", []string{"x"}, []api.Attr{cn, attr("d", "x"), mail}, api.OK},
		{mixed, "mail", []string{"n"}, []api.Attr{cn, attr("mail", "n")}, api.OK},
		{mixed, "mail", []string{"m"}, []api.Attr{cn, mail}, api.OK},
		{mixed, "cn", nil, []api.Attr{mail}, api.OK},
		{mixed, "other", []string{}, []api.Attr{cn, mail}, api.OK},
		{mixed, "none", nil, []api.Attr{cn, mail}, api.OK},
		{nil, "cn", nil, nil, api.OK},
		{nil, "cn", numbered(api.MaxValues), []api.Attr{attr("cn", numbered(api.MaxValues)...)}, api.OK},
		{most, "V131", []string{"a"}, append(many(api.MaxAttrs-1), attr("v131", "a")), api.OK},
		{many(api.MaxAttrs + 1), "v132", nil, most, api.OK},
		{[]api.Attr{attr("cn", numbered(20)...)}, "sn", []string{"a"}, []api.Attr{attr("cn", numbered(20)...), attr("sn", "a")}, api.OK},

		{mixed, "", nil, nil, api.ErrName},
		{mixed, "c:n", []string{""}, nil, api.ErrName},
		{mixed, "cn", []string{"a", " b"}, nil, api.ErrForm},
		{mixed, "cn", []string{""}, nil, api.ErrForm},
		{mixed, "cn", []string{"a", "a"}, nil, api.ErrTwice},
		{mixed, "cn", []string{"a", "a", ""}, nil, api.ErrTwice},
		{mixed, "cn", []string{"", "a", "a"}, nil, api.ErrForm},
		{mixed, "cn", numbered(api.MaxValues + 1), nil, api.ErrLimit},
		{mixed, "cn", append(numbered(api.MaxValues+1), "v100"), nil, api.ErrTwice},
		{most, "w", []string{"a"}, nil, api.ErrLimit},
		{most, "w", []string{""}, nil, api.ErrForm},
		{many(api.MaxAttrs + 1), "v100", []string{"a"}, nil, api.ErrLimit},
		{many(api.MaxAttrs + 2), "v100", nil, nil, api.ErrLimit},
		{many(api.MaxAttrs + 1), "other", nil, nil, api.ErrLimit},
	})
}

// wanted are the definitions of P6.4 to P6.6 for small lists, within all limits.
func wanted(what string, old, values []string) ([]string, api.Errno) {
	for i, v := range values {
		known := slices.Contains(old, v)
		switch {
		case what == "Remove" && (!known || slices.Contains(values[:i], v)):
			return nil, api.ErrNone
		case what != "Remove" && !fold.Clean(v):
			return nil, api.ErrForm
		case what == "Add" && known, what != "Remove" && slices.Contains(values[:i], v):
			return nil, api.ErrTwice
		}
	}
	switch {
	case what == "Add":
		return slices.Concat(old, values), api.OK
	case what == "Remove" && len(values) > 0:
		return slices.DeleteFunc(slices.Clone(old), func(v string) bool { return slices.Contains(values, v) }), api.OK
	case what == "Remove":
		return nil, api.OK
	}
	return values, api.OK
}

// P6.4 to P6.6 and P6.9: all small lists, against the definitions.
func TestChangesDefinition(t *testing.T) {
	calls := map[string]func([]api.Attr, string, []string) ([]api.Attr, api.Errno){"Add": Add, "Remove": Remove, "Replace": Replace}
	for _, l := range small() {
		for _, name := range []string{"cN", "b-2", "x"} {
			for _, values := range [][]string{nil, {"a"}, {"b", "a"}, {"a", "c"}, {"B", "c"}, {"c", "a", "c"}, {"a", ""}} {
				for what, f := range calls {
					old := valuesOf(l, name)
					rest, e := wanted(what, old, values)
					if what == "Add" && len(values) == 0 || what == "Remove" && len(old) == 0 {
						rest, e = nil, api.ErrNone
					}
					var want []api.Attr
					if e == api.OK {
						want = with(l, name, rest)
					}
					if got, f := f(l, name, values); f != e || !same(got, want) {
						t.Fatalf("%s(%q, %q, %q) = %q, %d, not %q, %d", what, l, name, values, got, int(f), want, int(e))
					}
				}
			}
		}
	}
}

// P6.7
func TestNormalForms(t *testing.T) {
	accepted := 0
	for _, l := range small() {
		s := Sorted(l)
		if !same(Sorted(s), s) {
			t.Fatalf("Sorted(%q) = %q is changed a second time", l, s)
		}
		if Check(l) != api.OK {
			continue
		}
		accepted++
		if e := Check(s); e != api.OK {
			t.Fatalf("Check of the normal form of %q = %d", l, int(e))
		}
		for _, values := range [][]string{nil, {"c"}, {"b"}, {"c", "a"}} {
			for _, name := range []string{"CN", "x"} {
				for what, f := range map[string]func([]api.Attr, string, []string) ([]api.Attr, api.Errno){"Add": Add, "Remove": Remove, "Replace": Replace} {
					got, e := f(l, name, values)
					if e == api.OK && (Check(got) != api.OK || !same(Sorted(got), got)) {
						t.Fatalf("%s(%q, %q, %q) = %q", what, l, name, values, got)
					}
				}
			}
		}
	}
	if accepted < 50 {
		t.Errorf("%d lists accepted", accepted)
	}
}

// P6.8 and P6.9
func TestUndone(t *testing.T) {
	undone := 0
	for _, l := range small() {
		for _, name := range []string{"CN", "mail", "x"} {
			for _, values := range [][]string{{"c"}, {"a"}, {"d", "b"}} {
				more, e := Add(l, name, values)
				if e != api.OK {
					continue
				}
				undone++
				if back, e := Remove(more, name, values); e != api.OK || !same(back, Sorted(l)) {
					t.Fatalf("Remove(%q, %q, %q) = %q, %d", more, name, values, back, int(e))
				}
				others := slices.DeleteFunc(Names(l), func(n string) bool { return n == strings.ToLower(name) })
				if len(others) > 0 && !same(Pick(more, others), Pick(l, others)) {
					t.Fatalf("Add(%q, %q, %q) = %q", l, name, values, more)
				}
			}
		}
	}
	if undone < 1000 {
		t.Errorf("%d times only", undone)
	}
}

// spoil changes everything that a list refers to, also behind its ends.
func spoil(l []api.Attr) {
	for i := range l {
		whole := l[i].Values[:cap(l[i].Values)]
		for k := range whole {
			whole[k] = "spoiled"
		}
	}
	l = l[:cap(l)]
	for i := range l {
		l[i] = attr("spoiled", "spoiled")
	}
}

// DOC.md, rule 4: results are new memory.
func TestNewMemory(t *testing.T) {
	l := []api.Attr{attr("a", "a", "b"), attr("b", "a", "b"), attr("c", "a", "b")}
	values, before := []string{"x", "y", "z"}, copied(l)
	calls := map[string]func() []api.Attr{
		"Sorted":       func() []api.Attr { return Sorted(l) },
		"Pick":         func() []api.Attr { return Pick(l, nil) },
		"Get":          func() []api.Attr { return []api.Attr{attr("b", Get(l, "b")...)} },
		"Names":        func() []api.Attr { return []api.Attr{attr("b", Names(l)...)} },
		"Add":          func() []api.Attr { r, _ := Add(l, "b", values); return r },
		"Add another":  func() []api.Attr { r, _ := Add(l, "bb", values); return r },
		"Remove":       func() []api.Attr { r, _ := Remove(l, "b", []string{"a"}); return r },
		"Remove all":   func() []api.Attr { r, _ := Remove(l, "b", nil); return r },
		"Replace":      func() []api.Attr { r, _ := Replace(l, "b", values); return r },
		"Replace none": func() []api.Attr { r, _ := Replace(l, "b", nil); return r },
	}
	for what, f := range calls {
		got := f()
		want := copied(got)
		for i := range got {
			// What is appended to one list must not appear in another one.
			_ = append(got[i].Values, "appended")
		}
		if !same(got, want) {
			t.Errorf("%s: the lists of the result share memory", what)
		}
		spoil(got)
		if !same(l, before) || !slices.Equal(values, []string{"x", "y", "z"}) {
			t.Fatalf("%s returns memory of its arguments", what)
		}
	}
}
