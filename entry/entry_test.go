package entry_test

import (
	"slices"
	"strconv"
	"strings"
	"testing"

	"identity/api"
	"identity/attrs"
	"identity/entry"
	"identity/name"
	"identity/schema"
)

// attr makes an attribute.
func attr(name string, values ...string) api.Attr {
	return api.Attr{Name: name, Values: values}
}

// of makes an entry.
func of(name string, l ...api.Attr) api.Entry {
	return api.Entry{Name: name, Attrs: l}
}

// person returns a schema with every syntax.
func person() api.Schema {
	return api.Schema{
		Types: []api.AttrType{
			{Name: "class", Syntax: api.TextSyntax}, {Name: "cn", Syntax: api.TextSyntax}, {Name: "Num", Syntax: api.IntSyntax}, {Name: "age", Syntax: api.IntSyntax, Single: true},
			{Name: "boss", Syntax: api.NameSyntax}, {Name: "active", Syntax: api.BoolSyntax}, {Name: "code", Syntax: api.ExactSyntax},
		},
		Classes: []api.Class{
			{Name: "Person", Must: []string{"cn"}, May: []string{"num", "age", "boss", "active", "code"}},
			{Name: "robot", May: []string{"num"}},
		},
	}
}

// wide returns a schema with n attributes besides class, all of which a thing may have.
func wide(n int) api.Schema {
	s := api.Schema{Types: []api.AttrType{{Name: "class", Syntax: api.TextSyntax}}, Classes: []api.Class{{Name: "thing"}}}
	for _, v := range numbered(n) {
		s.Types = append(s.Types, api.AttrType{Name: v, Syntax: api.ExactSyntax})
		s.Classes[0].May = append(s.Classes[0].May, v)
	}
	return s
}

// numbered returns n different values in ascending order, which are names as well.
func numbered(n int) []string {
	var l []string
	for i := range n {
		l = append(l, "v"+strconv.Itoa(100+i))
	}
	return l
}

// copied returns a deep copy.
func copied(e api.Entry) api.Entry {
	e.Attrs = slices.Clone(e.Attrs)
	for i := range e.Attrs {
		e.Attrs[i].Values = slices.Clone(e.Attrs[i].Values)
	}
	return e
}

// same reports whether two entries are equal as they are.
func same(a, b api.Entry) bool {
	return a.Name == b.Name && slices.EqualFunc(a.Attrs, b.Attrs, func(x, y api.Attr) bool {
		return x.Name == y.Name && slices.Equal(x.Values, y.Values)
	})
}

// spoil changes all values of an entry.
func spoil(e api.Entry) {
	for _, a := range e.Attrs {
		for i := range a.Values {
			a.Values[i] = "spoilt"
		}
		_ = append(a.Values, "spoilt")
	}
	clear(e.Attrs)
}

// P8.1
func TestCheck(t *testing.T) {
	deep := strings.TrimSuffix(strings.Repeat("a=b,", api.MaxDepth), ",")
	var many []api.Attr
	for _, v := range numbered(api.MaxAttrs + 1) {
		many = append(many, attr(v, "a"))
	}
	for _, x := range []struct {
		e    api.Entry
		want api.Errno
	}{
		{of("cn=ann"), api.OK},
		{api.Entry{Name: "cn=ann", Attrs: []api.Attr{}}, api.OK},
		{of(`cn=lee\, ann,ou=staff`, attr("CN", "Lee, Ann", "Ann"), attr("mail", "m")), api.OK},
		{of(deep, attr("cn", numbered(api.MaxValues)...)), api.OK},
		{of("cn=ann", many[1:]...), api.OK},
		{of("cn=ann", attr("cn", "Ann", "ann")), api.OK},

		{of(""), api.ErrName},
		{of(" "), api.ErrName},
		{of("ann"), api.ErrName},
		{of("CN=ann"), api.ErrName},
		{of("cn=Ann"), api.ErrName},
		{of("cn=ann, ou=staff"), api.ErrName},
		{of("cn=ann "), api.ErrName},
		{of("cn=ann,"), api.ErrName},
		{of("cn=ann  lee"), api.ErrName},
		{of(deep + ",a=b"), api.ErrName},

		{of("cn=ann", many...), api.ErrLimit},
		{of("cn=ann", attr("1", "a")), api.ErrName},
		{of("cn=ann", attr("cn", "a"), attr("CN", "b")), api.ErrTwice},
		{of("cn=ann", attr("cn")), api.ErrNone},
		{of("cn=ann", attr("cn", numbered(api.MaxValues+1)...)), api.ErrLimit},
		{of("cn=ann", attr("cn", "a ")), api.ErrForm},
		{of("cn=ann", attr("cn", "a", "a")), api.ErrTwice},

		// The name comes first.
		{of("", attr("cn")), api.ErrName},
		{of("CN=ann", attr("cn", "")), api.ErrName},
		{of("cn", many...), api.ErrName},
		{of("cn=ann", attr("cn"), attr("cn", "")), api.ErrNone},
	} {
		before := copied(x.e)
		if bad := entry.Check(x.e); bad != x.want {
			t.Errorf("Check(%q) = %d, not %d", x.e, int(bad), int(x.want))
		}
		if !same(x.e, before) {
			t.Errorf("Check changed %q", before)
		}
	}
}

// P8.2
func TestNormal(t *testing.T) {
	class := attr("class", "person")
	for _, x := range []struct{ e, want api.Entry }{
		{of("CN=Ann", attr("class", "Robot")), of("cn=ann", attr("class", "robot"))},
		{of("cn = Ann  Lee , OU=Staff", attr("CN", "Ann  LEE", "Ann"), attr("CLASS", "PERSON")), of("cn=ann lee,ou=staff", class, attr("cn", "ann", "ann lee"))},
		{of("cn=a", attr("num", "7", "012"), attr("cn", "a"), class), of("cn=a", class, attr("cn", "a"), attr("num", "12", "7"))},
		{of("cn=a", class, attr("cn", "C", "b", "A"), attr("Age", "007")), of("cn=a", attr("age", "7"), class, attr("cn", "a", "b", "c"))},
		{of("cn=a", class, attr("cn", "x"), attr("code", "b", "B", "007", "07")), of("cn=a", class, attr("cn", "x"), attr("code", "007", "07", "B", "b"))},
		{of("cn=a", attr("boss", "O=Z", "CN = Ann, O=x"), class, attr("cn", "x")), of("cn=a", attr("boss", "cn=ann,o=x", "o=z"), class, attr("cn", "x"))},
		{of("cn=a", attr("cn", "x"), attr("ACTIVE", "true", "False"), attr("class", "person", "Robot")), of("cn=a", attr("active", "FALSE", "TRUE"), attr("class", "person", "robot"), attr("cn", "x"))},
		{of("cn=a", attr("class", "robot"), attr("num", "-007", "-0", "9223372036854775807")), of("cn=a", attr("class", "robot"), attr("num", "-7", "0", "9223372036854775807"))},
	} {
		before := copied(x.e)
		got, bad := entry.Normal(person(), x.e)
		if bad != api.OK || !same(got, x.want) {
			t.Errorf("Normal(%q) = %q, %d", x.e, got, int(bad))
		}
		spoil(got)
		if !same(x.e, before) {
			t.Errorf("Normal changed %q", before)
		}
	}
}

// P8.2: each error, and which of several is returned.
func TestNormalErrors(t *testing.T) {
	class, cn := attr("class", "person"), attr("cn", "ann")
	var many []api.Attr
	for _, v := range numbered(api.MaxAttrs + 1) {
		many = append(many, attr(v, "a"))
	}
	for _, x := range []struct {
		e    api.Entry
		want api.Errno
	}{
		// The name.
		{of("", class, cn), api.ErrName},
		{of(" ", class, cn), api.ErrName},
		{of("ann", class, cn), api.ErrName},
		{of("cn=", class, cn), api.ErrName},
		{of("1=a", class, cn), api.ErrName},
		{of("cn=a,", class, cn), api.ErrName},
		{of(strings.Repeat("a=b,", api.MaxDepth)+"a=b", class, cn), api.ErrName},
		{of("", attr("cn")), api.ErrName},
		{of("cn=a+b", many...), api.ErrName},

		// attrs.Check, in the order of the list.
		{of("cn=a", many...), api.ErrLimit},
		{of("cn=a", class, cn, attr("CN", "b")), api.ErrTwice},
		{of("cn=a", class, attr("cn")), api.ErrNone},
		{of("cn=a", class, attr("cn", "a ")), api.ErrForm},
		{of("cn=a", class, cn, attr("1", "a")), api.ErrName},
		{of("cn=a", attr("mail", "a"), attr("age", "x", "x")), api.ErrTwice},
		{of("cn=a", attr("num", "7", "07"), attr("age", "")), api.ErrForm},
		{of("cn=a", attr("num", ""), attr("1", "")), api.ErrForm},

		// The values, in the order of the names in lower case.
		{of("cn=a", class, cn, attr("mail", "a")), api.ErrNone},
		{of("cn=a", class, cn, attr("age", "x")), api.ErrType},
		{of("cn=a", class, cn, attr("num", "7", "8", "x")), api.ErrType},
		{of("cn=a", attr("mail", "a"), attr("age", "x")), api.ErrType},
		{of("cn=a", attr("mail", "a"), attr("AGE", "x")), api.ErrType},
		{of("cn=a", attr("num", "x"), attr("mail", "a")), api.ErrNone},
		{of("cn=a", attr("NUM", "x"), attr("mail", "a")), api.ErrNone},
		{of("cn=a", attr("num", "x"), attr("Mail", "a")), api.ErrNone},
		{of("cn=a", class, attr("cn", "Ann", "ann")), api.ErrTwice},
		{of("cn=a", class, attr("cn", "Ann", "bob", "ann")), api.ErrTwice},
		{of("cn=a", class, cn, attr("num", "7", "07")), api.ErrTwice},
		{of("cn=a", class, cn, attr("num", "0", "-0")), api.ErrTwice},
		{of("cn=a", class, cn, attr("boss", "o=x", "O = X")), api.ErrTwice},
		{of("cn=a", class, cn, attr("active", "true", "TRUE")), api.ErrTwice},
		{of("cn=a", attr("class", "Person", "person"), cn), api.ErrTwice},
		{of("cn=a", class, cn, attr("age", "7", "07")), api.ErrTwice},

		// Equal normal forms come before the next attribute, but after all values of their own.
		{of("cn=a", attr("num", "x"), attr("cn", "a", "A")), api.ErrTwice},
		{of("cn=a", attr("cn", "a", "A"), attr("active", "x")), api.ErrType},
		{of("cn=a", attr("num", "7", "07"), attr("mail", "a")), api.ErrNone},
		{of("cn=a", attr("mail", "a"), attr("cn", "a", "A")), api.ErrTwice},
		{of("cn=a", class, cn, attr("num", "7", "07", "x")), api.ErrType},

		// schema.Valid of the result.
		{of("cn=a"), api.ErrSchema},
		{of("cn=a", cn), api.ErrSchema},
		{of("cn=a", class), api.ErrSchema},
		{of("cn=a", attr("class", "staff")), api.ErrSchema},
		{of("cn=a", attr("class", "robot"), cn), api.ErrSchema},
		{of("cn=a", class, cn, attr("age", "7", "8")), api.ErrSchema},
		{of("cn=a", attr("age", "7", "8"), attr("cn", "a", "A")), api.ErrTwice},
		{of("cn=a", attr("age", "7", "8"), attr("mail", "a")), api.ErrNone},
		{of("cn=a", attr("class", "staff"), attr("num", "x")), api.ErrType},
	} {
		if got, bad := entry.Normal(person(), x.e); bad != x.want || !same(got, api.Entry{}) {
			t.Errorf("Normal(%q) = %q, %d, not %d", x.e, got, int(bad), int(x.want))
		}
	}
}

// P8.2: under a schema that Check does not accept no attribute has a type.
func TestNormalRejected(t *testing.T) {
	s := person()
	s.Classes = append(s.Classes, s.Classes[0])
	for _, x := range []struct {
		e    api.Entry
		want api.Errno
	}{
		{of("cn=a", attr("class", "robot")), api.ErrNone},
		{of("cn=a"), api.ErrSchema},
		{of("", attr("class", "robot")), api.ErrName},
	} {
		if got, bad := entry.Normal(s, x.e); bad != x.want || !same(got, api.Entry{}) {
			t.Errorf("Normal(%q) = %q, %d, not %d", x.e, got, int(bad), int(x.want))
		}
	}
}

// choices are the attributes of which small entries consist.
var choices = [][]api.Attr{
	{attr("class", "person"), attr("CLASS", "Robot"), attr("class", "robot", "Person"), attr("class", "staff")},
	{attr("cn", "Ann"), attr("CN", "bob", "ann"), attr("cn", "Ann", "ann"), attr("cn", " ")},
	{attr("num", "7", "012"), attr("NUM", "x"), attr("num", "7", "007"), attr("num", "1", "2", "3"), attr("num")},
	{attr("age", "08"), attr("mail", "m"), attr("active", "true", "false"), attr("boss", "O=X", "cn=y, o=x"), attr("code", "b", "a", "B")},
}

// small returns the entries that consist of choices, each also in reverse order.
func small() []api.Entry {
	lists := [][]api.Attr{nil}
	for _, l := range choices {
		var longer [][]api.Attr
		for _, a := range lists {
			longer = append(longer, a)
			for _, c := range l {
				longer = append(longer, append(slices.Clone(a), c))
			}
		}
		lists = longer
	}
	var all []api.Entry
	for i, l := range lists {
		dn := []string{"cn=a", "CN=B, o=x", `o=a\,b`}[i%3]
		all = append(all, copied(of(dn, l...)))
		slices.Reverse(l)
		all = append(all, copied(of(dn, l...)))
	}
	return all
}

// normal is the definition of P8.2.
func normal(s api.Schema, e api.Entry) (api.Entry, api.Errno) {
	dn, bad := name.Clean(e.Name)
	if bad != api.OK || dn == "" {
		return api.Entry{}, api.ErrName
	}
	if bad := attrs.Check(e.Attrs); bad != api.OK {
		return api.Entry{}, bad
	}
	l := slices.Clone(e.Attrs)
	slices.SortFunc(l, func(a, b api.Attr) int { return strings.Compare(strings.ToLower(a.Name), strings.ToLower(b.Name)) })
	for i, a := range l {
		l[i].Values = nil
		twice := false
		for _, v := range a.Values {
			n, bad := schema.Normal(s, a.Name, v)
			if bad != api.OK {
				return api.Entry{}, bad
			}
			twice = twice || slices.Contains(l[i].Values, n)
			l[i].Values = append(l[i].Values, n)
		}
		if twice {
			return api.Entry{}, api.ErrTwice
		}
	}
	if bad := schema.Valid(s, of(dn, l...)); bad != api.OK {
		return api.Entry{}, bad
	}
	return of(dn, attrs.Sorted(l)...), api.OK
}

// P8.2, P8.9: small entries, against the definition; what is normal stays.
func TestNormalDefinition(t *testing.T) {
	s := person()
	found := map[api.Errno]int{}
	for _, e := range small() {
		want, f := normal(s, e)
		got, bad := entry.Normal(s, e)
		if bad != f || !same(got, want) {
			t.Fatalf("Normal(%q) = %q, %d, not %q, %d", e, got, int(bad), want, int(f))
		}
		found[bad]++
		if bad != api.OK {
			continue
		}
		if bad := entry.Check(got); bad != api.OK {
			t.Fatalf("Check of the normal form of %q = %d", e, int(bad))
		}
		if bad := schema.Valid(s, got); bad != api.OK {
			t.Fatalf("Valid of the normal form of %q = %d", e, int(bad))
		}
		if again, bad := entry.Normal(s, got); bad != api.OK || !same(again, got) {
			t.Fatalf("Normal of the normal form of %q = %q, %d", e, again, int(bad))
		}
	}
	for _, e := range []api.Errno{api.OK, api.ErrNone, api.ErrForm, api.ErrType, api.ErrTwice, api.ErrSchema} {
		if found[e] == 0 {
			t.Errorf("no entry with the result %d", int(e))
		}
	}
}

// P8.5
func TestEqual(t *testing.T) {
	e := of("cn=ann", attr("CN", "b", "a"), attr("mail", "m"))
	for _, x := range []struct {
		a, b api.Entry
		want bool
	}{
		{api.Entry{}, api.Entry{}, true},
		{of("cn=ann"), api.Entry{Name: "cn=ann", Attrs: []api.Attr{}}, true},
		{of("cn=ann"), of("cn=ann", attr("cn")), true},
		{of("no name"), of("no name"), true},
		{e, e, true},
		{e, of("cn=ann", attr("Mail", "m"), attr("cn", "a", "b")), true},
		{e, of("cn=ann", attr("Mail", "m"), attr("cn", "a"), attr("cn", "b", "a")), true},

		{e, of("CN=ann", e.Attrs...), false},
		{e, of("cn=Ann", e.Attrs...), false},
		{e, of("cn=ann ", e.Attrs...), false},
		{e, of("cn=bob", e.Attrs...), false},
		{e, of("", e.Attrs...), false},
		{e, of("cn=ann"), false},
		{e, of("cn=ann", e.Attrs[0]), false},
		{e, of("cn=ann", attr("cn", "a"), attr("mail", "m")), false},
		{e, of("cn=ann", attr("cn", "A", "b"), attr("mail", "m")), false},
		{e, of("cn=ann", attr("cn", "a", "b"), attr("mail", "n")), false},
		{e, of("cn=ann", attr("cn", "a", "b"), attr("mai", "m")), false},
		{e, of("cn=ann", attr("cn", "a", "b"), attr("mail", "m"), attr("x", "y")), false},
	} {
		if got := entry.Equal(x.a, x.b); got != x.want {
			t.Errorf("Equal(%q, %q) = %v", x.a, x.b, got)
		}
		if got := entry.Equal(x.b, x.a); got != x.want {
			t.Errorf("Equal(%q, %q) = %v", x.b, x.a, got)
		}
	}
	all := small()
	for _, a := range all {
		for _, b := range all[:60] {
			if got := entry.Equal(a, b); got != (a.Name == b.Name && attrs.Equal(a.Attrs, b.Attrs)) {
				t.Fatalf("Equal(%q, %q) = %v", a, b, got)
			}
		}
	}
}
