package directory_test

import (
	"math"
	"slices"
	"strconv"
	"strings"
	"testing"

	"identity/api"
	"identity/csn"
	"identity/directory"
)

// maxSeq is the greatest Seq of a number.
const maxSeq = 1<<32 - 1

// P21.2: Add makes the records of the replica, for the normal form of the entry.
func TestAdd(t *testing.T) {
	d := empty(t, 2)
	e := api.Entry{Name: " UID = Ann  Lee, OU=x", Attrs: []api.Attr{attr("Mail", "b", "A"), attr("CLASS", "User"), attr("age", "007"), attr("uid", "Ann"), attr("boss", "uid=ANN lee, ou=x")}}
	want(t, "Add", d.Add(anyone(), e, 5), api.OK)
	if got, wanted := text(t, d, "uid=ann lee,ou=x"), "age:7 boss:uid=ann lee,ou=x class:user mail:A+b uid:ann"; got != wanted {
		t.Errorf("the entry %q, not %q", got, wanted)
	}
	if l := d.Since(nil); len(l) != 7 || l[0] != (api.Change{CSN: at(5, 0, 2), Op: api.CreateEntry, ID: csn.Format(at(5, 0, 2)), Name: "uid=ann lee,ou=x"}) {
		t.Errorf("the log %v", l)
	}
	// References to roots, to entries and to the entry itself.
	add(t, d, 6, unit("ou=a,ou=x", attr("owner", "OU=x", "ou=z", "uid=ann lee,ou=x", "ou=A,ou=x")), group("cn=g,ou=a,ou=x", "cn=g,ou=a,ou=x"))
	if got, wanted := names(d.Entries()), "ou=a,ou=x cn=g,ou=a,ou=x uid=ann lee,ou=x"; got != wanted || len(d.Broken()) != 0 {
		t.Errorf("entries %q, broken %v", got, d.Broken())
	}
	for now, wanted := range map[int]int{-1: 0, math.MinInt: 0, api.MaxTime: api.MaxTime, math.MaxInt: api.MaxTime} {
		d := empty(t, 0)
		add(t, d, now, unit("ou=a,ou=x"))
		if v := d.Vector(); len(v) != 1 || v[0].Time != wanted {
			t.Errorf("Add at %d: %v", now, v)
		}
	}
}

// P21.2: the errors of Add in their order, after which nothing has changed.
func TestAddErrors(t *testing.T) {
	rules := append(open(), api.Rule{Subject: "*", Target: "ou=shut,ou=x", Rights: []api.Right{api.AddRight}}, api.Rule{Subject: "*", Attrs: []string{"uid"}, Rights: []api.Right{api.AddRight}})
	d := directed(t, 0, rules, indexed()...)
	add(t, d, 1, unit("ou=a,ou=x"), user("uid=u,ou=a,ou=x"))
	receive(t, d, created(at(2, 0, 1), unit("ou=o,ou=n,ou=x"))...)
	before := taken(d)
	nowhere := attr("owner", "uid=e,ou=x")
	for _, x := range []struct {
		u    api.Subject
		e    api.Entry
		want api.Errno
	}{
		{nobody(), api.Entry{}, api.ErrName},
		{nobody(), unit("ou=b,ou="), api.ErrName},
		{nobody(), unit("x"), api.ErrName},
		{nobody(), unit(strings.Repeat("ou=b,", api.MaxDepth) + "ou=x"), api.ErrName},
		{nobody(), api.Entry{Name: "ou=b,ou=x"}, api.ErrDenied},
		{nobody(), unit("ou=a,ou=x"), api.ErrDenied},
		{nobody(), unit("ou=b,ou=x"), api.ErrDenied},
		{anyone(), unit("OU=Shut,ou=x", nowhere), api.ErrDenied},
		{anyone(), api.Entry{Name: "ou=b, ou=shut,ou=x"}, api.ErrDenied},
		{anyone(), api.Entry{Name: "ou=a,ou=x"}, api.ErrSchema},
		{anyone(), api.Entry{Name: "ou=b,ou=n", Attrs: []api.Attr{attr("class", "group"), nowhere}}, api.ErrSchema},
		{anyone(), unit("ou=b,ou=n", attr("OWNER", "x")), api.ErrType},
		{anyone(), unit("ou=b,ou=n", attr("phone", "1"), nowhere), api.ErrNone},
		{anyone(), unit("ou=b,ou=n", attr("owner", "ou=x", "OU=x"), nowhere), api.ErrTwice},
		{anyone(), unit("ou=a,ou=x", nowhere), api.ErrRef},
		{anyone(), unit("ou=b,ou=n", nowhere), api.ErrRef},
		{anyone(), group("ou=b,ou=x", "ou=x", "uid=u,ou=x"), api.ErrRef},
		{anyone(), group("ou=b,ou=x", "ou=n,ou=x"), api.ErrRef},
		{anyone(), group("ou=b,ou=x", "ou=o,ou=n,ou=x"), api.ErrRef},
		{anyone(), group("ou=b,ou=x", "ou=b"), api.ErrRef},
		{anyone(), unit("ou=X"), api.ErrTwice},
		{anyone(), unit("OU=a,ou=x"), api.ErrTwice},
		{anyone(), unit("ou=o,ou=n,ou=x"), api.ErrTwice},
		{anyone(), unit("ou=b"), api.ErrNone},
		{anyone(), unit("ou=b,ou=n"), api.ErrNone},
		{anyone(), unit("ou=b,ou=o,ou=n,ou=x"), api.ErrNone},
		{anyone(), group("ou=b,ou=n", "OU=b, ou=n"), api.ErrNone},
	} {
		want(t, "Add of "+x.e.Name, d.Add(x.u, x.e, 9), x.want)
	}
	wantUnchanged(t, "errors", d, before)
}

// P21.2: the limits of the replica, and that of the tree.
func TestAddLimits(t *testing.T) {
	d := empty(t, 0)
	receive(t, d, crowd(api.MaxEntries-2)...)
	add(t, d, 1, unit("ou=l,ou=z"))
	// With its roots the tree has MaxEntries + 1 entries, so that the last one is missing.
	want(t, "Add with a reference to a missing one", d.Add(anyone(), unit("ou=a,ou=x", attr("owner", "ou=l,ou=z")), 2), api.ErrRef)
	want(t, "Add of a name that a missing one has", d.Add(anyone(), unit("ou=l,ou=z"), 2), api.ErrTwice)
	add(t, d, 2, unit("ou=m,ou=z", attr("owner", "ou=m,ou=z")))
	want(t, "Add of one more", d.Add(anyone(), unit("ou=a,ou=x"), 3), api.ErrLimit)
	want(t, "Add of one more with an error", d.Add(anyone(), unit("ou=a,ou=n"), 3), api.ErrNone)
	if n := len(d.Entries()); n != api.MaxEntries || text(t, d, "ou=m,ou=z") != "class:unit owner:ou=m,ou=z" {
		t.Errorf("%d entries", n)
	}
	d = empty(t, 0)
	receive(t, d, puts(api.MaxChanges-1)...)
	before := taken(d)
	want(t, "Add with a full log", d.Add(anyone(), unit("ou=a,ou=x"), 3), api.ErrLimit)
	wantUnchanged(t, "a full log", d, before)
}

// crowd returns the records of n units below ou=x, by replica 7.
func crowd(n int) []api.Change {
	var l []api.Change
	for i := range n {
		l = append(l, created(at(0, 2*i+1, 7), unit("ou="+csn.Format(at(i, 0, 0))+",ou=x"))...)
	}
	return l
}

// P21.3: Modify makes the records of the replica.
func TestModify(t *testing.T) {
	d := empty(t, 1)
	add(t, d, 1, user("uid=a,ou=x", attr("mail", "m")), user("uid=b,ou=x"), group("cn=g,ou=x", "uid=a,ou=x"))
	n := len(d.Since(nil))
	want(t, "Modify", d.Modify(anyone(), "UID=A,ou=x", []api.Mod{mod(api.AddValues, "Mail", "n"), mod(api.ReplaceValues, "boss", "UID=b,ou=x"), mod(api.AddValues, "owner", "ou=Z", "uid=a, ou=x")}, 7), api.OK)
	if got, wanted := text(t, d, "uid=a,ou=x"), "boss:uid=b,ou=x class:user mail:m+n owner:ou=z+uid=a,ou=x uid:a"; got != wanted {
		t.Errorf("the entry %q, not %q", got, wanted)
	}
	if l := d.Since(nil)[n:]; len(l) != 4 || l[0].CSN != at(7, 0, 1) || l[3].CSN != at(7, 3, 1) {
		t.Errorf("the records %v", l)
	}
	want(t, "Modify with a later member", d.Modify(anyone(), "cn=g,ou=x", []api.Mod{mod(api.AddValues, "member", "uid=b,ou=x"), mod(api.DeleteValues, "member", "UID=a,ou=x")}, 8), api.OK)
	want(t, "Modify by a reference that is removed again", d.Modify(anyone(), "cn=g,ou=x", []api.Mod{mod(api.AddValues, "member", "uid=c,ou=x"), mod(api.DeleteValues, "member", "UID=c,ou=x")}, 8), api.OK)
	want(t, "Modify without modifications", d.Modify(anyone(), "cn=g,ou=x", nil, 8), api.OK)
	if got, wanted := text(t, d, "cn=g,ou=x"), "class:group member:uid=b,ou=x"; got != wanted || len(d.Since(nil)) != n+6 {
		t.Errorf("the entry %q, not %q", got, wanted)
	}
	// A reference of the entry to itself, of which the tree is too full to have it.
	d = empty(t, 0)
	receive(t, d, crowd(api.MaxEntries)...)
	receive(t, d, created(at(0, 0, 6), unit("ou=l,ou=z"))...)
	want(t, "Modify of a missing entry", d.Modify(anyone(), "ou=l,ou=z", []api.Mod{mod(api.AddValues, "owner", "ou=l,ou=z")}, 3), api.OK)
}

// P21.3: the errors of Modify in their order, after which nothing has changed.
func TestModifyErrors(t *testing.T) {
	rules := append(open(), api.Rule{Subject: "*", Target: "uid=a,ou=x", Attrs: []string{"class", "phone"}, Rights: []api.Right{api.WriteRight}}, api.Rule{Allow: true, Subject: "user:uid=nobody,ou=x", Target: "uid=b,ou=x", Attrs: []string{"mail"}, Rights: []api.Right{api.WriteRight}})
	d := directed(t, 0, rules, indexed()...)
	add(t, d, 1, user("uid=a,ou=x", attr("mail", "m")), user("uid=b,ou=x"), group("cn=g,ou=x", "uid=a,ou=x"))
	receive(t, d, created(at(2, 0, 1), group("cn=h,ou=x", "uid=c,ou=x", "uid=a,ou=x"))...)
	receive(t, d, created(at(2, 9, 1), unit("ou=o,ou=n,ou=x"))...)
	receive(t, d, created(at(2, 19, 1), user("uid=i,ou=x", attr("boss", "uid=a,ou=x", "ou=x")))...)
	before := taken(d)
	for _, x := range []struct {
		u    api.Subject
		name string
		l    []api.Mod
		want api.Errno
	}{
		{nobody(), "x", []api.Mod{{}}, api.ErrName},
		{nobody(), "uid=a,", []api.Mod{{}}, api.ErrName},
		{nobody(), "", []api.Mod{{}}, api.ErrNone},
		{nobody(), "ou=x", []api.Mod{{}}, api.ErrNone},
		{nobody(), "uid=c,ou=x", []api.Mod{{}}, api.ErrNone},
		{nobody(), "ou=o,ou=n,ou=x", []api.Mod{{}}, api.ErrNone},
		{nobody(), "uid=a,ou=x", []api.Mod{{}}, api.ErrDenied},
		{nobody(), "uid=b,ou=x", []api.Mod{mod(api.AddValues, "mail", "m"), mod(api.AddValues, "uid", "m")}, api.ErrDenied},
		{nobody(), "uid=b,ou=x", []api.Mod{mod(9, "Mail", "m")}, api.ErrArg},
		{anyone(), "UID=a,ou=x", []api.Mod{mod(api.AddValues, "mail", "n"), mod(9, "CLASS")}, api.ErrDenied},
		{anyone(), "uid=a,ou=x", []api.Mod{mod(api.AddValues, "phone", "1")}, api.ErrDenied},
		{anyone(), "uid=a,ou=x", []api.Mod{mod(9, "mail")}, api.ErrArg},
		{anyone(), "uid=b,ou=x", []api.Mod{mod(api.AddValues, "phone", "1")}, api.ErrNone},
		{anyone(), "uid=b,ou=x", []api.Mod{mod(api.AddValues, "boss", "uid=c,ou=x"), mod(api.DeleteValues, "uid")}, api.ErrSchema},
		{nobody(), "uid=b,ou=x", make([]api.Mod, api.MaxMods+1), api.ErrDenied},
		{anyone(), "uid=b,ou=x", make([]api.Mod, api.MaxMods+1), api.ErrLimit},
		{anyone(), "uid=b,ou=x", slices.Repeat([]api.Mod{mod(9, "mail")}, api.MaxMods+1), api.ErrLimit},
		{anyone(), "uid=a,ou=x", []api.Mod{mod(api.AddValues, "mail", "m")}, api.ErrTwice},
		{anyone(), "uid=i,ou=x", []api.Mod{mod(api.AddValues, "owner", "uid=c,ou=x")}, api.ErrArg},
		{anyone(), "cn=g,ou=x", []api.Mod{mod(api.AddValues, "member", "cn=x")}, api.ErrRef},
		{anyone(), "cn=g,ou=x", []api.Mod{mod(api.AddValues, "member", "ou=o,ou=n,ou=x")}, api.ErrRef},
		{anyone(), "uid=b,ou=x", []api.Mod{mod(api.AddValues, "boss", "UID=c,ou=x")}, api.ErrRef},
		{anyone(), "cn=h,ou=x", []api.Mod{mod(api.AddValues, "owner", "ou=x")}, api.ErrRef},
		{anyone(), "cn=h,ou=x", nil, api.ErrRef},
	} {
		want(t, "Modify of "+x.name, d.Modify(x.u, x.name, x.l, 9), x.want)
	}
	wantUnchanged(t, "errors", d, before)
	want(t, "Modify that removes the broken reference", d.Modify(anyone(), "cn=h,ou=x", []api.Mod{mod(api.DeleteValues, "member", "uid=c,ou=x")}, 9), api.OK)
	want(t, "Modify of an attribute that may be written", d.Modify(nobody(), "uid=b,ou=x", []api.Mod{mod(api.AddValues, "MAIL", "m")}, 9), api.OK)
	receive(t, d, puts(api.MaxChanges-len(d.Since(nil)))...)
	want(t, "Modify with a full log", d.Modify(anyone(), "uid=b,ou=x", []api.Mod{mod(api.AddValues, "mail", "n")}, 9), api.ErrLimit)
	want(t, "Modify without records", d.Modify(anyone(), "uid=b,ou=x", []api.Mod{mod(api.ReplaceValues, "mail", "m")}, 9), api.OK)
	want(t, "Modify with a reference and a full log", d.Modify(anyone(), "uid=b,ou=x", []api.Mod{mod(api.AddValues, "boss", "uid=c,ou=x")}, 9), api.ErrRef)
}

// P21.4: Delete removes the references to an entry in the order of the
// referrers, and then the entry.
func TestDelete(t *testing.T) {
	d := empty(t, 3)
	add(t, d, 1, user("uid=a,ou=x", attr("boss", "uid=a,ou=x")), user("uid=b,ou=x", attr("boss", "UID=a,ou=x"), attr("owner", "uid=a,ou=x", "ou=z")),
		group("cn=g,ou=x", "uid=a,ou=x", "uid=b,ou=x"), unit("ou=u,ou=z", attr("owner", "uid=a,ou=x")), unit("ou=v,ou=z", attr("owner", "uid=b,ou=x")))
	n := len(d.Since(nil))
	want(t, "Delete", d.Delete(anyone(), "UID=A, ou=x", 7), api.OK)
	var got []string
	for i, c := range d.Since(nil)[n:] {
		if c.CSN != at(7, i, 3) {
			t.Errorf("record %d: %v", i, c)
		}
		got = append(got, c.Attr+" "+c.Value+" "+[]string{"", "create", "remove", "rename", "put", "drop"}[c.Op])
	}
	wanted := []string{"member uid=a,ou=x drop", "boss uid=a,ou=x drop", "owner uid=a,ou=x drop", "owner uid=a,ou=x drop", "  remove"}
	if !slices.Equal(got, wanted) {
		t.Errorf("the records %q", got)
	}
	for s, wanted := range map[string]string{"uid=a,ou=x": "none", "uid=b,ou=x": "class:user owner:ou=z uid:a", "cn=g,ou=x": "class:group member:uid=b,ou=x", "ou=u,ou=z": "class:unit", "ou=v,ou=z": "class:unit owner:uid=b,ou=x"} {
		if got := text(t, d, s); got != wanted {
			t.Errorf("%s: %q, not %q", s, got, wanted)
		}
	}
	want(t, "Delete of an entry to which only itself refers", d.Delete(anyone(), "cn=g,ou=x", 8), api.OK)
	add(t, d, 9, group("cn=s,ou=x", "cn=s,ou=x"))
	want(t, "Delete of an entry that needs the reference to itself", d.Delete(anyone(), "cn=s,ou=x", 9), api.OK)
	if names(d.Entries()) != "uid=b,ou=x ou=u,ou=z ou=v,ou=z" || len(d.Broken()) != 0 {
		t.Errorf("entries %q", names(d.Entries()))
	}
}

// P21.4: the errors of Delete in their order, after which nothing has changed.
func TestDeleteErrors(t *testing.T) {
	rules := append(open(), api.Rule{Subject: "*", Target: "ou=shut,ou=x", Rights: []api.Right{api.DeleteRight}}, api.Rule{Subject: "*", Attrs: []string{"class"}, Rights: []api.Right{api.DeleteRight}})
	d := directed(t, 0, rules, indexed()...)
	add(t, d, 1, unit("ou=a,ou=x"), user("uid=u,ou=a,ou=x"), unit("ou=shut,ou=x"), unit("ou=b,ou=shut,ou=x"), user("uid=v,ou=x"),
		group("cn=g,ou=x", "uid=v,ou=x"), group("cn=h,ou=x", "ou=a,ou=x", "uid=v,ou=x"), group("cn=k,ou=x", "ou=a,ou=x"), group("cn=l,ou=x", "cn=g,ou=x", "ou=x"))
	receive(t, d, created(at(2, 0, 1), unit("ou=o,ou=n,ou=x"))...)
	// A referrer that is not valid.
	receive(t, d, created(at(2, 9, 1), user("uid=i,ou=x", attr("boss", "cn=k,ou=x", "ou=x")))...)
	before := taken(d)
	for _, x := range []struct {
		u    api.Subject
		name string
		want api.Errno
	}{
		{nobody(), "x", api.ErrName},
		{nobody(), "ou=,ou=x", api.ErrName},
		{nobody(), "", api.ErrNone},
		{nobody(), "ou=x", api.ErrNone},
		{nobody(), "uid=c,ou=x", api.ErrNone},
		{nobody(), "ou=o,ou=n,ou=x", api.ErrNone},
		{nobody(), "ou=a,ou=x", api.ErrDenied},
		{nobody(), "uid=v,ou=x", api.ErrDenied},
		{anyone(), "OU=shut,ou=x", api.ErrDenied},
		{anyone(), "ou=b,ou=shut,ou=x", api.ErrDenied},
		{anyone(), "ou=a,ou=x", api.ErrState},
		{anyone(), "uid=v,ou=x", api.ErrRef},
		{anyone(), "CN=k,ou=x", api.ErrRef},
	} {
		want(t, "Delete of "+x.name, d.Delete(x.u, x.name, 9), x.want)
	}
	wantUnchanged(t, "errors", d, before)
	// ErrRef of a later referrer comes before the error of the replica.
	receive(t, d, puts(api.MaxChanges-len(d.Since(nil)))...)
	want(t, "Delete with a full log, and a member that is needed", d.Delete(anyone(), "uid=v,ou=x", 9), api.ErrRef)
	want(t, "Delete with a full log", d.Delete(anyone(), "cn=g,ou=x", 9), api.ErrLimit)
	want(t, "Delete with a full log, and children", d.Delete(anyone(), "ou=a,ou=x", 9), api.ErrState)
}

// P21.4: an entry with a child that is missing in the tree.
func TestDeleteMissing(t *testing.T) {
	d := empty(t, 0)
	receive(t, d, crowd(api.MaxEntries-4)...)
	receive(t, d, created(at(1, 0, 1), group("cn=g,ou=a,ou=x", "ou=m,ou=z", "ou=z"))...)
	receive(t, d, created(at(1, 9, 1), unit("ou=a,ou=x"))...)
	receive(t, d, created(at(2, 0, 1), unit("ou=m,ou=z"))...)
	receive(t, d, created(at(3, 0, 1), unit("ou=c,ou=m,ou=z", attr("owner", "ou=m,ou=z", "cn=g,ou=a,ou=x")))...)
	if l := d.Broken(); len(l) != 1 || l[0] != (api.Pair{Key: "cn=g,ou=a,ou=x", Value: "ou=m,ou=z"}) {
		t.Fatalf("Broken = %v", l)
	}
	before := taken(d)
	want(t, "Delete of a parent", d.Delete(anyone(), "ou=m,ou=z", 4), api.ErrState)
	wantUnchanged(t, "a parent", d, before)
	want(t, "Delete of a child", d.Delete(anyone(), "ou=c,ou=m,ou=z", 4), api.OK)
	want(t, "Delete after that", d.Delete(anyone(), "ou=m,ou=z", 4), api.OK)
	if text(t, d, "cn=g,ou=a,ou=x") != "class:group member:ou=z" || len(d.Broken()) != 0 {
		t.Errorf("broken: %v", d.Broken())
	}
}

// P21.5: Rename lets all references follow, in the order of the referrers.
func TestRename(t *testing.T) {
	d := empty(t, 3)
	add(t, d, 1, unit("ou=u,ou=z"), user("uid=a,ou=x", attr("boss", "uid=a,ou=x")), user("uid=b,ou=x", attr("boss", "UID=a,ou=x"), attr("owner", "uid=a,ou=x", "ou=z")),
		group("cn=g,ou=x", "uid=a,ou=x", "uid=b,ou=x"), unit("ou=v,ou=z", attr("owner", "uid=b,ou=x")))
	n := len(d.Since(nil))
	want(t, "Rename", d.Rename(anyone(), "UID=A, ou=x", "UID=C,ou=u, ou=z", 7), api.OK)
	var got []string
	for i, c := range d.Since(nil)[n:] {
		if c.CSN != at(7, i, 3) {
			t.Errorf("record %d: %v", i, c)
		}
		got = append(got, c.Name+c.Attr+" "+c.Value+" "+[]string{"", "create", "remove", "rename", "put", "drop"}[c.Op])
	}
	from, to := " uid=a,ou=x drop", " uid=c,ou=u,ou=z put"
	wanted := []string{"uid=c,ou=u,ou=z  rename", "member" + from, "member" + to, "boss" + from, "owner" + from, "boss" + to, "owner" + to, "boss" + from, "boss" + to}
	if !slices.Equal(got, wanted) {
		t.Errorf("the records %q", got)
	}
	for s, wanted := range map[string]string{"uid=a,ou=x": "none", "uid=c,ou=u,ou=z": "boss:uid=c,ou=u,ou=z class:user uid:a", "uid=b,ou=x": "boss:uid=c,ou=u,ou=z class:user owner:ou=z+uid=c,ou=u,ou=z uid:a", "cn=g,ou=x": "class:group member:uid=b,ou=x+uid=c,ou=u,ou=z", "ou=v,ou=z": "class:unit owner:uid=b,ou=x"} {
		if got := text(t, d, s); got != wanted {
			t.Errorf("%s: %q, not %q", s, got, wanted)
		}
	}
	if len(d.Broken()) != 0 {
		t.Errorf("broken: %v", d.Broken())
	}
	before := taken(d)
	want(t, "Rename to the same name", d.Rename(anyone(), "cn=g,ou=x", "CN = G, ou=x", 8), api.OK)
	want(t, "Rename of a parent to the same name", d.Rename(anyone(), "ou=u,ou=z", "ou=U,ou=z", 8), api.OK)
	wantUnchanged(t, "the same name", d, before)
	want(t, "Rename of a group", d.Rename(anyone(), "cn=g,ou=x", "cn=g,ou=u,ou=z", 8), api.OK)
	if u := d.Subject("uid=b,ou=x"); !slices.Equal(u.Groups, []string{"cn=g,ou=u,ou=z"}) {
		t.Errorf("Subject = %v", u)
	}
}

// P21.5: the errors of Rename in their order, after which nothing has changed.
func TestRenameErrors(t *testing.T) {
	rules := append(open(), api.Rule{Subject: "*", Target: "ou=stay,ou=x", Rights: []api.Right{api.DeleteRight}}, api.Rule{Subject: "*", Target: "ou=shut,ou=x", Rights: []api.Right{api.AddRight}})
	d := directed(t, 0, rules, indexed()...)
	add(t, d, 1, unit("ou=a,ou=x"), user("uid=u,ou=a,ou=x"), unit("ou=stay,ou=x"), user("uid=v,ou=x"), user("uid=w,ou=x"), group("cn=g,ou=x", "uid=v,ou=x", "uid=w,ou=x"))
	receive(t, d, created(at(2, 0, 1), unit("ou=o,ou=n,ou=x"))...)
	// A referrer that is not valid.
	receive(t, d, created(at(2, 9, 1), user("uid=i,ou=x", attr("boss", "uid=w,ou=x", "ou=x")))...)
	before := taken(d)
	for _, x := range []struct {
		u        api.Subject
		from, to string
		want     api.Errno
	}{
		{nobody(), "x", "x", api.ErrName},
		{nobody(), "uid=c,ou=x", "x", api.ErrName},
		{nobody(), "", "uid=c,ou=x", api.ErrName},
		{nobody(), "uid=c,ou=x", "", api.ErrName},
		{nobody(), "ou=x", "x", api.ErrName},
		{nobody(), "ou=x", "ou=y", api.ErrNone},
		{nobody(), "ou=x", "ou=x", api.ErrNone},
		{nobody(), "uid=c,ou=x", "uid=v,ou=x", api.ErrNone},
		{nobody(), "ou=o,ou=n,ou=x", "uid=v,ou=x", api.ErrNone},
		{nobody(), "uid=v,ou=x", "uid=v,ou=x", api.ErrDenied},
		{nobody(), "ou=a,ou=x", "uid=v,ou=x", api.ErrDenied},
		{anyone(), "OU=stay,ou=x", "OU=stay,ou=x", api.ErrDenied},
		{anyone(), "ou=stay,ou=x", "ou=t,ou=x", api.ErrDenied},
		{anyone(), "ou=a,ou=x", "OU=Shut,ou=x", api.ErrDenied},
		{anyone(), "uid=v,ou=x", "uid=v,ou=shut,ou=x", api.ErrDenied},
		{anyone(), "ou=a,ou=x", "ou=a,ou=x", api.OK},
		{anyone(), "ou=a,ou=x", "uid=v,ou=x", api.ErrState},
		{anyone(), "uid=v,ou=x", "ou=X", api.ErrTwice},
		{anyone(), "uid=v,ou=x", "ou=o,ou=n,ou=x", api.ErrTwice},
		{anyone(), "uid=w,ou=x", "uid=v,ou=x", api.ErrTwice},
		{anyone(), "uid=w,ou=x", "uid=v,uid=w,ou=x", api.ErrCycle},
		{anyone(), "uid=w,ou=x", "uid=w,ou=n", api.ErrNone},
		{anyone(), "uid=w,ou=x", "uid=w,ou=o,ou=n,ou=x", api.ErrNone},
		{anyone(), "uid=w,ou=x", "uid=W,ou=z", api.ErrRef},
	} {
		want(t, "Rename of "+x.from+" to "+x.to, d.Rename(x.u, x.from, x.to, 9), x.want)
	}
	wantUnchanged(t, "errors", d, before)
	want(t, "Rename of one to which a valid entry refers", d.Rename(anyone(), "uid=v,ou=x", "uid=v,ou=z", 9), api.OK)
}

// P21.5: a name that is longer than a value cannot be a reference.
func TestRenameLong(t *testing.T) {
	d := empty(t, 0)
	deep := "ou=" + strings.Repeat("d", 200) + ",ou=x"
	long := "uid=" + strings.Repeat("u", 100) + "," + deep
	fits := "uid=" + strings.Repeat("u", api.MaxValue-len("uid=,"+deep)) + "," + deep
	add(t, d, 1, unit(deep), user("uid=a,ou=x"), unit("ou=b,ou=x", attr("owner", "uid=a,ou=x", "ou=x")), user("uid=c,ou=x"), user("uid=s,ou=x", attr("boss", "uid=s,ou=x")))
	before := taken(d)
	want(t, "Rename to a long name", d.Rename(anyone(), "uid=a,ou=x", long, 2), api.ErrRef)
	want(t, "Rename of an entry that refers to itself to a long name", d.Rename(anyone(), "uid=s,ou=x", long, 2), api.ErrRef)
	want(t, "Rename to a name that is too long by a byte", d.Rename(anyone(), "uid=a,ou=x", strings.Replace(fits, "uid=u", "uid=uu", 1), 2), api.ErrRef)
	wantUnchanged(t, "long names", d, before)
	want(t, "Rename of an entry without referrers", d.Rename(anyone(), "uid=c,ou=x", long, 2), api.OK)
	want(t, "Rename to the longest name", d.Rename(anyone(), "uid=a,ou=x", fits, 3), api.OK)
	if got := text(t, d, "ou=b,ou=x"); got != "class:unit owner:ou=x+"+fits {
		t.Errorf("the entry %q", got)
	}
}

// P21.5: the references of entries that belong to the view only after the rename.
func TestRenameAdopts(t *testing.T) {
	d := empty(t, 0)
	add(t, d, 1, unit("ou=a,ou=x"), user("uid=u,ou=x"))
	receive(t, d, created(at(2, 0, 1), unit("ou=c,ou=b,ou=x", attr("owner", "ou=a,ou=x", "ou=z")))...)
	receive(t, d, created(at(2, 9, 1), user("uid=i,ou=b,ou=x", attr("boss", "uid=u,ou=x", "ou=x")))...)
	before := taken(d)
	want(t, "Rename that lets an invalid referrer appear", d.Rename(anyone(), "uid=u,ou=x", "ou=b,ou=x", 3), api.ErrRef)
	wantUnchanged(t, "an invalid referrer", d, before)
	want(t, "Rename that lets a referrer appear", d.Rename(anyone(), "ou=a,ou=x", "ou=b,ou=x", 3), api.OK)
	if got := text(t, d, "ou=c,ou=b,ou=x"); got != "class:unit owner:ou=b,ou=x+ou=z" {
		t.Errorf("the entry %q", got)
	}
}

// P21.5: references below the old name follow, too, in an entry that refers to it.
func TestRenameBelow(t *testing.T) {
	d := empty(t, 0)
	add(t, d, 1, unit("ou=a,ou=x"))
	receive(t, d, created(at(2, 0, 1), unit("ou=r,ou=x", attr("owner", "ou=a,ou=x", "ou=c,ou=a,ou=x")))...)
	receive(t, d, created(at(2, 9, 1), unit("ou=s,ou=x", attr("owner", "ou=c,ou=a,ou=x")))...)
	want(t, "Rename", d.Rename(anyone(), "ou=a,ou=x", "ou=b,ou=x", 3), api.OK)
	if r, s := text(t, d, "ou=r,ou=x"), text(t, d, "ou=s,ou=x"); r != "class:unit owner:ou=b,ou=x+ou=c,ou=b,ou=x" || s != "class:unit owner:ou=c,ou=a,ou=x" {
		t.Errorf("the entries %q, %q", r, s)
	}
}

// family returns a directory with uid=a,ou=x, to which n entries refer twice.
func family(t *testing.T, n int) *directory.Directory {
	t.Helper()
	d := empty(t, 0)
	add(t, d, 1, user("uid=a,ou=x"))
	for i := range n {
		e := group("cn=g"+strconv.Itoa(i)+",ou=x", "uid=a,ou=x", "ou=x")
		e.Attrs = append(e.Attrs, attr("owner", "uid=a,ou=x"))
		add(t, d, 1, e)
	}
	return d
}

// P21.4, P21.5: with an error of the replica nothing has changed, wherever it comes.
func TestTogether(t *testing.T) {
	remove := func(d *directory.Directory) api.Errno { return d.Delete(anyone(), "uid=a,ou=x", 9) }
	rename := func(d *directory.Directory) api.Errno { return d.Rename(anyone(), "uid=a,ou=x", "uid=b,ou=x", 9) }
	for _, x := range []struct {
		what    string
		operate func(d *directory.Directory) api.Errno
		records int
	}{{"Delete", remove, 7}, {"Rename", rename, 13}} {
		for left := range x.records + 1 {
			// Only so many records fit the log, or have numbers.
			short, late := family(t, 3), family(t, 3)
			receive(t, short, puts(api.MaxChanges-left-len(short.Since(nil)))...)
			receive(t, late, api.Change{CSN: at(api.MaxTime, maxSeq-left, 7), Op: api.RemoveEntry, ID: csn.Format(at(3, 3, 3))})
			for i, d := range []*directory.Directory{short, late} {
				before := taken(d)
				wanted := []api.Errno{api.ErrLimit, api.ErrRange}[i]
				if left == x.records {
					wanted = api.OK
				}
				want(t, x.what, x.operate(d), wanted)
				if wanted != api.OK {
					wantUnchanged(t, x.what, d, before)
				}
				wantOwn(t, d, api.ErrState)
			}
		}
	}
}

// wantOwn compares the error of the receipt of a record with the number of the
// directory itself, which a fresh one accepts.
func wantOwn(t *testing.T, d *directory.Directory, wanted api.Errno) {
	t.Helper()
	own := api.Change{CSN: at(0, 0, 0), Op: api.RemoveEntry, ID: csn.Format(at(3, 3, 3))}
	want(t, "Receive of an own record", d.Receive([]api.Change{own}), wanted)
}

// P21.4, P21.5, P21.9: a directory that is restored from its records is fresh
// until an operation makes one.
func TestFresh(t *testing.T) {
	records := family(t, 1).Since(nil)
	for i, operate := range []func(d *directory.Directory) api.Errno{
		func(d *directory.Directory) api.Errno {
			return d.Modify(anyone(), "uid=a,ou=x", []api.Mod{mod(api.AddValues, "mail", "m")}, 9)
		},
		func(d *directory.Directory) api.Errno { return d.Delete(anyone(), "uid=a,ou=x", 9) },
		func(d *directory.Directory) api.Errno { return d.Rename(anyone(), "uid=a,ou=x", "uid=b,ou=x", 9) },
		func(d *directory.Directory) api.Errno { return d.Add(anyone(), unit("ou=b,ou=x"), 9) },
	} {
		d := empty(t, 0)
		receive(t, d, records...)
		want(t, "an operation", operate(d), api.OK)
		wantOwn(t, d, api.ErrState)
		// Neither an error nor an operation without records changes this.
		d = empty(t, 0)
		receive(t, d, records...)
		receive(t, d, puts(api.MaxChanges-1-len(records))...)
		want(t, "Modify without records", d.Modify(anyone(), "uid=a,ou=x", nil, 9), api.OK)
		want(t, "Rename to the same name", d.Rename(anyone(), "uid=a,ou=x", "uid=a,ou=x", 9), api.OK)
		if i > 0 {
			want(t, "an operation with a full log", operate(d), api.ErrLimit)
		}
		wantOwn(t, d, api.OK)
	}
	d := empty(t, 0)
	receive(t, d, records...)
	receive(t, d, created(at(5, 0, 1), user("uid=i,ou=x", attr("boss", "uid=a,ou=x", "ou=x")))...)
	want(t, "Delete", d.Delete(anyone(), "uid=a,ou=x", 9), api.ErrRef)
	want(t, "Rename", d.Rename(anyone(), "uid=a,ou=x", "uid=b,ou=x", 9), api.ErrRef)
	wantOwn(t, d, api.OK)
}
