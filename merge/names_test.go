package merge_test

import (
	"slices"
	"strings"
	"testing"

	"identity/api"
	"identity/merge"
)

// P17.2, P17.3: the examples of the chapter.
func TestExamples(t *testing.T) {
	both(t, []api.Change{create(1, 0xb, "cn=x,o=acme"), create(2, 0xa, "cn=x,o=acme")}, func(s *merge.State) {
		wantEntry(t, s, 0xa, "cn=x,o=acme")
		wantEntry(t, s, 0xb, "cn=x#0000000000b-00000000-0,o=acme")
		wantIDs(t, "Conflicts", s.Conflicts(), 0xb)
	})
	both(t, []api.Change{create(1, 1, "cn=x,o=acme"), put(5, 1, "mail", "x"), drop(4, 1, "mail", "x")}, func(s *merge.State) {
		wantEntry(t, s, 1, "cn=x,o=acme", api.Attr{Name: "mail", Values: []string{"x"}})
	})
	both(t, []api.Change{create(1, 1, "cn=y,ou=s,o=acme"), create(2, 2, "cn=z,o=acme")}, func(s *merge.State) {
		wantIDs(t, "Orphans", s.Orphans(), 1)
		s.Apply(create(3, 3, "ou=s,o=acme"))
		wantIDs(t, "Orphans", s.Orphans())
	})
}

// P17.2: an entry is live if it was created, and never removed.
func TestLive(t *testing.T) {
	l := []api.Change{
		create(3, 3, "cn=c,o=a"),
		create(1, 1, "cn=a,o=a"),
		rename(4, 2, "cn=b,o=a"), put(5, 2, "cn", "b"), drop(6, 2, "cn", "c"),
		create(7, 4, "cn=d,o=a"), remove(2, 4),
		create(8, 5, "cn=e,o=a"), remove(9, 5), create(10, 5, "cn=e,o=a"), rename(11, 5, "cn=f,o=a"), put(12, 5, "cn", "e"),
		remove(13, 6),
		create(14, 7, "cn=g,o=a"), remove(14, 7),
		create(15, 0x10, "cn=h,o=a"), create(16, 0xf, "cn=i,o=a"),
	}
	both(t, l, func(s *merge.State) {
		wantIDs(t, "Live", s.Live(), 1, 3, 0xf, 0x10)
		wantEntry(t, s, 1, "cn=a,o=a")
		for _, of := range []int{2, 4, 5, 6, 7, 8} {
			wantEntry(t, s, of, "")
		}
		for _, n := range []string{"cn=b,o=a", "cn=d,o=a", "cn=e,o=a", "cn=f,o=a", "cn=g,o=a"} {
			wantFound(t, s, n, 0)
		}
		if _, ok := s.Entry(""); ok {
			t.Error("an entry without an identifier")
		}
		if e, ok := s.Entry(strings.ToUpper(id(0xf))); ok {
			t.Errorf("an entry with another identifier: %q", e)
		}
	})
}

// P17.3: the own name is that of the latest creation or renaming.
func TestOwnName(t *testing.T) {
	both(t, []api.Change{create(5, 1, "cn=a,o=a"), rename(4, 1, "cn=b,o=a")}, func(s *merge.State) {
		wantEntry(t, s, 1, "cn=a,o=a")
	})
	both(t, []api.Change{create(5, 1, "cn=a,o=a"), rename(6, 1, "cn=b,o=a"), create(7, 1, "cn=c,o=a")}, func(s *merge.State) {
		wantEntry(t, s, 1, "cn=c,o=a")
		wantFound(t, s, "cn=a,o=a", 0)
		wantFound(t, s, "cn=b,o=a", 0)
		wantFound(t, s, "cn=c,o=a", 1)
	})
	both(t, []api.Change{create(5, 1, "cn=c,o=a"), create(5, 1, "cn=b,o=a"), create(5, 1, "cn=a,o=a")}, func(s *merge.State) {
		wantEntry(t, s, 1, "cn=c,o=a")
	})
	// The line of a renaming is greater than that of a creation.
	both(t, []api.Change{create(5, 1, "cn=c,o=a"), rename(5, 1, "cn=b,o=a"), create(5, 1, "cn=a,o=a")}, func(s *merge.State) {
		wantEntry(t, s, 1, "cn=b,o=a")
	})
	// In the line, a space is escaped, and so comes after an exclamation mark.
	both(t, []api.Change{create(5, 1, "cn=a!,o=a"), create(5, 1, "cn=a b,o=a"), create(5, 1, "cn=a#,o=a")}, func(s *merge.State) {
		wantEntry(t, s, 1, "cn=a b,o=a")
	})
}

// P17.3: the latest record about a value decides whether the entry has it.
func TestValues(t *testing.T) {
	attr := func(name string, values ...string) api.Attr { return api.Attr{Name: name, Values: values} }
	l := []api.Change{
		create(9, 1, "cn=x,o=a"),
		put(1, 1, "mail", "b"), put(8, 1, "mail", "a"), put(3, 1, "mail", "B"),
		put(4, 1, "age", "7"), drop(5, 1, "age", "7"), drop(6, 1, "age", "8"), put(7, 1, "age", "8"),
		drop(2, 1, "cn", "x"), put(2, 1, "cn", "x"),
		drop(6, 1, "mail", "c"), put(5, 1, "mail", "c"),
		put(1, 1, "sn", "s"), drop(2, 1, "sn", "s"),
		put(9, 2, "cn", "z"),
	}
	both(t, l, func(s *merge.State) {
		// The line of a put is greater than that of a drop.
		want := []api.Attr{attr("age", "8"), attr("cn", "x"), attr("mail", "B", "a", "b")}
		wantEntry(t, s, 1, "cn=x,o=a", want...)
		if l := s.Entries(); len(l) != 1 || !same(l[0], api.Entry{Name: "cn=x,o=a", Attrs: want}) {
			t.Errorf("Entries = %q", l)
		}
	})
	// A state has no limits of attributes and values.
	many := []api.Change{create(1, 1, "cn=x,o=a")}
	for i := range 3 * api.MaxValues * api.MaxAttrs {
		many = append(many, put(2, 1, strings.Repeat("a", 1+i%(2*api.MaxAttrs-1)), strings.Repeat("v", 1+i%(2*api.MaxValues))))
	}
	e, ok := state(t, many...).Entry(id(1))
	if !ok || len(e.Attrs) != 2*api.MaxAttrs-1 {
		t.Errorf("%d attributes, %v", len(e.Attrs), ok)
	}
}

// P17.3: a number is greater by its time, its seq and its replica.
func TestLater(t *testing.T) {
	l := []api.CSN{{Time: 1, Seq: 9, Replica: 7}, {Time: 2}, {Time: 2, Replica: 1}, {Time: 2, Seq: 1}, {Time: 2, Seq: 1, Replica: 1}, {Time: 3}}
	for i := range l[1:] {
		early, late := put(0, 1, "cn", "x"), drop(0, 1, "cn", "x")
		early.CSN, late.CSN = l[i], l[i+1]
		both(t, []api.Change{create(1, 1, "cn=x,o=a"), early, late}, func(s *merge.State) {
			wantEntry(t, s, 1, "cn=x,o=a")
		})
		early, late = rename(0, 1, "cn=z,o=a"), rename(0, 1, "cn=y,o=a")
		early.CSN, late.CSN = l[i], l[i+1]
		both(t, []api.Change{create(1, 1, "cn=x,o=a"), early, late}, func(s *merge.State) {
			wantEntry(t, s, 1, "cn=y,o=a")
		})
	}
}

// P17.2, P17.3, P17.8: the owner of a name is the live entry with the least
// identifier, and the others have conflicts.
func TestConflicts(t *testing.T) {
	l := []api.Change{create(1, 3, "cn=x,o=a"), create(2, 2, "cn=x,o=a"), create(3, 5, "cn=x,o=a"), create(4, 4, "cn=y,o=a"), rename(5, 1, "cn=x,o=a")}
	both(t, l, func(s *merge.State) {
		wantIDs(t, "Conflicts", s.Conflicts(), 3, 5)
		wantFound(t, s, "cn=x,o=a", 2)
		wantFound(t, s, "cn=x#"+id(2)+",o=a", 0)
		wantFound(t, s, "cn=x#"+id(3)+",o=a", 3)
		wantFound(t, s, "cn=x#"+id(4)+",o=a", 0)
		wantFound(t, s, "cn=x#,o=a", 0)
		wantFound(t, s, "CN=x,o=a", 0)
		wantFound(t, s, "cn=x, o=a", 0)
		wantFound(t, s, "cn="+id(3)+",o=a", 0)
		wantFound(t, s, "cn=y#"+id(3)+",o=a", 0)
		wantFound(t, s, "cn=x#"+id(3)+",o=b", 0)
		wantFound(t, s, "cn=x#"+id(3), 0)
		// The owner gives its name away when it is removed or renamed, and
		// takes it back.
		s.Apply(rename(6, 2, "cn=w,o=a"))
		wantIDs(t, "Conflicts", s.Conflicts(), 5)
		wantFound(t, s, "cn=x,o=a", 3)
		wantEntry(t, s, 3, "cn=x,o=a")
		s.Apply(remove(7, 3))
		wantIDs(t, "Conflicts", s.Conflicts())
		wantEntry(t, s, 5, "cn=x,o=a")
		s.Apply(rename(8, 2, "cn=x,o=a"))
		wantIDs(t, "Conflicts", s.Conflicts(), 5)
		wantEntry(t, s, 2, "cn=x,o=a")
		wantEntry(t, s, 5, "cn=x#"+id(5)+",o=a")
		// A creation that arrives late brings an owner with a lesser identifier.
		s.Apply(create(0, 1, "cn=v,o=a"))
		wantIDs(t, "Conflicts", s.Conflicts(), 2, 5)
		wantEntry(t, s, 1, "cn=x,o=a")
	})
}

// P17.3: the value of a name after a conflict has at most MaxValue bytes, and
// the name is in normal form.
func TestConflictNames(t *testing.T) {
	room := api.MaxValue - len("#"+id(2))
	long := func(n int) string { return strings.Repeat("v", n) }
	commas := func(n int) string { return strings.Repeat(`\,`, n) }
	for value, want := range map[string]string{
		"v":                           "v",
		long(room - 1):                long(room - 1),
		long(room):                    long(room),
		long(room + 1):                long(room),
		long(api.MaxValue):            long(room),
		commas(room):                  commas(room),
		commas(room + 1):              commas(room),
		commas(api.MaxValue):          commas(room),
		long(room-1) + " v":           long(room-1) + " ",
		"v " + commas(1) + long(room): "v " + commas(1) + long(room-3),
		"#":                           "#",
		"a#b":                         "a#b",
		`\\\=\+`:                      `\\\=\+`,
		"v#" + id(3):                  "v#" + id(3),
	} {
		for _, end := range []string{"", ",o=a", `,ou=a\,b,o=` + long(api.MaxValue)} {
			own, shown := "cn="+value+end, "cn="+want+"#"+id(2)+end
			both(t, []api.Change{create(1, 1, own), create(2, 2, own)}, func(s *merge.State) {
				wantEntry(t, s, 1, own)
				wantEntry(t, s, 2, shown)
				wantFound(t, s, own, 1)
				wantFound(t, s, shown, 2)
				wantIDs(t, "Conflicts", s.Conflicts(), 2)
			})
		}
	}
}

// P17.3, P17.4: several entries can be displayed under one name, if it is the
// own name of one of them; Find finds the least identifier.
func TestSameName(t *testing.T) {
	taken := "cn=x#" + id(5) + ",o=a"
	for _, other := range []int{3, 7} {
		both(t, []api.Change{create(4, 4, "cn=x,o=a"), create(5, 5, "cn=x,o=a"), create(other, other, taken)}, func(s *merge.State) {
			wantIDs(t, "Conflicts", s.Conflicts(), 5)
			wantEntry(t, s, 5, taken)
			wantEntry(t, s, other, taken)
			wantFound(t, s, taken, min(5, other))
			wantFound(t, s, "cn=x,o=a", 4)
			s.Apply(put(8, 5, "mail", "m"))
			s.Apply(put(9, other, "mail", "n"))
			var mails []string
			for _, e := range s.Entries() {
				if e.Name == taken {
					mails = append(mails, e.Attrs[0].Values...)
				}
			}
			want := []string{"m", "n"}
			if other < 5 {
				slices.Reverse(want)
			}
			if !slices.Equal(mails, want) {
				t.Errorf("mails of entries with one name: %q", mails)
			}
			s.Apply(remove(10, min(5, other)))
			wantFound(t, s, taken, max(5, other))
		})
	}
	// The longest value can be the one that it has after a conflict.
	room := api.MaxValue - len("#"+id(2))
	own := "cn=" + strings.Repeat("v", room) + "#" + id(2) + ",o=a"
	both(t, []api.Change{create(1, 1, own), create(2, 2, own), create(3, 3, own)}, func(s *merge.State) {
		wantIDs(t, "Conflicts", s.Conflicts(), 2, 3)
		wantEntry(t, s, 1, own)
		wantEntry(t, s, 2, own)
		wantFound(t, s, own, 1)
		s.Apply(remove(4, 1))
		wantIDs(t, "Conflicts", s.Conflicts(), 3)
		wantFound(t, s, own, 2)
	})
}

// P17.2, P17.8: entries whose parents are no entries, or orphans, are orphans.
func TestOrphans(t *testing.T) {
	l := []api.Change{
		create(1, 1, "o=a"), create(2, 2, "ou=s,o=b"), create(3, 3, "ou=t,o=a"),
		create(4, 4, "cn=a,ou=s,o=b"), create(5, 5, "cn=b,ou=s,o=a"), create(6, 6, "cn=c,cn=b,ou=s,o=a"), create(7, 7, "cn=d,cn=c,cn=b,ou=s,o=a"),
		create(8, 8, "cn=e,cn=b,ou=s,o=a"), create(9, 9, "cn=f,ou=t,o=a"), create(10, 10, "cn=g,ou=t,o=a,o=a"),
	}
	both(t, l, func(s *merge.State) {
		wantIDs(t, "Orphans", s.Orphans(), 5, 6, 7, 8, 10)
		if n := len(s.Entries()); n != 10 {
			t.Errorf("%d entries", n)
		}
		wantEntry(t, s, 7, "cn=d,cn=c,cn=b,ou=s,o=a")
		wantFound(t, s, "cn=b,ou=s,o=a", 5)
		s.Apply(create(11, 11, "ou=s,o=a"))
		wantIDs(t, "Orphans", s.Orphans(), 10)
		s.Apply(remove(12, 6))
		wantIDs(t, "Orphans", s.Orphans(), 7, 10)
		s.Apply(rename(13, 11, "ou=u,o=a"))
		wantIDs(t, "Orphans", s.Orphans(), 5, 7, 8, 10)
	})
	// The names under which entries are displayed count, not their own ones.
	below := "cn=z,cn=x#" + id(5) + ",o=a"
	both(t, []api.Change{create(4, 4, "cn=x,o=a"), create(5, 5, "cn=x,o=a"), create(6, 6, below), create(7, 7, "cn=z,cn=x,o=a")}, func(s *merge.State) {
		wantIDs(t, "Orphans", s.Orphans())
		s.Apply(remove(8, 4))
		wantFound(t, s, below, 6)
		wantIDs(t, "Orphans", s.Orphans(), 6)
	})
	// An orphan that has a conflict is no parent, either.
	both(t, []api.Change{create(1, 1, "cn=x,ou=n,o=a"), create(2, 2, "cn=x,ou=n,o=a"), create(3, 3, "cn=y,cn=x#"+id(2)+",ou=n,o=a")}, func(s *merge.State) {
		wantIDs(t, "Orphans", s.Orphans(), 1, 2, 3)
		wantIDs(t, "Conflicts", s.Conflicts(), 2)
	})
}

// P17.4: the order of the entries is that of their displayed names.
func TestEntries(t *testing.T) {
	l := []api.Change{
		create(1, 1, "ou=b,o=a"), create(2, 2, "cn=z,ou=b,o=a"), create(3, 3, "cn=a,ou=c,o=a"), create(4, 4, "o=b"), create(5, 5, "ou=b,o=a"),
		create(6, 6, "cn=a,ou=b,o=a"), create(7, 7, "a=z,o=a"), create(8, 8, "o=a"), create(9, 9, "cn=q,ou=n,o=b"), remove(10, 3), put(11, 8, "mail", "m"),
	}
	both(t, l, func(s *merge.State) {
		var names []string
		for _, e := range s.Entries() {
			names = append(names, e.Name)
		}
		want := []string{"o=a", "a=z,o=a", "ou=b,o=a", "cn=a,ou=b,o=a", "cn=z,ou=b,o=a", "ou=b#" + id(5) + ",o=a", "o=b", "cn=q,ou=n,o=b"}
		if !slices.Equal(names, want) {
			t.Errorf("names: %q, not %q", names, want)
		}
	})
}

// P17.6: a removal is final, and records that arrive before the creation count.
func TestTombstones(t *testing.T) {
	s := state(t, put(9, 1, "mail", "m"), drop(8, 1, "mail", "n"), rename(7, 1, "cn=y,o=a"))
	wantIDs(t, "Live", s.Live())
	wantEntry(t, s, 1, "")
	wantFound(t, s, "cn=y,o=a", 0)
	s.Apply(create(1, 1, "cn=x,o=a"))
	wantEntry(t, s, 1, "cn=y,o=a", api.Attr{Name: "mail", Values: []string{"m"}})
	s.Apply(put(1, 1, "mail", "n"))
	wantEntry(t, s, 1, "cn=y,o=a", api.Attr{Name: "mail", Values: []string{"m"}})
	s.Apply(remove(2, 1))
	for i, c := range []api.Change{create(10, 1, "cn=x,o=a"), rename(11, 1, "cn=z,o=a"), put(12, 1, "mail", "o"), create(0, 1, "cn=x,o=a")} {
		if e := s.Apply(c); e != api.OK {
			t.Errorf("Apply = %d", int(e))
		}
		if len(s.Live()) != 0 || len(s.Entries()) != 0 {
			t.Errorf("%d: live after its removal: %q", i, s.Entries())
		}
		wantEntry(t, s, 1, "")
		wantFound(t, s, "cn=x,o=a", 0)
	}
	early := state(t, remove(1, 1))
	early.Apply(create(2, 1, "cn=x,o=a"))
	wantEntry(t, early, 1, "")
}

// P17.7: a record that is later than all others has its effect at once.
func TestLatest(t *testing.T) {
	s := state(t, create(1, 1, "cn=x,o=a"), create(2, 2, "cn=x,o=a"))
	mail := func(values ...string) api.Attr { return api.Attr{Name: "mail", Values: values} }
	s.Apply(put(3, 1, "mail", "m"))
	wantEntry(t, s, 1, "cn=x,o=a", mail("m"))
	s.Apply(put(4, 1, "mail", "n"))
	wantEntry(t, s, 1, "cn=x,o=a", mail("m", "n"))
	s.Apply(drop(5, 1, "mail", "m"))
	wantEntry(t, s, 1, "cn=x,o=a", mail("n"))
	s.Apply(drop(6, 1, "mail", "n"))
	wantEntry(t, s, 1, "cn=x,o=a")
	s.Apply(put(7, 1, "mail", "n"))
	wantEntry(t, s, 1, "cn=x,o=a", mail("n"))
	s.Apply(rename(8, 1, "cn=y,o=a"))
	wantEntry(t, s, 1, "cn=y,o=a", mail("n"))
	wantEntry(t, s, 2, "cn=x,o=a")
	s.Apply(remove(9, 1))
	wantEntry(t, s, 1, "")
	s.Apply(rename(10, 2, "cn=y,o=a"))
	wantEntry(t, s, 2, "cn=y,o=a")
}
