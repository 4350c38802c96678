package merge_test

import (
	"maps"
	"math/rand"
	"slices"
	"strings"
	"testing"

	"identity/api"
	"identity/attrs"
	"identity/change"
	"identity/csn"
	"identity/merge"
	"identity/name"
)

// model are the different records of a state, in any order, from which the
// definitions of the chapter follow directly.
type model map[api.Change]bool

// later is the definition of the order of records.
func later(a, b api.Change) bool {
	if n := csn.Compare(a.CSN, b.CSN); n != 0 {
		return n > 0
	}
	first, _ := change.Line(a)
	second, _ := change.Line(b)
	return first > second
}

// latest returns the latest one of the records that satisfy a condition.
func (m model) latest(wanted func(c api.Change) bool) (latest api.Change, found bool) {
	for c := range m {
		if wanted(c) && (!found || later(c, latest)) {
			latest, found = c, true
		}
	}
	return latest, found
}

// has reports whether there is a record of a kind for an identifier.
func (m model) has(of string, op api.ChangeOp) bool {
	_, found := m.latest(func(c api.Change) bool { return c.ID == of && c.Op == op })
	return found
}

// live returns the own names of the live entries.
func (m model) live() map[string]string {
	own := map[string]string{}
	for c := range m {
		if m.has(c.ID, api.CreateEntry) && !m.has(c.ID, api.RemoveEntry) {
			l, _ := m.latest(func(d api.Change) bool {
				return d.ID == c.ID && (d.Op == api.CreateEntry || d.Op == api.RenameEntry)
			})
			own[c.ID] = l.Name
		}
	}
	return own
}

// attributes returns the attributes of an entry.
func (m model) attributes(of string) []api.Attr {
	var l []api.Attr
	for c := range m {
		if c.ID != of || c.Op != api.PutValue {
			continue
		}
		last, _ := m.latest(func(d api.Change) bool { return d.ID == of && d.Attr == c.Attr && d.Value == c.Value })
		if last.Op == api.PutValue {
			l = append(l, api.Attr{Name: c.Attr, Values: []string{c.Value}})
		}
	}
	return attrs.Sorted(l)
}

// shown returns the names under which the entries with own names are displayed,
// and the identifiers of those with conflicts.
func shown(own map[string]string) (display map[string]string, conflicts []string) {
	display = map[string]string{}
	for of, s := range own {
		display[of] = s
		for other, t := range own {
			if s == t && other < of {
				l, _ := name.Parse(s)
				for len(l[0].Value)+1+len(of) > api.MaxValue {
					l[0].Value = l[0].Value[:len(l[0].Value)-1]
				}
				l[0].Value += "#" + of
				display[of], _ = name.Format(l)
				conflicts = append(conflicts, of)
				break
			}
		}
	}
	slices.Sort(conflicts)
	return display, conflicts
}

// orphans returns the identifiers of the orphans.
func orphans(display map[string]string) []string {
	placed := map[string]bool{}
	for range api.MaxDepth {
		for _, s := range display {
			parent, _ := name.Parent(s)
			if name.Depth(parent) <= 1 || placed[parent] {
				placed[s] = true
			}
		}
	}
	var l []string
	for of, s := range display {
		if !placed[s] {
			l = append(l, of)
		}
	}
	slices.Sort(l)
	return l
}

// check compares all results of a state with those of the model.
func (m model) check(t *testing.T, s *merge.State) (conflicts, lost int) {
	t.Helper()
	display, want := shown(m.live())
	var entries []api.Entry
	ids := slices.Sorted(maps.Keys(display))
	found := map[string]string{}
	for _, of := range ids {
		e := api.Entry{Name: display[of], Attrs: m.attributes(of)}
		entries = append(entries, e)
		if got, ok := s.Entry(of); !ok || !same(got, e) {
			t.Fatalf("Entry of %q = %q, %v, not %q", of, got, ok, e)
		}
		if found[e.Name] == "" {
			found[e.Name] = of
		}
	}
	slices.SortStableFunc(entries, func(a, b api.Entry) int { return name.Compare(a.Name, b.Name) })
	if got := s.Entries(); !slices.EqualFunc(got, entries, same) {
		t.Fatalf("Entries = %q, not %q", got, entries)
	}
	if got := s.Live(); !slices.Equal(got, ids) {
		t.Fatalf("Live = %q, not %q", got, ids)
	}
	if got := s.Conflicts(); !slices.Equal(got, want) {
		t.Fatalf("Conflicts = %q, not %q", got, want)
	}
	if got := s.Orphans(); !slices.Equal(got, orphans(display)) {
		t.Fatalf("Orphans = %q, not %q", got, orphans(display))
	}
	for c := range m {
		if _, ok := s.Entry(c.ID); ok != (display[c.ID] != "") {
			t.Fatalf("Entry of %q: %v", c.ID, ok)
		}
		for _, n := range []string{c.Name, display[c.ID], strings.ToUpper(c.Name)} {
			if got, ok := s.Find(n); got != found[n] || ok != (found[n] != "") {
				t.Fatalf("Find of %q = %q, %v, not %q", n, got, ok, found[n])
			}
		}
	}
	return len(want), len(orphans(display))
}

// names are own names: also those that other entries have after a conflict,
// and such as are longer than these can be.
func names() []string {
	long := strings.Repeat("v", api.MaxValue-len("#"+id(0)))
	return []string{
		"cn=x,o=a", "cn=x,o=a", "ou=s,o=a", "cn=x,ou=s,o=a", "cn=y,cn=x,ou=s,o=a", "o=a",
		"cn=x#" + id(2) + ",o=a", "cn=y,cn=x#" + id(3) + ",o=a",
		"cn=" + long + "#" + id(1) + ",o=a", "cn=" + long + "#,o=a",
	}
}

// random returns a record about one of few entries, names and values.
func random(r *rand.Rand) api.Change {
	l := names()
	c := api.Change{CSN: api.CSN{Time: r.Intn(6), Seq: r.Intn(2), Replica: r.Intn(2)}, ID: id(r.Intn(6))}
	switch r.Intn(12) {
	case 0, 1, 2, 3:
		c.Op, c.Name = api.CreateEntry, l[r.Intn(len(l))]
	case 4, 5:
		c.Op, c.Name = api.RenameEntry, l[r.Intn(len(l))]
	case 6:
		c.Op = api.RemoveEntry
	case 7, 8:
		c.Op = api.DropValue
	default:
		c.Op = api.PutValue
	}
	if c.Op >= api.PutValue {
		c.Attr, c.Value = []string{"cn", "mail"}[r.Intn(2)], []string{"a", "b", "A"}[r.Intn(3)]
	}
	return c
}

// P17.2 to P17.8: the results after each one of random records are those of
// the definitions.
func TestDefinition(t *testing.T) {
	r := rand.New(rand.NewSource(1))
	conflicts, lost := 0, 0
	for range 150 {
		s, m := merge.New(), model{}
		for range 1 + r.Intn(30) {
			c := random(r)
			m[c] = true
			if e := s.Apply(c); e != api.OK {
				t.Fatalf("Apply(%v) = %d", c, int(e))
			}
			some, others := m.check(t, s)
			conflicts, lost = conflicts+some, lost+others
		}
	}
	if conflicts < 500 || lost < 500 {
		t.Errorf("%d conflicts, %d orphans", conflicts, lost)
	}
}

// P17.5: the order of the records, and how often they arrive, do not matter.
func TestOrder(t *testing.T) {
	r := rand.New(rand.NewSource(2))
	for range 100 {
		m := model{}
		var l []api.Change
		for range 1 + r.Intn(30) {
			c := random(r)
			m[c] = true
			l = append(l, slices.Repeat([]api.Change{c}, 1+r.Intn(3))...)
		}
		for range 5 {
			r.Shuffle(len(l), func(i, k int) { l[i], l[k] = l[k], l[i] })
			s := state(t, l...)
			m.check(t, s)
			m.check(t, s.Clone())
		}
	}
}

// P17.6, P17.7: what a record does that is later than all others.
func TestLatestRandom(t *testing.T) {
	r := rand.New(rand.NewSource(3))
	for range 300 {
		s := merge.New()
		for range 1 + r.Intn(30) {
			s.Apply(random(r))
		}
		c := random(r)
		c.CSN.Time = 100
		before, live := s.Entry(c.ID)
		s.Apply(c)
		after, ok := s.Entry(c.ID)
		if !live {
			if ok && c.Op != api.CreateEntry {
				t.Fatalf("%v makes an entry live", c)
			}
			continue
		}
		owner, _ := s.Find(c.Name)
		switch has := attrs.Has(after.Attrs, c.Attr, c.Value); {
		case ok == (c.Op == api.RemoveEntry):
			t.Fatalf("live after %v: %v", c, ok)
		case c.Op == api.PutValue && !has, c.Op == api.DropValue && has:
			t.Fatalf("after %v: %q", c, after)
		case c.Name != "" && after.Name != c.Name && owner >= c.ID:
			t.Fatalf("%q has the name %q after %v", c.ID, after.Name, c)
		case c.Name == "" && ok && after.Name != before.Name:
			t.Fatalf("%v changes the name", c)
		}
	}
}
