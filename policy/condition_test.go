package policy_test

import (
	"math"
	"math/rand"
	"regexp"
	"slices"
	"strconv"
	"strings"
	"testing"
	"time"

	"identity/api"
	"identity/policy"
)

// operators are the operators of conditions.
var operators = []string{"is", "not", "has", "lacks", "min", "max"}

// The forms of the values, but for the limits of their lengths and numbers.
var (
	wordForm   = regexp.MustCompile(`^[A-Za-z0-9_.:-]{1,64}$`)
	valueForm  = regexp.MustCompile(`^[!-~]([ -~]*[!-~])?$`)
	scopeForm  = regexp.MustCompile(`^[A-Za-z0-9_:-]+(\.[A-Za-z0-9_:-]+)*$`)
	yesForm    = regexp.MustCompile(`^(yes|no)$`)
	numberForm = regexp.MustCompile(`^(0|-?[1-9][0-9]*)$`)
)

// isNumber reports whether s is the decimal form of an int.
func isNumber(s string) bool {
	_, err := strconv.ParseInt(s, 10, 64)
	return err == nil && numberForm.MatchString(s)
}

// possible reports whether a condition stands in a row of the table of the chapter.
func possible(c api.Condition) bool {
	switch c.Field + " " + c.Op {
	case "user is", "user not", "client is", "client not", "tenant is", "tenant not":
		return wordForm.MatchString(c.Value)
	case "group has", "group lacks":
		return len(c.Value) <= api.MaxValue && valueForm.MatchString(c.Value)
	case "scope has", "scope lacks":
		return len(c.Value) <= api.MaxName && scopeForm.MatchString(c.Value)
	case "trusted is":
		return yesForm.MatchString(c.Value)
	case "risk min", "risk max", "level min", "level max", "hour min", "hour max", "age min", "age max":
		return isNumber(c.Value)
	}
	return false
}

// values returns values of conditions, some of them of no field.
func values() []string {
	return []string{
		"a", "ann", "A", "a.b", "a:b_c-d", "yes", "no", "Yes", "true", "is", "-", strings.Repeat("a", 64), strings.Repeat("a", 65),
		"cn=g", "a b", "a,b|c", "%", "a%20b", strings.Repeat("=", 256), strings.Repeat("=", 257), strings.Repeat("a", 256), strings.Repeat("a", 257),
		"", " ", " a", "a ", "a\n", "\x7f", "é", "a\xff", "a..b", ".a", "a.", ".", strings.Repeat("a", 62) + ".b", strings.Repeat("a.", 32) + "a",
		"0", "1", "-1", "5", "23", "24", "40", "600", "1000", "9223372036854775807", "-9223372036854775808",
		"9223372036854775808", "-9223372036854775809", "99999999999999999999", "00", "05", "-0", "+1", "1.0", "0x1", "--1", "1 ", " 1", "1e3",
	}
}

// request is a request in which every field is set.
func request() api.Request {
	return api.Request{
		User: "ann", Client: "a.b", Tenant: "A", Groups: []string{"cn=g", "a b"}, Scopes: []string{"a", "a.b"},
		Risk: 40, Trusted: true, Level: 1, AuthTime: 35000, Now: 36000,
	}
}

// P30.1, P30.4: which conditions are possible, and that no other one holds.
func TestPossible(t *testing.T) {
	fields := append(policy.Fields(), "", "x", "User", "users", "groups", "scopes", "now", "maxage", "authtime", " user", "user ")
	ops := append(slices.Clone(operators), "", "x", "Is", "isnt", "=", "has ", "min max")
	counts := map[string]int{}
	for _, field := range fields {
		for _, op := range ops {
			for _, value := range values() {
				c := cond(field, op, value)
				want := api.ErrForm
				if possible(c) {
					want = api.OK
					counts[field]++
				}
				if e := policy.Check([]api.PolicyRule{deny("a", c)}); e != want {
					t.Errorf("Check with %q = %d, not %d", c, int(e), int(want))
				}
				if want != api.OK && (policy.Holds(c, request()) || policy.Holds(c, api.Request{})) {
					t.Errorf("%q holds", c)
				}
			}
		}
	}
	for _, field := range policy.Fields() {
		if counts[field] < 2 {
			t.Errorf("%d conditions with %s are possible", counts[field], field)
		}
	}
}

// P30.4: examples.
func TestHolds(t *testing.T) {
	r := request()
	for _, x := range []struct {
		c    api.Condition
		want bool
	}{
		{cond("user", "is", "ann"), true}, {cond("user", "is", "Ann"), false}, {cond("user", "not", "ann"), false}, {cond("user", "not", "bob"), true},
		{cond("client", "is", "a.b"), true}, {cond("client", "is", "a"), false}, {cond("client", "not", "a.b"), false}, {cond("client", "not", "A.b"), true},
		{cond("tenant", "is", "A"), true}, {cond("tenant", "is", "a"), false}, {cond("tenant", "not", "A"), false}, {cond("tenant", "not", "ann"), true},
		{cond("group", "has", "cn=g"), true}, {cond("group", "has", "a b"), true}, {cond("group", "has", "CN=g"), false}, {cond("group", "has", "a  b"), false},
		{cond("group", "lacks", "cn=g"), false}, {cond("group", "lacks", "a b"), false}, {cond("group", "lacks", "a"), true},
		{cond("scope", "has", "a"), true}, {cond("scope", "has", "a.b"), true}, {cond("scope", "has", "a.c"), false}, {cond("scope", "has", "a.b.c"), false},
		{cond("scope", "lacks", "a"), false}, {cond("scope", "lacks", "a.c"), true}, {cond("scope", "lacks", "A"), true},
		{cond("trusted", "is", "yes"), true}, {cond("trusted", "is", "no"), false},
		{cond("risk", "min", "40"), true}, {cond("risk", "min", "41"), false}, {cond("risk", "max", "40"), true}, {cond("risk", "max", "39"), false},
		{cond("level", "min", "1"), true}, {cond("level", "min", "2"), false}, {cond("level", "max", "1"), true}, {cond("level", "max", "0"), false},
		{cond("hour", "min", "10"), true}, {cond("hour", "min", "11"), false}, {cond("hour", "max", "10"), true}, {cond("hour", "max", "9"), false},
		{cond("age", "min", "1000"), true}, {cond("age", "min", "1001"), false}, {cond("age", "max", "1000"), true}, {cond("age", "max", "999"), false},
		{cond("user", "has", "ann"), false}, {cond("user", "lacks", "bob"), false}, {cond("group", "is", "cn=g"), false}, {cond("group", "not", "x"), false},
		{cond("trusted", "not", "no"), false}, {cond("trusted", "is", "Yes"), false}, {cond("trusted", "is", "true"), false}, {cond("risk", "is", "40"), false},
		{cond("risk", "min", "x"), false}, {cond("risk", "min", "04"), false}, {cond("risk", "max", "9223372036854775808"), false},
		{cond("risk", "min", "-9223372036854775809"), false}, {cond("x", "lacks", "y"), false}, {api.Condition{}, false},
	} {
		before := request()
		if got := policy.Holds(x.c, r); got != x.want {
			t.Errorf("Holds of %q = %v", x.c, got)
		}
		if !slices.Equal(r.Groups, before.Groups) || !slices.Equal(r.Scopes, before.Scopes) {
			t.Errorf("Holds of %q changed the request", x.c)
		}
	}
	r.Trusted = false
	if policy.Holds(cond("trusted", "is", "yes"), r) || !policy.Holds(cond("trusted", "is", "no"), r) {
		t.Error("Holds of trusted for a request without trust")
	}
}

// P30.4: values that a request has, but no possible condition can name.
func TestOtherValues(t *testing.T) {
	r := api.Request{User: "", Client: "a b", Tenant: " ", Groups: []string{"", " a"}, Scopes: []string{"", "a..b", "a b"}}
	for _, x := range []struct {
		c    api.Condition
		want bool
	}{
		{cond("user", "is", ""), false}, {cond("user", "not", "a"), true}, {cond("client", "is", "a b"), false}, {cond("client", "not", "a"), true},
		{cond("tenant", "is", " "), false}, {cond("group", "has", ""), false}, {cond("group", "has", " a"), false}, {cond("group", "lacks", "a"), true},
		{cond("scope", "has", ""), false}, {cond("scope", "has", "a..b"), false}, {cond("scope", "has", "a b"), false}, {cond("scope", "lacks", "a"), true},
		{cond("scope", "lacks", "a..b"), false}, {cond("group", "lacks", ""), false}, {cond("user", "not", ""), false},
	} {
		if got := policy.Holds(x.c, r); got != x.want {
			t.Errorf("Holds of %q = %v", x.c, got)
		}
	}
}

// instant returns the instant as which an argument is used.
func instant(t int) int {
	return min(max(t, 0), 1<<40)
}

// compared returns the number that a condition with a bound compares.
func compared(field string, r api.Request) int {
	switch field {
	case "risk":
		return r.Risk
	case "level":
		return r.Level
	case "hour":
		return time.Unix(int64(instant(r.Now)), 0).UTC().Hour()
	}
	return instant(r.Now) - instant(r.AuthTime)
}

// holds reports whether a condition holds by the definition.
func holds(c api.Condition, r api.Request) bool {
	if !possible(c) {
		return false
	}
	n, _ := strconv.Atoi(c.Value)
	texts := map[string]string{"user": r.User, "client": r.Client, "tenant": r.Tenant, "trusted": map[bool]string{true: "yes", false: "no"}[r.Trusted]}
	lists := map[string][]string{"group": r.Groups, "scope": r.Scopes}
	return map[string]bool{
		"is":    texts[c.Field] == c.Value,
		"not":   texts[c.Field] != c.Value,
		"has":   slices.Index(lists[c.Field], c.Value) >= 0,
		"lacks": slices.Index(lists[c.Field], c.Value) < 0,
		"min":   n <= compared(c.Field, r),
		"max":   n >= compared(c.Field, r),
	}[c.Op]
}

// P30.4: numbers at and beside their bounds, and instants beyond their limits.
func TestBounds(t *testing.T) {
	times := []int{math.MinInt, -3600, -1, 0, 1, 3599, 3600, 7199, 7200, 18000, 36000, 82800, 86399, 86400, 90000, api.MaxTime - 1, api.MaxTime, api.MaxTime + 1, api.MaxTime + 3600, math.MaxInt}
	for _, now := range times {
		for _, auth := range times {
			r := api.Request{Now: now, AuthTime: auth, Risk: auth, Level: now}
			for _, field := range []string{"age", "hour", "level", "risk"} {
				n := compared(field, r)
				for _, k := range []int{n - 1, n, n + 1, 0, math.MinInt, math.MaxInt} {
					for op, want := range map[string]bool{"min": n >= k, "max": n <= k} {
						c := cond(field, op, strconv.Itoa(k))
						if got := policy.Holds(c, r); got != want {
							t.Errorf("Holds of %q at %d, %d = %v", c, now, auth, got)
						}
					}
				}
			}
		}
	}
	for now, hour := range map[int]string{-1: "0", 0: "0", 3599: "0", 3600: "1", 7200: "2", 36000: "10", 86399: "23", 86400: "0", api.MaxTime: "0", math.MaxInt: "0"} {
		r := api.Request{Now: now}
		if !policy.Holds(cond("hour", "min", hour), r) || !policy.Holds(cond("hour", "max", hour), r) {
			t.Errorf("the hour at %d is not %s", now, hour)
		}
	}
}

// random makes random conditions, rules and requests.
type random struct{ *rand.Rand }

// pick returns one of some strings.
func (r random) pick(l ...string) string {
	return l[r.Intn(len(l))]
}

// picks returns up to two of some strings.
func (r random) picks(l ...string) []string {
	var some []string
	for range r.Intn(3) {
		some = append(some, r.pick(l...))
	}
	return some
}

// condition returns a condition, most often a possible one.
func (r random) condition() api.Condition {
	op := []string{"is", "not"}[r.Intn(2)]
	list := []string{"has", "lacks"}[r.Intn(2)]
	bound := []string{"min", "max"}[r.Intn(2)]
	switch r.Intn(9) {
	case 0:
		return cond(r.pick(policy.Fields()...), r.pick(operators...), r.pick(values()...))
	case 1, 2:
		return cond(r.pick("user", "client", "tenant"), op, r.pick("a", "b", "a.b"))
	case 3:
		return cond("group", list, r.pick("a", "cn=g", "a b", "%|,"))
	case 4:
		return cond("scope", list, r.pick("a", "b", "a.b"))
	case 5:
		return cond("trusted", "is", r.pick("yes", "no"))
	case 6:
		return cond("hour", bound, strconv.Itoa(r.Intn(25)))
	case 7:
		return cond("age", bound, strconv.Itoa(r.Intn(9)*1800-3600))
	}
	return cond(r.pick("risk", "level"), bound, strconv.Itoa(r.Intn(4)))
}

// request returns a request.
func (r random) request() api.Request {
	return api.Request{
		User: r.pick("", "a", "b", "a.b"), Client: r.pick("", "a", "b", "a.b"), Tenant: r.pick("", "a", "b", "a.b"),
		Groups: r.picks("", "a", "cn=g", "a b", "%|,"), Scopes: r.picks("", "a", "b", "a.b"),
		Risk: r.Intn(4), Trusted: r.Intn(2) > 0, Level: r.Intn(4), AuthTime: (r.Intn(30) - 2) * 1800, Now: (r.Intn(60) - 2) * 1800,
	}
}

// rule returns a rule without regard to its errors.
func (r random) rule() api.PolicyRule {
	p := api.PolicyRule{Name: r.pick("a", "b", "c", "d", "e", "if", "rule", ""), Deny: r.Intn(3) == 0}
	for range r.Intn(5) {
		p.Conditions = append(p.Conditions, r.condition())
	}
	if p.Deny && r.Intn(8) > 0 {
		return p
	}
	for range r.Intn(4) {
		p.Scopes = append(p.Scopes, r.pick("a", "b", "a.b", "if", "and", "scopes", "level", "a..b", "mail"))
	}
	p.Level, p.MaxAge = r.Intn(5), (r.Intn(4)-1)*600
	return p
}

// P30.4, P30.5: random conditions and the definitions.
func TestDefinitions(t *testing.T) {
	r := random{rand.New(rand.NewSource(1))}
	counts := map[string]int{}
	firsts := map[int]int{}
	for range 30000 {
		q, p := r.request(), r.rule()
		want := -1
		for i, c := range p.Conditions {
			is := holds(c, q)
			if policy.Holds(c, q) != is {
				t.Fatalf("Holds of %q for %+v = %v", c, q, !is)
			}
			if possible(c) {
				counts[c.Field+" "+c.Op+" "+strconv.FormatBool(is)]++
			}
			if !is && want < 0 {
				want = i
			}
		}
		if got := policy.First(p, q); got != want {
			t.Fatalf("First of %v for %+v = %d, not %d", p, q, got, want)
		}
		firsts[want]++
	}
	if len(counts) != 38 || len(firsts) != 5 {
		t.Errorf("%v, %v", counts, firsts)
	}
}

// P30.5: examples.
func TestFirst(t *testing.T) {
	night := deny("night", cond("hour", "max", "5"), cond("trusted", "is", "no"))
	long := slices.Repeat([]api.Condition{cond("risk", "max", "40")}, 100)
	for _, x := range []struct {
		p    api.PolicyRule
		r    api.Request
		want int
	}{
		{night, api.Request{Now: 7200}, -1},
		{night, api.Request{Now: 36000}, 0},
		{night, api.Request{Now: 7200, Trusted: true}, 1},
		{night, api.Request{Now: 36000, Trusted: true}, 0},
		{api.PolicyRule{}, api.Request{}, -1},
		{permit(""), request(), -1},
		{deny("a", api.Condition{}), request(), 0},
		{deny("a", cond("user", "is", "ann"), cond("user", "has", "ann")), request(), 1},
		{deny("a", long...), request(), -1},
		{deny("a", append(long, cond("risk", "min", "41"))...), request(), 100},
	} {
		before := slices.Clone(x.p.Conditions)
		if got := policy.First(x.p, x.r); got != x.want {
			t.Errorf("First of %v for %+v = %d, not %d", x.p, x.r, got, x.want)
		}
		if !slices.Equal(before, x.p.Conditions) {
			t.Errorf("First changed %v", before)
		}
	}
}

// P30.7
func TestOpposites(t *testing.T) {
	r := random{rand.New(rand.NewSource(2))}
	opposite := map[string]string{"is": "not", "not": "is", "has": "lacks", "lacks": "has"}
	for range 30000 {
		c, q := r.condition(), r.request()
		if !possible(c) {
			continue
		}
		d := c
		d.Op = opposite[c.Op]
		if possible(d) && policy.Holds(c, q) == policy.Holds(d, q) {
			t.Fatalf("%q and %q are no opposites for %+v", c, d, q)
		}
		if d.Op != "" {
			continue
		}
		least, most := cond(c.Field, "min", c.Value), cond(c.Field, "max", c.Value)
		low, high := policy.Holds(least, q), policy.Holds(most, q)
		if possible(least) && (!low && !high || (low && high) != (strconv.Itoa(compared(c.Field, q)) == c.Value)) {
			t.Fatalf("%q: %v, %q: %v for %+v", least, low, most, high, q)
		}
	}
}

// P30.8: a rule with one condition more.
func TestConjunction(t *testing.T) {
	r := random{rand.New(rand.NewSource(3))}
	for range 30000 {
		p, q := r.rule(), r.request()
		fails := func(c api.Condition) bool { return !policy.Holds(c, q) }
		first := policy.First(p, q)
		if (first == -1) == slices.ContainsFunc(p.Conditions, fails) {
			t.Fatalf("First of %v for %+v = %d", p, q, first)
		}
		more := p
		more.Conditions = slices.Insert(slices.Clone(p.Conditions), r.Intn(len(p.Conditions)+1), r.condition())
		if first >= 0 && policy.First(more, q) < 0 {
			t.Fatalf("%v holds for %+v, but %v does not", more, q, p)
		}
	}
}

// exchange sets a field of q to the one of o. Now and AuthTime have no field of
// their own: now and authtime stand for them.
func exchange(q *api.Request, o api.Request, field string) {
	switch field {
	case "user":
		q.User = o.User
	case "client":
		q.Client = o.Client
	case "tenant":
		q.Tenant = o.Tenant
	case "group":
		q.Groups = o.Groups
	case "scope":
		q.Scopes = o.Scopes
	case "trusted":
		q.Trusted = o.Trusted
	case "risk":
		q.Risk = o.Risk
	case "level":
		q.Level = o.Level
	case "now":
		q.Now = o.Now
	case "authtime":
		q.AuthTime = o.AuthTime
	}
}

// P30.8: requests that differ only in fields that no condition mentions.
func TestMentioned(t *testing.T) {
	r := random{rand.New(rand.NewSource(4))}
	changed := 0
	for range 30000 {
		p, q, o := r.rule(), r.request(), r.request()
		mentioned := map[string]bool{}
		for _, c := range p.Conditions {
			mentioned[c.Field] = true
		}
		mentioned["now"] = mentioned["hour"] || mentioned["age"]
		mentioned["authtime"] = mentioned["age"]
		want := policy.First(p, q)
		other := q
		for _, field := range []string{"user", "client", "tenant", "group", "scope", "trusted", "risk", "level", "now", "authtime"} {
			if !mentioned[field] {
				exchange(&other, o, field)
			}
		}
		if got := policy.First(p, other); got != want {
			t.Fatalf("First of %v for %+v = %d, but for %+v %d", p, other, got, q, want)
		}
		if policy.First(p, o) != want {
			changed++
		}
	}
	if changed < 1000 {
		t.Errorf("%d of the other requests have another First", changed)
	}
}
