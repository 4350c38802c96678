package schema_test

import (
	"math/big"
	"regexp"
	"strings"
	"testing"

	"identity/api"
	"identity/fold"
	"identity/name"
	"identity/schema"
)

// bySyntax names an attribute of each syntax of staff.
var bySyntax = map[api.Syntax]string{
	api.TextSyntax: "cn", api.ExactSyntax: "code-1", api.IntSyntax: "age", api.NameSyntax: "boss", api.BoolSyntax: "active",
}

// long returns a value with n bytes.
func long(n int) string {
	return strings.Repeat("L", n)
}

// chain returns a name with n components.
func chain(n int) string {
	return strings.TrimSuffix(strings.Repeat("a=b,", n), ",")
}

// P7.3
func TestNormal(t *testing.T) {
	for _, x := range []struct{ name, value, want string }{
		{"cn", "Ann LEE", "ann lee"}, {"CN", "Ann   LEE", "ann lee"}, {"cn", "a", "a"}, {"cn", "~!%\\", "~!%\\"}, {"cn", "007", "007"}, {"cn", "True", "true"},
		{"cn", long(api.MaxValue), strings.Repeat("l", api.MaxValue)}, {"Class", "PERSON", "person"},

		{"code-1", "Ann   LEE", "Ann   LEE"}, {"CODE-1", "007", "007"}, {"Code-1", long(api.MaxValue), long(api.MaxValue)}, {"code-1", "True", "True"},

		{"age", "7", "7"}, {"AGE", "007", "7"}, {"age", "0", "0"}, {"age", "000", "0"}, {"age", "-0", "0"}, {"age", "-00", "0"}, {"age", "-007", "-7"}, {"age", "10", "10"}, {"age", "-10", "-10"},
		{"age", "9223372036854775807", "9223372036854775807"}, {"age", "-9223372036854775808", "-9223372036854775808"}, {"age", "-0009223372036854775808", "-9223372036854775808"},
		{"age", strings.Repeat("0", api.MaxValue-1) + "5", "5"}, {"age", strings.Repeat("0", api.MaxValue), "0"},

		{"boss", "CN = Ann,OU=x", "cn=ann,ou=x"}, {"boss", "cn=ann", "cn=ann"}, {"boss", `CN=Lee\,  Ann , o=X`, `cn=lee\, ann,o=x`}, {"boss", chain(api.MaxDepth), chain(api.MaxDepth)},
		{"boss", "A=" + long(api.MaxValue-2), "a=" + strings.Repeat("l", api.MaxValue-2)},

		{"active", "True", "TRUE"}, {"active", "TRUE", "TRUE"}, {"active", "true", "TRUE"}, {"active", "tRuE", "TRUE"}, {"ACTIVE", "False", "FALSE"}, {"active", "FALSE", "FALSE"}, {"active", "false", "FALSE"},
	} {
		if got, e := schema.Normal(staff(), x.name, x.value); e != api.OK || got != x.want {
			t.Errorf("Normal of %s %q = %q, %d", x.name, x.value, got, int(e))
		}
	}
}

// P7.3
func TestNormalErrors(t *testing.T) {
	for _, attr := range []string{"", "mail", "cn ", "person", "1"} {
		for _, value := range []string{"a", "", " a", "7"} {
			if got, e := schema.Normal(staff(), attr, value); e != api.ErrNone || got != "" {
				t.Errorf("Normal of %s %q = %q, %d", attr, value, got, int(e))
			}
		}
	}
	refused := map[string][]string{
		"cn":     {},
		"code-1": {},
		"age": {"x", "-", "--1", "1-", "+1", "-+1", "0x1", "1_0", "1.0", "1e3", "1 2", "- 1", "1,000", "a1", "1a", "/", ":",
			"9223372036854775808", "-9223372036854775809", "99999999999999999999", "18446744073709551616", long(9), strings.Repeat("9", api.MaxValue)},
		"boss":   {"ann", "cn=", "=ann", "1=a", "cn=a,", "cn=a+b", `cn=\a`, "cn=a=b", chain(api.MaxDepth + 1), ",", "7"},
		"active": {"t", "1", "0", "yes", "truee", "rue", "true false", "TRUE.", "no", "t rue"},
	}
	for attr, values := range refused {
		// What is no value has no syntax.
		values = append(values, "", " ", " 7", "7 ", " true", "true ", " cn=a", "cn=a ", "cn=\u00e9", "a\n", "7\n", "\x7f", "a\x00", "\x1f", "\u0661",
			long(api.MaxValue+1), strings.Repeat("0", api.MaxValue)+"7", "a="+long(api.MaxValue))
		for _, value := range values {
			if got, e := schema.Normal(staff(), attr, value); e != api.ErrType || got != "" {
				t.Errorf("Normal of %s %q = %q, %d", attr, value, got, int(e))
			}
		}
	}
}

// texts returns all strings of at most n of the bytes.
func texts(bytes string, n int) []string {
	all := []string{""}
	from := 0
	for range n {
		to := len(all)
		for _, s := range all[from:to] {
			for i := range len(bytes) {
				all = append(all, s+bytes[i:i+1])
			}
		}
		from = to
	}
	return all
}

// integers are the strings that stand for integers.
var integers = regexp.MustCompile(`^-?[0-9]+$`)

// normal is the definition of the normal form of a value.
func normal(syntax api.Syntax, value string) (string, api.Errno) {
	if !fold.Clean(value) {
		return "", api.ErrType
	}
	switch syntax {
	case api.TextSyntax:
		return fold.Fold(value), api.OK
	case api.ExactSyntax:
		return value, api.OK
	case api.IntSyntax:
		n, _ := new(big.Int).SetString(value, 10)
		if integers.MatchString(value) && n.IsInt64() {
			return n.String(), api.OK
		}
	case api.NameSyntax:
		if c, e := name.Clean(value); e == api.OK {
			return c, api.OK
		}
	case api.BoolSyntax:
		if u := strings.ToUpper(value); u == "TRUE" || u == "FALSE" {
			return u, api.OK
		}
	}
	return "", api.ErrType
}

// values are short strings, and some around the bounds of each syntax.
func values() []string {
	all := texts("-01a ,=T", 4)
	for _, s := range []string{"9223372036854775807", "9223372036854775808", "true", "false", "cn=ann", "cn=a,o=b"} {
		all = append(all, s, "-"+s, "0"+s, "-0"+s, " "+s, s+" ", strings.ToUpper(s), strings.ToUpper(s[:1])+s[1:], "O="+s, s+",o=c", strings.Replace(s, "=", " = ", 1))
	}
	return all
}

// P7.3: short strings, against the definition.
func TestNormalDefinition(t *testing.T) {
	for syntax, attr := range bySyntax {
		s := typesOf(classType, api.AttrType{Name: attr, Syntax: syntax})
		valid := 0
		for _, v := range values() {
			want, e := normal(syntax, v)
			if got, f := schema.Normal(s, attr, v); f != e || got != want {
				t.Fatalf("Normal of %s %q = %q, %d, not %q, %d", attr, v, got, int(f), want, int(e))
			}
			if e == api.OK {
				valid++
			}
		}
		if valid < 6 {
			t.Errorf("%d values for %s only", valid, attr)
		}
	}
}

// P7.4
func TestCompare(t *testing.T) {
	for _, x := range []struct {
		name, a, b string
		want       int
	}{
		{"cn", "9", "10", 1}, {"cn", "a", "B", -1}, {"cn", "Ann  LEE", "ann lee", 0}, {"CN", "a", "ab", -1}, {"cn", "a b", "a!", -1}, {"class", "b", "A", 1},
		{"code-1", "a", "B", 1}, {"code-1", "a", "a", 0}, {"code-1", "a", "A", 1}, {"code-1", "a  b", "a b", -1}, {"code-1", "9", "10", 1},
		{"age", "9", "10", -1}, {"AGE", "010", "9", 1}, {"age", "007", "7", 0}, {"age", "-0", "0", 0}, {"age", "-1", "0", -1}, {"age", "-2", "-10", 1}, {"age", "-10", "9", -1},
		{"age", "-9223372036854775808", "9223372036854775807", -1}, {"age", "9223372036854775807", "-9223372036854775808", 1}, {"age", "9223372036854775806", "9223372036854775807", -1},
		{"boss", "CN=Ann, o=x", "cn=ann,o=x", 0}, {"boss", "ou=staff", "cn=ann,ou=staff", -1}, {"boss", "cn=ann,ou=staff", "ou=temp", -1}, {"boss", "ou=temp", "cn=ann,ou=staff", 1}, {"boss", "cn=a,o=b", "cn=b,o=a", 1},
		{"active", "true", "TRUE", 0}, {"active", "false", "TRUE", -1}, {"active", "True", "fAlse", 1},
	} {
		if got, e := schema.Compare(staff(), x.name, x.a, x.b); e != api.OK || got != x.want {
			t.Errorf("Compare of %s %q, %q = %d, %d", x.name, x.a, x.b, got, int(e))
		}
	}
	for _, x := range []struct {
		name, a, b string
		want       api.Errno
	}{
		{"mail", "a", "b", api.ErrNone}, {"", "a", "b", api.ErrNone}, {"mail", "", "", api.ErrNone},
		{"age", "x", "7", api.ErrType}, {"age", "7", "x", api.ErrType}, {"age", "x", "x", api.ErrType}, {"cn", "", "a", api.ErrType}, {"cn", "b", "a ", api.ErrType},
		{"cn", " a", " a", api.ErrType}, {"code-1", "\n", "\n", api.ErrType}, {"boss", "cn=b", "ann", api.ErrType}, {"boss", "ann", "ann", api.ErrType}, {"active", "true", "1", api.ErrType}, {"active", "1", "1", api.ErrType},
	} {
		if got, e := schema.Compare(staff(), x.name, x.a, x.b); e != x.want || got != 0 {
			t.Errorf("Compare of %s %q, %q = %d, %d", x.name, x.a, x.b, got, int(e))
		}
	}
}

// samples are values of each syntax, some of them with the same normal form.
var samples = map[api.Syntax][]string{
	api.TextSyntax:  {"a", "A", "a b", "A  b", "a!", "ab", "B", "10", "9", "~", "-1"},
	api.ExactSyntax: {"a", "A", "a b", "A  b", "a  b", "ab", "B", "10", "9", "007", "7"},
	api.IntSyntax:   {"0", "-0", "7", "007", "10", "9", "-1", "-01", "-10", "-9", "9223372036854775807", "-9223372036854775808", "09223372036854775807"},
	api.NameSyntax:  {"o=a", "O = A", "o=b", "cn=x,o=a", "CN=X, O=A", "cn=a,o=b", "cn=a", `o=a\,b`, "o=a b", "o=A  B", "ou=a", "a=z,cn=x,o=a"},
	api.BoolSyntax:  {"TRUE", "true", "True", "FALSE", "false", "fALSE"},
}

// P7.7
func TestCompareIsOrder(t *testing.T) {
	s := staff()
	compare := func(attr, a, b string) int {
		n, e := schema.Compare(s, attr, a, b)
		if e != api.OK {
			t.Fatalf("Compare of %s %q, %q: %d", attr, a, b, int(e))
		}
		return n
	}
	for syntax, l := range samples {
		attr := bySyntax[syntax]
		for _, a := range l {
			for _, b := range l {
				ab := compare(attr, a, b)
				if ab != -compare(attr, b, a) {
					t.Errorf("Compare of %s %q, %q is not opposite", attr, a, b)
				}
				x, _ := schema.Normal(s, attr, a)
				y, _ := schema.Normal(s, attr, b)
				if (ab == 0) != (x == y) {
					t.Errorf("Compare of %s %q, %q = %d, but the normal forms are %q, %q", attr, a, b, ab, x, y)
				}
				for _, c := range l {
					if ab <= 0 && compare(attr, b, c) <= 0 && compare(attr, a, c) > 0 {
						t.Errorf("Compare of %s is not transitive: %q, %q, %q", attr, a, b, c)
					}
				}
			}
		}
	}
}

// P7.7
func TestNormalOfNormal(t *testing.T) {
	s := staff()
	for syntax, attr := range bySyntax {
		for _, v := range append(values(), samples[syntax]...) {
			n, e := schema.Normal(s, attr, v)
			if e != api.OK {
				continue
			}
			if again, e := schema.Normal(s, attr, n); e != api.OK || again != n {
				t.Fatalf("Normal of %s %q = %q, which becomes %q, %d", attr, v, n, again, int(e))
			}
			if c, e := schema.Compare(s, attr, v, n); e != api.OK || c != 0 {
				t.Fatalf("Compare of %s %q with its normal form = %d, %d", attr, v, c, int(e))
			}
		}
	}
}
