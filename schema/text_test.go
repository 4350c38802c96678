package schema_test

import (
	"regexp"
	"slices"
	"strings"
	"testing"

	"identity/api"
	"identity/schema"
)

// staffText is the text form of staff.
const staffText = "type class text\ntype cn text\ntype age int single\ntype boss name\ntype active bool\ntype Code-1 exact\n" +
	"class Top - CLASS -\nclass person top cn,CN Code-1,age,cn\nclass employee PERSON active,Class boss,AGE\nclass robot - - cn\n"

// sized returns a schema whose text form has n bytes, from 4087 to 4127.
func sized(n int) api.Schema {
	s := typesOf(classType)
	left := n - len("type class text\n")
	for i := range 57 {
		name := "t" + strings.Repeat("-", i) + strings.Repeat("x", 59-i)
		s.Types = append(s.Types, api.AttrType{Name: name, Syntax: api.TextSyntax})
		left -= len("type  text\n") + len(name)
	}
	last := strings.Repeat("z", left-len("type  text\n"))
	s.Types = append(s.Types, api.AttrType{Name: last, Syntax: api.TextSyntax})
	return s
}

// P7.6
func TestText(t *testing.T) {
	all := []api.AttrType{{Name: "a", Syntax: api.TextSyntax, Single: true}, {Name: "b", Syntax: api.ExactSyntax, Single: true}, {Name: "c", Syntax: api.IntSyntax}, {Name: "D", Syntax: api.NameSyntax, Single: true}, {Name: "e", Syntax: api.BoolSyntax, Single: true}}
	for _, x := range []struct {
		s    api.Schema
		want string
	}{
		{typesOf(classType), "type class text\n"},
		{staff(), staffText},
		{with(person), "type class text\ntype cn text\ntype age int single\nclass person - cn age\n"},
		{typesOf(append(all, classType)...), "type a text single\ntype b exact single\ntype c int\ntype D name single\ntype e bool single\ntype class text\n"},
		{api.Schema{Types: []api.AttrType{classType}, Classes: []api.Class{{Name: "x", Must: []string{}, May: []string{}}}}, "type class text\nclass x - - -\n"},
	} {
		before := copied(x.s)
		if got, e := schema.Text(x.s); e != api.OK || got != x.want {
			t.Errorf("Text(%v) = %q, %d", x.s, got, int(e))
		}
		if !same(x.s, before) {
			t.Errorf("Text changed %v", before)
		}
	}
}

// P7.6
func TestTextErrors(t *testing.T) {
	for _, s := range append(rejected(), api.Schema{}, typesOf(classType, classType), typesOf(bossType), typesOf(classType, api.AttrType{Name: "x", Syntax: 6}), with(api.Class{Name: "a b"})) {
		want := schema.Check(s)
		if got, e := schema.Text(s); e != want || got != "" || e == api.OK {
			t.Errorf("Text(%v) = %q, %d, not %d", s, got, int(e), int(want))
		}
	}
	s := sized(api.MaxText)
	text, e := schema.Text(s)
	if e != api.OK || len(text) != api.MaxText {
		t.Fatalf("Text of %d bytes: %d", len(text), int(e))
	}
	if back, line, e := schema.Parse(text); e != api.OK || line != 0 || !same(back, s) {
		t.Errorf("Parse of %d bytes: line %d, %d", len(text), line, int(e))
	}
	for _, n := range []int{api.MaxText + 1, api.MaxText + 20} {
		if got, e := schema.Text(sized(n)); e != api.ErrLimit || got != "" {
			t.Errorf("Text of %d bytes = %q, %d", n, got, int(e))
		}
	}
	// The error of Check comes before that of the length.
	long := sized(api.MaxText + 1)
	long.Classes = []api.Class{{Name: "1"}}
	if _, e := schema.Text(long); e != api.ErrName {
		t.Errorf("Text of a long schema with an error: %d", int(e))
	}
}

// P7.6
func TestParse(t *testing.T) {
	for text, want := range map[string]api.Schema{
		staffText:           staff(),
		"type class text\n": typesOf(classType),
		"type class text\ntype cn text\ntype age int single\nclass person - cn age\n":          with(person),
		"type class text\nclass x - class,class CLASS\nclass Y X - -\n":                        {Types: []api.AttrType{classType}, Classes: []api.Class{{Name: "x", Must: []string{"class", "class"}, May: []string{"CLASS"}}, {Name: "Y", Super: "X"}}},
		"type type text\ntype class text\ntype single int single\nclass class - type single\n": {Types: []api.AttrType{{Name: "type", Syntax: api.TextSyntax}, classType, {Name: "single", Syntax: api.IntSyntax, Single: true}}, Classes: []api.Class{{Name: "class", Must: []string{"type"}, May: []string{"single"}}}},
	} {
		if got, line, e := schema.Parse(text); e != api.OK || line != 0 || !same(got, want) {
			t.Errorf("Parse(%q) = %v, %d, %d", text, got, line, int(e))
		}
	}
}

// P7.6: forms that are refused, and in which line.
func TestParseForm(t *testing.T) {
	long := strings.Repeat("n", api.MaxName+1)
	const head = "type class text\ntype cn text\n"
	lines := []string{
		"", " ", "type", "class", "type cn", "type  text", "type cn text ", " type cn text", "type cn  text", "type cn text  single", "type cn text single ", "type cn text single single", "type cn text multi", "type cn text Single", "type cn text -",
		"Type cn text", "TYPE cn text", "types cn text", "type cn Text", "type cn string", "type cn 1", "type cn ", "type - text", "type 1 text", "type c_n text", "type " + long + " text", "type cn\ttext", "type cn text\r", "type cn,sn text",
		"class a", "class a -", "class a - -", "class a - - - -", "class a - - - ", " class a - - -", "class  a - - -", "class a  - - -", "class a  - -", "class a -  -", "class a - - ", "class  - - -", "Class a - - -", "class a - - -\r",
		"class - - - -", "class 1 - - -", "class " + long + " - - -", "class a 1 - -", "class a -- - -", "class a b,c - -", "class a " + long + " - -",
		"class a - , -", "class a - cn, -", "class a - ,cn -", "class a - cn,,cn -", "class a - cn,- -", "class a - -,cn -", "class a - 1 -", "class a - c_n -", "class a - " + long + " -",
		"class a - - ,", "class a - - cn,", "class a - - ,cn", "class a - - cn,-", "class a - - 1", "class a - - " + long, "class a - -- -", "cn text", "#", "\x00", "type cn text\x00",
	}
	refused := func(text string, want int) {
		t.Helper()
		if got, line, e := schema.Parse(text); e != api.ErrForm || line != want || !same(got, api.Schema{}) {
			t.Errorf("Parse(%q) = %v, line %d, %d, not line %d", text, got, line, int(e), want)
		}
	}
	for _, l := range lines {
		refused(l+"\n", 1)
		refused(head+l+"\n", 3)
		refused(head+l+"\n"+l+"\n", 3)
		refused(head+"class x - - -\n"+l+"\nclass y - - -\n", 4)
	}
	for _, l := range []string{"type sn text", "class y - - -", "x", " "} {
		refused(l, 1)
		refused(head+l, 3)
		refused(head+"class x - - -\n"+l, 4)
	}
	refused(head+"class x - - -\ntype sn text\n", 4)
	refused("class x - - -\ntype class text\n", 2)
	refused(head+"class x - - -\nclass y - - -\ntype sn text single\nx\n", 5)
	// The form of all lines comes before the errors of the schema.
	refused("type cn text\ntype cn text\nx\n", 3)
	refused("type cn int\n\n", 2)
	refused(head+"class a b - -\nclass b a mail -\nx\n", 5)
}

// P7.6: the errors of Check.
func TestParseErrors(t *testing.T) {
	types := strings.Builder{}
	for _, a := range numberedTypes(api.MaxTypes) {
		types.WriteString("type " + a.Name + " text\n")
	}
	classes := strings.Repeat("class a - - -\n", api.MaxClasses+1)
	for text, want := range map[string]api.Errno{
		"":                                   api.ErrNone,
		"type age int\n":                     api.ErrNone,
		"class a - - -\n":                    api.ErrNone,
		"type class int\n":                   api.ErrType,
		"type Class name single\n":           api.ErrType,
		"type class text\ntype CLASS text\n": api.ErrTwice,
		"type class text\nclass a - - -\nclass A - - -\n":   api.ErrTwice,
		"type class text\nclass a b - -\nclass b - - -\n":   api.ErrNone,
		"type class text\nclass a - cn -\n":                 api.ErrNone,
		"type class text\nclass a - - cn\n":                 api.ErrNone,
		types.String():                                      api.ErrLimit,
		"type class text\n" + classes:                       api.ErrLimit,
		"type class text\nclass a - " + names(65) + " -\n":  api.ErrLimit,
		"type class text\nclass a - - " + names(65) + "\n":  api.ErrLimit,
		"type class text\nclass a b " + names(65) + " -\n":  api.ErrNone,
		strings.Repeat("type a int\n", api.MaxTypes+1):      api.ErrLimit,
		strings.Repeat("x", api.MaxText+1):                  api.ErrLimit,
		strings.Repeat("\n", api.MaxText+1):                 api.ErrLimit,
		strings.Repeat("type cn text\n", api.MaxText/13+1):  api.ErrLimit,
		strings.Repeat("type c text single\n", 1<<16) + "x": api.ErrLimit,
	} {
		if got, line, e := schema.Parse(text); e != want || line != 0 || !same(got, api.Schema{}) {
			t.Errorf("Parse(%.60q) = %v, line %d, %d, not %d", text, got, line, int(e), int(want))
		}
	}
	// With one byte less, the form matters.
	if _, line, e := schema.Parse(strings.Repeat("x", api.MaxText)); e != api.ErrForm || line != 1 {
		t.Errorf("Parse of %d bytes: line %d, %d", api.MaxText, line, int(e))
	}
	if _, line, e := schema.Parse(strings.Repeat("type c int\n", 300) + "x"); e != api.ErrForm || line != 301 {
		t.Errorf("Parse of 301 lines: line %d, %d", line, int(e))
	}
}

// names returns a list of n times the name class.
func names(n int) string {
	return strings.Join(slices.Repeat([]string{"class"}, n), ",")
}

// The lines of types and of classes.
var (
	nameForm  = `[A-Za-z][A-Za-z0-9-]{0,63}`
	listForm  = `(-|` + nameForm + `(,` + nameForm + `)*)`
	typeForm  = regexp.MustCompile(`\Atype ` + nameForm + ` (text|exact|int|name|bool)( single)?\n\z`)
	classForm = regexp.MustCompile(`\Aclass ` + nameForm + ` (-|` + nameForm + `) ` + listForm + ` ` + listForm + `\n\z`)
)

// badLine is the definition of the line of ErrForm, or 0.
func badLine(text string) int {
	classes := false
	for i, l := range strings.SplitAfter(text, "\n") {
		isClass := classForm.MatchString(l)
		classes = classes || isClass
		if l != "" && !isClass && (classes || !typeForm.MatchString(l)) {
			return i + 1
		}
	}
	return 0
}

// variants returns the beginnings of a text, the texts in which one byte is left
// out, replaced or doubled or another one inserted, and those in which a line is
// doubled or two lines are exchanged.
func variants(text string) []string {
	all := []string{text}
	for i := range len(text) {
		all = append(all, text[:i]+text[i+1:], text[:i]+text[i:i+1]+text[i:], text[:i])
		for _, c := range []byte("aC1-, \n\x00") {
			all = append(all, text[:i]+string(rune(c))+text[i:], text[:i]+string(rune(c))+text[i+1:])
		}
	}
	lines := strings.SplitAfter(text, "\n")
	for i := range lines {
		all = append(all, strings.Join(slices.Insert(slices.Clone(lines), i, lines[i]), ""))
		for j := range i {
			l := slices.Clone(lines)
			l[i], l[j] = l[j], l[i]
			all = append(all, strings.Join(l, ""))
		}
	}
	return all
}

// P7.6, P7.8: what is read has this text, and everything else is an error in the right line.
func TestParseDefinition(t *testing.T) {
	found := map[api.Errno]int{}
	for _, text := range append(variants(staffText), variants("type class text\ntype a int single\nclass c - a -\n")...) {
		s, line, e := schema.Parse(text)
		found[e]++
		if want := badLine(text); line != want || (e == api.ErrForm) != (want > 0) {
			t.Fatalf("Parse(%q): line %d, %d, not line %d", text, line, int(e), want)
		}
		if e != api.OK {
			if !same(s, api.Schema{}) {
				t.Fatalf("Parse(%q) = %v with the error %d", text, s, int(e))
			}
			continue
		}
		if back, e := schema.Text(s); e != api.OK || back != text {
			t.Fatalf("Parse(%q) has the text %q, %d", text, back, int(e))
		}
	}
	for _, e := range []api.Errno{api.OK, api.ErrForm, api.ErrNone, api.ErrTwice} {
		if found[e] == 0 {
			t.Errorf("no text with the result %d", int(e))
		}
	}
}

// P7.8
func TestRoundTrip(t *testing.T) {
	for _, s := range append(smallSchemas(), staff(), typesOf(classType), with(numberedClasses(api.MaxClasses)...), typesOf(numberedTypes(api.MaxTypes-1)...)) {
		text, e := schema.Text(s)
		if e != api.OK {
			t.Fatalf("Text(%v): %d", s, int(e))
		}
		back, line, e := schema.Parse(text)
		if e != api.OK || line != 0 || !same(back, s) {
			t.Fatalf("Parse(%q) = %v, %d, %d", text, back, line, int(e))
		}
	}
}
