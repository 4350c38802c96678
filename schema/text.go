package schema

import (
	"strings"

	"identity/api"
	"identity/fold"
)

// The words of the text form.
const (
	typeWord   = "type"
	classWord  = "class"
	singleWord = "single"
	noneWord   = "-" // for no superclass, and for no attributes
)

// syntaxWords are the words of the syntaxes, in the order of their numbers.
var syntaxWords = [5]string{"text", "exact", "int", "name", "bool"}

// Text returns the text form of a schema.
func Text(s api.Schema) (string, api.Errno) {
	if e := Check(s); e != api.OK {
		return "", e
	}
	var b strings.Builder
	for _, t := range s.Types {
		b.WriteString(typeLine(t))
	}
	for _, c := range s.Classes {
		b.WriteString(classLine(c))
	}
	if b.Len() > api.MaxText {
		return "", api.ErrLimit
	}
	return b.String(), api.OK
}

// typeLine returns the line of a type.
func typeLine(t api.AttrType) string {
	words := []string{typeWord, t.Name, syntaxWords[t.Syntax-api.TextSyntax]}
	if t.Single {
		words = append(words, singleWord)
	}
	return strings.Join(words, " ") + "\n"
}

// classLine returns the line of a class.
func classLine(c api.Class) string {
	super := c.Super
	if super == "" {
		super = noneWord
	}
	words := []string{classWord, c.Name, super, listWord(c.Must), listWord(c.May)}
	return strings.Join(words, " ") + "\n"
}

// listWord returns the word of a list of names.
func listWord(names []string) string {
	if len(names) == 0 {
		return noneWord
	}
	return strings.Join(names, ",")
}

// Parse returns the schema with a text form, or the line with the first error.
func Parse(s string) (api.Schema, int, api.Errno) {
	if len(s) > api.MaxText {
		return api.Schema{}, 0, api.ErrLimit
	}
	var read api.Schema
	for n := 1; s != ""; n++ {
		line, rest, ended := strings.Cut(s, "\n")
		if !ended || !addLine(&read, line) {
			return api.Schema{}, n, api.ErrForm
		}
		s = rest
	}
	if e := Check(read); e != api.OK {
		return api.Schema{}, 0, e
	}
	return read, 0, api.OK
}

// addLine adds to s the type or class of a line, and reports whether it has one.
func addLine(s *api.Schema, line string) bool {
	words := strings.Split(line, " ")
	switch words[0] {
	case typeWord:
		t, ok := readType(words[1:])
		s.Types = append(s.Types, t)
		return ok && len(s.Classes) == 0
	case classWord:
		c, ok := readClass(words[1:])
		s.Classes = append(s.Classes, c)
		return ok
	}
	return false
}

// readType returns the type with these words after the first one.
func readType(words []string) (api.AttrType, bool) {
	single := len(words) == 3 && words[2] == singleWord
	if len(words) != 2 && !single {
		return api.AttrType{}, false
	}
	syntax, ok := readSyntax(words[1])
	if !ok || !fold.Name(words[0]) {
		return api.AttrType{}, false
	}
	return api.AttrType{Name: words[0], Syntax: syntax, Single: single}, true
}

// readSyntax returns the syntax with a word.
func readSyntax(word string) (api.Syntax, bool) {
	for i, w := range syntaxWords {
		if w == word {
			return api.TextSyntax + api.Syntax(i), true
		}
	}
	return 0, false
}

// readClass returns the class with these words after the first one.
func readClass(words []string) (api.Class, bool) {
	if len(words) != 4 || !fold.Name(words[0]) {
		return api.Class{}, false
	}
	super, superOK := readSuper(words[1])
	must, mustOK := readList(words[2])
	may, mayOK := readList(words[3])
	if !superOK || !mustOK || !mayOK {
		return api.Class{}, false
	}
	return api.Class{Name: words[0], Super: super, Must: must, May: may}, true
}

// readSuper returns the name of the superclass of a word.
func readSuper(word string) (string, bool) {
	if word == noneWord {
		return "", true
	}
	return word, fold.Name(word)
}

// readList returns the names of a word.
func readList(word string) ([]string, bool) {
	if word == noneWord {
		return nil, true
	}
	names := strings.Split(word, ",")
	for _, n := range names {
		if !fold.Name(n) {
			return nil, false
		}
	}
	return names, true
}
