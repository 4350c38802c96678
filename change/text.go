package change

import (
	"strings"

	"identity/api"
	"identity/codec"
	"identity/csn"
)

// opWords are the words of the kinds, in the order of their numbers.
var opWords = [5]string{"create", "remove", "rename", "put", "drop"}

// commonWords is the number of words that every line has: those of Op, CSN and ID.
const commonWords = 3

// Line returns the text form of a change record.
func Line(c api.Change) (string, api.Errno) {
	if e := Check(c); e != api.OK {
		return "", e
	}
	return line(c), api.OK
}

// line returns the line of a record that has no error.
func line(c api.Change) string {
	words := []string{opWords[c.Op-api.CreateEntry], csn.Format(c.CSN), c.ID}
	for _, f := range fields(&c) {
		words = append(words, codec.Escape(*f))
	}
	return strings.Join(words, " ")
}

// Parse returns the change record with a text form.
func Parse(s string) (api.Change, api.Errno) {
	c, possible := readWords(strings.Split(s, " "))
	if !possible || Check(c) != api.OK {
		return api.Change{}, api.ErrForm
	}
	return c, api.OK
}

// readWords returns the record of the words of a line, and whether they are possible.
func readWords(words []string) (api.Change, bool) {
	if len(words) < commonWords {
		return api.Change{}, false
	}
	number, e := csn.Parse(words[1])
	c := api.Change{CSN: number, Op: readOp(words[0]), ID: words[2]}
	places := fields(&c)
	if e != api.OK || len(words) != commonWords+len(places) {
		return api.Change{}, false
	}
	for i, f := range places {
		*f, e = codec.Unescape(words[commonWords+i])
		if e != api.OK {
			return api.Change{}, false
		}
	}
	return c, true
}

// readOp returns the kind with a word, or an unknown one.
func readOp(word string) api.ChangeOp {
	for i, w := range opWords {
		if w == word {
			return api.CreateEntry + api.ChangeOp(i)
		}
	}
	return 0
}

// Text returns the text form of a list of change records.
func Text(l []api.Change) (string, api.Errno) {
	if len(l) > api.MaxChanges {
		return "", api.ErrLimit
	}
	var b strings.Builder
	for _, c := range l {
		s, e := Line(c)
		if e != api.OK {
			return "", e
		}
		b.WriteString(s)
		b.WriteByte('\n')
	}
	return b.String(), api.OK
}

// Read returns the change records of a text form, or the line with the first error.
func Read(s string) ([]api.Change, int, api.Errno) {
	var l []api.Change
	for n := 1; s != ""; n++ {
		first, rest, ended := strings.Cut(s, "\n")
		if n > api.MaxChanges {
			return nil, n, api.ErrLimit
		}
		if !ended {
			return nil, n, api.ErrEnd
		}
		c, e := Parse(first)
		if e != api.OK {
			return nil, n, e
		}
		l = append(l, c)
		s = rest
	}
	return l, 0, api.OK
}
