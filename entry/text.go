package entry

import (
	"strings"

	"identity/api"
	"identity/attrs"
	"identity/codec"
)

// nameWord begins the line of the name.
const nameWord = "entry"

// Text returns the text form of an entry.
func Text(e api.Entry) (string, api.Errno) {
	if bad := Check(e); bad != api.OK {
		return "", bad
	}
	var b strings.Builder
	b.WriteString(line(nameWord, e.Name))
	for _, a := range attrs.Sorted(e.Attrs) {
		for _, v := range a.Values {
			b.WriteString(line(a.Name, v))
		}
	}
	return b.String(), api.OK
}

// line returns the line with a word and an escaped string.
func line(word, s string) string {
	return word + " " + codec.Escape(s) + "\n"
}

// Parse returns the entry with a text form.
func Parse(s string) (api.Entry, api.Errno) {
	e := read(s)
	// There are no other texts than those that Text returns.
	if t, bad := Text(e); bad != api.OK || t != s {
		return api.Entry{}, api.ErrForm
	}
	return e, api.OK
}

// read returns the entry with a text form, and some entry for any other text.
func read(s string) api.Entry {
	first, rest, _ := strings.Cut(s, "\n")
	_, entryName := readLine(first)
	var l []api.Attr
	for rest != "" {
		var next string
		next, rest, _ = strings.Cut(rest, "\n")
		word, value := readLine(next)
		l = append(l, api.Attr{Name: word, Values: []string{value}})
	}
	return api.Entry{Name: entryName, Attrs: attrs.Sorted(l)}
}

// readLine returns the word of a line, and the string that is escaped after it.
func readLine(s string) (word, unescaped string) {
	word, escaped, _ := strings.Cut(s, " ")
	unescaped, _ = codec.Unescape(escaped)
	return word, unescaped
}
