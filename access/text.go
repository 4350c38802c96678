package access

import (
	"slices"
	"strings"

	"identity/api"
	"identity/codec"
)

// The words of the text form.
const (
	allowWord  = "allow"
	denyWord   = "deny"
	onWord     = "on"
	attrsWord  = "attrs"
	rightsWord = "rights"
	noneWord   = "-" // for the empty target, for no attributes, and for no rights
)

// rightWords are the words of the rights, in the order of their numbers.
var rightWords = [5]string{"read", "search", "write", "add", "delete"}

// Text returns the text form of an access list.
func Text(l []api.Rule) (string, api.Errno) {
	if e := Check(l); e != api.OK {
		return "", e
	}
	var b strings.Builder
	for _, r := range l {
		b.WriteString(ruleLine(r))
	}
	if b.Len() > api.MaxText {
		return "", api.ErrLimit
	}
	return b.String(), api.OK
}

// ruleLine returns the line of a rule that has no error.
func ruleLine(r api.Rule) string {
	effect := denyWord
	if r.Allow {
		effect = allowWord
	}
	target := codec.Escape(r.Target)
	if target == "" {
		target = noneWord
	}
	var rights []string
	for _, right := range r.Rights {
		rights = append(rights, rightWords[right-api.ReadRight])
	}
	words := []string{effect, codec.Escape(r.Subject), onWord, target, attrsWord, listWord(r.Attrs), rightsWord, listWord(rights)}
	return strings.Join(words, " ") + "\n"
}

// listWord returns the word of a list.
func listWord(l []string) string {
	if len(l) == 0 {
		return noneWord
	}
	return strings.Join(l, ",")
}

// Parse returns the access list with a text form, or the line with the first error.
func Parse(s string) ([]api.Rule, int, api.Errno) {
	if len(s) > api.MaxText {
		return nil, 0, api.ErrLimit
	}
	var l []api.Rule
	for n := 1; s != ""; n++ {
		line, rest, ended := strings.Cut(s, "\n")
		r, possible := readRule(line)
		if !ended || !possible {
			return nil, n, api.ErrForm
		}
		l = append(l, r)
		if e := checkLast(l); e != api.OK {
			return nil, n, e
		}
		s = rest
	}
	return l, 0, api.OK
}

// checkLast returns the first error of an access list whose rules before the
// last one have none.
func checkLast(l []api.Rule) api.Errno {
	if len(l) > api.MaxRules {
		return api.ErrLimit
	}
	return checkRule(l[len(l)-1])
}

// readRule returns the rule of a line, and whether the line is possible.
func readRule(line string) (api.Rule, bool) {
	w := strings.Split(line, " ")
	if len(w) != 8 || slices.Contains(w, "") || !framed(w) {
		return api.Rule{}, false
	}
	subject, e := codec.Unescape(w[1])
	target, bad := codec.Unescape(w[3])
	rights, ok := readRights(w[7])
	if e != api.OK || bad != api.OK || !ok {
		return api.Rule{}, false
	}
	if w[3] == noneWord {
		target = ""
	}
	return api.Rule{Allow: w[0] == allowWord, Subject: subject, Target: target, Attrs: readList(w[5]), Rights: rights}, true
}

// framed reports whether those of the eight words of a line that every rule
// has are in their places.
func framed(w []string) bool {
	return (w[0] == allowWord || w[0] == denyWord) && w[2] == onWord && w[4] == attrsWord && w[6] == rightsWord
}

// readList returns the list with a word.
func readList(word string) []string {
	if word == noneWord {
		return nil
	}
	return strings.Split(word, ",")
}

// readRights returns the rights with a word, and whether there are such rights.
func readRights(word string) ([]api.Right, bool) {
	var l []api.Right
	for _, w := range readList(word) {
		right, ok := readRight(w)
		if !ok {
			return nil, false
		}
		l = append(l, right)
	}
	return l, true
}

// readRight returns the right with a word, and whether there is one.
func readRight(word string) (api.Right, bool) {
	for i, w := range rightWords {
		if w == word {
			return api.ReadRight + api.Right(i), true
		}
	}
	return 0, false
}
