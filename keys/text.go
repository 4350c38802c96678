package keys

import (
	"strings"

	"identity/api"
	"identity/codec"
)

// The places of the parts of a line.
const (
	idPart = iota
	secretPart
	boundsPart // the first one of the numbers
)

// parts is the number of parts of a line.
const parts = 6

// bounds returns the bounds of the windows of a key in the order of its line.
func bounds(k *api.Key) []*int {
	return []*int{&k.Sign.From, &k.Sign.Until, &k.Accept.From, &k.Accept.Until}
}

// Text returns the text form of a key ring.
func Text(l []api.Key) (string, api.Errno) {
	if e := Check(l); e != api.OK {
		return "", e
	}
	var b strings.Builder
	for _, k := range l {
		b.WriteString(line(k))
	}
	if b.Len() > api.MaxText {
		return "", api.ErrLimit
	}
	return b.String(), api.OK
}

// line returns the line of a key.
func line(k api.Key) string {
	words := []string{k.ID, codec.Escape(k.Secret)}
	for _, n := range bounds(&k) {
		words = append(words, codec.Int(*n))
	}
	return strings.Join(words, " ") + "\n"
}

// Parse returns the key ring with a text form, or the line with the first error.
func Parse(s string) ([]api.Key, int, api.Errno) {
	if len(s) > api.MaxText {
		return nil, 0, api.ErrLimit
	}
	var l []api.Key
	for n := 1; s != ""; n++ {
		first, rest, ended := strings.Cut(s, "\n")
		if !ended {
			return nil, n, api.ErrForm
		}
		k, e := readKey(first)
		if e != api.OK {
			return nil, n, e
		}
		l = append(l, k)
		if e := Check(l); e != api.OK {
			return nil, n, e
		}
		s = rest
	}
	return l, 0, api.OK
}

// readKey returns the key of a line without its line feed, or the error of reading it.
func readKey(s string) (api.Key, api.Errno) {
	words := strings.Split(s, " ")
	if len(words) != parts {
		return api.Key{}, api.ErrForm
	}
	secret, e := codec.Unescape(words[secretPart])
	if e != api.OK {
		return api.Key{}, e
	}
	k := api.Key{ID: words[idPart], Secret: secret}
	if e := readBounds(&k, words[boundsPart:]); e != api.OK {
		return api.Key{}, e
	}
	return k, api.OK
}

// readBounds sets the bounds of the windows of a key. It reads them all, since
// an error of the form of a later one comes before one of the range.
func readBounds(k *api.Key, words []string) api.Errno {
	worst := api.OK
	for i, place := range bounds(k) {
		n, e := codec.ReadInt(words[i])
		if e != api.OK && worst != api.ErrForm {
			worst = e
		}
		*place = n
	}
	return worst
}
