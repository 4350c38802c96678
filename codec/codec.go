// Package codec is layer 2: see shared/doc/02-codec.md.
package codec

import (
	"strconv"
	"strings"

	"identity/api"
)

// hexDigits are the digits of an escaped byte.
const hexDigits = "0123456789ABCDEF"

// Escape returns s without the separators of the text forms.
func Escape(s string) string {
	var b strings.Builder
	for i := range len(s) {
		if plain(s[i]) {
			b.WriteByte(s[i])
			continue
		}
		b.WriteByte('%')
		b.WriteByte(hexDigits[s[i]>>4])
		b.WriteByte(hexDigits[s[i]&15])
	}
	return b.String()
}

// plain reports whether c is written as it is in an escaped form.
func plain(c byte) bool {
	switch c {
	case '%', '|', ',', '=', ';', '"':
		return false
	}
	return 33 <= c && c <= 126
}

// Unescape returns the string that Escape encoded.
func Unescape(s string) (string, api.Errno) {
	var b strings.Builder
	for i := 0; i < len(s); i++ {
		c := s[i]
		if c == '%' {
			d, ok := escaped(s[i+1:])
			if !ok {
				return "", api.ErrForm
			}
			c = d
			i += 2
		} else if !plain(c) {
			return "", api.ErrForm
		}
		b.WriteByte(c)
	}
	return b.String(), api.OK
}

// escaped returns the byte whose two hexadecimal digits s begins with. A plain
// byte is refused, since Escape writes it as it is.
func escaped(s string) (byte, bool) {
	if len(s) < 2 {
		return 0, false
	}
	high := strings.IndexByte(hexDigits, s[0])
	low := strings.IndexByte(hexDigits, s[1])
	if high < 0 || low < 0 {
		return 0, false
	}
	c := byte(high<<4 | low)
	if plain(c) {
		return 0, false
	}
	return c, true
}

// The forms of the two lists that escaped strings alone do not tell apart from
// others.
const (
	emptyList = "-"
	dashList  = "%2D"
)

// Join returns the text form of a list of strings.
func Join(l []string) string {
	if len(l) == 0 {
		return emptyList
	}
	if len(l) == 1 && l[0] == "-" {
		return dashList
	}
	var b strings.Builder
	for i := range len(l) {
		if i > 0 {
			b.WriteByte('|')
		}
		b.WriteString(Escape(l[i]))
	}
	return b.String()
}

// Split returns the strings of a text form.
func Split(s string) ([]string, api.Errno) {
	switch s {
	case emptyList:
		return nil, api.OK
	case dashList:
		return []string{"-"}, api.OK
	}
	var l []string
	for more := true; more; {
		var piece string
		piece, s, more = strings.Cut(s, "|")
		t, e := Unescape(piece)
		if e != api.OK {
			return nil, e
		}
		l = append(l, t)
	}
	return l, api.OK
}

// Pairs returns the text form of pairs.
func Pairs(l []api.Pair) string {
	var b strings.Builder
	for i := range len(l) {
		if i > 0 {
			b.WriteByte('|')
		}
		b.WriteString(Escape(l[i].Key))
		b.WriteByte('=')
		b.WriteString(Escape(l[i].Value))
	}
	return b.String()
}

// ReadPairs returns the pairs of a text form.
func ReadPairs(s string) ([]api.Pair, api.Errno) {
	var l []api.Pair
	for more := s != ""; more; {
		var piece string
		piece, s, more = strings.Cut(s, "|")
		p, e := readPair(piece)
		if e != api.OK {
			return nil, e
		}
		l = append(l, p)
	}
	return l, api.OK
}

// readPair returns the pair with the text form s.
func readPair(s string) (api.Pair, api.Errno) {
	left, right, found := strings.Cut(s, "=")
	if !found {
		return api.Pair{}, api.ErrForm
	}
	key, e := Unescape(left)
	if e != api.OK {
		return api.Pair{}, e
	}
	value, e := Unescape(right)
	if e != api.OK {
		return api.Pair{}, e
	}
	return api.Pair{Key: key, Value: value}, api.OK
}

// Int returns the decimal form of a number.
func Int(n int) string {
	return strconv.Itoa(n)
}

// ReadInt returns the number with a decimal form.
func ReadInt(s string) (int, api.Errno) {
	if !decimal(s) {
		return 0, api.ErrForm
	}
	n, err := strconv.Atoi(s)
	if err != nil {
		// The form was examined before: only the range is left as a reason.
		return 0, api.ErrRange
	}
	return n, api.OK
}

// decimal reports whether s is the decimal form of an integer of any size.
func decimal(s string) bool {
	if s == "0" {
		return true
	}
	digits := strings.TrimPrefix(s, "-")
	if digits == "" || digits[0] == '0' {
		return false
	}
	for _, r := range digits {
		if r < '0' || r > '9' {
			return false
		}
	}
	return true
}

// sixBits are the characters of base64 for 0 to 63.
const sixBits = "ABCDEFGHIJKLMNOPQRSTUVWXYZabcdefghijklmnopqrstuvwxyz0123456789-_"

// Base64 returns the URL-safe base64 form of bytes, without padding.
func Base64(s string) string {
	var b strings.Builder
	bits, count := 0, 0
	for i := range len(s) {
		bits = bits<<8 | int(s[i])
		count += 8
		for count >= 6 {
			count -= 6
			b.WriteByte(sixBits[bits>>count])
			bits &= 1<<count - 1
		}
	}
	if count > 0 {
		b.WriteByte(sixBits[bits<<(6-count)])
	}
	return b.String()
}

// ReadBase64 returns the bytes of a base64 form.
func ReadBase64(s string) (string, api.Errno) {
	if len(s)%4 == 1 {
		return "", api.ErrForm
	}
	var b strings.Builder
	bits, count := 0, 0
	for _, r := range s {
		d := strings.IndexRune(sixBits, r)
		if d < 0 {
			return "", api.ErrForm
		}
		bits = bits<<6 | d
		count += 6
		if count >= 8 {
			count -= 8
			b.WriteByte(byte(bits >> count))
			bits &= 1<<count - 1
		}
	}
	if bits != 0 {
		return "", api.ErrForm
	}
	return b.String(), api.OK
}
