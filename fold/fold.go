// Package fold is layer 1: see shared/doc/01-fold.md.
package fold

import (
	"strings"

	"identity/api"
)

// Lower returns s with the letters A to Z replaced by a to z.
func Lower(s string) string {
	b := []byte(s)
	for i := range len(b) {
		if 'A' <= b[i] && b[i] <= 'Z' {
			b[i] += 'a' - 'A'
		}
	}
	return string(b)
}

// Fold returns the normal form of a string that is compared without case.
func Fold(s string) string {
	return squeeze(Lower(Trim(s)))
}

// squeeze returns s with each run of spaces replaced by one space.
func squeeze(s string) string {
	b := make([]byte, 0, len(s))
	for i := range len(s) {
		if s[i] == ' ' && i > 0 && s[i-1] == ' ' {
			continue
		}
		b = append(b, s[i])
	}
	return string(b)
}

// Trim returns s without spaces at both ends.
func Trim(s string) string {
	return strings.Trim(s, " ")
}

// Clean reports whether s is a value: printable ASCII of a limited length.
func Clean(s string) bool {
	if len(s) < 1 || len(s) > api.MaxValue {
		return false
	}
	for i := range len(s) {
		if s[i] < 32 || s[i] > 126 {
			return false
		}
	}
	return s[0] != ' ' && s[len(s)-1] != ' '
}

// Name reports whether s is a name.
func Name(s string) bool {
	if len(s) < 1 || len(s) > api.MaxName || !letter(s[0]) {
		return false
	}
	for i := range len(s) {
		if !letter(s[i]) && !digit(s[i]) && s[i] != '-' {
			return false
		}
	}
	return true
}

// Word reports whether s is a word.
func Word(s string) bool {
	if len(s) < 1 || len(s) > api.MaxName {
		return false
	}
	for i := range len(s) {
		if !wordByte(s[i]) {
			return false
		}
	}
	return true
}

func letter(c byte) bool {
	return 'A' <= c && c <= 'Z' || 'a' <= c && c <= 'z'
}

func digit(c byte) bool {
	return '0' <= c && c <= '9'
}

func wordByte(c byte) bool {
	switch c {
	case '-', '_', '.', ':':
		return true
	}
	return letter(c) || digit(c)
}

// Compare compares two strings by their normal forms.
func Compare(a, b string) int {
	if n := strings.Compare(Fold(a), Fold(b)); n != 0 {
		return n
	}
	// Different strings with one normal form need an order, too, so that
	// only equal strings compare as 0.
	return strings.Compare(a, b)
}

// Match reports whether s consists of a beginning, parts and an end, without case.
func Match(s string, parts []string) bool {
	if len(parts) < 2 {
		return false
	}
	last := len(parts) - 1
	rest, found := strings.CutPrefix(Fold(s), Lower(parts[0]))
	if !found {
		return false
	}
	// The end is cut off before the parts between are looked for, so that
	// none of them can overlap it.
	rest, found = strings.CutSuffix(rest, Lower(parts[last]))
	return found && occur(rest, parts[1:last])
}

// occur reports whether the lower-case forms of parts occur in t one after the other.
func occur(t string, parts []string) bool {
	for _, part := range parts {
		_, after, found := strings.Cut(t, Lower(part))
		if !found {
			return false
		}
		t = after
	}
	return true
}
