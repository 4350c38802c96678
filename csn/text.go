package csn

import (
	"strconv"
	"strings"

	"identity/api"
)

// The numbers of digits of the parts of a text form.
const (
	timeDigits    = 11
	seqDigits     = 8
	replicaDigits = 1
)

// hexDigits are the digits of a text form.
const hexDigits = "0123456789abcdef"

// Format returns the text form of a change sequence number.
func Format(c api.CSN) string {
	if !Valid(c) {
		return ""
	}
	return digits(c.Time, timeDigits) + "-" + digits(c.Seq, seqDigits) + "-" + digits(c.Replica, replicaDigits)
}

// digits returns the hexadecimal form of n with at least width digits.
func digits(n, width int) string {
	s := strconv.FormatInt(int64(n), 16)
	return strings.Repeat("0", width-len(s)) + s
}

// Parse returns the change sequence number with a text form.
func Parse(s string) (api.CSN, api.Errno) {
	first, rest, _ := strings.Cut(s, "-")
	second, third, _ := strings.Cut(rest, "-")
	time, timeRead := readDigits(first, timeDigits)
	seq, seqRead := readDigits(second, seqDigits)
	replica, replicaRead := readDigits(third, replicaDigits)
	if !timeRead || !seqRead || !replicaRead {
		return api.CSN{}, api.ErrForm
	}
	c := api.CSN{Time: time, Seq: seq, Replica: replica}
	if !Valid(c) {
		return api.CSN{}, api.ErrRange
	}
	return c, api.OK
}

// readDigits returns the number with a hexadecimal form of width digits, and
// whether s is one.
func readDigits(s string, width int) (int, bool) {
	if len(s) != width {
		return 0, false
	}
	n := 0
	for i := range len(s) {
		d := strings.IndexByte(hexDigits, s[i])
		if d < 0 {
			return 0, false
		}
		n = n<<4 | d
	}
	return n, true
}
