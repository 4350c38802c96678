package clock

import (
	"fmt"
	"math"
	"testing"
	"time"

	"identity/api"
)

// modelFormat is the calendar form that the standard library calculates.
func modelFormat(t int) string {
	return time.Unix(int64(t), 0).UTC().Format("2006-01-02T15:04:05Z")
}

// P4.5
func TestFormat(t *testing.T) {
	for at, want := range map[int]string{
		0:               "1970-01-01T00:00:00Z",
		1:               "1970-01-01T00:00:01Z",
		59:              "1970-01-01T00:00:59Z",
		60:              "1970-01-01T00:01:00Z",
		3599:            "1970-01-01T00:59:59Z",
		3600:            "1970-01-01T01:00:00Z",
		86399:           "1970-01-01T23:59:59Z",
		86400:           "1970-01-02T00:00:00Z",
		68169600:        "1972-02-29T00:00:00Z",
		951782399:       "2000-02-28T23:59:59Z",
		951782400:       "2000-02-29T00:00:00Z",
		951868800:       "2000-03-01T00:00:00Z",
		978307199:       "2000-12-31T23:59:59Z",
		4107542400:      "2100-03-01T00:00:00Z",
		253402300799:    "9999-12-31T23:59:59Z",
		253402300800:    "10000-01-01T00:00:00Z",
		api.MaxTime:     "36812-02-20T00:36:16Z",
		api.MaxTime + 1: "36812-02-20T00:36:16Z",
		math.MaxInt:     "36812-02-20T00:36:16Z",
		-1:              "1970-01-01T00:00:00Z",
		math.MinInt:     "1970-01-01T00:00:00Z",
	} {
		if got := Format(at); got != want {
			t.Errorf("Format(%d) = %q, not %q", at, got, want)
		}
	}
}

// P4.5
func TestParse(t *testing.T) {
	for s, want := range map[string]int{
		"1970-01-01T00:00:00Z":  0,
		"1970-01-01T23:59:59Z":  86399,
		"1972-02-29T00:00:00Z":  68169600,
		"1972-02-29T00:00:01Z":  68169601,
		"2000-02-29T00:00:00Z":  951782400,
		"2100-03-01T00:00:00Z":  4107542400,
		"9999-12-31T23:59:59Z":  253402300799,
		"10000-01-01T00:00:00Z": 253402300800,
		"36812-02-20T00:36:16Z": api.MaxTime,
	} {
		if got, e := Parse(s); got != want || e != api.OK {
			t.Errorf("Parse(%q) = %d, %d, not %d", s, got, int(e), want)
		}
	}
}

// P4.5
func TestParseForm(t *testing.T) {
	for _, s := range []string{
		"", "Z", "1970", "1970-01-01", "1970-01-01T00:00:00", "1970-01-01T00:00:00z", "1970-01-01t00:00:00Z",
		"1970-1-01T00:00:00Z", "1970-01-1T00:00:00Z", "1970-01-01T0:00:00Z", "1970-01-01T00:0:00Z", "1970-01-01T00:00:0Z",
		"1970-001-01T00:00:00Z", "1970-01-01T00:00:000Z", "1970-01-01T00:00:00ZZ", "1970-01-01T00:00:00Z ", " 1970-01-01T00:00:00Z",
		"1970-01-01T00:00:00Z1970-01-01T00:00:00Z", "12970-01-01T00:00:00Z0", "0001-01-01T00:00:00ZZ",
		"970-01-01T00:00:00Z", "-970-01-01T00:00:00Z", "+1970-01-01T00:00:00Z", "-1970-01-01T00:00:00Z",
		"02000-02-29T00:00:00Z", "00000-01-01T00:00:00Z", "100000-01-01T00:00:00Z", "010000-01-01T00:00:00Z",
		"1970/01/01T00:00:00Z", "1970-01-01 00:00:00Z", "1970-01-01T00-00-00Z", "1970-01-01T00:00:00+", "1970-01-01T00:00:0aZ",
		"1970-01-01T00:00:-1Z", "1970-01-01T00:00:+1Z", "1970-01-01T00:00: 1Z", "197a-01-01T00:00:00Z", "197é-01-01T00:00:00Z", "19é-01-01T00:00:00Z",
		"1970-01-01T00:00:0٣Z", "1970-01-01T00:00:٣Z", "1970-01-01T00:00:00\xff", "\xff970-01-01T00:00:00Z", "0000000000000000000Z", "00000000000000000000", "000000000000000000000",
		// The form is examined before the ranges.
		"1970-13-99T99:99:9Z", "1969-12-31T23:59:59z",
	} {
		if got, e := Parse(s); got != 0 || e != api.ErrForm {
			t.Errorf("Parse(%q) = %d, %d", s, got, int(e))
		}
	}
}

// P4.5: each byte of a form matters.
func TestParseEachByte(t *testing.T) {
	for _, s := range []string{"1972-02-29T12:34:56Z", "12972-02-29T12:34:56Z"} {
		for at := range len(s) {
			for c := range 256 {
				b := []byte(s)
				b[at] = byte(c)
				isDigit := s[at] >= '0' && s[at] <= '9' && c >= '0' && c <= '9'
				formed := byte(c) == s[at] || isDigit && (at > 0 || len(s) == 20 || c != '0')
				if _, e := Parse(string(b)); formed != (e != api.ErrForm) {
					t.Errorf("Parse(%q): %d", b, int(e))
				}
			}
		}
	}
}

// P4.5
func TestParseRange(t *testing.T) {
	for _, s := range []string{
		"1969-12-31T23:59:59Z", "0000-01-01T00:00:00Z", "0000-02-29T00:00:00Z", "0001-01-01T00:00:00Z", "0999-12-31T00:00:00Z",
		"1970-13-01T00:00:00Z", "1970-00-01T00:00:00Z", "1970-99-01T00:00:00Z", "1970-01-00T00:00:00Z", "1970-01-32T00:00:00Z", "1970-04-31T00:00:00Z",
		"2001-02-29T00:00:00Z", "2000-02-30T00:00:00Z", "2100-02-29T00:00:00Z", "1970-02-29T00:00:00Z", "2100-02-30T00:00:00Z",
		"1970-01-01T24:00:00Z", "1970-01-01T00:60:00Z", "1970-01-01T00:00:60Z", "1970-01-01T99:99:99Z", "2016-12-31T23:59:60Z",
		"36812-02-20T00:36:17Z", "36812-02-21T00:00:00Z", "36813-01-01T00:00:00Z", "99999-12-31T23:59:59Z",
		// The ranges are examined part by part, not only as one instant.
		"1969-13-01T00:00:00Z", "1969-12-31T24:00:00Z", "0000-00-00T00:00:00Z", "9999-99-99T99:99:99Z",
	} {
		if got, e := Parse(s); got != 0 || e != api.ErrRange {
			t.Errorf("Parse(%q) = %d, %d", s, got, int(e))
		}
	}
}

// P4.5: each month ends where the standard library says.
func TestParseDays(t *testing.T) {
	for _, year := range []int{1970, 1971, 1972, 1999, 2000, 2001, 2004, 2096, 2100, 2200, 2300, 2400, 9999, 10000, 20000, 30100, 36811} {
		for month := range 15 {
			for date := range 34 {
				s := fmt.Sprintf("%04d-%02d-%02dT01:02:03Z", year, month, date)
				at := time.Date(year, time.Month(month), date, 1, 2, 3, 0, time.UTC)
				want, wantError := int(at.Unix()), api.OK
				if at.Year() != year || int(at.Month()) != month || at.Day() != date {
					want, wantError = 0, api.ErrRange
				}
				if got, e := Parse(s); got != want || e != wantError {
					t.Errorf("Parse(%q) = %d, %d", s, got, int(e))
				}
			}
		}
	}
}

// moments returns instants of all days of the first 900 years, of the last
// years, and of all other years.
func moments() []int {
	var all []int
	for d := range 900 * 366 {
		all = append(all, d*day+d*7919%day)
	}
	for d := range 2000 {
		all = append(all, api.MaxTime-d*day, 253402300800+(d-1000)*day)
	}
	for y := range 12725829 / 365 {
		all = append(all, y*365*day+y*104729%day)
	}
	return append(all, 0, 1, api.MaxTime, api.MaxTime-1, 253402300799)
}

// P4.5, P4.7
func TestCalendar(t *testing.T) {
	for _, at := range moments() {
		at = limit(at, api.MaxTime)
		s := Format(at)
		if want := modelFormat(at); s != want {
			t.Fatalf("Format(%d) = %q, not %q", at, s, want)
		}
		if got, e := Parse(s); got != at || e != api.OK {
			t.Fatalf("Parse(%q) = %d, %d, not %d", s, got, int(e), at)
		}
	}
}

// P4.7
func TestParseInvertsFormatOfLimitedInstants(t *testing.T) {
	for _, at := range instants {
		if got, e := Parse(Format(at)); got != limit(at, api.MaxTime) || e != api.OK {
			t.Errorf("Parse(Format(%d)) = %d, %d", at, got, int(e))
		}
	}
}

// P4.7
func TestLaterIsGreater(t *testing.T) {
	last, lastForm := 0, Format(0)
	for at := 0; at <= api.MaxTime; at += 86399*13 + 7 {
		s := Format(at)
		if at > last && len(s) == len(lastForm) && s <= lastForm {
			t.Fatalf("Format(%d) = %q is not greater than Format(%d) = %q", at, s, last, lastForm)
		}
		last, lastForm = at, s
	}
}
