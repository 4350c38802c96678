package clock

import (
	"sort"
	"strings"

	"identity/api"
	"identity/codec"
)

// The lengths of the parts of a day, in seconds.
const (
	minute = 60
	hour   = 60 * minute
	day    = 24 * hour
)

// firstYear is the year of the instant 0.
const firstYear = 1970

// february is the month whose length depends on the year.
const february = 2

// monthDays are the lengths of the months of a year that is not a leap year.
var monthDays = [12]int{31, 28, 31, 30, 31, 30, 31, 31, 30, 31, 30, 31}

// Format returns the calendar form of an instant.
func Format(t int) string {
	t = limited(t)
	year, month, date := fromDays(t / day)
	seconds := t % day
	return digits(year, 4) + "-" + digits(month, 2) + "-" + digits(date, 2) +
		"T" + digits(seconds/hour, 2) + ":" + digits(seconds%hour/minute, 2) + ":" + digits(seconds%minute, 2) + "Z"
}

// digits returns the decimal form of n with at least width digits.
func digits(n, width int) string {
	s := codec.Int(n)
	return strings.Repeat("0", max(width-len(s), 0)) + s
}

// Parse returns the instant with a calendar form.
func Parse(s string) (int, api.Errno) {
	p, ok := parts(s)
	if !ok {
		return 0, api.ErrForm
	}
	year, month, date := p[0], p[1], p[2]
	hours, minutes, seconds := p[3], p[4], p[5]
	if month < 1 || month > len(monthDays) || date < 1 || date > daysOfMonth(year, month) {
		return 0, api.ErrRange
	}
	if hours > 23 || minutes > 59 || seconds > 59 {
		return 0, api.ErrRange
	}
	t := toDays(year, month, date)*day + hours*hour + minutes*minute + seconds
	if !Valid(t) {
		return 0, api.ErrRange
	}
	return t, api.OK
}

// The calendar forms, with 0 in place of each digit.
const (
	shortForm = "0000-00-00T00:00:00Z"
	longForm  = "0" + shortForm
)

// parts returns the six numbers of a calendar form.
func parts(s string) ([6]int, bool) {
	form := shortForm
	if len(s) == len(longForm) && s[0] != '0' {
		form = longForm
	}
	if len(s) != len(form) {
		return [6]int{}, false
	}
	var p [6]int
	part := 0
	for i, r := range s {
		switch {
		case form[i] != '0':
			if r != rune(form[i]) {
				return [6]int{}, false
			}
			part++
		case '0' <= r && r <= '9':
			p[part] = p[part]*10 + int(r-'0')
		default:
			return [6]int{}, false
		}
	}
	return p, true
}

// isLeap reports whether a year is a leap year.
func isLeap(year int) bool {
	return year%4 == 0 && year%100 != 0 || year%400 == 0
}

// daysOfMonth returns the number of days of a month.
func daysOfMonth(year, month int) int {
	if month == february && isLeap(year) {
		return monthDays[month-1] + 1
	}
	return monthDays[month-1]
}

// daysBefore returns the number of days from the beginning of the year 0 to
// that of a year. The year 0 is a leap year, so that each count is rounded up.
func daysBefore(year int) int {
	return 365*year + (year+3)/4 - (year+99)/100 + (year+399)/400
}

// toDays returns the number of days from the instant 0 to a date.
func toDays(year, month, date int) int {
	n := daysBefore(year) - daysBefore(firstYear)
	for m := 1; m < month; m++ {
		n += daysOfMonth(year, m)
	}
	return n + date - 1
}

// fromDays returns the date that is n days after the instant 0.
func fromDays(n int) (year, month, date int) {
	n += daysBefore(firstYear)
	// A year has at least 365 days: the one that is sought is at most n/365.
	year = sort.Search(n/365, func(y int) bool { return daysBefore(y+1) > n })
	n -= daysBefore(year)
	month = 1
	for n >= daysOfMonth(year, month) {
		n -= daysOfMonth(year, month)
		month++
	}
	return year, month, n + 1
}
