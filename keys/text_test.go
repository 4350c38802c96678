package keys_test

import (
	"fmt"
	"math/rand"
	"slices"
	"strings"
	"testing"

	"identity/api"
	"identity/codec"
	"identity/keys"
)

// modelText is the text form by the definition of the chapter.
func modelText(l []api.Key) string {
	s := ""
	for _, k := range l {
		s += fmt.Sprintf("%s %s %d %d %d %d\n", k.ID, codec.Escape(k.Secret), k.Sign.From, k.Sign.Until, k.Accept.From, k.Accept.Until)
	}
	return s
}

// P24.5
func TestText(t *testing.T) {
	for _, x := range []struct {
		l    []api.Key
		want string
	}{
		{nil, ""},
		{[]api.Key{}, ""},
		{[]api.Key{{ID: "k1", Secret: "a b", Sign: window(1, 5), Accept: window(0, 9)}}, "k1 a%20b 1 5 0 9\n"},
		{[]api.Key{{ID: "Z:._-9", Secret: "%|,=;\"~!", Sign: window(7, 7), Accept: window(7, 8)}}, "Z:._-9 %25%7C%2C%3D%3B%22~! 7 7 7 8\n"},
		{[]api.Key{{ID: "-", Secret: "-", Sign: window(0, api.MaxTime), Accept: window(0, api.MaxTime)}}, "- - 0 1099511627776 0 1099511627776\n"},
		{[]api.Key{{ID: "b", Secret: "s", Sign: window(3, 4), Accept: window(2, 5)}, {ID: "a", Secret: "s", Sign: window(3, 3), Accept: window(0, 5)}}, "b s 3 4 2 5\na s 3 3 0 5\n"},
	} {
		if got, e := keys.Text(x.l); got != x.want || e != api.OK {
			t.Errorf("Text of %v = %q, %d, not %q", x.l, got, int(e), x.want)
		}
		if got, n, e := keys.Parse(x.want); !slices.Equal(got, x.l) || n != 0 || e != api.OK {
			t.Errorf("Parse of %q = %v, %d, %d, not %v", x.want, got, n, int(e), x.l)
		}
	}
}

// long returns a ring whose text form has n bytes, from 4000 to 4300.
func long(n int) []api.Key {
	l := ring(15)
	for i := range l {
		l[i].Secret = bytes(api.MaxValue)
	}
	left := n - len(modelText(l))
	for i := range l {
		// An escaped byte is two bytes longer than a plain one.
		for at := 1; at < api.MaxValue-1 && left > 200; at++ {
			l[i].Secret = l[i].Secret[:at] + " " + l[i].Secret[at+1:]
			left -= 2
		}
	}
	last := key("last", window(1, 5), window(0, 9))
	last.Secret = "s"
	last.Secret = bytes(left - len(modelText([]api.Key{last})) + 1)
	return append(l, last)
}

// P24.5: the limit of the text form.
func TestTextLimit(t *testing.T) {
	for n := api.MaxText - 3; n <= api.MaxText+3; n++ {
		l := long(n)
		s := modelText(l)
		if len(s) != n || keys.Check(l) != api.OK {
			t.Fatalf("%d bytes, not %d: %v", len(s), n, l)
		}
		got, e := keys.Text(l)
		read, line, readError := keys.Parse(s)
		if n > api.MaxText {
			if got != "" || e != api.ErrLimit || len(read) != 0 || line != 0 || readError != api.ErrLimit {
				t.Errorf("%d bytes: Text = %d, Parse = %d, %d", n, int(e), line, int(readError))
			}
			continue
		}
		if got != s || e != api.OK || !slices.Equal(read, l) || line != 0 || readError != api.OK {
			t.Errorf("%d bytes: Text = %d, Parse = %d, %d", n, int(e), line, int(readError))
		}
	}
}

// P24.5: Text returns the error of Check before the one of the limit.
func TestTextErrors(t *testing.T) {
	tooLong := long(api.MaxText + 1)
	tooLong[15].ID = tooLong[0].ID
	wrong := ring(3)
	wrong[1].Accept = window(2, 9)
	for _, x := range []struct {
		l    []api.Key
		want api.Errno
	}{
		{tooLong, api.ErrTwice},
		{wrong, api.ErrArg},
		{ring(api.MaxKeys + 1), api.ErrLimit},
		{[]api.Key{{}}, api.ErrName},
		{[]api.Key{{ID: "k", Secret: "s "}}, api.ErrForm},
	} {
		if got, e := keys.Text(x.l); got != "" || e != x.want {
			t.Errorf("Text of %v = %q, %d, not %d", x.l, got, int(e), int(x.want))
		}
	}
}

// tooBig is the least number that is no int.
const tooBig = "9223372036854775808"

// P24.5: the errors of a line in their order, in the first line and after others.
func TestParseErrors(t *testing.T) {
	for s, want := range map[string]api.Errno{
		"\n":                               api.ErrForm,
		" \n":                              api.ErrForm,
		"k":                                api.ErrForm,
		"k\n":                              api.ErrForm,
		"k s 1 5 0\n":                      api.ErrForm,
		"k s 1 5 0 9":                      api.ErrForm,
		"k s 1 5 0 9 \n":                   api.ErrForm,
		"k s 1 5 0 9 9\n":                  api.ErrForm,
		" k s 1 5 0 9\n":                   api.ErrForm,
		"k  s 1 5 0 9\n":                   api.ErrForm,
		"k s 1  5 0 9\n":                   api.ErrForm,
		"k s 1 5 0  9\n":                   api.ErrForm,
		"k s 1 5 0 \n":                     api.ErrForm,
		"k\ts 1 5 0 9\n":                   api.ErrForm,
		"k s 1 5 0 9\r\n":                  api.ErrForm,
		"k a b 1 5 0 9\n":                  api.ErrForm,
		"k s -1 5 0 9\n":                   api.ErrArg,
		"k s +1 5 0 9\n":                   api.ErrForm,
		"k s 01 5 0 9\n":                   api.ErrForm,
		"k s 1 05 0 9\n":                   api.ErrForm,
		"k s 1 5 -0 9\n":                   api.ErrForm,
		"k s 1 5 0 9.\n":                   api.ErrForm,
		"k s x 5 0 9\n":                    api.ErrForm,
		"k %41 1 5 0 9\n":                  api.ErrForm,
		"k %7c 1 5 0 9\n":                  api.ErrForm,
		"k a% 1 5 0 9\n":                   api.ErrForm,
		"k a,b 1 5 0 9\n":                  api.ErrForm,
		"k é 1 5 0 9\n":                    api.ErrForm,
		"k s " + tooBig + " 5 0 9\n":       api.ErrRange,
		"k s 1 " + tooBig + " 0 9\n":       api.ErrRange,
		"k s 1 5 -9" + tooBig + " 9\n":     api.ErrRange,
		"k s 1 5 0 " + tooBig + "\n":       api.ErrRange,
		"k s 1 5 0 9223372036854775807\n":  api.ErrArg,
		"k s 1 5 -9223372036854775808 9\n": api.ErrArg,
		// All errors of the form come before that of the range.
		"k s " + tooBig + " 5 0 09\n":             api.ErrForm,
		"k s " + tooBig + " x 0 9\n":              api.ErrForm,
		"k s 01 5 0 " + tooBig + "\n":             api.ErrForm,
		"k s " + tooBig + " 5 x " + tooBig + "\n": api.ErrForm,
		"k %41 " + tooBig + " 5 0 9\n":            api.ErrForm,
		"k s " + tooBig + " 5 0 9":                api.ErrForm,
		"k s " + tooBig + " 5 0\n":                api.ErrForm,
		// Those of reading come before those of Check.
		"%20 s 01 5 0 9\n":                          api.ErrForm,
		" s " + tooBig + " 5 0 9\n":                 api.ErrRange,
		" %41 1 5 0 9\n":                            api.ErrForm,
		" s 1 5 0 9\n":                              api.ErrName,
		"%20 s 1 5 0 9\n":                           api.ErrName,
		"k,l %20 5 1 0 9\n":                         api.ErrName,
		bytes(api.MaxName+1) + " s 1 5 0 9\n":       api.ErrName,
		"k  1 5 0 9\n":                              api.ErrForm,
		"k %20 1 5 0 9\n":                           api.ErrForm,
		"k s%0A 5 1 0 9\n":                          api.ErrForm,
		"k " + bytes(api.MaxValue+1) + " 1 5 0 9\n": api.ErrForm,
		"k s 5 1 0 9\n":                             api.ErrArg,
		"k s 1 5 2 9\n":                             api.ErrArg,
		"k s 1 5 0 4\n":                             api.ErrArg,
		"k s 0 0 0 0\n":                             api.ErrArg,
		"k s 1 5 0 1099511627777\n":                 api.ErrArg,
	} {
		for _, lines := range []int{0, 1, 3, 15} {
			for _, after := range []string{"", "x", "\n"} {
				if after != "" && !strings.HasSuffix(s, "\n") {
					continue
				}
				text := modelText(ring(lines)) + s + after
				if got, n, e := keys.Parse(text); len(got) != 0 || n != lines+1 || e != want {
					t.Errorf("Parse of %q = %v, %d, %d, not %d, %d", text, got, n, int(e), lines+1, int(want))
				}
			}
		}
	}
}

// P24.5: errors that depend on the lines before.
func TestParseRing(t *testing.T) {
	full, more := modelText(ring(api.MaxKeys)), modelText(ring(api.MaxKeys+1))
	if got, n, e := keys.Parse(full); !slices.Equal(got, ring(api.MaxKeys)) || n != 0 || e != api.OK {
		t.Errorf("Parse of a full ring = %v, %d, %d", got, n, int(e))
	}
	for _, x := range []struct {
		s    string
		n    int
		want api.Errno
	}{
		{"k s 1 5 0 9\nk r 2 3 0 9\n", 2, api.ErrTwice},
		{"k s 1 5 0 9\nm r 2 3 0 9\nk r 9 3 0 9\n", 3, api.ErrTwice},
		{"k s 1 5 0 9\nk r 2 3 0 9", 2, api.ErrForm},
		{"k s 1 5 0 9\nk  2 3 0 9\n", 2, api.ErrForm},
		{"k s 5 1 0 9\nk\n", 1, api.ErrArg},
		{"k s 1 5 0 9\n\nk s 1 5 0 9\n", 2, api.ErrForm},
		{more, 17, api.ErrLimit},
		{full + "x", 17, api.ErrForm},
		{full + "k s 01 5 0 9\n", 17, api.ErrForm},
		{full + "k s " + tooBig + " 5 0 9\n", 17, api.ErrRange},
		{full + " s 1 5 0 9\n", 17, api.ErrLimit},
		{full + "ka s 1 5 0 9\n", 17, api.ErrLimit},
		{more + "x", 17, api.ErrLimit},
		{strings.Repeat("\n", api.MaxText), 1, api.ErrForm},
		{strings.Repeat("\n", api.MaxText+1), 0, api.ErrLimit},
		{"k s 1 5 0 9\n" + strings.Repeat("\n", api.MaxText), 0, api.ErrLimit},
	} {
		if got, n, e := keys.Parse(x.s); len(got) != 0 || n != x.n || e != x.want {
			t.Errorf("Parse of %q = %v, %d, %d, not %d, %d", x.s, got, n, int(e), x.n, int(x.want))
		}
	}
}

// P24.5: Parse inverts Text.
func TestParseInvertsText(t *testing.T) {
	r := rand.New(rand.NewSource(5))
	for range 5000 {
		l := random(r, 1<<r.Intn(41))
		for i := range l {
			secret := make([]byte, 1+r.Intn(20))
			for at := range secret {
				secret[at] = byte(33 + r.Intn(94))
				if at > 0 && at < len(secret)-1 && r.Intn(4) == 0 {
					secret[at] = ' '
				}
			}
			l[i].Secret = string(secret)
		}
		s, e := keys.Text(l)
		if s != modelText(l) || e != api.OK {
			t.Fatalf("Text of %v = %q, %d", l, s, int(e))
		}
		if got, n, e := keys.Parse(s); !slices.Equal(got, l) || n != 0 || e != api.OK {
			t.Fatalf("Parse of %q = %v, %d, %d, not %v", s, got, n, int(e), l)
		}
	}
}

// P24.5: Text inverts Parse, for what edits of a text leave readable.
func TestTextInvertsParse(t *testing.T) {
	const text = "k1 a%20b 1 5 0 9\nk:2 s 12 17 10 80\n"
	const edits = "\n 0123589%-+aAké\x00"
	readable := 0
	try := func(s string) {
		got, n, e := keys.Parse(s)
		if e != api.OK {
			if len(got) != 0 || n < 1 || n > strings.Count(s, "\n")+1 {
				t.Errorf("Parse of %q = %v, %d, %d", s, got, n, int(e))
			}
			return
		}
		readable++
		if back, e := keys.Text(got); back != s || n != 0 || e != api.OK {
			t.Errorf("Text of Parse of %q = %q, %d", s, back, int(e))
		}
	}
	for at := range len(text) {
		try(text[:at])
		try(text[at:])
		try(text[:at] + text[at+1:])
		for i := range len(edits) {
			try(text[:at] + edits[i:i+1] + text[at:])
			try(text[:at] + edits[i:i+1] + text[at+1:])
			for to := at + 1; to < len(text); to++ {
				try(text[:at] + edits[i:i+1] + text[at+1:to] + edits[i:i+1] + text[to+1:])
			}
		}
	}
	if readable < 500 {
		t.Errorf("%d readable texts", readable)
	}
}
