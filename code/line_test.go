package code_test

import (
	"fmt"
	"math/rand"
	"strings"
	"testing"

	"meridian/api"
	"meridian/calendar"
	"meridian/code"
)

// withSum is a text with the sum of its characters behind it.
func withSum(text string) string {
	sum := 0
	for _, b := range []byte(text) {
		sum += int(b)
	}
	return fmt.Sprintf("%s%02d", text, sum%97)
}

// slowLine is a line by the chapter's words.
func slowLine(x code.Told, second int) string {
	d := x.Date
	return withSum(fmt.Sprintf("%04d-%02d-%02d %02d:%02d:%02d %s %03d %05d ",
		d.Year, d.Month, d.Day, d.Hour, d.Minute, d.Second, map[int]string{-1: "-", 0: "0", 1: "+"}[x.Leap], x.Offset, second))
}

// ofDay is which second of its day a date is.
func ofDay(d calendar.Date) int { return 3600*d.Hour + 60*d.Minute + d.Second }

// P10.4, P10.7: the lines of seconds, and what is read of them.
func TestLines(t *testing.T) {
	r := rand.New(rand.NewSource(8))
	for _, x := range tables(r) {
		for _, p := range pairs(r, x) {
			for _, n := range []int{0, r.Intn(59), p.this.length - 1} {
				told := p.this.told
				told.Date.Second = n
				s, e := code.Line(x, p.this.first+n)
				if told.Offset < 0 {
					if s != "" || e != api.ErrCode {
						t.Fatal(x, p, n, s, e)
					}
					continue
				}
				if s != slowLine(told, ofDay(told.Date)) || len(s) != 34 || e != api.OK {
					t.Fatal(x, p, n, s, e)
				}
				if y, second, e := code.ReadLine(s); y != told || second != ofDay(told.Date) || e != api.OK {
					t.Fatal(x, p, n, s, y, second, e)
				}
			}
		}
	}
}

// P10.4, example 2.
func TestLineExample(t *testing.T) {
	if s, e := code.Line(example(), 15724800); !strings.HasPrefix(s, "1972-06-30 23:59:60 + 010 86400 ") || s != withSum(s[:32]) || e != api.OK {
		t.Error(s, e)
	}
	for second, want := range map[int]string{
		0: "1972-01-01 00:00:00 0 010 00000 ", 86399: "1972-01-01 23:59:59 0 010 86399 ", 15724801: "1972-07-01 00:00:00 0 011 00000 ", 15724799: "1972-06-30 23:59:59 + 010 86399 ",
	} {
		if s, e := code.Line(example(), second); s != withSum(want) || e != api.OK {
			t.Error(second, s, e)
		}
	}
	if s, e := code.Line(short(), 5); s != withSum("1972-01-01 00:00:05 - 010 00005 ") || e != api.OK {
		t.Error(s, e)
	}
}

// P10.4: lines of dates that no table need have.
func TestReadLine(t *testing.T) {
	r := rand.New(rand.NewSource(9))
	for range 5000 {
		y, m, d := midnight(first + r.Intn(last-first+1)).Date()
		x := code.Told{Date: date(y, int(m), d, r.Intn(24), r.Intn(60), r.Intn(61)), Leap: r.Intn(3) - 1, Offset: r.Intn(256)}
		if z, second, e := code.ReadLine(slowLine(x, ofDay(x.Date))); z != x || second != ofDay(x.Date) || e != api.OK {
			t.Fatal(x, z, second, e)
		}
	}
}

// P10.4, R1: the errors of ReadLine, in their order.
func TestReadLineErrors(t *testing.T) {
	for text, want := range map[string]api.Errno{
		"1972-01-01 00:00:00 0 000 00000 ": api.OK, "2099-12-31 23:59:60 - 255 86400 ": api.OK, "2096-02-29 12:00:60 + 001 43260 ": api.OK,
		"1972-01-01 00:00:00 0 256 00000 ": api.ErrCode, "1972-01-01 00:00:00 0 999 00000 ": api.ErrCode,
		"1971-12-31 00:00:00 0 010 00000 ": api.ErrDate, "2100-01-01 00:00:00 0 010 00000 ": api.ErrDate, "0000-00-00 00:00:00 0 010 00000 ": api.ErrDate,
		"1973-02-29 00:00:00 0 010 00000 ": api.ErrDate, "1973-00-10 00:00:00 0 010 00000 ": api.ErrDate, "1973-13-10 00:00:00 0 010 00000 ": api.ErrDate, "1973-04-31 00:00:00 0 010 00000 ": api.ErrDate,
		"1972-01-01 24:00:00 0 010 86400 ": api.ErrDate, "1972-01-01 23:60:00 0 010 86400 ": api.ErrDate, "1972-01-01 00:60:00 0 010 03600 ": api.ErrDate, "1972-01-01 23:58:61 0 010 86341 ": api.ErrDate, "1972-01-01 00:00:61 0 010 00061 ": api.ErrDate,
		"1972-01-01 00:00:01 0 010 00000 ": api.ErrDate, "1972-01-01 00:00:00 0 010 00001 ": api.ErrDate, "1972-01-01 01:01:01 0 010 03660 ": api.ErrDate, "1972-01-01 01:01:01 0 010 03661 ": api.OK, "1972-01-01 00:00:00 0 010 86400 ": api.ErrDate,
		"1972-01-01 00:00:01 0 256 00000 ": api.ErrDate, "1971-12-31 00:00:00 0 999 00000 ": api.ErrDate,
		"1971-12-31 00:00:00 x 999 00000 ": api.ErrForm, "1972-01-01 00:00:00 1 010 00000 ": api.ErrForm, "1972-01-01 00:00:00   010 00000 ": api.ErrForm, "1972-01-01 00:00:00 -0 10 00000 ": api.ErrForm,
		"1972-01-01 00:00:00  010 00000 ": api.ErrForm, "1972-01-01 00:00:00 0+ 010 00000 ": api.ErrForm, "1972-01-01 00:00:00 -0+ 010 00000 ": api.ErrForm,
		"1972-01-01 00:00:00 0 10 00000 ": api.ErrForm, "1972-01-01 00:00:00 0 0010 00000 ": api.ErrForm, "1972-01-01 00:00:00 0 -10 00000 ": api.ErrForm, "1972-01-01 00:00:00 0 +10 00000 ": api.ErrForm, "1972-01-01 00:00:00 0 01a 00000 ": api.ErrForm, "1972-01-01 00:00:00 0 01/ 00000 ": api.ErrForm, "1972-01-01 00:00:00 0 :10 00000 ": api.ErrForm,
		"1972-01-01 00:00:00 0 010 0000 ": api.ErrForm, "1972-01-01 00:00:00 0 010 000000 ": api.ErrForm, "1972-01-01 00:00:00 0 010 -0000 ": api.ErrForm, "1972-01-01 00:00:00 0 010 0_000 ": api.ErrForm, "1972-01-01 00:00:00 0 010 0x000 ": api.ErrForm,
		"1972-01-01 00:00:00 0 010 00000": api.ErrForm, "1972-01-01 00:00:00 0 010 00000  ": api.ErrForm, " 1972-01-01 00:00:00 0 010 00000 ": api.ErrForm, "1972-01-01 00:00:00 0 010 00000 0 ": api.ErrForm,
		"1972-01-01T00:00:00 0 010 00000 ": api.ErrForm, "1972-01-01  0:00:00 0 010 00000 ": api.ErrForm, "1972-01-0100:00:00 0 010 00000 ": api.ErrForm, "1972-01-01 00:00:00\t0 010 00000 ": api.ErrForm, "72-01-01 00:00:00 0 010 00000 ": api.ErrForm, "1972-1-01 000:00:00 0 010 00000 ": api.ErrForm,
		"": api.ErrForm, "     ": api.ErrForm, "1972-01-01 00:00:00 0 010 ": api.ErrForm,
	} {
		x, second, e := code.ReadLine(withSum(text))
		if e != want || e != api.OK && (x != code.Told{} || second != 0) {
			t.Error(text, x, second, e)
		}
		for _, other := range []string{text, withSum(text)[1:], withSum(text) + " ", withSum(text) + "0", " " + withSum(text), strings.TrimSpace(text)} {
			if x, second, e := code.ReadLine(other); (x != code.Told{}) || second != 0 || e != api.ErrForm {
				t.Error(other, x, second, e)
			}
		}
	}
	for _, text := range []string{strings.Repeat(" ", 34), strings.Repeat("0", 34), strings.Repeat(" ", api.MaxText), strings.Repeat("1", api.MaxText)} {
		if x, second, e := code.ReadLine(text); (x != code.Told{}) || second != 0 || e != api.ErrForm {
			t.Error(len(text), x, second, e)
		}
	}
}

// P10.4: just one text of two digits is the sum.
func TestSums(t *testing.T) {
	r := rand.New(rand.NewSource(10))
	seen := map[string]bool{}
	for range 2000 {
		s := must[string](t)(code.Line(example(), r.Intn(total(example()))))
		seen[s[32:]] = true
		for n := range 100 {
			other := fmt.Sprintf("%s%02d", s[:32], n)
			if _, _, e := code.ReadLine(other); (e == api.OK) != (other == s) || e != api.OK && e != api.ErrForm {
				t.Fatal(s, other, e)
			}
			other += " " + other[32:]
			if x, second, e := code.ReadLine(other); (x != code.Told{}) || second != 0 || e != api.ErrForm {
				t.Fatal(s, other, x, second, e)
			}
		}
	}
	if len(seen) < 40 || seen["97"] || seen["98"] || seen["99"] {
		t.Error(seen)
	}
	// 23 digits that add up to 22, two of -, two of : and five spaces: 1492
	if s, e := code.Line(example(), 0); s[32:] != "37" || e != api.OK {
		t.Error(s, e)
	}
}

// P10.4: a line with a changed character is not read, or tells something else.
func TestChangedLines(t *testing.T) {
	r := rand.New(rand.NewSource(11))
	for range 200 {
		s := must[string](t)(code.Line(example(), r.Intn(total(example()))))
		for i := range s {
			b := []byte(s)
			b[i] = byte(r.Intn(256))
			if string(b) == s {
				continue
			}
			if x, second, e := code.ReadLine(string(b)); (x != code.Told{}) || second != 0 || e != api.ErrForm {
				if (int(b[i])-int(s[i]))%97 != 0 {
					t.Fatal(s, string(b), x, second, e)
				}
			}
		}
	}
}

// P10.4, R1: the errors of Line, in their order.
func TestLineErrors(t *testing.T) {
	below := table(0, 41408, leap(41347, -1), leap(41376, 1))
	low, high := 86400*31-1, 86400*60 // the offset is below 0 between them
	for second, want := range map[int]api.Errno{
		-1: api.ErrRange, total(below): api.ErrRange, total(below) - 1: api.OK, low - 1: api.OK, low: api.ErrCode, high - 1: api.ErrCode, high: api.OK,
	} {
		if s, e := code.Line(below, second); e != want || e != api.OK && s != "" {
			t.Error(second, s, e)
		}
	}
}
