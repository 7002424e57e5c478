package calendar

import (
	"strconv"
	"strings"

	"meridian/api"
)

// pattern is a text of a date, with 0 for each digit.
const pattern = "0000-00-00 00:00:00"

// Format returns the text of a date.
func Format(d Date) string {
	return digits(d.Year, 4) + "-" + digits(d.Month, 2) + "-" + digits(d.Day, 2) + " " +
		digits(d.Hour, 2) + ":" + digits(d.Minute, 2) + ":" + digits(d.Second, 2)
}

// Parse returns the date of a text.
func Parse(text string) (d Date, e api.Errno) {
	defer func() {
		if recover() != nil {
			d, e = Date{}, api.ErrForm
		}
	}()
	return read(text), api.OK
}

// digits are those of n, at least count of them, with a - in front if n is below 0.
func digits(n, count int) string {
	s, below := strings.CutPrefix(strconv.Itoa(n), "-")
	s = strings.Repeat("0", max(0, count-len(s))) + s
	if below {
		return "-" + s
	}
	return s
}

// read reads a date; a text that has not the form is a panic.
func read(text string) Date {
	if len(text) != len(pattern) {
		panic(api.ErrForm)
	}
	for i := range len(pattern) {
		if !fits(text[i], pattern[i]) {
			panic(api.ErrForm)
		}
	}
	part := func(from, to int) int {
		n, _ := strconv.Atoi(text[from:to])
		return n
	}
	return Date{part(0, 4), part(5, 7), part(8, 10), part(11, 13), part(14, 16), part(17, 19)}
}

// fits reports whether c can stand where the pattern has p.
func fits(c, p byte) bool {
	if p == '0' {
		return '0' <= c && c <= '9'
	}
	return c == p
}
