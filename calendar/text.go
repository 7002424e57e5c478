package calendar

import (
	"strconv"

	"meridian/api"
	"meridian/number"
)

// pattern is a text of a date, with 0 for each digit.
const pattern = "0000-00-00 00:00:00"

// Format returns the text of a date.
func Format(d Date) string {
	return number.Digits(d.Year, 4) + "-" + number.Digits(d.Month, 2) + "-" + number.Digits(d.Day, 2) + " " +
		number.Digits(d.Hour, 2) + ":" + number.Digits(d.Minute, 2) + ":" + number.Digits(d.Second, 2)
}

// Parse returns the date of a text.
func Parse(text string) (d Date, e api.Errno) {
	defer func() {
		if recover() != nil {
			d, e = Date{}, api.ErrForm
		}
	}()
	return read(text), api.OK
}

// read reads a date; a text that has not the form is a panic.
func read(text string) Date {
	if len(text) != len(pattern) {
		panic(api.ErrForm)
	}
	for i := range len(pattern) {
		if !fits(text[i], pattern[i]) {
			panic(api.ErrForm)
		}
	}
	part := func(from, to int) int {
		n, _ := strconv.Atoi(text[from:to])
		return n
	}
	return Date{part(0, 4), part(5, 7), part(8, 10), part(11, 13), part(14, 16), part(17, 19)}
}

// fits reports whether c can stand where the pattern has p.
func fits(c, p byte) bool {
	if p == '0' {
		return '0' <= c && c <= '9'
	}
	return c == p
}
