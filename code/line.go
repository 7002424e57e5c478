package code

import (
	"strconv"
	"strings"

	"meridian/api"
	"meridian/calendar"
	"meridian/number"
)

const (
	// signs has the signs of the Leaps -1, 0 and 1.
	signs   = "-0+"
	lineSum = 97

	offsetDigits = 3
	secondDigits = 5
	sumDigits    = 2
)

// Line returns the line of a second.
func Line(t calendar.Table, second int) (string, api.Errno) {
	m, e := minuteOf(t, second)
	if e != api.OK {
		return "", e
	}
	if !isCoded(m.Offset) {
		return "", api.ErrCode
	}
	d := m.at(second).Date
	text := calendar.Format(d) + " " + signs[m.Leap+1:m.Leap+2] + " " +
		number.Digits(m.Offset, offsetDigits) + " " + number.Digits(secondOfDay(d), secondDigits) + " "
	return text + sumOf(text), api.OK
}

// ReadLine returns what a line tells.
func ReadLine(text string) (x Told, second int, e api.Errno) {
	defer func() {
		if recover() != nil {
			x, second, e = Told{}, 0, api.ErrForm
		}
	}()
	x, second = read(text)
	if e = wrong(x, second); e != api.OK {
		return Told{}, 0, e
	}
	return x, second, api.OK
}

// sumOf is the sum that stands behind a text.
func sumOf(text string) string {
	sum := 0
	for i := range len(text) {
		sum += int(text[i])
	}
	return number.Digits(sum%lineSum, sumDigits)
}

// read reads a line; a text that has not the form is a panic.
func read(text string) (Told, int) {
	words := strings.Split(text, " ")
	need(len(words) == 6)
	d, e := calendar.Parse(words[0] + " " + words[1])
	need(e == api.OK)
	need(len(words[2]) == 1 && strings.Contains(signs, words[2]))
	x := Told{d, strings.Index(signs, words[2]) - 1, digits(words[3], offsetDigits)}
	second := digits(words[4], secondDigits)
	need(words[5] == sumOf(strings.TrimSuffix(text, words[5])))
	return x, second
}

// need ends in a panic where something that is needed is not there.
func need(is bool) {
	if !is {
		panic(api.ErrForm)
	}
}

// digits reads a number with this many digits.
func digits(text string, count int) int {
	need(len(text) == count)
	for i := range count {
		need('0' <= text[i] && text[i] <= '9')
	}
	n, _ := strconv.Atoi(text)
	return n
}

// wrong is the error of what a line tells.
func wrong(x Told, second int) api.Errno {
	switch {
	case !isTime(x.Date) || x.Date.Second > 60 || second != secondOfDay(x.Date):
		return api.ErrDate
	case !isCoded(x.Offset):
		return api.ErrCode
	}
	return api.OK
}
