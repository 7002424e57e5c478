package code

import (
	"iter"
	"slices"

	"meridian/api"
	"meridian/calendar"
	"meridian/number"
)

const (
	minFrame = 58
	// A frame tells the years of a century by their last two digits.
	firstYear = 1972
	lastYear  = 2071
)

// field is a number in some bits of a frame.
type field struct {
	width  int
	of     func(x Told) int     // the number in a frame that tells x
	say    func(x *Told, n int) // what the number tells comes into x
	parity bool                 // whether a parity follows, of all bits since the one before
}

// tape has the bits that were put on it.
type tape struct{ bits []bool }

// writer writes numbers on its tape, with parities.
type writer struct {
	tape
	odd bool // the parity of all bits of numbers since the one before
}

// Frame returns the frame of a minute.
func Frame(t calendar.Table, second int) ([]bool, api.Errno) {
	m, e := minuteFrom(t, second)
	if e != api.OK {
		return nil, e
	}
	next, e := minuteOf(t, m.end())
	if e != api.OK {
		return nil, e
	}
	return m.frame(next)
}

// Decode returns what a frame tells.
func Decode(frame []bool) (Told, api.Errno) {
	if !number.Within(len(frame), minFrame, MaxFrame) {
		return Told{}, api.ErrCode
	}
	x := said(frame)
	// digits, parities and the weekday are right if x has this frame
	if !isTime(x.Date) || !slices.Equal(x.bits(len(frame)), frame) {
		return Told{}, api.ErrCode
	}
	return x, api.OK
}

// fields are those of a frame, in order, from bit 1 on.
func fields() [13]field {
	minute := func(x *Told) *int { return &x.Date.Minute }
	hour := func(x *Told) *int { return &x.Date.Hour }
	day := func(x *Told) *int { return &x.Date.Day }
	month := func(x *Told) *int { return &x.Date.Month }
	year := func(x *Told) *int { return &x.Date.Year }
	return [...]field{
		{2, func(x Told) int { return leapCode(x.Leap) }, func(x *Told, n int) { x.Leap = leapOf(n) }, true},
		digit(4, minute, 1),
		digit(3, minute, 10).withParity(),
		digit(4, hour, 1),
		digit(2, hour, 10).withParity(),
		digit(4, day, 1),
		digit(2, day, 10),
		{3, weekday, func(*Told, int) {}, false}, // the date tells it, too
		digit(4, month, 1),
		digit(1, month, 10),
		digit(4, year, 1),
		digit(4, year, 10).withParity(),
		{8, func(x Told) int { return x.Offset }, func(x *Told, n int) { x.Offset = n }, true},
	}
}

// digit is the field of the digit with a unit of a number.
func digit(width int, place func(x *Told) *int, unit int) field {
	return field{
		width: width,
		of:    func(x Told) int { return *place(&x) / unit % 10 },
		say:   func(x *Told, n int) { *place(x) += unit * n },
	}
}

func (f field) withParity() field {
	f.parity = true
	return f
}

func weekday(x Told) int {
	day, _ := calendar.Day(x.Date.Year, x.Date.Month, x.Date.Day)
	n, _ := calendar.Weekday(day)
	return n
}

// frame is that of the minute, if next is the one that follows.
func (r run) frame(next run) ([]bool, api.Errno) {
	if !isCoded(next.Offset) || next.Date.Year > lastYear {
		return nil, api.ErrCode
	}
	return next.bits(r.length - 1), api.OK
}

// bits are those of the frame with a length that tells x.
func (x Told) bits(length int) []bool {
	var w writer
	w.put(false)
	for _, f := range fields() {
		w.write(f.of(x), f.width)
		if f.parity {
			w.putParity()
		}
	}
	for len(w.bits) < length {
		w.put(false)
	}
	return w.bits
}

// said is what the fields of a frame tell, right or wrong.
func said(frame []bool) Told {
	var x Told
	at := 1
	for _, f := range fields() {
		f.say(&x, value(frame[at:at+f.width]))
		at += f.width
		if f.parity {
			at++
		}
	}
	x.Date.Year = firstYear + number.Modulo(x.Date.Year-firstYear, 100)
	return x
}

// binary yields the bits of a number, the lowest one first.
func binary(n, width int) iter.Seq[bool] {
	return func(yield func(bool) bool) {
		for i := range width {
			if !yield(n>>i&1 == 1) {
				return
			}
		}
	}
}

// value is the number with some bits.
func value(bits []bool) int {
	n := 0
	for i, bit := range bits {
		if bit {
			n += 1 << i
		}
	}
	return n
}

func (t *tape) put(bit bool) { t.bits = append(t.bits, bit) }

func (w *writer) write(n, width int) {
	for bit := range binary(n, width) {
		w.put(bit)
		w.odd = w.odd != bit
	}
}

func (w *writer) putParity() {
	w.put(w.odd)
	w.odd = false
}
