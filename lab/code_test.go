package lab_test

import (
	"math/rand"
	"slices"
	"testing"

	"meridian/api"
	"meridian/calendar"
	"meridian/code"
	"meridian/lab"
)

// at is a lab at so many seconds after a start, without any orders but ticks.
func at(t *testing.T, table calendar.Table, start, seconds int) *lab.Lab {
	t.Helper()
	s := chapter(0, 0)
	s.Table, s.Start, s.Every = table, start, max(1, seconds)
	if seconds == 0 {
		return run(t, s)
	}
	return run(t, s, enter(1, 1), tick())
}

// P14.4: the last minutes of June 1972, with a second 60.
func TestCodesOfLeap(t *testing.T) {
	table := chapter(0, 0).Table
	for _, x := range []struct {
		start, seconds int
		line           string
		frame          api.Errno
	}{
		{15724680, 0, "1972-06-30 23:58:00 + 010 86280 ", api.OK},
		{15724680, 59, "1972-06-30 23:58:59 + 010 86339 ", api.ErrState},
		{15724680, 60, "1972-06-30 23:59:00 + 010 86340 ", api.OK},
		{15724740, 59, "1972-06-30 23:59:59 + 010 86399 ", api.ErrState},
		{15724740, 60, "1972-06-30 23:59:60 + 010 86400 ", api.ErrState},
		{15724740, 61, "1972-07-01 00:00:00 0 011 00000 ", api.OK},
	} {
		l := at(t, table, x.start, x.seconds)
		if line := must[string](t)(l.Line()); len(line) != 34 || line[:32] != x.line {
			t.Error(x, line)
		}
		frame, e := l.Frame()
		want, _ := code.Frame(table, x.start+x.seconds)
		if e != x.frame || !slices.Equal(frame, want) {
			t.Error(x, frame, e)
		}
		leap, offset, second, nanos, e := code.Unpack(must[[]byte](t)(l.Packet()))
		told, at, f := code.ReadLine(must[string](t)(l.Line()))
		if e != api.OK || f != api.OK || second != x.start+x.seconds || nanos != 0 || leap != told.Leap || offset != told.Offset || at != x.start+x.seconds-181*86400 && told.Leap == 1 {
			t.Error(x, leap, offset, second, nanos, told, at, e, f)
		}
	}
}

// P14.4: seconds that the table does not know, and offsets that no code can tell.
func TestErrorsOfCodes(t *testing.T) {
	table := chapter(0, 0).Table
	total := must[int](t)(calendar.Total(table))
	// after the leap its offset is below 0
	short := calendar.Table{Leaps: []calendar.Leap{{Day: 41498, Step: -1}}, Until: 41600}
	for _, x := range []struct {
		table                calendar.Table
		start, seconds       int
		frame, line, message api.Errno
	}{
		{table, total - 120, 0, api.OK, api.OK, api.OK},
		{table, total - 60, 0, api.ErrRange, api.OK, api.OK},
		{table, total - 120, 60, api.ErrRange, api.OK, api.OK},
		{table, total - 1, 0, api.ErrState, api.OK, api.OK},
		{table, total - 60, 59, api.ErrState, api.OK, api.OK},
		{table, total - 60, 60, api.ErrRange, api.ErrRange, api.ErrRange},
		{table, total - 1, 20000, api.ErrRange, api.ErrRange, api.ErrRange},
		{short, 15724680, 0, api.OK, api.OK, api.OK},
		{short, 15724740, 0, api.ErrCode, api.OK, api.OK},
		{short, 15724740, 58, api.ErrState, api.OK, api.OK},
		{short, 15724740, 59, api.ErrCode, api.ErrCode, api.ErrCode},
		{short, 15724740, 60, api.ErrState, api.ErrCode, api.ErrCode},
	} {
		l := at(t, x.table, x.start, x.seconds)
		frame, e := l.Frame()
		if e != x.frame || (e != api.OK) != (len(frame) == 0) {
			t.Error(x, frame, e)
		}
		line, e := l.Line()
		if e != x.line || (e != api.OK) != (line == "") {
			t.Error(x, line, e)
		}
		packet, e := l.Packet()
		if e != x.message || (e != api.OK) != (len(packet) == 0) {
			t.Error(x, packet, e)
		}
	}
}

// P14.6: all codes of a civil second tell the same leap.
func TestSameLeap(t *testing.T) {
	r := rand.New(rand.NewSource(5))
	frames := 0
	for range 400 {
		s := chapter(0, 0)
		s.Table.Leaps[0].Step = 1 - 2*r.Intn(2)
		s.Start, s.Every = 15724800-60*r.Intn(120), 1+r.Intn(120)
		if r.Intn(2) == 0 {
			s.Every = 60
		}
		l := run(t, s, enter(1, 1))
		for range 20 {
			second := s.Start + must[int](t)(l.Now())
			want := must[int](t)(calendar.Announced(s.Table, second))
			leap, offset, _, _, e := code.Unpack(must[[]byte](t)(l.Packet()))
			told, _, f := code.ReadLine(must[string](t)(l.Line()))
			if leap != want || told.Leap != want || offset != told.Offset || e != api.OK || f != api.OK {
				t.Fatal(second, leap, told, want, e, f)
			}
			frame, e := l.Frame()
			if e == api.OK {
				frames++
				_, length, _ := code.Minute(s.Table, second)
				next, e := code.Decode(frame)
				if e != api.OK || next.Leap != must[int](t)(calendar.Announced(s.Table, second+length)) {
					t.Fatal(second, next, e)
				}
			}
			acted(t, l, tick())
		}
	}
	if frames < 1000 {
		t.Error(frames)
	}
}
