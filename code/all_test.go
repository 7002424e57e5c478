package code_test

import (
	"math"
	"math/rand"
	"slices"
	"testing"

	"meridian/api"
	"meridian/calendar"
	"meridian/code"
)

// outcome is what a call returned: its error, and whether all else was zero.
type outcome struct {
	call string
	e    api.Errno
	zero bool
}

// ofTables calls all functions that take a table.
func ofTables(t calendar.Table, second, nanos int, heard []int, from, to int) []outcome {
	var l []outcome
	add := func(call string, e api.Errno, zero bool) { l = append(l, outcome{call, e, zero}) }
	f, n, e := code.Minute(t, second)
	add("Minute", e, f == 0 && n == 0)
	x, e := code.Tell(t, second)
	add("Tell", e, x == code.Told{})
	b, e := code.Frame(t, second)
	add("Frame", e, b == nil)
	p, e := code.Possible(t, heard, from, to)
	add("Possible", e, p == nil)
	n, e = code.Needed(t, second, from, to)
	add("Needed", e, n == 0)
	s, e := code.Line(t, second)
	add("Line", e, s == "")
	k, e := code.Pack(t, second, nanos)
	add("Pack", e, k == nil)
	return l
}

// P10.1 to P10.4, R1, R2: the error of calendar.Check comes first, and with it
// there is nothing else.
func TestTableErrorsFirst(t *testing.T) {
	for want, x := range broken() {
		if e := calendar.Check(x); e != want {
			t.Fatal(x, e)
		}
		l := append(ofTables(x, 0, 0, nil, 0, 60), ofTables(x, -1, -1, []int{2}, 5, 4)...)
		for _, o := range l {
			if o.e != want || !o.zero {
				t.Error(x, o)
			}
		}
	}
}

// P10.1 to P10.4, R2: seconds that a table does not know.
func TestNotKnown(t *testing.T) {
	for _, x := range []calendar.Table{short(), table(10, first+1), table(10, last+1)} {
		end := total(x)
		for _, second := range append(far, -1, -60, end, end+1, end+60) {
			for _, o := range ofTables(x, second, -1, nil, -1, second) {
				if o.e != api.ErrRange || !o.zero {
					t.Error(x, second, o)
				}
			}
		}
		for _, o := range ofTables(x, 0, 0, nil, 0, 60) {
			if o.e != api.OK {
				t.Error(x, o)
			}
		}
	}
}

// R4: no argument is changed, and a result shares no memory with one.
func TestMemory(t *testing.T) {
	x := short()
	heard := []int{0, -1, 1, -1}
	ofTables(x, 86400, 5, heard, 0, 86400)
	if !slices.Equal(x.Leaps, short().Leaps) || !slices.Equal(heard, []int{0, -1, 1, -1}) {
		t.Error(x, heard)
	}
	f := must[[]bool](t)(code.Frame(x, 86400))
	g := slices.Clone(f)
	if _, e := code.Decode(f); e != api.OK || !slices.Equal(f, g) {
		t.Error(f, e)
	}
	f[5] = !f[5]
	if h := must[[]bool](t)(code.Frame(x, 86400)); !slices.Equal(h, g) {
		t.Error(h, g)
	}
	b := must[[]byte](t)(code.Pack(x, 86400, 5))
	c := slices.Clone(b)
	if _, _, _, _, e := code.Unpack(b); e != api.OK || !slices.Equal(b, c) {
		t.Error(b, e)
	}
	l := []api.Span{span(8, 12), span(1, 5), span(4, 9), span(5, 6)}
	y, e := code.Agree(l)
	code.Combine(l)
	if e != api.OK || !slices.Equal(y.In, []bool{false, true, true, true}) || !slices.Equal(l, []api.Span{span(8, 12), span(1, 5), span(4, 9), span(5, 6)}) {
		t.Error(y, l, e)
	}
}

// R3: a nil list and an empty one are the same value.
func TestNilAndEmpty(t *testing.T) {
	x := calendar.Table{Base: 10, Leaps: []calendar.Leap{}, Until: 41400}
	for _, heard := range [][]int{nil, {}} {
		for _, y := range []calendar.Table{x, table(10, 41400)} {
			if l, e := code.Possible(y, heard, 0, 121); !slices.Equal(l, []int{0, 60, 120}) || e != api.OK {
				t.Error(l, e)
			}
		}
	}
	for _, b := range [][]bool{nil, {}} {
		if y, e := code.Decode(b); (y != code.Told{}) || e != api.ErrCode {
			t.Error(y, e)
		}
	}
	if _, _, _, _, e := code.Unpack([]byte{}); e != api.ErrForm {
		t.Error(e)
	}
}

// P9: nothing panics, whatever the arguments.
func TestAnyArguments(t *testing.T) {
	numbers := append(far, -farthest, -1, 0, 1, 2, 59, 60, 61, 86340, 86400, 120000, 86400*31-60, 86400*60-61, first, 41347, 41376, last, last+1, slowest, farthest)
	r := rand.New(rand.NewSource(19))
	any := func() int { return numbers[r.Intn(len(numbers))] }
	for i := range 20000 {
		x := table(any(), any(), leap(any(), r.Intn(4)-2))
		if i%2 == 0 {
			x = short()
		}
		heard := make([]int, r.Intn(70))
		for k := range heard {
			heard[k] = any()
		}
		spans := make([]api.Span, r.Intn(30))
		for k := range spans {
			spans[k] = span(any(), any())
		}
		bits, bytes := make([]bool, r.Intn(70)), make([]byte, r.Intn(30))
		for k := range bits {
			bits[k] = r.Intn(2) == 0
		}
		for k := range bytes {
			bytes[k] = byte(r.Intn(256))
		}
		if i%100 == 0 {
			ofTables(x, any(), any(), heard, any(), any())
		}
		code.Minute(x, any())
		code.Frame(x, any())
		code.Pack(x, any(), any())
		code.Decode(bits)
		code.Unpack(bytes)
		code.ReadLine(string(bytes))
		code.Between(code.Poll{T1: any(), T2: any(), T3: any(), T4: any(), Out: any(), Back: any()})
		code.Widen(span(any(), any()), any(), any())
		code.Combine(spans)
		code.Agree(spans)
	}
	if _, e := code.Agree([]api.Span{span(math.MinInt, math.MaxInt)}); e != api.OK {
		t.Error(e)
	}
}
