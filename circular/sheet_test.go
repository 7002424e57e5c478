package circular_test

import (
	"math"
	"math/rand"
	"slices"
	"testing"

	"meridian/api"
	"meridian/circular"
	"meridian/scale"
)

// P8.2, example 3, and the same month when it is closed.
func TestSheetExample(t *testing.T) {
	b := load(t, []circular.Report{report(1, 0, 3, 1, 5, 6), report(1, 0, 3, 2, 5, 7)})
	want := circular.Sheet{
		Ids:         []int{19},
		Rows:        []circular.Row{{}, {U: -2, Ids: []int{19}, Weights: []int{1000000}}},
		Corrections: [][]int{{5, 5}},
	}
	if s := sheet(t, b, 0, wide(), 0); !sameSheet(s, want) {
		t.Error(s)
	}
	shut(t, b, 0, 1)
	want.Version, want.Rows[1].U = 1, -1
	if s := sheet(t, b, 0, wide(), 0); !sameSheet(s, want) {
		t.Error(s)
	}
}

// P8.2: the rate is 0 and the Memory 10; a clock without more Diffs has no more
// readings, and no more corrections.
func TestSheetByHand(t *testing.T) {
	b := load(t, []circular.Report{report(12, 119, 15, 7, 0, 40), report(1, 119, 0, 7, 0, 0, 0)}, closing(119, 8))
	want := circular.Sheet{
		Month: 119, Version: 8, Ids: []int{16, 207},
		Rows: []circular.Row{
			{U: 1000},
			{U: 980, Ids: []int{16, 207}, Weights: []int{500000, 500000}}, // the rates become -2 and 2
			{U: 978, Ids: []int{16}, Weights: []int{1000000}},
		},
		Corrections: [][]int{{1000, 980, 978}, {1000, 1020}},
	}
	if s := sheet(t, b, 119, wide(), 1000); !sameSheet(s, want) {
		t.Error(s)
	}
}

// P8.2: the number of rows is the greatest number of Diffs, from 1 to 12; each
// clock has as many corrections as Diffs.
func TestSheetEpochs(t *testing.T) {
	for n := 1; n <= 12; n++ {
		var l []circular.Report
		for i, k := range []int{1, n, (n + 1) / 2} {
			l = append(l, report(1+i, 0, 0, 1, slices.Repeat([]int{i}, k)...))
		}
		s := sheet(t, load(t, l), 0, wide(), 7)
		if !slices.Equal(us(s), slices.Repeat([]int{7}, n)) {
			t.Error(n, s)
		}
		for i, r := range l {
			if !slices.Equal(s.Corrections[i], slices.Repeat([]int{i + 7}, len(r.Diffs))) {
				t.Error(n, i, s)
			}
		}
		for i, row := range s.Rows {
			if (len(row.Ids) == 0) != (i == 0) || len(row.Weights) != len(row.Ids) {
				t.Error(n, i, row)
			}
		}
	}
}

// P8.2: who is gone does not enter; the others enter by Lab and then Clock, with
// the Ids of their clocks.
func TestWhoEnters(t *testing.T) {
	l := []circular.Report{
		report(3, 4, 1, 1, 0), report(1, 4, 15, 1, 0), report(2, 4, 0, 1, 0), gone(2, 4, 1, 1), report(12, 4, 15, 1, 0), report(1, 4, 0, 1, 0),
		report(1, 4, 7, 1, 0), gone(1, 4, 7, 2), gone(1, 4, 8, 1), report(1, 4, 8, 2, 0), report(1, 3, 1, 1, 0), report(1, 5, 2, 1, 0),
	}
	if s := sheet(t, load(t, l), 4, wide(), 0); !slices.Equal(s.Ids, []int{16, 24, 31, 32, 49, 207}) {
		t.Error(s.Ids)
	}
	if s := sheet(t, load(t, l, closing(4, 1)), 4, wide(), 0); !slices.Equal(s.Ids, []int{16, 23, 31, 32, 49, 207}) {
		t.Error(s.Ids)
	}
}

// P8.2: the scale has room for 16 clocks; one more changes nothing, however many
// Diffs it has.
func TestRoom(t *testing.T) {
	var l []circular.Report
	for i := range 16 {
		l = append(l, report(1+i/4, 0, i%4, 1, i*i, 3*i))
	}
	want := sheet(t, load(t, l), 0, wide(), 0)
	if len(want.Ids) != 16 || want.Ids[15] != 16*4+3 || len(want.Rows) != 2 || len(want.Corrections) != 16 {
		t.Fatal(want)
	}
	l = append(l, report(4, 0, 4, 1, 99, 999, 9999), report(9, 0, 0, 1, 5, 5, 5, 5))
	if s := sheet(t, load(t, l), 0, wide(), 0); !sameSheet(s, want) {
		t.Error(s)
	}
	l = append(l, gone(1, 0, 0, 2))
	s := sheet(t, load(t, l), 0, wide(), 0)
	if len(s.Ids) != 16 || s.Ids[0] != 17 || s.Ids[15] != 16*4+4 || len(s.Rows) != 3 {
		t.Error("there is room again", s)
	}
}

// P8.2: Version is that of the closing, not that of a report.
func TestSheetVersion(t *testing.T) {
	l := []circular.Report{report(1, 0, 3, 5, 1), report(1, 1, 3, 5, 1)}
	for _, version := range []int{5, 6, 1000} {
		if s := sheet(t, load(t, l, closing(0, version)), 0, wide(), 0); s.Version != version || s.Month != 0 {
			t.Error(version, s)
		}
	}
	if s := sheet(t, load(t, l, closing(0, 9)), 1, wide(), 0); s.Version != 0 || s.Month != 1 {
		t.Error(s)
	}
}

// P8.2, R1: the errors of Sheet, in their order.
func TestSheetErrors(t *testing.T) {
	l := []circular.Report{report(1, 0, 0, 2, 5), gone(1, 1, 0, 1), report(1, 2, 0, 1, 5), gone(1, 2, 0, 2)}
	b := load(t, l, closing(3, 5))
	bad, far := scale.Setup{}, scale.MaxDiff+1
	for i, x := range []struct {
		month int
		setup scale.Setup
		u     int
		want  api.Errno
	}{
		{0, wide(), 0, api.OK}, {0, wide(), scale.MaxDiff, api.OK}, {0, wide(), -scale.MaxDiff, api.OK},
		{-1, wide(), 0, api.ErrRange}, {120, wide(), 0, api.ErrRange}, {math.MinInt, bad, far, api.ErrRange}, {math.MaxInt, bad, far, api.ErrRange},
		{0, bad, 0, api.ErrRange}, {0, wide(), far, api.ErrRange}, {0, wide(), -far, api.ErrRange}, {0, wide(), math.MinInt, api.ErrRange},
		{1, wide(), 0, api.ErrNone}, {2, wide(), 0, api.ErrNone}, {3, wide(), 0, api.ErrNone}, {119, wide(), 0, api.ErrNone},
		{1, bad, 0, api.ErrRange}, {2, wide(), far, api.ErrRange}, {3, bad, far, api.ErrRange},
	} {
		s, e := b.Sheet(x.month, x.setup, x.u)
		if e != x.want || e != api.OK && !sameSheet(s, circular.Sheet{}) {
			t.Error(i, s, e)
		}
	}
	for _, c := range []circular.Closing{closing(0, 1), closing(0, 0)} {
		if s, e := load(t, l, c).Sheet(0, wide(), 0); e != api.ErrNone || !sameSheet(s, circular.Sheet{}) {
			t.Error(c, s, e)
		}
	}
	if !sameBook(t, b, load(t, l, closing(3, 5))) {
		t.Error("Sheet changed the book")
	}
}

// P8.2: sheets by the chapter's words.
func TestSheetAny(t *testing.T) {
	r := rand.New(rand.NewSource(4))
	none := 0
	for range 3000 {
		s := slowBook{anyReports(r, 40, 12, 1<<r.Intn(30)), anyClosings(r)}
		b := load(t, s.reports, s.closings...)
		month, setup, u := r.Intn(2), anySetup(r), around(r, 1<<r.Intn(40))
		if !slices.ContainsFunc(s.counts(month), func(r circular.Report) bool { return !r.Gone }) {
			none++
			if x, e := b.Sheet(month, setup, u); e != api.ErrNone {
				t.Fatal(s, x, e)
			}
			continue
		}
		if x := sheet(t, b, month, setup, u); !sameSheet(x, s.sheet(t, month, setup, u)) {
			t.Fatal(s, x, s.sheet(t, month, setup, u))
		}
	}
	if none == 0 || none > 1500 {
		t.Error(none)
	}
}

// P8.2: with the greatest Diffs and first values no epoch is in error, so that
// all rows are there.
func TestGreatestDiffs(t *testing.T) {
	r := rand.New(rand.NewSource(5))
	for range 300 {
		var s slowBook
		for i := range 1 + r.Intn(20) {
			var l []int
			for range 1 + r.Intn(12) {
				l = append(l, diff-2*diff*r.Intn(2))
			}
			s.reports = append(s.reports, report(1+i%12, 0, i/12, 1, l...))
		}
		setup, u := anySetup(r), scale.MaxDiff-2*scale.MaxDiff*r.Intn(2)
		if x := sheet(t, load(t, s.reports), 0, setup, u); !sameSheet(x, s.sheet(t, 0, setup, u)) {
			t.Fatal(s, x)
		}
	}
}
