package circular_test

import (
	"math"
	"math/rand"
	"slices"
	"testing"

	"meridian/api"
	"meridian/circular"
)

// P8.3: a merged book has what was put into both, and both stay what they are.
func TestMerge(t *testing.T) {
	r := rand.New(rand.NewSource(6))
	for range 1000 {
		x, y := slowBook{anyReports(r, 20, 3, 1), anyClosings(r)}, slowBook{anyReports(r, 20, 3, 1), anyClosings(r)}
		a, b := load(t, x.reports, x.closings...), load(t, y.reports, y.closings...)
		both := slowBook{append(slices.Clone(x.reports), y.reports...), append(slices.Clone(x.closings), y.closings...)}
		m := merge(t, a, b)
		if l := reports(t, m); !sameReports(l, both.kept()) {
			t.Fatal(x, y, l)
		}
		if !slices.Equal(closings(t, m), closings(t, load(t, nil, both.closings...))) {
			t.Fatal(x, y, closings(t, m))
		}
		if !sameBook(t, a, load(t, x.reports, x.closings...)) || !sameBook(t, b, load(t, y.reports, y.closings...)) {
			t.Fatal("Merge changed a book")
		}
	}
}

// P8.3: a merged book is one of its own.
func TestMergedBook(t *testing.T) {
	a, b := load(t, []circular.Report{report(1, 0, 0, 1, 5)}), load(t, []circular.Report{report(2, 0, 0, 1, 5)})
	m := merge(t, a, b)
	put(t, m, gone(1, 0, 0, 1))
	put(t, m, gone(2, 0, 0, 1))
	shut(t, m, 0, 0)
	put(t, a, report(1, 0, 0, 1, 9))
	put(t, b, report(3, 0, 0, 1, 9))
	if !sameBook(t, a, load(t, []circular.Report{report(1, 0, 0, 1, 9)})) || !sameBook(t, b, load(t, []circular.Report{report(2, 0, 0, 1, 5), report(3, 0, 0, 1, 9)})) {
		t.Error(reports(t, a), reports(t, b))
	}
	if !sameBook(t, m, load(t, []circular.Report{gone(1, 0, 0, 1), gone(2, 0, 0, 1)}, closing(0, 0))) {
		t.Error(reports(t, m))
	}
}

// P8.3: a merged book has at most 2000 reports.
func TestMergeMany(t *testing.T) {
	all := many(2001)
	a, b := load(t, all[:1500]), load(t, all[1000:2000])
	if m := merge(t, a, b); !sameBook(t, m, load(t, all[:2000])) || !sameBook(t, m, merge(t, m, m)) {
		t.Error(len(reports(t, m)))
	}
	put(t, b, all[2000])
	for _, x := range [][2]*circular.Book{{a, b}, {b, a}} {
		if m, e := circular.Merge(x[0], x[1]); m != nil || e != api.ErrMany {
			t.Error(e)
		}
	}
	if len(reports(t, a)) != 1500 || len(reports(t, b)) != 1001 {
		t.Error("an error changed a book")
	}
}

// P8.3, R1: what is no book has an error before what is too much.
func TestMergeNil(t *testing.T) {
	good := load(t, many(2000))
	copied := *good
	for i, bad := range []*circular.Book{nil, {}, new(circular.Book), &copied} {
		for _, x := range [][2]*circular.Book{{good, bad}, {bad, good}, {bad, bad}} {
			if m, e := circular.Merge(x[0], x[1]); m != nil || e != api.ErrNil {
				t.Error(i, e)
			}
		}
	}
}

// P8.3: Load returns how much there is, or where the first error is.
func TestLoad(t *testing.T) {
	ok, bad := report(1, 0, 0, 1, 5), report(0, 0, 0, 1, 5)
	shuts, wrong := closing(0, 1), closing(120, 1)
	for i, x := range []struct {
		reports  []circular.Report
		closings []circular.Closing
		n        int
		e        api.Errno
	}{
		{nil, nil, 0, api.OK}, {[]circular.Report{}, []circular.Closing{}, 0, api.OK},
		{[]circular.Report{ok, ok, ok}, []circular.Closing{shuts, shuts}, 5, api.OK},
		{[]circular.Report{bad}, nil, 0, api.ErrLab}, {[]circular.Report{ok, ok, bad, bad}, []circular.Closing{wrong}, 2, api.ErrLab},
		{nil, []circular.Closing{wrong}, 0, api.ErrLab}, {[]circular.Report{ok, ok}, []circular.Closing{shuts, shuts, wrong, shuts}, 4, api.ErrLab},
		{many(2000), []circular.Closing{shuts}, 2001, api.OK}, {append(many(2000), many(2000)...), nil, 4000, api.OK},
		{many(2001), []circular.Closing{wrong}, 2000, api.ErrMany}, {append(many(2000), bad), nil, 2000, api.ErrLab},
		{append([]circular.Report{ok, ok}, many(2001)[1:]...), nil, 2001, api.ErrMany},
	} {
		b, n, e := circular.Load(x.reports, x.closings)
		if n != x.n || e != x.e || (b == nil) != (e != api.OK) {
			t.Error(i, n, e)
		}
	}
	b := load(t, []circular.Report{report(2, 1, 0, 1, 7), ok, ok}, closing(3, 4), shuts, closing(3, 2))
	if l := reports(t, b); !sameReports(l, []circular.Report{ok, report(2, 1, 0, 1, 7)}) {
		t.Error(l)
	}
	if l := closings(t, b); !slices.Equal(l, []circular.Closing{shuts, closing(3, 2)}) {
		t.Error(l)
	}
}

// paper is a sheet that has no rows.
func paper(ids []int, corrections ...[]int) circular.Sheet {
	return circular.Sheet{Month: 3, Ids: ids, Corrections: corrections}
}

// P8.3: where sheets differ, whatever they are.
func TestDiffer(t *testing.T) {
	list := func(l ...int) []int { return l }
	for i, x := range []struct {
		a, b circular.Sheet
		want [][2]int
	}{
		{circular.Sheet{}, circular.Sheet{Version: 5, Rows: []circular.Row{{U: 7}}}, nil},
		{paper(list(16, 17), list(5, 6), list(7)), paper(list(16, 17), list(5, 6), list(7)), nil},
		{paper(list(16, 17), list(5, 6), list(7)), paper(list(17, 16), list(7), list(5, 6)), nil},
		{paper(list(16, 17), list(5, 6), list(7)), paper(list(17, 16), list(5, 6), list(7)), [][2]int{{0, 0}, {0, 1}, {1, 0}, {1, 1}}},
		{paper(list(16), list(5, 6, 7, 8)), paper(list(16), list(5, 0, 7, 0)), [][2]int{{0, 1}, {0, 3}}},
		{paper(list(16), list(5, 6, 0)), paper(list(16), list(5)), [][2]int{{0, 1}, {0, 2}}}, // 0 is a correction
		{paper(list(16), list(5)), paper(list(16), list(5, 6, 0)), [][2]int{{0, 1}, {0, 2}}},
		{paper(list(16), list()), paper(list(16), list()), nil},
		{paper(list(16), list(5)), paper(list(17), list(6)), nil}, // not the same clock
		{paper(list(16, 20, 17), list(1), list(2), list(3)), paper(list(17, 16, 21), list(3), list(0), list(9)), [][2]int{{0, 0}}},
		{paper(list(16, 17), list(5)), paper(list(16, 17), list(5), list(6, 7)), [][2]int{{1, 0}, {1, 1}}}, // a list is missing
		{paper(list(16, 17), list(5), list(6, 7)), paper(list(17, 16), list(6)), [][2]int{{0, 0}, {1, 1}}},
		{paper(list(16, 17)), paper(list(16, 17)), nil},
		{paper(list(16), list(5), list(6)), paper(list(16), list(5), list(7)), nil}, // a list of no Id
		{paper(list(16), list(5)), paper(list(16, 16), list(5), list(6)), nil},      // the first one counts
		{paper(list(16), list(5)), paper(list(16, 16), list(6), list(5)), [][2]int{{0, 0}}},
		{paper(list(16, 16), list(5), list(6)), paper(list(16), list(5)), [][2]int{{1, 0}}},
		{paper(list(-1, math.MaxInt), list(math.MinInt), list(math.MaxInt)), paper(list(math.MaxInt, -1), list(math.MinInt), list(math.MinInt)), [][2]int{{1, 0}}},
	} {
		x.b.Month = x.a.Month
		if l, e := circular.Differ(x.a, x.b); e != api.OK || !slices.Equal(l, x.want) {
			t.Error(i, l, e)
		}
	}
}

// P8.3: sheets of different months.
func TestDifferMonths(t *testing.T) {
	a := paper([]int{16}, []int{5})
	for _, month := range []int{0, 2, 4, -3, math.MinInt, math.MaxInt} {
		b := paper([]int{16}, []int{6})
		b.Month = month
		if l, e := circular.Differ(a, b); len(l) != 0 || e != api.ErrArg {
			t.Error(month, l, e)
		}
		if l, e := circular.Differ(b, b); len(l) != 0 || e != api.OK { // a month need not be allowed
			t.Error(month, l, e)
		}
	}
}

// P8.3: where sheets of books differ, by the chapter's words.
func TestDifferAny(t *testing.T) {
	r := rand.New(rand.NewSource(7))
	for range 2000 {
		x := anyReports(r, 20, 3, 2)
		l := append(slices.Clone(x), anyReports(r, 3, 3, 2)...)
		a, e := load(t, x).Sheet(0, wide(), r.Intn(2))
		b, e2 := load(t, l).Sheet(0, wide(), 0)
		if e != api.OK || e2 != api.OK {
			continue
		}
		var want [][2]int
		for i, id := range a.Ids {
			for epoch := range 12 {
				k := slices.Index(b.Ids, id)
				if k < 0 {
					continue
				}
				isA, isB := epoch < len(a.Corrections[i]), epoch < len(b.Corrections[k])
				if isA != isB || isA && a.Corrections[i][epoch] != b.Corrections[k][epoch] {
					want = append(want, [2]int{i, epoch})
				}
			}
		}
		if found, e := circular.Differ(a, b); e != api.OK || !slices.Equal(found, want) {
			t.Fatal(a, b, found, e)
		}
	}
}
