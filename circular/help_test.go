package circular_test

import (
	"math/rand"
	"slices"
	"testing"

	"meridian/api"
	"meridian/circular"
	"meridian/scale"
)

// diff is as far from 0 as a Diff may be.
const diff = 1000000000

// wide lets all clocks count.
func wide() scale.Setup { return scale.Setup{Cap: scale.Whole, Gate: scale.MaxGate, Keep: 5} }

// anySetup is a valid setup, most often with numbers that matter.
func anySetup(r *rand.Rand) scale.Setup {
	return scale.Setup{Cap: 1 + r.Intn(scale.Whole), Gate: 1 + r.Intn(1<<(1+r.Intn(36))), Wait: r.Intn(4), Keep: 1 + r.Intn(6)}
}

// around is a number from -size to size.
func around(r *rand.Rand, size int) int { return r.Intn(2*size+1) - size }

func report(lab, month, clock, version int, diffs ...int) circular.Report {
	return circular.Report{Lab: lab, Month: month, Clock: clock, Version: version, Diffs: diffs}
}

func gone(lab, month, clock, version int) circular.Report {
	return circular.Report{Lab: lab, Month: month, Clock: clock, Version: version, Gone: true}
}

func closing(month, version int) circular.Closing {
	return circular.Closing{Month: month, Version: version}
}

// anyReport is one of few clocks, months and versions, so that many of them meet.
func anyReport(r *rand.Rand, epochs, size int) circular.Report {
	x := report(1+r.Intn(3), r.Intn(2), r.Intn(3), 1+r.Intn(3))
	if x.Gone = r.Intn(5) == 0; !x.Gone {
		for range 1 + r.Intn(epochs) {
			x.Diffs = append(x.Diffs, around(r, size))
		}
	}
	return x
}

func anyReports(r *rand.Rand, count, epochs, size int) []circular.Report {
	var l []circular.Report
	for range r.Intn(count + 1) {
		l = append(l, anyReport(r, epochs, size))
	}
	return l
}

func anyClosings(r *rand.Rand) []circular.Closing {
	var l []circular.Closing
	for range r.Intn(4) {
		l = append(l, closing(r.Intn(3), r.Intn(5)))
	}
	return l
}

// many are count reports, no two of which have the same key and Version.
func many(count int) []circular.Report {
	var l []circular.Report
	for i := range count {
		l = append(l, report(1+i%12, i/12%120, i/1440, 1, i))
	}
	return l
}

func load(t *testing.T, l []circular.Report, c ...circular.Closing) *circular.Book {
	t.Helper()
	b, n, e := circular.Load(l, c)
	if b == nil || n != len(l)+len(c) || e != api.OK {
		t.Fatal(l, c, n, e)
	}
	return b
}

// must is what a call returns that has to have no error.
func must[T any](t *testing.T, call func() (T, api.Errno)) T {
	t.Helper()
	x, e := call()
	if e != api.OK {
		t.Fatal(e)
	}
	return x
}

func put(t *testing.T, b *circular.Book, r circular.Report) bool {
	t.Helper()
	return must(t, func() (bool, api.Errno) { return b.Put(r) })
}

func shut(t *testing.T, b *circular.Book, month, version int) bool {
	t.Helper()
	return must(t, func() (bool, api.Errno) { return b.Close(closing(month, version)) })
}

func reports(t *testing.T, b *circular.Book) []circular.Report {
	t.Helper()
	return must(t, b.Reports)
}

func closings(t *testing.T, b *circular.Book) []circular.Closing {
	t.Helper()
	return must(t, b.Closings)
}

func counts(t *testing.T, b *circular.Book, month int) []circular.Report {
	t.Helper()
	return must(t, func() ([]circular.Report, api.Errno) { return b.Counts(month) })
}

func sheet(t *testing.T, b *circular.Book, month int, s scale.Setup, u int) circular.Sheet {
	t.Helper()
	return must(t, func() (circular.Sheet, api.Errno) { return b.Sheet(month, s, u) })
}

func merge(t *testing.T, a, b *circular.Book) *circular.Book {
	t.Helper()
	return must(t, func() (*circular.Book, api.Errno) { return circular.Merge(a, b) })
}

func us(s circular.Sheet) []int {
	var l []int
	for _, r := range s.Rows {
		l = append(l, r.U)
	}
	return l
}

func sameReports(a, b []circular.Report) bool {
	return slices.EqualFunc(a, b, func(x, y circular.Report) bool {
		return clockOf(x) == clockOf(y) && x.Version == y.Version && x.Gone == y.Gone && slices.Equal(x.Diffs, y.Diffs)
	})
}

func sameSheet(a, b circular.Sheet) bool {
	return a.Month == b.Month && a.Version == b.Version && slices.Equal(a.Ids, b.Ids) &&
		slices.EqualFunc(a.Rows, b.Rows, func(x, y circular.Row) bool {
			return x.U == y.U && slices.Equal(x.Ids, y.Ids) && slices.Equal(x.Weights, y.Weights)
		}) && slices.EqualFunc(a.Corrections, b.Corrections, slices.Equal)
}

// sameBook reports whether two books keep the same.
func sameBook(t *testing.T, a, b *circular.Book) bool {
	t.Helper()
	return sameReports(reports(t, a), reports(t, b)) && slices.Equal(closings(t, a), closings(t, b))
}

// clockOf is what reports of one clock for one month have in common, by which
// they are ordered.
func clockOf(r circular.Report) [3]int { return [3]int{r.Month, r.Lab, r.Clock} }

// isLess is the order of lists by the document's words.
func isLess(a, b []int) bool {
	for i := range min(len(a), len(b)) {
		if a[i] != b[i] {
			return a[i] < b[i]
		}
	}
	return len(a) < len(b)
}

// isLater follows the chapter's words, for reports with the same key.
func isLater(a, b circular.Report) bool {
	switch {
	case a.Version != b.Version:
		return a.Version > b.Version
	case a.Gone != b.Gone:
		return a.Gone
	}
	return isLess(b.Diffs, a.Diffs)
}

// slowBook has all that was put into a book, as often as it was.
type slowBook struct {
	reports  []circular.Report
	closings []circular.Closing
}

// latest are those of some reports than which no other one of the same kind is
// later, one of each kind, by their kinds.
func latest[K ~[3]int | ~[4]int](l []circular.Report, kind func(r circular.Report) K, compare func(a, b K) int) []circular.Report {
	best := map[K]circular.Report{}
	for _, r := range l {
		if x, is := best[kind(r)]; !is || isLater(r, x) {
			best[kind(r)] = r
		}
	}
	var found []circular.Report
	for _, r := range best {
		found = append(found, r)
	}
	slices.SortFunc(found, func(a, b circular.Report) int { return compare(kind(a), kind(b)) })
	return found
}

func (s slowBook) kept() []circular.Report {
	return latest(s.reports, func(r circular.Report) [4]int { return [4]int{r.Month, r.Lab, r.Clock, r.Version} },
		func(a, b [4]int) int { return slices.Compare(a[:], b[:]) })
}

// closed is the least Version of the closings of a month, if there is one.
func (s slowBook) closed(month int) (least int, is bool) {
	for _, c := range s.closings {
		if c.Month == month && (!is || c.Version < least) {
			least, is = c.Version, true
		}
	}
	return least, is
}

func (s slowBook) counts(month int) []circular.Report {
	least, is := s.closed(month)
	var l []circular.Report
	for _, r := range s.reports {
		if r.Month == month && (!is || r.Version <= least) {
			l = append(l, r)
		}
	}
	return latest(l, clockOf, func(a, b [3]int) int { return slices.Compare(a[:], b[:]) })
}

// sheet follows the chapter's words, if some clock is there.
func (s slowBook) sheet(t *testing.T, month int, setup scale.Setup, u int) circular.Sheet {
	t.Helper()
	c, _ := scale.New(setup, u)
	x := circular.Sheet{Month: month}
	x.Version, _ = s.closed(month)
	var entered []circular.Report
	epochs := 0
	for _, r := range s.counts(month) {
		if !r.Gone && len(entered) < 16 {
			if e := c.Enter(16*r.Lab+r.Clock, r.Diffs[0], 0, 10); e != api.OK {
				t.Fatal(r, e)
			}
			entered = append(entered, r)
			x.Ids = append(x.Ids, 16*r.Lab+r.Clock)
			epochs = max(epochs, len(r.Diffs))
		}
	}
	for k := 1; k < epochs; k++ {
		var l []scale.Reading
		for i, r := range entered {
			if len(r.Diffs) > k {
				l = append(l, scale.Reading{Id: x.Ids[i], Diff: r.Diffs[k]})
			}
		}
		if _, e := c.Take(l); e != api.OK {
			t.Fatal(l, e)
		}
	}
	points, _ := c.Points()
	for _, p := range points {
		x.Rows = append(x.Rows, circular.Row{U: p.U, Ids: p.Ids, Weights: p.Weights})
	}
	for _, r := range entered {
		var l []int
		for k, d := range r.Diffs {
			l = append(l, d+points[k].U)
		}
		x.Corrections = append(x.Corrections, l)
	}
	return x
}
