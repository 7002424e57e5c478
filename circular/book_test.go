package circular_test

import (
	"math"
	"math/rand"
	"slices"
	"testing"

	"meridian/api"
	"meridian/circular"
)

// P8.1: the chapter's limits.
func TestConstants(t *testing.T) {
	for i, n := range []int{circular.MaxLabs - 12, circular.MaxMonths - 120, circular.MaxEpochs - 12, circular.MaxReports - 2000} {
		if n != 0 {
			t.Error(i, n)
		}
	}
}

// P8.1: a new book is empty.
func TestNew(t *testing.T) {
	b := circular.New()
	if l := reports(t, b); len(l) != 0 {
		t.Error(l)
	}
	if l := closings(t, b); len(l) != 0 {
		t.Error(l)
	}
	for _, month := range []int{0, 119} {
		if l := counts(t, b, month); len(l) != 0 {
			t.Error(month, l)
		}
	}
}

// P8.1, examples 1 and 2.
func TestBookExamples(t *testing.T) {
	one, two := report(1, 0, 3, 1, 5, 6), report(1, 0, 3, 2, 5, 7)
	for i, l := range [][]circular.Report{{one, two}, {two, one}} {
		b := circular.New()
		for _, r := range l {
			if !put(t, b, r) {
				t.Error(i, r)
			}
		}
		if x := reports(t, b); !sameReports(x, []circular.Report{one, two}) {
			t.Error(i, x)
		}
		if x := counts(t, b, 0); !sameReports(x, []circular.Report{two}) {
			t.Error(i, x)
		}
		if !shut(t, b, 0, 1) {
			t.Error(i)
		}
		if x := counts(t, b, 0); !sameReports(x, []circular.Report{one}) {
			t.Error(i, x)
		}
		if x := reports(t, b); !sameReports(x, []circular.Report{one, two}) {
			t.Error(i, x)
		}
	}
	two.Version = 1
	for i, l := range [][]circular.Report{{one, two}, {two, one}} {
		b := circular.New()
		if is, is2 := put(t, b, l[0]), put(t, b, l[1]); !is || is2 != (i == 0) {
			t.Error(i, is, is2)
		}
		if x := reports(t, b); !sameReports(x, []circular.Report{two}) {
			t.Error(i, x)
		}
	}
}

// P8.1: which of two reports with the same key and Version is later.
func TestLater(t *testing.T) {
	later := []circular.Report{ // each one is later than all before it
		report(2, 1, 4, 9, -diff), report(2, 1, 4, 9, -7, diff), report(2, 1, 4, 9, 5), report(2, 1, 4, 9, 5, -diff), report(2, 1, 4, 9, 5, 6),
		report(2, 1, 4, 9, 5, 6, -1), report(2, 1, 4, 9, 5, 6, 0, 0), report(2, 1, 4, 9, 5, 7), report(2, 1, 4, 9, 6), report(2, 1, 4, 9, diff), gone(2, 1, 4, 9),
	}
	for i, a := range later {
		for k, b := range later {
			x := load(t, []circular.Report{a})
			if is := put(t, x, b); is != (k > i) {
				t.Error(a, b, is)
			}
			if l := reports(t, x); !sameReports(l, []circular.Report{later[max(i, k)]}) {
				t.Error(a, b, l)
			}
		}
	}
}

// P8.1: reports of which one number of the key, or the Version, differs are all kept.
func TestKeys(t *testing.T) {
	l := []circular.Report{report(1, 0, 0, 2, 5), report(1, 0, 0, 1, 5), report(1, 0, 1, 1, 5), report(2, 0, 0, 1, 5), report(1, 1, 0, 1, 5)}
	b := circular.New()
	for _, r := range l {
		if !put(t, b, r) {
			t.Error(r)
		}
	}
	if x := reports(t, b); !sameReports(x, []circular.Report{l[1], l[0], l[2], l[3], l[4]}) {
		t.Error(x)
	}
}

// P8.1: each number of a report has its limits; who is gone has no Diffs, and no
// one else.
func TestPutLimits(t *testing.T) {
	full := slices.Repeat([]int{diff}, 12)
	for _, r := range []circular.Report{
		report(1, 0, 0, 1, -diff), report(12, 119, 15, 1000, full...), gone(12, 119, 15, 1000),
		{Lab: 1, Version: 1, Gone: true, Diffs: []int{}},
	} {
		if !put(t, circular.New(), r) {
			t.Error(r)
		}
	}
	b := load(t, []circular.Report{report(1, 0, 0, 1, 5)})
	bad := []circular.Report{
		report(1, 0, 0, 2), {Lab: 1, Version: 2, Diffs: []int{}}, report(1, 0, 0, 2, append(full, 0)...),
		{Lab: 1, Version: 2, Gone: true, Diffs: []int{1}}, {Lab: 1, Version: 1, Gone: true, Diffs: []int{5}}, {Lab: 1, Version: 2, Gone: true, Diffs: full},
	}
	for _, n := range []int{math.MinInt, -1, 0, 13, 16, 120, 1001, math.MaxInt} {
		if n < 1 || n > 12 {
			bad = append(bad, report(n, 0, 0, 1, 6), gone(n, 0, 0, 1))
		}
		if n < 0 || n > 119 {
			bad = append(bad, report(1, n, 0, 1, 6), gone(1, n, 0, 1))
		}
		if n < 0 || n > 15 {
			bad = append(bad, report(1, 0, n, 1, 6), gone(1, 0, n, 1))
		}
		if n < 1 || n > 1000 {
			bad = append(bad, report(1, 0, 0, n, 6), gone(1, 0, 0, n))
		}
	}
	for _, n := range []int{math.MinInt, -diff - 1, diff + 1, math.MaxInt} {
		bad = append(bad, report(1, 0, 0, 2, n), report(1, 0, 0, 1, 9, n), report(1, 0, 0, 1, append(full[1:], n)...))
	}
	for _, r := range bad {
		if is, e := b.Put(r); is || e != api.ErrLab {
			t.Error(r, is, e)
		}
	}
	if l := reports(t, b); !sameReports(l, []circular.Report{report(1, 0, 0, 1, 5)}) {
		t.Error("an error changed the book", l)
	}
}

// P8.1: a book has room for 2000 reports; the order of errors.
func TestPutMany(t *testing.T) {
	all := many(2001)
	b := load(t, all[:1999])
	if !put(t, b, all[1999]) {
		t.Error("there is room for 2000")
	}
	more := all[0]
	more.Version = 2
	for _, r := range []circular.Report{all[2000], more, gone(12, 119, 15, 1000)} {
		if is, e := b.Put(r); is || e != api.ErrMany {
			t.Error(r, is, e)
		}
	}
	if is, e := b.Put(report(13, 0, 0, 1, 5)); is || e != api.ErrLab {
		t.Error(is, e)
	}
	if put(t, b, all[7]) {
		t.Error("the same one changes the book")
	}
	if l := reports(t, b); len(l) != 2000 || slices.ContainsFunc(l, func(r circular.Report) bool { return r.Version > 1 }) {
		t.Error("an error changed the book", len(l))
	}
	if !put(t, b, report(1, 0, 0, 1, 3)) || !put(t, b, gone(1, 0, 0, 1)) || len(reports(t, b)) != 2000 {
		t.Error("a later one has no room")
	}
	if !shut(t, b, 0, 0) {
		t.Error("a closing has no room")
	}
}

// P8.1: of several closings of a month the least one is kept; their limits.
func TestClose(t *testing.T) {
	b := circular.New()
	for _, x := range []struct {
		month, version int
		is             bool
	}{{7, 1000, true}, {7, 1000, false}, {7, 5, true}, {7, 6, false}, {0, 9, true}, {7, 5, false}, {119, 0, true}, {119, 0, false}, {119, 3, false}, {7, 0, true}, {7, 1, false}, {0, 8, true}} {
		if is := shut(t, b, x.month, x.version); is != x.is {
			t.Error(x, is)
		}
	}
	want := []circular.Closing{closing(0, 8), closing(7, 0), closing(119, 0)}
	for _, c := range []circular.Closing{closing(-1, 1), closing(120, 1), closing(math.MinInt, 1), closing(math.MaxInt, 1), closing(0, -1), closing(0, 1001), closing(0, math.MinInt), closing(0, math.MaxInt)} {
		if is, e := b.Close(c); is || e != api.ErrLab {
			t.Error(c, is, e)
		}
	}
	if l := closings(t, b); !slices.Equal(l, want) {
		t.Error(l)
	}
	if l := reports(t, b); len(l) != 0 {
		t.Error(l)
	}
}

// P8.1: Reports by increasing Month, Lab, Clock and Version, and Closings by
// increasing Month.
func TestOrder(t *testing.T) {
	var want []circular.Report
	var months []circular.Closing
	for _, month := range []int{0, 2, 11, 100, 119} {
		for _, lab := range []int{1, 2, 10, 12} {
			for _, clock := range []int{0, 3, 15} {
				for _, version := range []int{1, 2, 30, 1000} {
					want = append(want, report(lab, month, clock, version, month-lab-clock-version))
				}
			}
		}
		months = append(months, closing(month, 500-month))
	}
	r := rand.New(rand.NewSource(1))
	for range 20 {
		l, c := slices.Clone(want), slices.Clone(months)
		r.Shuffle(len(l), func(i, k int) { l[i], l[k] = l[k], l[i] })
		r.Shuffle(len(c), func(i, k int) { c[i], c[k] = c[k], c[i] })
		b := load(t, l, c...)
		if x := reports(t, b); !sameReports(x, want) {
			t.Fatal(x)
		}
		if x := closings(t, b); !slices.Equal(x, months) {
			t.Fatal(x)
		}
	}
}

// P8.1: what counts, with a closing and without one, also what is gone.
func TestCounts(t *testing.T) {
	l := []circular.Report{
		report(2, 5, 0, 1, 10), report(2, 5, 0, 4, 7), gone(1, 5, 9, 3), report(1, 5, 9, 2, 8), report(1, 5, 9, 1000, 6),
		report(1, 5, 2, 5, 1), report(1, 4, 2, 9, 2), report(1, 6, 9, 2, 3), gone(12, 5, 15, 1),
	}
	for i, x := range []struct {
		closings []circular.Closing
		want     []int
	}{
		{nil, []int{5, 4, 1, 8}},
		{[]circular.Closing{closing(4, 1), closing(6, 0)}, []int{5, 4, 1, 8}},
		{[]circular.Closing{closing(5, 1000)}, []int{5, 4, 1, 8}},
		{[]circular.Closing{closing(5, 999)}, []int{5, 2, 1, 8}},
		{[]circular.Closing{closing(5, 5)}, []int{5, 2, 1, 8}},
		{[]circular.Closing{closing(5, 4)}, []int{2, 1, 8}},
		{[]circular.Closing{closing(5, 3)}, []int{2, 0, 8}},
		{[]circular.Closing{closing(5, 7), closing(5, 2), closing(5, 3)}, []int{3, 0, 8}},
		{[]circular.Closing{closing(5, 1)}, []int{0, 8}},
		{[]circular.Closing{closing(5, 0)}, nil},
	} {
		var want []circular.Report
		for _, k := range x.want {
			want = append(want, l[k])
		}
		if got := counts(t, load(t, l, x.closings...), 5); !sameReports(got, want) {
			t.Error(i, got, want)
		}
	}
}

// P8.1: months that there are not.
func TestCountsRange(t *testing.T) {
	b := load(t, []circular.Report{report(1, 0, 0, 1, 5), report(1, 119, 0, 1, 5)})
	for _, month := range []int{0, 119} {
		if l := counts(t, b, month); len(l) != 1 || l[0].Month != month {
			t.Error(month, l)
		}
	}
	for _, month := range []int{-1, 120, math.MinInt, math.MaxInt} {
		if l, e := b.Counts(month); len(l) != 0 || e != api.ErrRange {
			t.Error(month, l, e)
		}
	}
}

// P8.1: what a book keeps and what counts, by the chapter's words.
func TestBookAny(t *testing.T) {
	r := rand.New(rand.NewSource(2))
	for range 3000 {
		s := slowBook{anyReports(r, 40, 3, 1), anyClosings(r)}
		b := load(t, s.reports, s.closings...)
		if l := reports(t, b); !sameReports(l, s.kept()) {
			t.Fatal(s, l)
		}
		for month := range 3 {
			if l := counts(t, b, month); !sameReports(l, s.counts(month)) {
				t.Fatal(s, month, l)
			}
			least, is := s.closed(month)
			if slices.Contains(closings(t, b), closing(month, least)) != is {
				t.Fatal(s, month, closings(t, b))
			}
		}
	}
}

// P8.1: Put and Close return whether they change the book.
func TestChanges(t *testing.T) {
	r := rand.New(rand.NewSource(3))
	for range 200 {
		b := circular.New()
		for range 40 {
			before := merge(t, b, b)
			x := anyReport(r, 2, 1)
			if is := put(t, b, x); is == sameBook(t, before, b) {
				t.Fatal(x, is, reports(t, before))
			}
			before = merge(t, b, b)
			month, version := r.Intn(3), r.Intn(5)
			if is := shut(t, b, month, version); is == sameBook(t, before, b) {
				t.Fatal(month, version, is, closings(t, before))
			}
		}
	}
}
