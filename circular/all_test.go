package circular_test

import (
	"math"
	"math/rand"
	"slices"
	"testing"

	"meridian/api"
	"meridian/circular"
	"meridian/scale"
)

// P8.5: in whatever order reports and closings came, and however often, books keep
// the same and give the same sheets.
func TestAnyOrder(t *testing.T) {
	r := rand.New(rand.NewSource(8))
	for range 500 {
		l, c := anyReports(r, 30, 4, 3), anyClosings(r)
		a := load(t, l, c...)
		b := circular.New()
		for _, i := range append(r.Perm(len(l)+len(c)), r.Perm(len(l) + len(c))[:(len(l)+len(c))/2]...) {
			if i < len(l) {
				put(t, b, l[i])
			} else {
				shut(t, b, c[i-len(l)].Month, c[i-len(l)].Version)
			}
		}
		if !sameBook(t, a, b) {
			t.Fatal(l, c, reports(t, a), reports(t, b))
		}
		for month := range 2 {
			x, e := a.Sheet(month, wide(), 5)
			y, e2 := b.Sheet(month, wide(), 5)
			if !sameSheet(x, y) || e != e2 || !sameReports(counts(t, a, month), counts(t, b, month)) {
				t.Fatal(l, c, x, y)
			}
		}
	}
}

// P8.5: merging is commutative, associative and idempotent.
func TestMergeLaws(t *testing.T) {
	r := rand.New(rand.NewSource(9))
	for range 500 {
		var b [3]*circular.Book
		for i := range b {
			b[i] = load(t, anyReports(r, 15, 3, 1), anyClosings(r)...)
		}
		ab := merge(t, b[0], b[1])
		if !sameBook(t, ab, merge(t, b[1], b[0])) {
			t.Fatal("not commutative", reports(t, ab))
		}
		if !sameBook(t, merge(t, ab, b[2]), merge(t, b[0], merge(t, b[1], b[2]))) {
			t.Fatal("not associative", reports(t, ab))
		}
		if !sameBook(t, merge(t, ab, ab), ab) || !sameBook(t, merge(t, ab, b[0]), ab) || !sameBook(t, merge(t, circular.New(), ab), ab) {
			t.Fatal("not idempotent", reports(t, ab))
		}
	}
}

// P8.5: reports with a greater Version do not change the sheet of a month that is
// closed.
func TestClosedMonth(t *testing.T) {
	r := rand.New(rand.NewSource(10))
	for range 500 {
		version := r.Intn(4)
		b := load(t, anyReports(r, 20, 4, 100), closing(0, version))
		want, e := b.Sheet(0, wide(), 0)
		for range 20 {
			x := anyReport(r, 12, 100)
			x.Version += version
			put(t, b, x)
		}
		if s, e2 := b.Sheet(0, wide(), 0); !sameSheet(s, want) || e != e2 {
			t.Fatal(reports(t, b), s, want)
		}
	}
}

// P8.5: if all Diffs of a month are less at an epoch that is not the first one, u
// is greater by as much, and nothing else of the sheet changes.
func TestMaster(t *testing.T) {
	r := rand.New(rand.NewSource(11))
	for range 1000 {
		l := anyReports(r, 30, 12, 1<<r.Intn(29))
		less := make([]int, 12)
		for k := 1; k < 12; k++ {
			less[k] = around(r, 1<<r.Intn(29))
		}
		var shifted []circular.Report
		for _, x := range l {
			x.Diffs = slices.Clone(x.Diffs)
			for k := range x.Diffs {
				x.Diffs[k] -= less[k] * (1 - x.Month)
			}
			shifted = append(shifted, x)
		}
		setup, c := anySetup(r), anyClosings(r)
		want, e := load(t, l, c...).Sheet(0, setup, 5)
		for k := range want.Rows {
			want.Rows[k].U += less[k]
		}
		if s, e2 := load(t, shifted, c...).Sheet(0, setup, 5); !sameSheet(s, want) || e != e2 {
			t.Fatal(l, less, s, want)
		}
	}
}

// P8.4: a nil book and ones that the package did not return.
func TestNoObject(t *testing.T) {
	good := load(t, many(2000), closing(0, 5))
	copied := *good
	for i, b := range []*circular.Book{nil, {}, new(circular.Book), &copied} {
		for _, r := range []circular.Report{report(1, 0, 0, 1, 5), report(1, 0, 0, 5, 5), {}} {
			if is, e := b.Put(r); is || e != api.ErrNil {
				t.Error(i, is, e)
			}
		}
		for _, c := range []circular.Closing{{}, closing(-1, 0)} {
			if is, e := b.Close(c); is || e != api.ErrNil {
				t.Error(i, is, e)
			}
		}
		if l, e := b.Reports(); l != nil || e != api.ErrNil {
			t.Error(i, l, e)
		}
		if l, e := b.Closings(); l != nil || e != api.ErrNil {
			t.Error(i, l, e)
		}
		for _, month := range []int{0, -1} {
			if l, e := b.Counts(month); l != nil || e != api.ErrNil {
				t.Error(i, l, e)
			}
			for _, setup := range []scale.Setup{wide(), {}} {
				if s, e := b.Sheet(month, setup, 0); !sameSheet(s, circular.Sheet{}) || e != api.ErrNil {
					t.Error(i, s, e)
				}
			}
		}
	}
	if !sameBook(t, good, load(t, many(2000), closing(0, 5))) {
		t.Error("the book is changed")
	}
}

// R4: a report that is kept is a copy, and so is one that is returned.
func TestMemory(t *testing.T) {
	l := []circular.Report{report(1, 0, 0, 1, 5, 6, 7), report(2, 0, 0, 1, 1, 2, 3)}
	c := []circular.Closing{closing(0, 1)}
	b := load(t, l, c...)
	put(t, b, l[0])
	put(t, b, report(3, 0, 0, 1, l[1].Diffs...))
	m := merge(t, b, b)
	want := sheet(t, b, 0, wide(), 0)
	if !sameReports(l, []circular.Report{report(1, 0, 0, 1, 5, 6, 7), report(2, 0, 0, 1, 1, 2, 3)}) || c[0] != closing(0, 1) {
		t.Error("an argument is changed", l, c)
	}
	spoil := func(l []circular.Report) {
		for i, r := range l {
			_ = append(r.Diffs, 99)
			for k := range r.Diffs {
				r.Diffs[k] += 13
			}
			l[i].Lab++
		}
	}
	spoil(l)
	c[0].Version = 0
	for _, x := range []*circular.Book{b, m} {
		for range 2 {
			spoil(reports(t, x))
			spoil(counts(t, x, 0))
			closings(t, x)[0].Version = 0
			s := sheet(t, x, 0, wide(), 0)
			if !sameSheet(s, want) {
				t.Fatal("a book shares memory", s, want)
			}
			spoilSheet(t, s)
		}
	}
}

// spoilSheet changes each list of a sheet, which must not change another one.
func spoilSheet(t *testing.T, s circular.Sheet) {
	t.Helper()
	lists := [][]int{s.Ids}
	for _, r := range s.Rows {
		lists = append(lists, r.Ids, r.Weights)
	}
	lists = append(lists, s.Corrections...)
	for i, l := range lists {
		var others [][]int
		for _, other := range lists[i+1:] {
			others = append(others, slices.Clone(other))
		}
		_ = append(l, 99)
		for k := range l {
			l[k] = -1234567
		}
		if !slices.EqualFunc(others, lists[i+1:], slices.Equal) {
			t.Fatal("lists of a sheet share memory", i, s)
		}
	}
}

// P8.3, R4: Differ and Load change no argument.
func TestArguments(t *testing.T) {
	a, b := paper([]int{16, 17}, []int{5, 6}), paper([]int{17, 16, 16}, []int{7}, []int{5, 5, 5})
	circular.Differ(a, b)
	if !sameSheet(a, paper([]int{16, 17}, []int{5, 6})) || !sameSheet(b, paper([]int{17, 16, 16}, []int{7}, []int{5, 5, 5})) {
		t.Error(a, b)
	}
	l := []circular.Report{report(2, 0, 0, 1, 5), report(1, 0, 0, 1, 5), {}}
	c := []circular.Closing{closing(5, 1), closing(0, 1), closing(-1, 0)}
	circular.Load(l, c)
	circular.Load(l[:2], c)
	if !sameReports(l, []circular.Report{report(2, 0, 0, 1, 5), report(1, 0, 0, 1, 5), {}}) || !slices.Equal(c, []circular.Closing{closing(5, 1), closing(0, 1), closing(-1, 0)}) {
		t.Error(l, c)
	}
}

// P8.5: what is put into one book is nothing to another one.
func TestTwoBooks(t *testing.T) {
	a, b := circular.New(), circular.New()
	put(t, a, report(1, 0, 0, 1, 5))
	shut(t, a, 0, 1)
	if !sameBook(t, b, load(t, nil)) {
		t.Error(reports(t, b), closings(t, b))
	}
}

// P9: nothing panics, whatever the arguments.
func TestAnyArguments(t *testing.T) {
	numbers := []int{math.MinInt, math.MinInt + 1, -scale.MaxDiff - 1, -scale.MaxDiff, -diff - 1, -diff, -1, 0, 1, 2, 12, 13, 119, 120, 1000, 1001, diff, diff + 1, scale.MaxDiff, scale.MaxDiff + 1, 1 << 62, math.MaxInt}
	r := rand.New(rand.NewSource(12))
	any := func() int {
		if r.Intn(3) > 0 {
			return 1 + r.Intn(3)
		}
		return numbers[r.Intn(len(numbers))]
	}
	list := func() []int {
		var l []int
		for range r.Intn(14) {
			l = append(l, any())
		}
		return l
	}
	good := circular.New()
	for range 3000 {
		for _, b := range []*circular.Book{good, nil, new(circular.Book)} {
			b.Put(circular.Report{Lab: any(), Month: any(), Clock: any(), Version: any(), Diffs: list(), Gone: r.Intn(4) == 0})
			b.Close(closing(any(), any()))
			b.Counts(any())
			b.Sheet(any(), scale.Setup{Cap: any(), Gate: any(), Wait: any(), Keep: any()}, any())
			b.Sheet(r.Intn(4), wide(), any())
			b.Reports()
			b.Closings()
			circular.Merge(b, good)
			circular.Merge(good, b)
		}
		circular.Load([]circular.Report{{Lab: any(), Month: any(), Clock: any(), Version: any(), Diffs: list()}}, []circular.Closing{closing(any(), any())})
		circular.Differ(paper(list(), list(), list()), paper(list(), list()))
		circular.Differ(paper(list(), list()), circular.Sheet{Month: any(), Ids: list()})
	}
}
