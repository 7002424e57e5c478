package quality_test

import (
	"math/rand"
	"reflect"
	"slices"
	"testing"

	"meridian/api"
	"meridian/quality"
)

// copies of a comparison and of a shop, which share no memory with them.
func copyOf(c quality.Comparison) quality.Comparison {
	return comparison(c.Unit, slices.Clone(c.Results)...)
}

func copyOfShop(s quality.Shop) quality.Shop {
	return quality.Shop{Primary: slices.Clone(s.Primary), List: slices.Clone(s.List)}
}

// R4: no argument is changed, and no result shares memory with one or with another
// result.
func TestMemory(t *testing.T) {
	c := comparison(900, result(5, 40, 3), result(2, 100, 9), result(9, 38, 2), result(1, 42, 7))
	b := comparison(40, result(9, 3, 4), result(5, 8, 1))
	keptC, keptB, set := copyOf(c), copyOf(b), []int{0, 2, 3}
	quality.Reference(c)
	quality.Pair(c, 0, 1)
	quality.Chi(c, set)
	quality.Consistent(c, set)
	degrees := must[[]quality.Degree](t)(quality.Degrees(c))
	clear(degrees)
	clear(must[[]int](t)(quality.Large(c)))
	clear(must[[]int](t)(quality.Largest(c)))
	_, joined, _ := quality.Join(c, b)
	clear(joined)
	if !reflect.DeepEqual(c, keptC) || !reflect.DeepEqual(b, keptB) || !slices.Equal(set, []int{0, 2, 3}) {
		t.Error(c, b, set)
	}
	if l := must[[]quality.Degree](t)(quality.Degrees(c)); l[0].Lab != 5 {
		t.Error(l)
	}

	s := shop(4, calibration(3, 2, 50030, 10, 1), calibration(2, 1, 50020, 20, 1), calibration(1, 0, 50010, 30, 1), calibration(3, 0, 50005, 5, 1))
	kept, chain := copyOfShop(s), []int{0, 1, 2}
	l, _, _ := quality.Trace(s, 3, 50030)
	if !slices.Equal(l, chain) {
		t.Error(l)
	}
	clear(l)
	quality.CheckTrace(s, 3, 50030, chain)
	clear(must[[]api.Span](t)(quality.Valid(s, 3)))
	clear(must[[]int](t)(quality.Recall(s, 1, 50020, 50020, 50030)))
	if !reflect.DeepEqual(s, kept) || !slices.Equal(chain, []int{0, 1, 2}) {
		t.Error(s, chain)
	}

	book := []quality.Entry{entry(1, 7, 1, 50000), entry(2, 7, 2, 50000), entry(3, 7, 3, 50000)}
	keptBook := slices.Clone(book)
	quality.Audit(book)
	quality.InForce(book, 7, 50000)
	if !slices.Equal(book, keptBook) {
		t.Error(book)
	}
}

// R3: a nil list and an empty one are the same value.
func TestNilAndEmpty(t *testing.T) {
	for _, l := range [][]quality.Result{nil, {}} {
		if e := quality.Check(quality.Comparison{Unit: 1, Results: l}); e != api.ErrMany {
			t.Error(e)
		}
	}
	for _, primary := range [][]bool{nil, {}} {
		if e := quality.CheckShop(quality.Shop{Primary: primary}); e != api.ErrMany {
			t.Error(e)
		}
	}
	for _, list := range [][]quality.Calibration{nil, {}} {
		s := quality.Shop{Primary: []bool{false, true}, List: list}
		if e := quality.CheckShop(s); e != api.OK {
			t.Error(e)
		}
		for _, chain := range [][]int{nil, {}} {
			if n, e := quality.CheckTrace(s, 1, 50000, chain); n != 0 || e != api.OK {
				t.Error(n, e)
			}
			if n, e := quality.CheckTrace(s, 0, 50000, chain); n != 0 || e != api.ErrFalse {
				t.Error(n, e)
			}
		}
		if l := must[[]api.Span](t)(quality.Valid(s, 0)); len(l) != 0 {
			t.Error(l)
		}
		if l := must[[]int](t)(quality.Recall(s, 1, 50000, 50000, 50000)); len(l) != 0 {
			t.Error(l)
		}
	}
	for _, l := range [][]quality.Entry{nil, {}} {
		if n, e := quality.Audit(l); n != 0 || e != api.OK {
			t.Error(n, e)
		}
		if p, e := quality.InForce(l, 0, 50000); (p != quality.Page{}) || e != api.ErrNone {
			t.Error(p, e)
		}
	}
}

// P9: nothing panics, whatever the arguments, and everything ends.
func TestAnyArguments(t *testing.T) {
	r := rand.New(rand.NewSource(16))
	numbers := append(far, -1, 0, 1, 2, 3, 4, 5, 99, 100, 101, 10000, 100000, 1000000, first, 50000, 50001, last)
	any := func() int { return numbers[r.Intn(len(numbers))] }
	small := func() int {
		if r.Intn(10) == 0 {
			return any()
		}
		return r.Intn(4)
	}
	day := func() int {
		if r.Intn(10) == 0 {
			return any()
		}
		return 50000 + r.Intn(3)
	}
	for range 20000 {
		a, b := comparison(1+small()), comparison(any())
		for range r.Intn(12) {
			a.Results = append(a.Results, result(r.Intn(30), small(), 1+small()))
			b.Results = append(b.Results, result(small(), any(), any()))
		}
		set := make([]int, r.Intn(4))
		for i := range set {
			set[i] = small()
		}
		for _, c := range []quality.Comparison{a, b} {
			ofComparison(c, set)
			quality.Pair(c, small(), any())
			quality.Join(a, c)
		}
		s := quality.Shop{Primary: make([]bool, r.Intn(6))}
		for i := range s.Primary {
			s.Primary[i] = r.Intn(3) == 0
		}
		for range r.Intn(8) {
			s.List = append(s.List, calibration(r.Intn(3), small(), day(), 1+small(), small()))
		}
		ofShop(s, small(), day())
		quality.CheckTrace(s, small(), day(), set)
		quality.Valid(s, small())
		quality.Recall(s, small(), day(), day(), day())
		book := make([]quality.Entry, r.Intn(6))
		for i := range book {
			book[i] = entry(small(), small(), small(), day())
		}
		quality.Audit(book)
		quality.InForce(book, small(), day())
	}
}
