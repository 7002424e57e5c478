package quality_test

import (
	"math/rand"
	"slices"
	"testing"

	"meridian/api"
	"meridian/quality"
)

// P12.2: chi and consistency of all sets.
func TestChi(t *testing.T) {
	r := rand.New(rand.NewSource(5))
	for _, c := range comparisons(r, 20) {
		for _, set := range sets(len(c.Results)) {
			want := slowChi(c, set)
			if chi, e := quality.Chi(c, set); e != api.OK || !equal(chi, want) {
				t.Fatal(c, set, chi, want, e)
			}
			if is, e := quality.Consistent(c, set); e != api.OK || is != slowConsistent(c, set) {
				t.Fatal(c, set, want, is, e)
			}
		}
	}
}

// all are the indices of count results.
func all(count int) []int {
	var l []int
	for i := range count {
		l = append(l, i)
	}
	return l
}

// P12.2: results are consistent with a chi that is just the limit, and not with a
// greater one, however many they are.
func TestJustConsistent(t *testing.T) {
	for count, limit := range map[int]int{2: 384, 3: 599, 4: 781, 5: 949, 6: 1107, 7: 1259, 8: 1407, 9: 1551, 10: 1692} {
		// A value v with the weight 1 beside zeros with the weight 99 has the chi
		// v^2 * 99 / 100 / Unit.
		c := comparison(99 * limit)
		for i := range count {
			c.Results = append(c.Results, result(i, 0, 1))
		}
		c.Results[0].Weight = 99 - (count - 2)
		c.Results[count-1].Value = limit
		if chi, e := quality.Chi(c, all(count)); e != api.OK || !equal(chi, rat(limit, 100)) {
			t.Fatal(c, chi, e)
		}
		if is, e := quality.Consistent(c, all(count)); !is || e != api.OK {
			t.Error(c, is, e)
		}
		c.Unit-- // the chi becomes greater by less than a hundredth
		if is, e := quality.Consistent(c, all(count)); is || e != api.OK {
			t.Error(c, is, e)
		}
	}
	one := comparison(1, result(1, 100000, 100), result(2, -100000, 100))
	for i := range 2 {
		if is, e := quality.Consistent(one, []int{i}); !is || e != api.OK {
			t.Error(i, is, e)
		}
	}
}

// P12.2: lists that are no sets of results.
func TestNoSet(t *testing.T) {
	c := comparison(3, result(1, 2, 3), result(2, 3, 4), result(3, 4, 5))
	l := [][]int{nil, {}, {1, 0}, {0, 0}, {2, 2}, {0, 2, 1}, {0, 1, 1}, {0, 1, 2, 2}, {0, 1, 2, 3}, {-1, 0}, {1, 2, 1}}
	for _, n := range append(far, -1, 3) {
		l = append(l, []int{n}, []int{0, n}, []int{n, 0}, []int{0, 1, 2, n}, []int{n, 0, 1, 2})
	}
	for _, set := range l {
		if chi, e := quality.Chi(c, set); (chi != api.Ratio{}) || e != api.ErrArg {
			t.Error(set, chi, e)
		}
		if is, e := quality.Consistent(c, set); is || e != api.ErrArg {
			t.Error(set, is, e)
		}
	}
}

// P12.5: the chi is at most what the results have about any other number.
func TestChiIsLeast(t *testing.T) {
	r := rand.New(rand.NewSource(6))
	for range 500 {
		c := anyComparison(r, 1+r.Intn(1000000), 1+r.Intn(10), 100, 1+r.Intn(100000), 100)
		set := all(len(c.Results))
		chi := must[api.Ratio](t)(quality.Chi(c, set))
		mean, _, _ := quality.Reference(c)
		for range 20 {
			about := plus(rat(mean.N, mean.D), rat(r.Intn(21)-10, 1+r.Intn(100)))
			if chiAbout(c.Unit, c.Results, about).Cmp(rat(chi.N, chi.D)) < 0 {
				t.Fatal(c, chi, about)
			}
		}
	}
}

// slowLargest is the largest consistent set by the chapter's words.
func slowLargest(c quality.Comparison) []int {
	var l [][]int
	for _, set := range sets(len(c.Results)) {
		if slowConsistent(c, set) {
			l = append(l, set)
		}
	}
	return slices.MinFunc(l, func(a, b []int) int {
		if len(a) != len(b) {
			return len(b) - len(a)
		}
		if n := slowChi(c, a).Cmp(slowChi(c, b)); n != 0 {
			return n
		}
		return slices.Compare(a, b)
	})
}

// P12.2, P12.5: the largest consistent sets, whether the chi or the order of the
// indices chooses them.
func TestLargest(t *testing.T) {
	r := rand.New(rand.NewSource(7))
	sizes := map[int]int{}
	for range 60 {
		for _, c := range []quality.Comparison{
			anyComparison(r, 1+r.Intn(2), 1+r.Intn(9), 10, 4, 1),
			anyComparison(r, 1+r.Intn(3), 1+r.Intn(9), 10, 10, 3),
			anyComparison(r, 1+r.Intn(1000000), 1+r.Intn(9), 100, 3000, 100),
			anyComparison(r, 900000+r.Intn(100001), 1+r.Intn(9), 100, 500, 100),
			anyComparison(r, 1+r.Intn(1000000), 1+r.Intn(9), 100, 100000, 100),
		} {
			set := must[[]int](t)(quality.Largest(c))
			if want := slowLargest(c); !slices.Equal(set, want) {
				t.Fatal(c, set, want)
			}
			sizes[len(set)]++
		}
	}
	for n := 1; n <= 8; n++ {
		if sizes[n] == 0 {
			t.Error("no set of this size", n, sizes)
		}
	}
}

// P12.2, R6: sets of ten and nine results, and those that are equal in all but
// their indices.
func TestLargestOfMany(t *testing.T) {
	same := comparison(5)
	for i := range 10 {
		same.Results = append(same.Results, result(i, 7, 10))
	}
	if set := must[[]int](t)(quality.Largest(same)); !slices.Equal(set, all(10)) {
		t.Error(set)
	}
	for i := range 10 {
		c := comparison(1, slices.Clone(same.Results)...)
		c.Results[i].Value = 1000
		if set := must[[]int](t)(quality.Largest(c)); !slices.Equal(set, slices.DeleteFunc(all(10), func(k int) bool { return k == i })) {
			t.Error(i, set)
		}
	}
	apart := comparison(1)
	for i := range 10 {
		apart.Results = append(apart.Results, result(i, 1000*i, 1))
	}
	if set := must[[]int](t)(quality.Largest(apart)); !slices.Equal(set, []int{0}) {
		t.Error(set)
	}
	apart.Results[9].Value = apart.Results[4].Value
	apart.Results[8].Value = apart.Results[3].Value
	if set := must[[]int](t)(quality.Largest(apart)); !slices.Equal(set, []int{3, 8}) {
		t.Error(set)
	}
}

// P12.2: nine of ten results that have nearly the greatest chi that nine can have,
// with the greatest numbers.
func TestLargestOfGreatNumbers(t *testing.T) {
	r := rand.New(rand.NewSource(8))
	nine := 0
	for range 20 {
		c := comparison(999983 - r.Intn(3))
		for i := range 10 {
			c.Results = append(c.Results, result(i, 262*(i%2)+r.Intn(11)-5, 97+r.Intn(4)))
		}
		set := must[[]int](t)(quality.Largest(c))
		if want := slowLargest(c); !slices.Equal(set, want) {
			t.Error(c, set, want)
		}
		if len(set) == 9 {
			nine++
		}
	}
	if nine == 0 {
		t.Error("no sets of nine")
	}
}
