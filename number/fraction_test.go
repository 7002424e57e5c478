package number_test

import (
	"math"
	"math/big"
	"testing"

	"meridian/api"
	"meridian/number"
)

func TestLowest(t *testing.T) {
	for _, d := range []int{1, 2, 3, 4, 6, 12, 35, 97, 1 << 40, 1000000000000000, math.MaxInt - 1, math.MaxInt} {
		for _, n := range []int{0, 1, -1, 2, -2, 6, -6, 12, 35, -70, 97, 1 << 41, -1 << 39, math.MaxInt - 1, math.MaxInt, math.MinInt + 1, math.MinInt} {
			want := big.NewRat(int64(n), int64(d))
			r := number.Lowest(n, d)
			if want.Num().Cmp(big.NewInt(int64(r.N))) != 0 || want.Denom().Cmp(big.NewInt(int64(r.D))) != 0 {
				t.Error(n, d, r, want)
			}
			if !number.IsLowest(r) {
				t.Error("not in lowest terms", n, d, r)
			}
			if is := number.IsLowest(api.Ratio{N: n, D: d}); is != (r.D == d) {
				t.Error(n, d, is)
			}
		}
	}
}

func TestIsLowest(t *testing.T) {
	for r, want := range map[api.Ratio]bool{
		{N: 0, D: 1}: true, {N: 1, D: 1}: true, {N: -1, D: 1}: true, {N: -3, D: 2}: true, {N: 1, D: math.MaxInt}: true, {N: math.MinInt, D: 1}: true, {N: math.MinInt, D: 3}: true,
		{}: false, {N: 1}: false, {N: 0, D: 2}: false, {N: 2, D: 4}: false, {N: -3, D: 3}: false, {N: math.MinInt, D: 2}: false,
		{N: 1, D: -1}: false, {N: -1, D: -2}: false, {N: 0, D: -1}: false, {N: 1, D: math.MinInt}: false, {N: math.MinInt, D: math.MinInt}: false,
	} {
		if is := number.IsLowest(r); is != want {
			t.Error(r, is)
		}
	}
}

func TestCompare(t *testing.T) {
	var l []api.Ratio
	for _, n := range []int{0, 1, -1, 2, -2, 3, 7, -7, 1000000000, -1000000000, 999999999} {
		for _, d := range []int{1, 2, 3, 7, 999999999, 1000000000} {
			l = append(l, number.Lowest(n, d))
		}
	}
	for _, a := range l {
		for _, b := range l {
			want := big.NewRat(int64(a.N), int64(a.D)).Cmp(big.NewRat(int64(b.N), int64(b.D)))
			if is := number.Compare(a, b); is != want {
				t.Error(a, b, is)
			}
		}
	}
}
