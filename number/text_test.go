package number_test

import (
	"math"
	"testing"

	"meridian/number"
)

func TestDigits(t *testing.T) {
	for _, x := range []struct {
		n, count int
		want     string
	}{
		{0, 0, "0"}, {0, 1, "0"}, {0, 3, "000"}, {7, 2, "07"}, {10, 3, "010"}, {42, 2, "42"}, {42, 1, "42"}, {42, -1, "42"}, {86400, 5, "86400"},
		{-7, 0, "-7"}, {-7, 1, "-7"}, {-7, 2, "-07"}, {-10, 3, "-010"}, {-100, 2, "-100"},
		{math.MaxInt, 20, "09223372036854775807"}, {math.MinInt, 20, "-09223372036854775808"},
	} {
		if s := number.Digits(x.n, x.count); s != x.want {
			t.Error(x, s)
		}
	}
}
