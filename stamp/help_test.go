package stamp_test

import (
	"math"
	"math/big"
	"math/rand"
	"testing"

	"meridian/api"
	"meridian/stamp"
)

// last is the latest time that is allowed.
const last = 1000000000000000

// far are numbers that are allowed nowhere.
var far = []int{math.MinInt, math.MinInt + 1, -1 << 62, -last - 1, -last, last + 1, 1 << 62, math.MaxInt - 1, math.MaxInt}

// must is what a call returned that has to have no error.
func must[T any](t *testing.T) func(x T, e api.Errno) T {
	return func(x T, e api.Errno) T {
		t.Helper()
		if e != api.OK {
			t.Fatal(x, e)
		}
		return x
	}
}

// slowMix mixes two numbers by arithmetic that does not wrap.
func slowMix(x, y uint64) uint64 {
	number := func(digits string) *big.Int {
		n, _ := new(big.Int).SetString(digits, 16)
		return n
	}
	size := new(big.Int).Lsh(big.NewInt(1), 64)
	z := new(big.Int).Xor(new(big.Int).SetUint64(x), new(big.Int).SetUint64(y))
	z.Mul(z, number("D1342543DE82EF95")).Mod(z, size)
	z.Xor(z, new(big.Int).Rsh(z, 32))
	z.Mul(z, number("AEF17502108EF2D9")).Mod(z, size)
	z.Xor(z, new(big.Int).Rsh(z, 29))
	return z.Uint64()
}

// slowSign is the sign of s; before is that of the stamp before, if there is one.
func slowSign(key uint64, s stamp.Stamp, before ...uint64) uint64 {
	sign := slowMix(key, 3)
	if len(before) > 0 {
		sign = before[0]
	}
	sign = slowMix(sign, uint64(s.Serial))
	sign = slowMix(sign, s.Doc)
	sign = slowMix(sign, uint64(s.Lo))
	sign = slowMix(sign, uint64(s.Hi))
	return slowMix(sign, key)
}

// signAll signs stamps from the one with the index from on.
func signAll(key uint64, l []stamp.Stamp, from int) {
	for i := from; i < len(l); i++ {
		if i == 0 {
			l[i].Sign = slowSign(key, l[i])
		} else {
			l[i].Sign = slowSign(key, l[i], l[i-1].Sign)
		}
	}
}

// span is the interval from lo to hi.
func span(lo, hi int) api.Span { return api.Span{Lo: lo, Hi: hi} }

func ratio(n, d int) api.Ratio { return api.Ratio{N: n, D: d} }

func place(chain, serial int) stamp.Place { return stamp.Place{Chain: chain, Serial: serial} }

func cross(chain, serial, from, upto int) stamp.Cross {
	return stamp.Cross{Chain: chain, Serial: serial, From: from, Upto: upto}
}

func check(at, lo, hi int) stamp.Check { return stamp.Check{At: at, Lo: lo, Hi: hi} }

// give gives count stamps, whose true times grow by up to step.
func give(t *testing.T, c *stamp.Chain, r *rand.Rand, count, step int) []stamp.Stamp {
	t.Helper()
	now := r.Intn(step)
	for range count {
		bound := r.Intn(3 * step)
		if _, e := c.Give(r.Uint64(), max(0, now+r.Intn(2*bound+1)-bound), bound); e != api.OK {
			t.Fatal(e)
		}
		now += r.Intn(step)
	}
	return must[[]stamp.Stamp](t)(c.Stamps())
}

// chained is a list of stamps of a chain.
func chained(t *testing.T, key uint64, r *rand.Rand, count int) []stamp.Stamp {
	t.Helper()
	return give(t, stamp.New(key), r, count, 1+r.Intn(1000))
}
