package scale_test

import (
	"math"
	"math/rand"
	"slices"
	"testing"

	"meridian/api"
	"meridian/scale"
)

// apportions checks a result of Apportion.
func apportions(t *testing.T, powers []int, total, most int, want []int, e api.Errno) {
	t.Helper()
	before := slices.Clone(powers)
	l, got := scale.Apportion(powers, total, most)
	if got != e || !slices.Equal(l, want) {
		t.Error(powers, total, most, l, got, "not", want, e)
	}
	if !slices.Equal(before, powers) {
		t.Error("the powers are changed", before, powers)
	}
}

// P4.1: the chapter's first example.
func TestApportionExamples(t *testing.T) {
	apportions(t, []int{1, 1, 2}, 100, 100, []int{25, 25, 50}, api.OK)
	apportions(t, []int{1, 1, 2}, 100, 40, []int{30, 30, 40}, api.OK)
	apportions(t, []int{1, 1, 2}, 100, 30, nil, api.ErrWeight)
	apportions(t, []int{1, 1, 1}, 100, 100, []int{34, 33, 33}, api.OK)
}

// P4.1: who becomes full, and who gets what is missing.
func TestApportion(t *testing.T) {
	for _, c := range []struct {
		powers      []int
		total, most int
		want        []int
	}{
		{nil, 0, 0, nil},
		{nil, 0, scale.Whole, nil},
		{[]int{5}, 0, 0, []int{0}},
		{[]int{5, 7}, 0, 9, []int{0, 0}},
		{[]int{5}, 9, 9, []int{9}},
		{[]int{5}, 9, 10, []int{9}},
		{[]int{1, maxPower}, scale.Whole, scale.Whole, []int{0, scale.Whole}},
		{[]int{1, maxPower}, scale.Whole, scale.Whole - 1, []int{1, scale.Whole - 1}},
		{[]int{1, 3}, 4, 3, []int{1, 3}},                        // a share that is just most
		{[]int{1, 9, 90}, 100, 45, []int{10, 45, 45}},           // the second one is full later
		{[]int{60, 30, 9, 1}, 100, 32, []int{32, 32, 32, 4}},    // so is the third one
		{[]int{1, 1, 1, 1}, 6, 2, []int{2, 2, 1, 1}},            // remainders that are the same
		{[]int{2, 3, 3}, 5, 5, []int{1, 2, 2}},                  // the greater remainders are the last ones
		{[]int{3, 2, 3}, 5, 5, []int{2, 1, 2}},                  // 15/8, 10/8, 15/8
		{[]int{7, 1, 2}, 9, 4, []int{4, 2, 3}},                  // what is left is 5, for 1 and 2
		{[]int{1, 100, 2, 100, 2}, 20, 7, []int{1, 7, 3, 7, 2}}, // what is missing goes to the first of two remainders
	} {
		apportions(t, c.powers, c.total, c.most, c.want, api.OK)
	}
}

// P4.1: limits of powers, of their number, of total and most.
func TestApportionLimits(t *testing.T) {
	many := slices.Repeat([]int{maxPower}, scale.MaxMembers)
	each := make([]int, scale.MaxMembers)
	for i := range each {
		each[i] = scale.Whole / scale.MaxMembers
	}
	apportions(t, many, scale.Whole, scale.Whole, each, api.OK)
	apportions(t, many, scale.Whole, scale.Whole/scale.MaxMembers, each, api.OK)
	apportions(t, many, scale.Whole, scale.Whole/scale.MaxMembers-1, nil, api.ErrWeight)
	apportions(t, append(slices.Clone(many), 1), scale.Whole, scale.Whole, nil, api.ErrMany)
	for _, p := range []int{math.MinInt, -1, 0, maxPower + 1, math.MaxInt} {
		for i := range 3 {
			powers := []int{1, 2, 3}
			powers[i] = p
			apportions(t, powers, 6, 6, nil, api.ErrRange)
		}
	}
	for _, n := range []int{math.MinInt, -1, scale.Whole + 1, math.MaxInt} {
		apportions(t, []int{1}, n, scale.Whole, nil, api.ErrRange)
		apportions(t, []int{1}, 0, n, nil, api.ErrRange)
		apportions(t, nil, n, 0, nil, api.ErrRange)
		apportions(t, nil, 0, n, nil, api.ErrRange)
	}
	apportions(t, nil, 1, scale.Whole, nil, api.ErrWeight)
	apportions(t, []int{1}, 1, 0, nil, api.ErrWeight)
}

// P4.1, R1: the order of the errors.
func TestApportionOrderOfErrors(t *testing.T) {
	apportions(t, make([]int, scale.MaxMembers+1), -1, -1, nil, api.ErrMany)
	apportions(t, []int{0}, 9, 5, nil, api.ErrRange)
	apportions(t, []int{1}, scale.Whole+1, 5, nil, api.ErrRange)
	apportions(t, []int{1}, 5, -1, nil, api.ErrRange)
}

// P4.1, P4.6: Apportion as the chapter has it; the parts are together the total,
// and none is greater than most.
func TestApportionAny(t *testing.T) {
	r := rand.New(rand.NewSource(1))
	for range 20000 {
		powers := make([]int, r.Intn(scale.MaxMembers+1))
		size := 1 + r.Intn(1<<r.Intn(36))
		for i := range powers {
			powers[i] = min(maxPower, 1+r.Intn(size))
		}
		total := r.Intn(1 + r.Intn(1<<(1+r.Intn(19))))
		if len(powers) == 0 {
			total = 0
		}
		least := 0
		if len(powers) > 0 {
			least = (total + len(powers) - 1) / len(powers)
		}
		most := min(scale.Whole, least+r.Intn(1+r.Intn(1+total)))
		l, e := scale.Apportion(powers, total, most)
		if e != api.OK || !slices.Equal(l, slowApportion(powers, total, most)) {
			t.Fatal(powers, total, most, l, e, slowApportion(powers, total, most))
		}
		sum := 0
		for _, n := range l {
			sum += n
			if n < 0 || n > most {
				t.Fatal(powers, total, most, l)
			}
		}
		if sum != total {
			t.Fatal(powers, total, most, l, sum)
		}
	}
}

// P4.1: powers at their limit, where the products are greatest.
func TestApportionGreatestPowers(t *testing.T) {
	r := rand.New(rand.NewSource(2))
	for range 2000 {
		powers := make([]int, 1+r.Intn(scale.MaxMembers))
		for i := range powers {
			powers[i] = maxPower - r.Intn(3)
			if r.Intn(4) == 0 {
				powers[i] = 1 + r.Intn(3)
			}
		}
		least := (scale.Whole + len(powers) - 1) / len(powers)
		for _, most := range []int{least, least + 1, (least + scale.Whole) / 2, scale.Whole - 1, scale.Whole} {
			most = min(most, scale.Whole)
			l, e := scale.Apportion(powers, scale.Whole, max(most, least))
			if e != api.OK || !slices.Equal(l, slowApportion(powers, scale.Whole, max(most, least))) {
				t.Fatal(powers, most, l, e)
			}
		}
	}
}

// afterMisses is a scale with a member for each list, which has these misses.
// Three others, whose estimates are all 0, hold u there; they leave in the end.
func afterMisses(t *testing.T, most int, lists ...[]int) *scale.Scale {
	t.Helper()
	c := made(t, scale.Setup{Cap: most, Gate: 1, Keep: 30}, 0)
	for id := range 3 + len(lists) {
		enter(t, c, id, 0, 0, 1000)
	}
	for k := range slices.MaxFunc(lists, func(a, b []int) int { return len(a) - len(b) }) {
		l := []scale.Reading{{Id: 0}, {Id: 1}, {Id: 2}}
		for i, m := range members(t, c)[3:] {
			if k < len(lists[i]) {
				l = append(l, scale.Reading{Id: m.Id, Diff: m.H + m.Rate - lists[i][k]})
			}
		}
		if p := take(t, c, l...); p.U != 0 {
			t.Fatal(lists, p)
		}
	}
	for id := range 3 {
		c.Leave(id)
	}
	for i, m := range members(t, c) {
		if !slices.Equal(m.Misses, lists[i]) {
			t.Fatal(lists, m)
		}
	}
	return c
}

// P4.3: the power of a member is told by its misses, each without its last
// three digits; it is at least 1.
func TestPowers(t *testing.T) {
	for _, c := range []struct {
		a, b []int
		want []int // powers
	}{
		{nil, []int{0}, []int{1, 1}},
		{nil, []int{999}, []int{1, 1}},
		{nil, []int{-999}, []int{1, 1}},
		{nil, []int{1000}, []int{2, 1}},
		{nil, []int{-1000}, []int{2, 1}},
		{nil, []int{-1999}, []int{2, 1}},
		{nil, []int{2000}, []int{5, 1}},
		{nil, []int{1000, 0}, []int{1, 1}}, // 1/2 is rounded down
		{nil, []int{0, 0, 2000}, []int{2, 1}},
		{[]int{1000}, []int{2000, 1000}, []int{3, 2}}, // and so is 5/2
		{[]int{1000, 1000, 1000}, []int{1000}, []int{1, 1}},
		{[]int{3000, -2000, 0}, []int{2000}, []int{1, 1}},
		{[]int{1500, 1500}, []int{0, 0}, []int{1, 2}}, // each one is divided first
		{[]int{maxMiss}, []int{-316228000}, []int{1, 1}},
		{[]int{maxMiss}, []int{316228000}, []int{1, 1}},
		{[]int{maxMiss}, []int{-316227000}, []int{1, 1}},
		{[]int{maxMiss}, []int{200000000}, []int{1, 2}}, // 10^11 / (4 * 10^10 + 1)
		{[]int{maxMiss}, []int{182574000, 182574000}, []int{1, 3}},
		{slices.Repeat([]int{maxMiss}, 30), []int{200000000}, []int{1, 2}},
	} {
		want := slowApportion(c.want, scale.Whole, scale.Whole)
		if l := weightsOf(t, afterMisses(t, scale.Whole, c.a, c.b)); !slices.Equal(l, want) {
			t.Error(c.a, c.b, l, want)
		}
	}
}

// P4.3: of powers that are great, all digits count.
func TestGreatPowers(t *testing.T) {
	for _, k := range []int{1, 2, 3, 7, 30, 316, 1000, 99999} {
		want := slowApportion([]int{maxPower, maxPower / (1 + k*k)}, scale.Whole, scale.Whole)
		if l := weightsOf(t, afterMisses(t, scale.Whole, nil, []int{1000 * k})); !slices.Equal(l, want) {
			t.Error(k, l, want)
		}
	}
}
