package scale_test

import (
	"math/big"
	"math/rand"
	"slices"
	"testing"

	"meridian/api"
	"meridian/scale"
)

const (
	maxPower = 100000000000
	maxMiss  = 1000000000
)

// wide lets all members count, by any weight.
func wide() scale.Setup { return scale.Setup{Cap: scale.Whole, Gate: scale.MaxGate, Keep: 30} }

func made(t *testing.T, s scale.Setup, u int) *scale.Scale {
	t.Helper()
	c, e := scale.New(s, u)
	if e != api.OK || c == nil {
		t.Fatal(s, u, e)
	}
	return c
}

// enter is Enter, which has to have no error.
func enter(t *testing.T, c *scale.Scale, id, diff, rate, memory int) {
	t.Helper()
	if e := c.Enter(id, diff, rate, memory); e != api.OK {
		t.Fatal(id, diff, rate, memory, e)
	}
}

// take is Take, which has to have no error.
func take(t *testing.T, c *scale.Scale, l ...scale.Reading) scale.Point {
	t.Helper()
	p, e := c.Take(l)
	if e != api.OK {
		t.Fatal(l, e)
	}
	return p
}

// two is the scale of the chapter's examples.
func two(t *testing.T) *scale.Scale {
	t.Helper()
	c := made(t, scale.Setup{Cap: 1000000, Gate: 1000, Keep: 5}, 0)
	enter(t, c, 1, 100, 10, 2)
	enter(t, c, 2, 200, -10, 2)
	return c
}

func members(t *testing.T, c *scale.Scale) []scale.Member {
	t.Helper()
	l, e := c.Members()
	if e != api.OK {
		t.Fatal(e)
	}
	return l
}

func points(t *testing.T, c *scale.Scale) []scale.Point {
	t.Helper()
	l, e := c.Points()
	if e != api.OK {
		t.Fatal(e)
	}
	return l
}

func samePoint(a, b scale.Point) bool {
	return a.Epoch == b.Epoch && a.U == b.U && slices.Equal(a.Ids, b.Ids) && slices.Equal(a.Weights, b.Weights)
}

func sameMember(a, b scale.Member) bool {
	return a.Id == b.Id && a.H == b.H && a.Rate == b.Rate && a.Memory == b.Memory && a.Since == b.Since && slices.Equal(a.Misses, b.Misses)
}

// kept is all that a scale tells of itself.
type kept struct {
	members []scale.Member
	points  []scale.Point
}

func keptOf(t *testing.T, c *scale.Scale) kept {
	t.Helper()
	return kept{members(t, c), points(t, c)}
}

func (k kept) same(other kept) bool {
	return slices.EqualFunc(k.members, other.members, sameMember) && slices.EqualFunc(k.points, other.points, samePoint)
}

// weightsOf are the weights of the next epoch if all members read as expected.
func weightsOf(t *testing.T, c *scale.Scale) []int {
	t.Helper()
	var l []scale.Reading
	for _, m := range members(t, c) {
		l = append(l, scale.Reading{Id: m.Id, Diff: m.H + m.Rate})
	}
	p, e := c.Expect(l)
	if e != api.OK {
		t.Fatal(l, e)
	}
	return p.Weights
}

func whole(n int) *big.Rat { return new(big.Rat).SetInt64(int64(n)) }

// slowShare is what is left, times the power, divided by the sum of the powers
// of those that are not full.
func slowShare(powers []int, full []bool, total, most, i int) *big.Rat {
	left, sum := total, 0
	for j, p := range powers {
		if full[j] {
			left -= most
		} else {
			sum += p
		}
	}
	share := new(big.Rat).Mul(whole(left), whole(powers[i]))
	return share.Quo(share, whole(sum))
}

// slowApportion follows the chapter's words.
func slowApportion(powers []int, total, most int) []int {
	full := make([]bool, len(powers))
	for {
		var now []int
		for i := range powers {
			if !full[i] && slowShare(powers, full, total, most, i).Cmp(whole(most)) > 0 {
				now = append(now, i)
			}
		}
		if len(now) == 0 {
			break
		}
		for _, i := range now {
			full[i] = true
		}
	}
	parts := make([]int, len(powers))
	rests := make([]*big.Rat, len(powers))
	missing := total
	for i := range powers {
		parts[i], rests[i] = most, new(big.Rat)
		if !full[i] {
			share := slowShare(powers, full, total, most, i)
			parts[i] = int(new(big.Int).Quo(share.Num(), share.Denom()).Int64())
			rests[i] = share.Sub(share, whole(parts[i]))
		}
		missing -= parts[i]
	}
	given := make([]bool, len(powers))
	for ; missing > 0; missing-- {
		best := -1
		for i := range powers {
			if !full[i] && !given[i] && parts[i] < most && (best < 0 || rests[i].Cmp(rests[best]) > 0) {
				best = i
			}
		}
		given[best] = true
		parts[best]++
	}
	return parts
}

// slowScale follows the chapter's words, with no regard to errors.
type slowScale struct {
	setup   scale.Setup
	epoch   int
	u       int
	members []scale.Member
}

func slowPower(m scale.Member) int {
	v := whole(1)
	if n := len(m.Misses); n > 0 {
		for _, miss := range m.Misses {
			k := miss / 1000
			v.Add(v, big.NewRat(int64(k)*int64(k), int64(n)))
		}
	}
	floor := new(big.Int).Quo(v.Num(), v.Denom()).Int64()
	return max(1, int(maxPower/floor))
}

// nearest is the nearest whole number, of two the greater one.
func nearest(r *big.Rat) int {
	twice := new(big.Rat).Add(r, big.NewRat(1, 2))
	return int(new(big.Int).Div(twice.Num(), twice.Denom()).Int64())
}

func (s *slowScale) enter(id, diff, rate, memory int) {
	s.members = append(s.members, scale.Member{Id: id, H: diff + s.u, Rate: rate, Memory: memory, Since: s.epoch})
}

func (s *slowScale) leave(id int) {
	s.members = slices.DeleteFunc(s.members, func(m scale.Member) bool { return m.Id == id })
}

// weigh is the value with its weights, if some members count.
func (s *slowScale) weigh(which []int, estimate []int) (int, []int) {
	var powers []int
	for _, i := range which {
		powers = append(powers, slowPower(s.members[i]))
	}
	most := s.setup.Cap
	for most*len(which) < scale.Whole {
		most = max(most+1, scale.Whole/len(which))
	}
	weights := slowApportion(powers, scale.Whole, most)
	sum := new(big.Rat)
	for k, i := range which {
		sum.Add(sum, new(big.Rat).Mul(whole(weights[k]), whole(estimate[i])))
	}
	return nearest(sum.Quo(sum, whole(scale.Whole))), weights
}

func (s *slowScale) take(diffs map[int]int) scale.Point {
	s.epoch++
	estimate := make([]int, len(s.members))
	var present, which []int
	for i, m := range s.members {
		if d, is := diffs[m.Id]; is {
			estimate[i] = m.H + m.Rate - d
			present = append(present, i)
			if m.Since <= s.epoch-s.setup.Wait {
				which = append(which, i)
			}
		}
	}
	if len(which) == 0 {
		which = slices.Clone(present)
	}
	u, weights := s.weigh(which, estimate)
	for len(which) >= 2 {
		far, most := -1, s.setup.Gate
		for k, i := range which {
			if d := max(estimate[i]-u, u-estimate[i]); d > most {
				far, most = k, d
			}
		}
		if far < 0 {
			break
		}
		which = slices.Delete(which, far, far+1)
		u, weights = s.weigh(which, estimate)
	}
	p := scale.Point{Epoch: s.epoch, U: u, Weights: weights}
	for _, i := range which {
		p.Ids = append(p.Ids, s.members[i].Id)
	}
	s.follow(diffs, estimate, u)
	return p
}

// follow is what becomes of the members.
func (s *slowScale) follow(diffs map[int]int, estimate []int, u int) {
	s.u = u
	for i := range s.members {
		m := &s.members[i]
		d, is := diffs[m.Id]
		if !is {
			m.H += m.Rate
			continue
		}
		m.H = d + u
		m.Misses = append(m.Misses, min(max(estimate[i]-u, -maxMiss), maxMiss))
		if len(m.Misses) > s.setup.Keep {
			m.Misses = m.Misses[1:]
		}
		grows := whole(u - estimate[i])
		grows.Quo(grows, whole(m.Memory))
		m.Rate += int(new(big.Int).Quo(grows.Num(), grows.Denom()).Int64())
	}
}

// anySetup is a valid setup, most often with numbers that matter.
func anySetup(r *rand.Rand) scale.Setup {
	return scale.Setup{Cap: 1 + r.Intn(1+r.Intn(scale.Whole)), Gate: 1 + r.Intn(1+r.Intn(1<<(1+r.Intn(36)))), Wait: r.Intn(5), Keep: 1 + r.Intn(6)}
}

// around is a number of up to size, below or above 0.
func around(r *rand.Rand, size int) int { return r.Intn(2*size+1) - size }
