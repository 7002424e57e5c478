package scale

import (
	"iter"
	"slices"

	"meridian/api"
	"meridian/number"
)

// maxMiss is where misses are cut off.
const maxMiss = 1000000000

// candidate is a member that counts at an epoch, with what it counts there.
type candidate struct{ id, power, estimate int }

// next is the point of the next epoch, with what the members are after it.
func (s *state) next(l []Reading) (Point, []Member, api.Errno) {
	if s.last().Epoch == MaxEpochs {
		return Point{}, nil, api.ErrMany
	}
	estimates, e := s.estimates(l)
	if e != api.OK {
		return Point{}, nil, e
	}
	p := s.point(estimates)
	return p, s.after(estimates, p.U), api.OK
}

// estimates are those of all members that are present, by their Ids.
func (s *state) estimates(l []Reading) (map[int]int, api.Errno) {
	estimates := map[int]int{}
	for _, r := range l {
		i := s.index(r.Id)
		if i < 0 {
			return nil, api.ErrMember
		}
		if _, twice := estimates[r.Id]; twice {
			return nil, api.ErrTwice
		}
		if !isDiff(r.Diff) {
			return nil, api.ErrRange
		}
		estimates[r.Id] = s.members[i].estimate(r.Diff)
	}
	if len(l) == 0 {
		return nil, api.ErrNone
	}
	for _, m := range s.members {
		e, present := estimates[m.Id]
		if present && !number.Within(e, -2*MaxDiff, 2*MaxDiff) ||
			!present && !number.Within(m.expected(), -3*MaxDiff, 3*MaxDiff) {
			return nil, api.ErrRange
		}
	}
	return estimates, api.OK
}

// point is that of the next epoch.
func (s *state) point(estimates map[int]int) Point {
	p := Point{Epoch: s.last().Epoch + 1}
	var l []candidate
	for m := range s.candidates(estimates) {
		l = append(l, candidate{m.Id, m.power(), estimates[m.Id]})
	}
rounds:
	for {
		p.Weights = s.weights(l)
		p.U = mean(l, p.Weights)
		miss := func(c candidate) int { return max(c.estimate-p.U, p.U-c.estimate) }
		switch far := greatest(l, miss); {
		case len(l) < 2, miss(l[far]) <= s.Gate:
			break rounds
		default:
			l = slices.Delete(l, far, far+1)
		}
	}
	for _, c := range l {
		p.Ids = append(p.Ids, c.id)
	}
	return p
}

// candidates yields, in their order, the members that are present and have
// waited; if none of these has, all that are present.
func (s *state) candidates(estimates map[int]int) iter.Seq[Member] {
	return func(yield func(Member) bool) {
		now := s.last().Epoch + 1
		since := now - s.Wait
		counts := func(m Member) bool {
			_, present := estimates[m.Id]
			return present && m.Since <= since
		}
		if !slices.ContainsFunc(s.members, counts) {
			since = now
		}
		for _, m := range s.members {
			if counts(m) && !yield(m) {
				return
			}
		}
	}
}

// weights are those of the candidates, of which there is at least one.
func (s *state) weights(l []candidate) []int {
	var powers []int
	for _, c := range l {
		powers = append(powers, c.power)
	}
	weights, e := Apportion(powers, Whole, s.Cap)
	if e == api.ErrWeight {
		weights, _ = Apportion(powers, Whole, number.Ceil(Whole, len(l)))
	}
	return weights
}

// mean is that of the estimates, rounded to the nearest. An int holds the sum:
// the weights are together 10^6, and no estimate is farther from 0 than 2 * 10^12.
func mean(l []candidate, weights []int) int {
	sum := 0
	for i, c := range l {
		sum += weights[i] * c.estimate
	}
	return number.Floor(sum+Whole/2, Whole)
}

// greatest is the index of the first element whose size is the greatest.
func greatest[T any](l []T, size func(T) int) int {
	best := 0
	for i, x := range l {
		if size(x) > size(l[best]) {
			best = i
		}
	}
	return best
}

// after is what the members are when the next epoch has been taken with the
// value u. By u less its estimate the h of a member is other than expected.
func (s *state) after(estimates map[int]int, u int) []Member {
	var l []Member
	for _, m := range s.members {
		m.H = m.expected()
		if e, present := estimates[m.Id]; present {
			m.H += u - e
			m.Rate += (u - e) / m.Memory
			m.Misses = append(slices.Clone(m.Misses), max(-maxMiss, min(maxMiss, e-u)))
			m.Misses = m.Misses[max(0, len(m.Misses)-s.Keep):]
		}
		l = append(l, m)
	}
	return l
}

// expected is what h should be at the next epoch. An int holds this always: the
// limits of the estimates hold Rate within some 10^13.
func (m Member) expected() int { return m.H + m.Rate }

// estimate is that of u at the next epoch, if the difference is diff then.
func (m Member) estimate(diff int) int { return m.expected() - diff }
