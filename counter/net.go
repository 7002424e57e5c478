package counter

import (
	"cmp"
	"iter"
	"slices"

	"meridian/api"
	"meridian/number"
)

// Bound says in which span the difference of two clocks is.
type Bound struct {
	A, B int
	Span api.Span
}

// Use is one side of a bound.
type Use struct {
	Bound int
	Up    bool
}

// limit is what a use says: the clock first less the clock second is at most
// most.
type limit struct{ first, second, most int }

// matrix has a value for each two clocks.
type matrix[T cmp.Ordered] [][]T

// Narrow returns the narrowest matrix of a net.
func Narrow(n int, l []Bound) ([][]int, api.Errno) {
	if e := checkNet(n, l); e != api.OK {
		return nil, e
	}
	m, solved := narrowest(n, l)
	if !solved {
		return nil, api.ErrEmpty
	}
	return m, api.OK
}

// Contradict returns a contradiction of a net.
func Contradict(n int, l []Bound) ([]Use, api.Errno) {
	if e := checkNet(n, l); e != api.OK {
		return nil, e
	}
	u := contradiction(n, l)
	if len(u) == 0 {
		return nil, api.ErrNone
	}
	return u, api.OK
}

// Refute returns ErrFalse if uses are no contradiction of a net.
func Refute(n int, l []Bound, u []Use) api.Errno {
	if e := checkNet(n, l); e != api.OK {
		return e
	}
	if len(u) > MaxBounds {
		return api.ErrMany
	}
	if !contradicts(l, u) {
		return api.ErrFalse
	}
	return api.OK
}

func checkNet(n int, l []Bound) api.Errno {
	if !number.Within(n, 1, api.MaxClocks) {
		return api.ErrArg
	}
	if len(l) > MaxBounds {
		return api.ErrMany
	}
	for _, b := range l {
		if !b.allowed(n) {
			return api.ErrRange
		}
	}
	return api.OK
}

func (b Bound) allowed(n int) bool {
	return number.IsIndex(b.A, n) && number.IsIndex(b.B, n) && b.A != b.B &&
		isDifference(b.Span.Lo) && isDifference(b.Span.Hi) && b.Span.Lo <= b.Span.Hi
}

func (b Bound) limit(up bool) limit {
	if up {
		return limit{b.A, b.B, b.Span.Hi}
	}
	return limit{b.B, b.A, -b.Span.Lo}
}

// limits yields both uses of each bound, and what they say.
func limits(l []Bound) iter.Seq2[Use, limit] {
	return func(yield func(Use, limit) bool) {
		for i, b := range l {
			if !yield(Use{i, true}, b.limit(true)) || !yield(Use{i, false}, b.limit(false)) {
				return
			}
		}
	}
}

func filled[T cmp.Ordered](n int, x T) matrix[T] {
	m := make(matrix[T], n)
	for a := range m {
		m[a] = slices.Repeat([]T{x}, n)
	}
	return m
}

func (m matrix[T]) lower(a, b int, x T) { m[a][b] = min(m[a][b], x) }

// narrowest returns the narrowest matrix, and whether there is a solution. Its
// rounds end at the first clock that would be less than itself: each further
// one could double the numbers, until they overflow.
func narrowest(n int, l []Bound) (matrix[int], bool) {
	m := filled(n, Open)
	for k := range n {
		m.lower(k, k, 0)
	}
	for _, x := range limits(l) {
		m.lower(x.first, x.second, x.most)
	}
	solved := true
rounds:
	for via := range n {
		for a := range n {
			for b := range n {
				if m[a][via] < Open && m[via][b] < Open {
					m.lower(a, b, m[a][via]+m[via][b])
				}
			}
			if m[a][a] < 0 {
				solved = false
				break rounds
			}
		}
	}
	return m, solved
}

// contradiction looks for a solution: it begins with 0 for each clock, and
// lowers those that are above a limit. If there is a solution, the last of n
// rounds lowers none; otherwise the causes lead back into a cycle. An int holds
// the numbers: the 480 uses of 240 bounds lower them in 16 rounds by at most
// 10^15 each.
func contradiction(n int, l []Bound) []Use {
	levels := make([]int, n)
	causes := make([]Use, n) // by which a clock was lowered last
	lowered := 0
	for range n {
		settled := true
		for u, x := range limits(l) {
			if levels[x.first]-levels[x.second] <= x.most {
				continue
			}
			levels[x.first] = levels[x.second] + x.most
			causes[x.first] = u
			lowered, settled = x.first, false
		}
		if settled {
			return nil
		}
	}
	back := func(k int) int {
		u := causes[k]
		return l[u.Bound].limit(u.Up).second
	}
	for range n {
		lowered = back(lowered)
	}
	cycle := []Use{causes[lowered]}
	for k := back(lowered); k != lowered; k = back(k) {
		cycle = append(cycle, causes[k])
	}
	return cycle
}

func contradicts(l []Bound, u []Use) bool {
	for _, x := range u {
		if !number.IsIndex(x.Bound, len(l)) {
			return false
		}
	}
	total := 0
	for i, x := range u {
		next := u[(i+1)%len(u)]
		this := l[x.Bound].limit(x.Up)
		if this.second != l[next.Bound].limit(next.Up).first {
			return false
		}
		total += this.most
	}
	return total < 0
}
