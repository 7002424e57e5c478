package quality

import (
	"cmp"
	"slices"

	"meridian/api"
	"meridian/calendar"
	"meridian/number"
)

const (
	maxDays  = 10000
	maxError = 1000000
)

// none is the cost where there is no chain. It is more than that of any chain, and
// does not become less by what a calibration adds.
var none = cost{MaxList*maxError + 1, 0}

// cost is the sum of the Errors of a chain, and the number of its calibrations.
type cost [2]int

// CheckShop reports whether a shop is valid.
func CheckShop(s Shop) api.Errno {
	if !number.Within(len(s.Primary), 1, MaxTools) || len(s.List) > MaxList {
		return api.ErrMany
	}
	for _, c := range s.List {
		if !s.has(c.Of) || !s.has(c.By) || c.Of == c.By || !c.isAllowed() {
			return api.ErrRange
		}
	}
	return api.OK
}

// Trace returns the best chain of an instrument on a day.
func Trace(s Shop, tool, day int) ([]int, int, api.Errno) {
	if e := checkAsked(s, tool, day); e != api.OK {
		return nil, 0, e
	}
	costs := s.costs()
	least := s.least(costs, tool, day)
	if least == none {
		return nil, 0, api.ErrNone
	}
	return s.chain(costs, tool, day), least[0], api.OK
}

// CheckTrace returns the sum of the errors of a chain.
func CheckTrace(s Shop, tool, day int, chain []int) (int, api.Errno) {
	if e := checkAsked(s, tool, day); e != api.OK {
		return 0, e
	}
	sum, taken := 0, 0
links:
	for _, i := range chain {
		switch {
		case s.Primary[tool]:
			break links
		case !number.IsIndex(i, len(s.List)) || slices.Contains(chain[:taken], i):
			break links
		case !s.List[i].serves(tool, day):
			break links
		}
		sum += s.List[i].Error
		tool, day = s.List[i].By, s.List[i].Day
		taken++
	}
	if taken < len(chain) || !s.Primary[tool] {
		return 0, api.ErrFalse
	}
	return sum, api.OK
}

// Valid returns the days on which an instrument is traced.
func Valid(s Shop, tool int) ([]api.Span, api.Errno) {
	if e := checkAsked(s, tool); e != api.OK {
		return nil, e
	}
	if s.Primary[tool] {
		return []api.Span{{Lo: calendar.FirstDay, Hi: calendar.LastDay}}, api.OK
	}
	var l []api.Span
	for i, least := range s.costs() {
		if s.List[i].Of == tool && least != none {
			l = append(l, s.List[i].days())
		}
	}
	return united(l), api.OK
}

// Recall returns the instruments that are affected when one was wrong.
func Recall(s Shop, bad, from, to, day int) ([]int, api.Errno) {
	if e := checkAsked(s, bad, from, to, day); e != api.OK {
		return nil, e
	}
	if from > to {
		return nil, api.ErrOrder
	}
	rest := s.without(bad, from, to)
	costs, others := s.costs(), rest.costs()
	var l []int
	for tool := range s.Primary {
		if s.least(costs, tool, day) != none && rest.least(others, tool, day) == none {
			l = append(l, tool)
		}
	}
	return l, api.OK
}

// checkAsked is the error of a shop, of an instrument and of days that are asked
// for.
func checkAsked(s Shop, tool int, days ...int) api.Errno {
	if e := CheckShop(s); e != api.OK {
		return e
	}
	if !s.has(tool) {
		return api.ErrArg
	}
	for _, day := range days {
		if !isDay(day) {
			return api.ErrDate
		}
	}
	return api.OK
}

func (s Shop) has(tool int) bool { return number.IsIndex(tool, len(s.Primary)) }

func (c Calibration) isAllowed() bool {
	return isDay(c.Day) && number.Within(c.Days, 1, maxDays) && number.Within(c.Error, 0, maxError)
}

// days are those on which c is valid.
func (c Calibration) days() api.Span {
	return api.Span{Lo: c.Day, Hi: min(c.Day+c.Days-1, calendar.LastDay)}
}

// serves reports whether c is a calibration of an instrument that is valid on a
// day.
func (c Calibration) serves(tool, day int) bool {
	days := c.days()
	return c.Of == tool && number.Within(day, days.Lo, days.Hi)
}

// costs has for each calibration the least cost of a chain that begins with it.
// Calibrations of one day can go round in circles; so they are gone through until
// no cost becomes less.
func (s Shop) costs() []cost {
	l := slices.Repeat([]cost{none}, len(s.List))
	for changed := true; changed; {
		changed = false
		for i, c := range s.List {
			next := s.least(l, c.By, c.Day)
			if found := (cost{next[0] + c.Error, next[1] + 1}); found.isLess(l[i]) {
				l[i] = found
				changed = true
			}
		}
	}
	return l
}

// least is the cost of the best chain of an instrument on a day, as far as the
// costs of calibrations tell.
func (s Shop) least(costs []cost, tool, day int) cost {
	if s.Primary[tool] {
		return cost{}
	}
	least := none
	for i, c := range s.List {
		if c.serves(tool, day) && costs[i].isLess(least) {
			least = costs[i]
		}
	}
	return least
}

func (c cost) isLess(d cost) bool { return slices.Compare(c[:], d[:]) < 0 }

// chain is the best chain of an instrument that is traced on a day. What is left
// of its cost behind a calibration is the cost of its next one.
func (s Shop) chain(costs []cost, tool, day int) []int {
	left := s.least(costs, tool, day)
	var chain []int
search:
	for range left[1] {
		for i, c := range s.List {
			if c.serves(tool, day) && costs[i] == left {
				chain = append(chain, i)
				tool, day = c.By, c.Day
				left = cost{left[0] - c.Error, left[1] - 1}
				continue search
			}
		}
	}
	return chain
}

// without is the shop without the calibrations by an instrument on some days.
func (s Shop) without(bad, from, to int) Shop {
	rest := Shop{Primary: s.Primary}
	for _, c := range s.List {
		if c.By != bad || !number.Within(c.Day, from, to) {
			rest.List = append(rest.List, c)
		}
	}
	return rest
}

// united has the days of intervals as ones that neither overlap nor adjoin. It
// sorts l.
func united(l []api.Span) []api.Span {
	slices.SortFunc(l, func(a, b api.Span) int { return cmp.Compare(a.Lo, b.Lo) })
	var apart []api.Span
	for _, days := range l {
		last := len(apart) - 1
		if last >= 0 && days.Lo <= apart[last].Hi+1 {
			apart[last].Hi = max(apart[last].Hi, days.Hi)
		} else {
			apart = append(apart, days)
		}
	}
	return apart
}
