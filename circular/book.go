package circular

import (
	"cmp"
	"iter"
	"slices"

	"meridian/number"
)

const (
	maxClock   = 15
	maxVersion = 1000
	maxDiff    = 1000000000
)

// place is where a report stands in a book: its Month, Lab, Clock and Version.
type place [4]int

func (r Report) place() place { return place{r.Month, r.Lab, r.Clock, r.Version} }

// key says of which clock, and for which month, a report is.
func (r Report) key() [3]int { return [3]int{r.Lab, r.Month, r.Clock} }

func (r Report) isAllowed() bool {
	if !number.Within(r.Lab, 1, MaxLabs) || !number.IsIndex(r.Month, MaxMonths) ||
		!number.Within(r.Clock, 0, maxClock) || !number.Within(r.Version, 1, maxVersion) {
		return false
	}
	if r.Gone {
		return len(r.Diffs) == 0
	}
	for _, d := range r.Diffs {
		if !number.Within(d, -maxDiff, maxDiff) {
			return false
		}
	}
	return number.Within(len(r.Diffs), 1, MaxEpochs)
}

// replaces reports whether r is later than the report that is kept in its place.
func (r Report) replaces(kept Report) bool {
	if r.Gone != kept.Gone {
		return r.Gone
	}
	return slices.Compare(r.Diffs, kept.Diffs) > 0
}

func (r Report) copied() Report {
	r.Diffs = slices.Clone(r.Diffs)
	return r
}

func (c Closing) isAllowed() bool {
	return number.IsIndex(c.Month, MaxMonths) && number.Within(c.Version, 0, maxVersion)
}

func (b *Book) isMade() bool { return b != nil && b.self == b }

// ordered are the keys of a map, in the order that compare says.
func ordered[K comparable, V any](m map[K]V, compare func(a, b K) int) []K {
	var l []K
	for k := range m {
		l = append(l, k)
	}
	slices.SortFunc(l, compare)
	return l
}

// sorted are copies of all reports, by their places.
func (b *Book) sorted() []Report {
	places := ordered(b.reports, func(p, q place) int { return slices.Compare(p[:], q[:]) })
	var l []Report
	for _, p := range places {
		l = append(l, b.reports[p].copied())
	}
	return l
}

// closed are all closings, by their months.
func (b *Book) closed() []Closing {
	var l []Closing
	for _, month := range ordered(b.closings, cmp.Compare[int]) {
		l = append(l, Closing{month, b.closings[month]})
	}
	return l
}

// counting yields copies of what counts for a month, by Lab and Clock.
func (b *Book) counting(month int) iter.Seq[Report] {
	return func(yield func(Report) bool) {
		most, is := b.closings[month]
		if !is {
			most = maxVersion
		}
		l := slices.DeleteFunc(b.sorted(), func(r Report) bool {
			return r.Month != month || r.Version > most
		})
		for i, r := range l {
			isLatest := i+1 == len(l) || l[i+1].key() != r.key()
			if isLatest && !yield(r) {
				return
			}
		}
	}
}
