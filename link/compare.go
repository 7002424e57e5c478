package link

import (
	"slices"

	"meridian/api"
	"meridian/number"
)

// sight is what common tracks have in common.
type sight struct{ sat, second int }

func (t Track) sight() sight { return sight{t.Sat, t.Second} }

func (t Track) isAllowed() bool {
	return number.Within(t.Sat, 0, MaxSat) && number.Within(t.Second, 0, maxSecond) && isTime(t.Value)
}

func isTime(n int) bool { return number.Within(n, -MaxTime, MaxTime) }

// differences are those of all pairs of common tracks.
func differences(a, b []Track, delayA, delayB int) []int {
	values := map[sight]int{}
	for _, t := range b {
		values[t.sight()] = t.Value
	}
	var l []int
	for _, t := range a {
		if v, is := values[t.sight()]; is {
			l = append(l, (t.Value-delayA)-(v-delayB))
		}
	}
	return l
}

func view(l []int) View {
	sum := 0
	for _, d := range l {
		sum += d
	}
	return View{Count: len(l), Mean: number.Lowest(sum, len(l)), Least: slices.Min(l), Most: slices.Max(l)}
}

func (x Ends) isAllowed() bool {
	return isTime(x.AtA) && isTime(x.AtB) && isTime(x.Skew) &&
		number.Within(x.Least, 0, MaxTime) && number.Within(x.Error, 0, MaxTime)
}

// span says of the difference D that the time from A to B, which is AtB + D, and
// the one from B to A, AtA - D, are at least Least, and that the first one less
// the second one, 2 D + AtB - AtA, is as far from the Skew as the Error at most.
func (x Ends) span() api.Span {
	twice := x.AtA - x.AtB + x.Skew
	return api.Span{
		Lo: max(x.Least-x.AtB, number.Ceil(twice-x.Error, 2)),
		Hi: min(x.AtA-x.Least, number.Floor(twice+x.Error, 2)),
	}
}

func trip(readings []int) Trip {
	parts := len(readings) - 1
	home := readings[0]
	t := Trip{Closure: readings[parts] - home}
	for k := 1; k < parts; k++ {
		t.Delays = append(t.Delays, number.Lowest((readings[k]-home)*parts-k*t.Closure, parts))
	}
	return t
}
