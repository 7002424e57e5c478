package stability

import (
	"meridian/api"
	"meridian/number"
)

// maxRest is the greatest number of phases for which Rest is told.
const maxRest = 48

// Line is a line that fits.
type Line struct{ Offset, Slope api.Ratio }

// Fit returns the line that fits best.
func Fit(s Series) (Line, api.Errno) {
	if e := checkFit(s); e != api.OK {
		return Line{}, e
	}
	return s.line(), api.OK
}

// Rest returns the sum of the squares that the best line leaves.
func Rest(s Series) (api.Ratio, api.Errno) {
	if e := checkFit(s); e != api.OK {
		return api.Ratio{}, e
	}
	if len(s.X) > maxRest {
		return api.Ratio{}, api.ErrLarge
	}
	return s.rest(), api.OK
}

func checkFit(s Series) api.Errno {
	if e := Check(s); e != api.OK {
		return e
	}
	if len(s.X) < 2 {
		return api.ErrNone
	}
	return api.OK
}

// line solves the two equations of the best line: what it leaves adds up to
// nothing, and so does each rest times its place.
func (s Series) line() Line {
	n := len(s.X)
	places := n * (n - 1) / 2
	squares := (n - 1) * n * (2*n - 1) / 6
	phases, moments := sum(s.X), s.moments()
	d := n*squares - places*places
	return Line{
		Offset: number.Lowest(squares*phases-places*moments, d),
		Slope:  number.Lowest(n*moments-places*phases, d),
	}
}

// rest takes from the squares of the phases what their mean and the slope about
// the middle explain. An int holds it as a fraction of n (n^2 - 1), but not of
// n^2 (n^2 - 1) / 12, which the line has.
func (s Series) rest() api.Ratio {
	n := len(s.X)
	squares := 0
	for _, x := range s.X {
		squares += x * x
	}
	phases := sum(s.X)
	tilt := 2*s.moments() - (n-1)*phases // twice the moments about the middle
	left := (n*n-1)*(n*squares-phases*phases) - 3*tilt*tilt
	return number.Lowest(left, n*(n*n-1))
}

// moments is the sum of the phases, each times its place.
func (s Series) moments() int {
	total := 0
	for i, x := range s.X {
		total += i * x
	}
	return total
}
