package quality_test

import (
	"math/rand"
	"slices"
	"testing"

	"meridian/api"
	"meridian/quality"
)

// ofShop calls all functions that take a shop.
func ofShop(s quality.Shop, tool, day int) []outcome {
	var l []outcome
	chain, n, e := quality.Trace(s, tool, day)
	l = append(l, outcome{"Trace", e, len(chain) == 0 && n == 0})
	n, e = quality.CheckTrace(s, tool, day, []int{0})
	l = append(l, outcome{"CheckTrace", e, n == 0})
	n, e = quality.CheckTrace(s, tool, day, nil)
	l = append(l, outcome{"CheckTrace", e, n == 0})
	for _, x := range [][3]int{{day, day, day}, {day, day, 50000}, {day, 50000, 50000}, {50000, day, 50000}, {50001, 50000, day}, {day, 50000, day}} {
		tools, e := quality.Recall(s, tool, x[0], x[1], x[2])
		l = append(l, outcome{"Recall", e, len(tools) == 0})
	}
	return l
}

// refuseShop checks that all functions return an error, Valid only where it does
// not depend on a day.
func refuseShop(t *testing.T, s quality.Shop, tool, day int, want api.Errno) {
	t.Helper()
	for _, x := range ofShop(s, tool, day) {
		if x.e != want || !x.zero {
			t.Error(x, s, tool, day, want)
		}
	}
	if want == api.ErrDate {
		want = api.OK
	}
	if l, e := quality.Valid(s, tool); e != want || e != api.OK && len(l) != 0 {
		t.Error(s, tool, l, e, want)
	}
}

// P12.3: the example of the chapter.
func TestExampleOfTraces(t *testing.T) {
	s := shop(3, calibration(1, 0, 50000, 100, 5), calibration(2, 1, 50090, 365, 3), calibration(2, 0, 50000, 50, 1))
	if l, n, e := quality.Trace(s, 2, 50020); !slices.Equal(l, []int{2}) || n != 1 || e != api.OK {
		t.Error(l, n, e)
	}
	if l, n, e := quality.Trace(s, 2, 50100); !slices.Equal(l, []int{1, 0}) || n != 8 || e != api.OK {
		t.Error(l, n, e)
	}
	if l, e := quality.Valid(s, 2); !slices.Equal(l, []api.Span{span(50000, 50049), span(50090, 50454)}) || e != api.OK {
		t.Error(l, e)
	}
	if l, e := quality.Recall(s, 1, 50080, 50095, 50100); !slices.Equal(l, []int{2}) || e != api.OK {
		t.Error(l, e)
	}
}

// P12.3, R1: what is allowed in a shop, in whichever calibration it is.
func TestCheckShopLimits(t *testing.T) {
	for _, x := range []struct {
		name        string
		least, most int
		change      func(c *quality.Calibration, n int)
	}{
		{"Of", 0, 5, func(c *quality.Calibration, n int) { c.Of, c.By = n, (n^1)&3 }},
		{"By", 0, 5, func(c *quality.Calibration, n int) { c.By, c.Of = n, (n^1)&3 }},
		{"Day", first, last, func(c *quality.Calibration, n int) { c.Day = n }},
		{"Days", 1, 10000, func(c *quality.Calibration, n int) { c.Days = n }},
		{"Error", 0, 1000000, func(c *quality.Calibration, n int) { c.Error = n }},
	} {
		for i := range 3 {
			for _, n := range append(far, x.least-1, x.least, x.most, x.most+1) {
				s := shop(6, calibration(1, 0, 50000, 10, 1), calibration(2, 1, 50000, 10, 1), calibration(3, 2, 50000, 10, 1))
				x.change(&s.List[i], n)
				if n >= x.least && n <= x.most {
					if e := quality.CheckShop(s); e != api.OK {
						t.Error(x.name, i, n, e)
					}
					continue
				}
				if e := quality.CheckShop(s); e != api.ErrRange {
					t.Error(x.name, i, n, e)
				}
				refuseShop(t, s, 1, 50000, api.ErrRange)
				refuseShop(t, s, -1, 1, api.ErrRange)
			}
		}
	}
	for tool := range 6 {
		s := shop(6, calibration(1, 0, 50000, 10, 1), calibration(tool, tool, 50000, 10, 1))
		if e := quality.CheckShop(s); e != api.ErrRange {
			t.Error(tool, e)
		}
		refuseShop(t, s, 6, 1, api.ErrRange)
	}
}

// P12.3: 1 to 20 instruments, at most 100 calibrations; ErrMany comes first.
func TestCheckShopCounts(t *testing.T) {
	for tools := range 30 {
		for _, count := range []int{0, 1, 99, 100, 101, 150} {
			s := quality.Shop{Primary: make([]bool, tools), List: slices.Repeat([]quality.Calibration{calibration(1, 0, 50000, 1, 0)}, count)}
			want := api.OK
			if tools == 0 || tools > 20 || count > 100 {
				want = api.ErrMany
			} else if tools == 1 && count > 0 {
				want = api.ErrRange
			}
			if e := quality.CheckShop(s); e != want {
				t.Error(tools, count, e)
			}
			if want != api.ErrMany {
				continue
			}
			refuseShop(t, s, 0, 50000, api.ErrMany)
			if count > 0 {
				s.List[0].Days = 0
				refuseShop(t, s, 0, 50000, api.ErrMany)
			}
		}
	}
}

// P12.3, R1: instruments that do not exist, and behind these days that do not.
func TestTraceErrors(t *testing.T) {
	s := shop(3, calibration(1, 0, 50000, 100, 5), calibration(2, 1, 50090, 365, 3))
	for _, tool := range append(far, -1, 3) {
		for _, day := range append(far, 50000, first-1, last+1) {
			refuseShop(t, s, tool, day, api.ErrArg)
		}
	}
	for tool := range 3 {
		for _, day := range append(far, -1, 0, 1, first-1, last+1) {
			refuseShop(t, s, tool, day, api.ErrDate)
		}
	}
	for _, day := range []int{first, last} {
		if l, n, e := quality.Trace(s, 0, day); len(l) != 0 || n != 0 || e != api.OK {
			t.Error(day, l, n, e)
		}
		if l, n, e := quality.Trace(s, 1, day); len(l) != 0 || n != 0 || e != api.ErrNone {
			t.Error(day, l, n, e)
		}
		if n, e := quality.CheckTrace(s, 1, day, []int{0}); n != 0 || e != api.ErrFalse {
			t.Error(day, n, e)
		}
	}
}

// P12.3, P12.5: traces of small shops with circles, against all chains.
func TestTrace(t *testing.T) {
	r := rand.New(rand.NewSource(9))
	longest := 0
	for range 3000 {
		s := anyShop(r, 2+r.Intn(4), r.Intn(11), 50000, 1+r.Intn(6))
		for tool := range s.Primary {
			day := 49999 + r.Intn(9)
			want, is := slowBest(s, tool, day)
			l, n, e := quality.Trace(s, tool, day)
			if !is {
				if len(l) != 0 || n != 0 || e != api.ErrNone {
					t.Fatal(s, tool, day, l, n, e)
				}
				continue
			}
			if !slices.Equal(l, want) || n != total(s, want) || e != api.OK {
				t.Fatal(s, tool, day, l, n, e, want)
			}
			if n, e := quality.CheckTrace(s, tool, day, l); n != total(s, want) || e != api.OK {
				t.Fatal(s, tool, day, l, n, e)
			}
			longest = max(longest, len(l))
		}
	}
	if longest < 4 {
		t.Error("only short chains", longest)
	}
}

// P12.3, R6: the least sum, the fewest calibrations, the first indices.
func TestBestChain(t *testing.T) {
	for _, x := range []struct {
		l    []quality.Calibration
		want []int
		sum  int
	}{
		{[]quality.Calibration{calibration(1, 0, 50000, 9, 4), calibration(1, 2, 50000, 9, 1), calibration(2, 0, 50000, 9, 2)}, []int{1, 2}, 3},
		{[]quality.Calibration{calibration(1, 2, 50000, 9, 1), calibration(2, 0, 50000, 9, 2), calibration(1, 0, 50000, 9, 3)}, []int{2}, 3},
		{[]quality.Calibration{calibration(1, 2, 50000, 9, 0), calibration(2, 0, 50000, 9, 0), calibration(1, 0, 50000, 9, 0)}, []int{2}, 0},
		{[]quality.Calibration{calibration(2, 0, 50000, 9, 2), calibration(1, 3, 50000, 9, 1), calibration(1, 2, 50000, 9, 1), calibration(3, 0, 50000, 9, 2)}, []int{1, 3}, 3},
		{[]quality.Calibration{calibration(2, 0, 50000, 9, 2), calibration(1, 2, 50000, 9, 1), calibration(2, 0, 50000, 9, 2)}, []int{1, 0}, 3},
		{[]quality.Calibration{calibration(1, 0, 50000, 9, 1), calibration(1, 0, 50000, 9, 1)}, []int{0}, 1},
		// A calibration that is over cannot be made up for by one that came later.
		{[]quality.Calibration{calibration(1, 2, 49999, 9, 1), calibration(2, 0, 50000, 9, 1), calibration(1, 0, 49990, 20, 7)}, []int{2}, 7},
	} {
		s := shop(4, x.l...)
		if l, n, e := quality.Trace(s, 1, 50003); !slices.Equal(l, x.want) || n != x.sum || e != api.OK {
			t.Error(x, l, n, e)
		}
	}
}

// P12.3: an instrument can be in a chain twice, if it was calibrated again by one
// that it had been used for.
func TestInstrumentTwice(t *testing.T) {
	s := shop(3, calibration(1, 2, 50008, 10, 3), calibration(2, 1, 50005, 10, 2), calibration(1, 0, 50000, 10, 1))
	if l, n, e := quality.Trace(s, 1, 50012); !slices.Equal(l, []int{0, 1, 2}) || n != 6 || e != api.OK {
		t.Error(l, n, e)
	}
	if l, n, e := quality.Trace(s, 1, 50009); !slices.Equal(l, []int{2}) || n != 1 || e != api.OK {
		t.Error(l, n, e)
	}
	if n, e := quality.CheckTrace(s, 1, 50009, []int{0, 1, 2}); n != 6 || e != api.OK {
		t.Error(n, e)
	}
	// On one day they can go round in a circle, too, but not use one twice.
	s = shop(3, calibration(1, 2, 50000, 1, 3), calibration(2, 1, 50000, 1, 2), calibration(1, 0, 50000, 1, 1))
	if n, e := quality.CheckTrace(s, 1, 50000, []int{0, 1, 2}); n != 6 || e != api.OK {
		t.Error(n, e)
	}
	if n, e := quality.CheckTrace(s, 1, 50000, []int{0, 1, 0, 1, 2}); n != 0 || e != api.ErrFalse {
		t.Error(n, e)
	}
	if l, n, e := quality.Trace(shop(3, s.List[:2]...), 1, 50000); len(l) != 0 || n != 0 || e != api.ErrNone {
		t.Error(l, n, e)
	}
}

// slowSum is the least sum of the Errors of all chains of a shop of any size, and
// how many calibrations the shortest one of these has: chains of one calibration
// are looked for, then those of two, and so on.
func slowSum(s quality.Shop, tool, day int) (int, int, bool) {
	const far = 1 << 40
	sums := make([]int, len(s.List))
	for i, c := range s.List {
		sums[i] = far
		if s.Primary[c.By] {
			sums[i] = c.Error
		}
	}
	best, size := far, 0
	for n := range s.List {
		for i, c := range s.List {
			if c.Of == tool && holds(c, day) && sums[i] < best {
				best, size = sums[i], n+1
			}
		}
		longer := slices.Repeat([]int{far}, len(s.List))
		for i, c := range s.List {
			for k, d := range s.List {
				if !s.Primary[c.By] && d.Of == c.By && holds(d, c.Day) && sums[k] < far {
					longer[i] = min(longer[i], c.Error+sums[k])
				}
			}
		}
		sums = longer
	}
	return best, size, best < far
}

// P12.3, P12.5: traces of shops of all sizes.
func TestTraceOfLargeShops(t *testing.T) {
	r := rand.New(rand.NewSource(10))
	for range 60 {
		s := anyShop(r, 2+r.Intn(19), 50+r.Intn(51), 50000, 1+r.Intn(60))
		for i := range s.Primary {
			s.Primary[i] = i == 0
		}
		for tool := 1; tool < len(s.Primary); tool++ {
			day := 50000 + r.Intn(80)
			sum, size, is := slowSum(s, tool, day)
			l, n, e := quality.Trace(s, tool, day)
			if !is {
				if len(l) != 0 || n != 0 || e != api.ErrNone {
					t.Fatal(s, tool, day, l, n, e)
				}
				continue
			}
			if len(l) != size || n != sum || e != api.OK || !isChain(s, tool, day, l) || total(s, l) != sum {
				t.Fatal(s, tool, day, l, n, e, sum, size)
			}
		}
	}
}

// longShop has a chain of 100 calibrations and no other one, from the last day of
// the chain to the first one, with the greatest errors.
func longShop() (quality.Shop, []int) {
	s := shop(3)
	for i := range 100 {
		of := i%2 + 1
		s.List = append(s.List, calibration(of, 3-of, 50000-i, 2, 1000000))
	}
	s.List[99].By = 0
	return s, all(100)
}

// P12.3: the longest chain, with the greatest sum, in either order of the list.
func TestLongestChain(t *testing.T) {
	s, want := longShop()
	for range 2 {
		if l, n, e := quality.Trace(s, 1, 50001); !slices.Equal(l, want) || n != 100000000 || e != api.OK {
			t.Error(l, n, e)
		}
		if n, e := quality.CheckTrace(s, 1, 50001, want); n != 100000000 || e != api.OK {
			t.Error(n, e)
		}
		if n, e := quality.CheckTrace(s, 1, 50001, slices.Concat(want, want)); n != 0 || e != api.ErrFalse {
			t.Error(n, e)
		}
		slices.Reverse(s.List)
		slices.Reverse(want)
	}
}

// P12.3: lists that are chains, and those that nearly are.
func TestCheckTrace(t *testing.T) {
	r := rand.New(rand.NewSource(11))
	good, bad := 0, 0
	for range 3000 {
		s := anyShop(r, 2+r.Intn(4), 1+r.Intn(8), 50000, 1+r.Intn(6))
		tool, day := r.Intn(len(s.Primary)), 49999+r.Intn(9)
		l := chains(s, tool, day)
		l = append(l, nil, []int{r.Intn(len(s.List))})
		for _, chain := range slices.Clone(l) {
			l = append(l, append(slices.Clone(chain), r.Intn(len(s.List))))
			l = append(l, append([]int{r.Intn(len(s.List))}, chain...))
			if len(chain) > 0 {
				other := slices.Clone(chain)
				other[r.Intn(len(chain))] = r.Intn(len(s.List)+2) - 1
				l = append(l, chain[1:], chain[:len(chain)-1], other)
			}
		}
		for _, chain := range l {
			n, e := quality.CheckTrace(s, tool, day, chain)
			if isChain(s, tool, day, chain) {
				good++
				if n != total(s, chain) || e != api.OK {
					t.Fatal(s, tool, day, chain, n, e)
				}
			} else {
				bad++
				if n != 0 || e != api.ErrFalse {
					t.Fatal(s, tool, day, chain, n, e)
				}
			}
		}
	}
	if good < 1000 || bad < 1000 {
		t.Error(good, bad)
	}
}

// P12.3: what is no chain of an instrument, for each reason.
func TestNoChain(t *testing.T) {
	s := shop(4, calibration(1, 0, 50000, 10, 5), calibration(2, 1, 50005, 10, 3), calibration(0, 1, 50000, 10, 1), calibration(1, 2, 50005, 10, 1), calibration(2, 3, 50005, 10, 1))
	for _, x := range []struct {
		tool, day int
		chain     []int
	}{
		{0, 50005, []int{2}}, {0, 50005, []int{2, 0}}, // of a primary standard
		{1, 50005, nil}, {3, 50005, nil}, // none
		{2, 50005, []int{1}}, {2, 50005, []int{4}}, // does not end with a primary standard
		{1, 50005, []int{0, 2, 0}}, {1, 50005, []int{0, 2}}, // goes on behind it
		{1, 50005, []int{3, 1, 3, 1, 0}}, {2, 50005, []int{1, 3, 1, 0}}, // uses one twice
		{2, 50005, []int{0}}, {2, 50005, []int{1, 1}}, {1, 50005, []int{1, 0}}, // of another instrument
		{2, 50004, []int{1, 0}}, {2, 50015, []int{1, 0}}, {1, 49999, []int{0}}, {1, 50010, []int{0}}, // not valid
		{1, 50005, []int{-1}}, {1, 50005, []int{5}}, {2, 50005, []int{1, 5}}, {2, 50005, []int{1, -1}}, {0, 50005, []int{-1}}, {0, 50005, []int{9}}, // no indices
	} {
		if n, e := quality.CheckTrace(s, x.tool, x.day, x.chain); n != 0 || e != api.ErrFalse {
			t.Error(x, n, e)
		}
	}
	for _, n := range far {
		if g, e := quality.CheckTrace(s, 1, 50005, []int{n}); g != 0 || e != api.ErrFalse {
			t.Error(n, g, e)
		}
		if g, e := quality.CheckTrace(s, 2, 50005, []int{1, n}); g != 0 || e != api.ErrFalse {
			t.Error(n, g, e)
		}
	}
	for _, x := range []struct {
		tool, day int
		chain     []int
		sum       int
	}{{0, 50005, nil, 0}, {2, 50005, []int{1, 0}, 8}, {2, 50014, []int{1, 0}, 8}, {1, 50000, []int{0}, 5}, {1, 50009, []int{0}, 5}, {1, 50005, []int{3, 1, 0}, 9}} {
		if n, e := quality.CheckTrace(s, x.tool, x.day, x.chain); n != x.sum || e != api.OK {
			t.Error(x, n, e)
		}
	}
}

// checkSpans checks that intervals are in order and neither overlap nor adjoin.
func checkSpans(t *testing.T, l []api.Span) {
	t.Helper()
	for i, x := range l {
		if x.Lo > x.Hi || x.Lo < first || x.Hi > last || i > 0 && x.Lo <= l[i-1].Hi+1 {
			t.Fatal(l)
		}
	}
}

func isIn(l []api.Span, day int) bool {
	return slices.ContainsFunc(l, func(x api.Span) bool { return x.Lo <= day && day <= x.Hi })
}

// P12.3, P12.5: an instrument is traced on the days of Valid, and on no other ones.
func TestValid(t *testing.T) {
	r := rand.New(rand.NewSource(12))
	several := 0
	for range 1500 {
		from := []int{50000, 50000, first, last - 12}[r.Intn(4)]
		s := anyShop(r, 2+r.Intn(4), r.Intn(8), from, 1+r.Intn(12))
		for tool := range s.Primary {
			l := must[[]api.Span](t)(quality.Valid(s, tool))
			checkSpans(t, l)
			if len(l) > 1 {
				several++
			}
			for _, day := range append([]int{first, first + 1, last - 1, last}, all(30)...) {
				if day < first {
					day += from - 2
				}
				if day < first || day > last {
					continue
				}
				want := len(chains(s, tool, day)) > 0
				if isIn(l, day) != want || isTraced(t, s, tool, day) != want {
					t.Fatal(s, tool, day, l, want)
				}
			}
		}
	}
	if several < 20 {
		t.Error("seldom several intervals", several)
	}
}

// P12.3: intervals that adjoin, overlap or contain one another are one; those of a
// calendar end with its last day.
func TestValidIntervals(t *testing.T) {
	for _, x := range []struct {
		l    []quality.Calibration
		want []api.Span
	}{
		{nil, nil},
		{[]quality.Calibration{calibration(1, 0, 50000, 1, 0)}, []api.Span{span(50000, 50000)}},
		{[]quality.Calibration{calibration(1, 0, 50010, 10, 0), calibration(1, 0, 50000, 10, 0)}, []api.Span{span(50000, 50019)}},
		{[]quality.Calibration{calibration(1, 0, 50011, 10, 0), calibration(1, 0, 50000, 10, 0)}, []api.Span{span(50000, 50009), span(50011, 50020)}},
		{[]quality.Calibration{calibration(1, 0, 50000, 30, 0), calibration(1, 0, 50005, 2, 0), calibration(1, 0, 50030, 1, 0)}, []api.Span{span(50000, 50030)}},
		{[]quality.Calibration{calibration(1, 0, 50000, 3, 0), calibration(1, 0, 50000, 5, 0), calibration(1, 0, 50000, 4, 0)}, []api.Span{span(50000, 50004)}},
		{[]quality.Calibration{calibration(1, 0, first, 1, 0), calibration(1, 0, last, 1, 0)}, []api.Span{span(first, first), span(last, last)}},
		{[]quality.Calibration{calibration(1, 0, last, 10000, 0), calibration(1, 0, last-2, 1, 0)}, []api.Span{span(last-2, last-2), span(last, last)}},
		{[]quality.Calibration{calibration(1, 0, last-9999, 10000, 0)}, []api.Span{span(last-9999, last)}},
		{[]quality.Calibration{calibration(1, 0, last-10000, 10000, 0)}, []api.Span{span(last-10000, last-1)}},
		{[]quality.Calibration{calibration(1, 2, 50000, 10, 0), calibration(0, 1, 50000, 10, 0)}, nil},
		{[]quality.Calibration{calibration(1, 2, 50000, 10, 0), calibration(1, 2, 50005, 10, 0), calibration(2, 0, 50003, 3, 0)}, []api.Span{span(50005, 50014)}},
	} {
		s := shop(3, x.l...)
		if l := must[[]api.Span](t)(quality.Valid(s, 1)); !slices.Equal(l, x.want) {
			t.Error(x, l)
		}
		if l := must[[]api.Span](t)(quality.Valid(s, 0)); !slices.Equal(l, []api.Span{span(first, last)}) {
			t.Error(x, l)
		}
	}
}

// remaining is a shop without some calibrations, by the chapter's words.
func remaining(s quality.Shop, bad, from, to int) quality.Shop {
	left := quality.Shop{Primary: s.Primary}
	for _, c := range s.List {
		if c.By == bad && c.Day >= from && c.Day <= to {
			continue
		}
		left.List = append(left.List, c)
	}
	return left
}

// P12.3, P12.5: recalls, against all chains of both shops.
func TestRecall(t *testing.T) {
	r := rand.New(rand.NewSource(13))
	named := 0
	for range 3000 {
		s := anyShop(r, 2+r.Intn(4), r.Intn(9), 50000, 1+r.Intn(6))
		bad, from, day := r.Intn(len(s.Primary)), 49999+r.Intn(6), 49999+r.Intn(9)
		to := from + r.Intn(5)
		var want []int
		for tool := range s.Primary {
			if len(chains(s, tool, day)) > 0 && len(chains(remaining(s, bad, from, to), tool, day)) == 0 {
				want = append(want, tool)
			}
		}
		if l, e := quality.Recall(s, bad, from, to, day); !slices.Equal(l, want) || e != api.OK {
			t.Fatal(s, bad, from, to, day, l, e, want)
		}
		named += len(want)
	}
	if named == 0 {
		t.Error("no instrument is named")
	}
}

// P12.3: a recall of just the day of a calibration, of the days before and behind
// it, and of all days.
func TestRecallDays(t *testing.T) {
	s := shop(4, calibration(1, 0, 50000, 100, 5), calibration(2, 1, 50050, 100, 3), calibration(3, 2, 50060, 100, 3), calibration(3, 0, 50060, 50, 9))
	for _, x := range []struct {
		bad, from, to, day int
		want               []int
	}{
		{1, 50050, 50050, 50120, []int{2, 3}}, {1, first, 50049, 50120, nil}, {1, 50051, last, 50120, nil}, {1, first, last, 50120, []int{2, 3}},
		{1, 50050, 50050, 50109, []int{2}}, {1, 50050, 50050, 50110, []int{2, 3}}, {1, 50050, 50050, 50149, []int{2, 3}}, {1, 50050, 50050, 50150, []int{3}}, {1, 50050, 50050, 50160, nil}, {1, 50050, 50050, 50049, nil},
		{0, first, last, 50060, []int{1, 2, 3}}, {0, 50000, 50000, 50060, []int{1, 2}}, {0, 50000, 50000, 50110, []int{2, 3}}, {2, first, last, 50110, []int{3}}, {3, first, last, 50110, nil},
	} {
		if l, e := quality.Recall(s, x.bad, x.from, x.to, x.day); !slices.Equal(l, x.want) || e != api.OK {
			t.Error(x, l, e)
		}
	}
}

// P12.3, R1: the order of the errors of a recall.
func TestRecallErrors(t *testing.T) {
	s := shop(3, calibration(1, 0, 50000, 100, 5))
	for _, x := range []struct {
		bad, from, to, day int
		want               api.Errno
	}{
		{-1, 1, 0, 0, api.ErrArg}, {3, 50001, 50000, 50000, api.ErrArg},
		{0, first - 1, 50000, 50000, api.ErrDate}, {0, 50000, last + 1, 50000, api.ErrDate}, {0, 50000, 50000, first - 1, api.ErrDate},
		{0, last + 1, 50000, 50000, api.ErrDate}, {0, 50000, first - 1, 50000, api.ErrDate}, {0, 50001, 50000, last + 1, api.ErrDate},
		{0, 50001, 50000, 50000, api.ErrOrder}, {0, last, first, first, api.ErrOrder},
	} {
		if l, e := quality.Recall(s, x.bad, x.from, x.to, x.day); len(l) != 0 || e != x.want {
			t.Error(x, l, e)
		}
	}
	for _, x := range [][3]int{{first, first, first}, {last, last, last}, {first, last, 50000}} {
		if l, e := quality.Recall(s, 0, x[0], x[1], x[2]); e != api.OK {
			t.Error(x, l, e)
		}
	}
}
