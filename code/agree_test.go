package code_test

import (
	"math"
	"math/rand"
	"slices"
	"testing"

	"meridian/api"
	"meridian/code"
)

// slowAgree goes through all sets of intervals, from the first one on.
func slowAgree(l []api.Span) code.Agreement {
	var best code.Agreement
	for set := range 1 << len(l) {
		s, in, count := span(math.MinInt, math.MaxInt), make([]bool, len(l)), 0
		for i, x := range l {
			if set>>(len(l)-1-i)&1 == 0 { // so that true comes before false
				in[i] = true
				count++
				s = span(max(s.Lo, x.Lo), min(s.Hi, x.Hi))
			}
		}
		if s.Lo <= s.Hi && count > best.Count {
			best = code.Agreement{Count: count, Span: s, In: in}
		}
	}
	return best
}

func sameAgreement(a, b code.Agreement) bool {
	return a.Count == b.Count && a.Span == b.Span && slices.Equal(a.In, b.In)
}

// P10.6: agreements, by all sets of intervals.
func TestAgree(t *testing.T) {
	r := rand.New(rand.NewSource(17))
	several := 0
	for i := range 6000 {
		l := make([]api.Span, 1+r.Intn(8))
		width := 1 + r.Intn(12)
		for k := range l {
			lo := r.Intn(20)
			l[k] = span(lo, lo+r.Intn(width))
			if i%50 == 0 && r.Intn(3) == 0 {
				l[k].Lo = math.MinInt
			}
			if i%50 == 0 && r.Intn(3) == 0 {
				l[k].Hi = math.MaxInt
			}
		}
		want := slowAgree(l)
		x, e := code.Agree(l)
		if !sameAgreement(x, want) || e != api.OK {
			t.Fatal(l, x, want, e)
		}
		checkNumbers(t, l, x, &several)
	}
	if several < 500 {
		t.Error(several)
	}
}

// checkNumbers checks what P10.7 says of all numbers.
func checkNumbers(t *testing.T, l []api.Span, x code.Agreement, several *int) {
	t.Helper()
	outside := false
	sets := map[string]bool{}
	for n := -1; n < 40; n++ {
		count, set := 0, ""
		for i, s := range l {
			if s.Lo <= n && n <= s.Hi {
				count++
				set += string(rune('a' + i))
			}
		}
		if count > x.Count {
			t.Fatal(l, x, n)
		}
		if count == x.Count {
			sets[set] = true
			outside = outside || n < x.Span.Lo || n > x.Span.Hi
		}
	}
	if outside && len(sets) == 1 {
		t.Fatal(l, x)
	}
	if len(sets) > 1 {
		*several++
	}
}

// P10.6: many intervals, and far ones.
func TestAgreeMany(t *testing.T) {
	r := rand.New(rand.NewSource(18))
	for range 500 {
		l := make([]api.Span, 24)
		for k := range l {
			l[k].Lo = r.Intn(1000) - 500
			l[k].Hi = l[k].Lo + r.Intn(400)
		}
		// a set with a number in common has it at the beginning of an interval
		var want code.Agreement
		for _, s := range l {
			x := code.Agreement{In: make([]bool, 24), Span: span(math.MinInt, math.MaxInt)}
			for k, o := range l {
				if o.Lo <= s.Lo && s.Lo <= o.Hi {
					x.In[k] = true
					x.Count++
					x.Span = span(max(x.Span.Lo, o.Lo), min(x.Span.Hi, o.Hi))
				}
			}
			k := 0
			for k < 23 && want.Count > 0 && x.In[k] == want.In[k] {
				k++
			}
			if x.Count > want.Count || x.Count == want.Count && x.In[k] && !want.In[k] {
				want = x
			}
		}
		if x, e := code.Agree(l); !sameAgreement(x, want) || e != api.OK {
			t.Fatal(l, x, want, e)
		}
	}
}

// P10.6, example 4; R1: the errors of Agree, in their order.
func TestAgreeErrors(t *testing.T) {
	for i, x := range []struct {
		l    []api.Span
		want code.Agreement
		e    api.Errno
	}{
		{[]api.Span{span(1, 5), span(4, 9), span(8, 12), span(5, 6)}, code.Agreement{Count: 3, Span: span(5, 5), In: []bool{true, true, false, true}}, api.OK},
		{[]api.Span{span(5, 6), span(1, 2)}, code.Agreement{Count: 1, Span: span(5, 6), In: []bool{true, false}}, api.OK},
		{[]api.Span{span(1, 2), span(8, 9), span(1, 2), span(8, 9)}, code.Agreement{Count: 2, Span: span(1, 2), In: []bool{true, false, true, false}}, api.OK},
		{[]api.Span{span(8, 9), span(1, 2), span(1, 2), span(8, 9)}, code.Agreement{Count: 2, Span: span(8, 9), In: []bool{true, false, false, true}}, api.OK},
		{[]api.Span{span(0, 9), span(6, 7), span(2, 3)}, code.Agreement{Count: 2, Span: span(6, 7), In: []bool{true, true, false}}, api.OK},
		{[]api.Span{span(math.MinInt, math.MinInt), span(math.MaxInt, math.MaxInt)}, code.Agreement{Count: 1, Span: span(math.MinInt, math.MinInt), In: []bool{true, false}}, api.OK},
		{nil, code.Agreement{}, api.ErrArg}, {[]api.Span{}, code.Agreement{}, api.ErrArg},
		{slices.Repeat([]api.Span{span(1, 0)}, 25), code.Agreement{}, api.ErrMany}, {slices.Repeat([]api.Span{span(3, 4)}, 24), code.Agreement{Count: 24, Span: span(3, 4), In: slices.Repeat([]bool{true}, 24)}, api.OK},
		{[]api.Span{span(1, 0)}, code.Agreement{}, api.ErrEmpty}, {[]api.Span{span(0, 9), span(0, 9), span(5, 4)}, code.Agreement{}, api.ErrEmpty}, {[]api.Span{span(math.MaxInt, math.MinInt), span(0, 9)}, code.Agreement{}, api.ErrEmpty},
	} {
		if y, e := code.Agree(x.l); !sameAgreement(y, x.want) || e != x.e {
			t.Error(i, x, y, e)
		}
	}
}
