package stamp_test

import (
	"math/rand"
	"slices"
	"testing"

	"meridian/api"
	"meridian/stamp"
)

// slowVerify looks for the first stamp that is wrong, by the chapter's words.
func slowVerify(key uint64, l []stamp.Stamp) (int, api.Errno) {
	for i, s := range l {
		sign := slowSign(key, s)
		if i > 0 {
			sign = slowSign(key, s, l[i-1].Sign)
		}
		if s.Serial != i {
			return i, api.ErrStamp
		}
		if s.Lo < 0 || s.Lo > last || s.Hi < 0 || s.Hi > last {
			return i, api.ErrRange
		}
		if s.Lo > s.Hi {
			return i, api.ErrEmpty
		}
		if i > 0 && s.Lo < l[i-1].Lo {
			return i, api.ErrOrder
		}
		if s.Sign != sign {
			return i, api.ErrFalse
		}
	}
	return len(l), api.OK
}

// P11.2, R1: stamps with some changes, signed again or not.
func TestVerify(t *testing.T) {
	r := rand.New(rand.NewSource(8))
	errors := map[api.Errno]int{}
	for range 20000 {
		key := r.Uint64()
		l := chained(t, key, r, r.Intn(6))
		if n, e := stamp.Verify(key, l); n != len(l) || e != api.OK {
			t.Fatal(l, n, e)
		}
		for range r.Intn(4) {
			spoil(r, key, l)
		}
		want, e := slowVerify(key, l)
		if n, f := stamp.Verify(key, l); n != want || f != e {
			t.Fatal(key, l, n, want, f, e)
		}
		errors[e]++
	}
	for _, e := range []api.Errno{api.OK, api.ErrStamp, api.ErrRange, api.ErrEmpty, api.ErrOrder, api.ErrFalse} {
		if errors[e] < 500 {
			t.Error(errors)
		}
	}
}

// spoil changes one of the stamps.
func spoil(r *rand.Rand, key uint64, l []stamp.Stamp) {
	if len(l) == 0 {
		return
	}
	i := r.Intn(len(l))
	s := &l[i]
	switch r.Intn(8) {
	case 0:
		s.Serial += 1 - 2*r.Intn(2)
	case 1:
		s.Lo = []int{-1, last + 1, last, 0}[r.Intn(4)]
	case 2:
		s.Hi = []int{-1, last + 1, last, 0}[r.Intn(4)]
	case 3:
		s.Lo = s.Hi + r.Intn(3)
	case 4, 5:
		s.Lo = max(0, s.Lo-1-r.Intn(50))
	case 6:
		s.Doc++
	case 7:
		s.Sign++
	}
	if r.Intn(2) == 0 {
		signAll(key, l, i)
	}
}

// P11.2: the ends of what is allowed, and all that has more than one error.
func TestVerifyLimits(t *testing.T) {
	for _, x := range []struct {
		s stamp.Stamp
		e api.Errno
	}{
		{stamp.Stamp{Serial: 1, Lo: 5, Hi: 5}, api.OK}, {stamp.Stamp{Serial: 1, Lo: 5, Hi: last}, api.OK}, {stamp.Stamp{Serial: 1, Lo: last, Hi: last}, api.OK},
		{stamp.Stamp{Serial: 1, Lo: 6, Hi: 5}, api.ErrEmpty}, {stamp.Stamp{Serial: 1, Lo: 4, Hi: 3}, api.ErrEmpty}, {stamp.Stamp{Serial: 1, Lo: 4, Hi: 9}, api.ErrOrder}, {stamp.Stamp{Serial: 1, Lo: 0, Hi: 0}, api.ErrOrder},
		{stamp.Stamp{Serial: 1, Lo: -1, Hi: 9}, api.ErrRange}, {stamp.Stamp{Serial: 1, Lo: 5, Hi: -1}, api.ErrRange}, {stamp.Stamp{Serial: 1, Lo: last + 1, Hi: 9}, api.ErrRange}, {stamp.Stamp{Serial: 1, Lo: 6, Hi: last + 1}, api.ErrRange},
		{stamp.Stamp{Serial: 2, Lo: -1, Hi: -2}, api.ErrStamp}, {stamp.Stamp{Serial: 0, Lo: 5, Hi: 5}, api.ErrStamp}, {stamp.Stamp{Serial: -1, Lo: 5, Hi: 5}, api.ErrStamp},
	} {
		l := []stamp.Stamp{{Lo: 5, Hi: 9}, x.s}
		signAll(3, l, 0)
		want := 1
		if x.e == api.OK {
			want = 2
		}
		if n, e := stamp.Verify(3, l); n != want || e != x.e {
			t.Error(x, n, e)
		}
		if x.e == api.OK {
			x.e = api.ErrFalse
		}
		l[1].Sign++
		if n, e := stamp.Verify(3, l); n != 1 || e != x.e {
			t.Error(x, n, e)
		}
	}
	for _, n := range far {
		for _, s := range []stamp.Stamp{{Lo: n, Hi: 5}, {Lo: 5, Hi: n}, {Lo: n, Hi: n}} {
			l := []stamp.Stamp{s}
			signAll(3, l, 0)
			if k, e := stamp.Verify(3, l); k != 0 || e != api.ErrRange {
				t.Error(s, k, e)
			}
		}
		if k, e := stamp.Verify(3, []stamp.Stamp{{Serial: n, Lo: n, Hi: n}}); k != 0 || e != api.ErrStamp {
			t.Error(n, k, e)
		}
	}
	if n, e := stamp.Verify(3, nil); n != 0 || e != api.OK {
		t.Error(n, e)
	}
}

// P11.2, R1: more than MaxStamps comes before what is wrong with one.
func TestVerifyMany(t *testing.T) {
	l := make([]stamp.Stamp, 1001)
	for i := range l {
		l[i] = stamp.Stamp{Serial: i, Lo: i, Hi: i}
	}
	signAll(4, l, 0)
	if n, e := stamp.Verify(4, l[:1000]); n != 1000 || e != api.OK {
		t.Error(n, e)
	}
	if n, e := stamp.Verify(4, l); n != 0 || e != api.ErrMany {
		t.Error(n, e)
	}
	l[2].Serial = 7
	if n, e := stamp.Verify(4, l); n != 0 || e != api.ErrMany {
		t.Error(n, e)
	}
	if n, e := stamp.Verify(4, l[:1000]); n != 2 || e != api.ErrStamp {
		t.Error(n, e)
	}
}

// P11.5: whoever changes, leaves out or exchanges stamps is found at the first one
// that differs, if he cannot sign.
func TestForged(t *testing.T) {
	r := rand.New(rand.NewSource(9))
	for range 60 {
		key, count := r.Uint64(), 2+r.Intn(12)
		l := chained(t, key, r, count)
		found := func(m []stamp.Stamp, at int) {
			t.Helper()
			if n, e := stamp.Verify(key, m); n != at || e == api.OK {
				t.Fatal(l, m, n, at, e)
			}
		}
		for i := range l {
			for _, change := range []func(s *stamp.Stamp){
				func(s *stamp.Stamp) { s.Serial++ }, func(s *stamp.Stamp) { s.Doc ^= 1 << r.Intn(64) }, func(s *stamp.Stamp) { s.Lo++ },
				func(s *stamp.Stamp) { s.Lo-- }, func(s *stamp.Stamp) { s.Hi++ }, func(s *stamp.Stamp) { s.Hi-- }, func(s *stamp.Stamp) { s.Sign ^= 1 << r.Intn(64) },
			} {
				m := slices.Clone(l)
				change(&m[i])
				found(m, i)
			}
			if n, e := stamp.Verify(key, l[:i]); n != i || e != api.OK { // the first ones are a chain
				t.Fatal(l, i, n, e)
			}
			if i < count-1 {
				found(slices.Delete(slices.Clone(l), i, i+1), i)
				m := slices.Delete(slices.Clone(l), i, i+1)
				for k := range m {
					m[k].Serial = k
				}
				found(m, i)
			}
			for k := i + 1; k < count; k++ {
				m := slices.Clone(l)
				m[i], m[k] = m[k], m[i]
				found(m, i)
				m[i].Serial, m[k].Serial = i, k
				found(m, i)
			}
			found(slices.Insert(slices.Clone(l), i, l[i]), i+1)
		}
		if n, e := stamp.Verify(key+1, l); n != 0 || e != api.ErrFalse {
			t.Fatal(l, n, e)
		}
		other := chained(t, key^1, r, count)
		found(append(slices.Clone(l[:1]), other[1:]...), 1)
	}
}

// slowTight is the tight interval of stamp i.
func slowTight(l []stamp.Stamp, i int) api.Span {
	s := span(l[0].Lo, l[len(l)-1].Hi)
	for k, x := range l {
		if k <= i && x.Lo > s.Lo {
			s.Lo = x.Lo
		}
		if k >= i && x.Hi < s.Hi {
			s.Hi = x.Hi
		}
	}
	return s
}

// P11.2: the tight intervals of any stamps.
func TestTight(t *testing.T) {
	r := rand.New(rand.NewSource(10))
	errors := map[api.Errno]int{}
	for range 5000 {
		l := make([]stamp.Stamp, r.Intn(7))
		for i := range l {
			lo := 1 + r.Intn(30) + 4*i
			l[i] = stamp.Stamp{Serial: r.Intn(3) - 1, Lo: lo, Hi: lo + r.Intn(45) - 1, Sign: r.Uint64()}
		}
		var want []api.Span
		e := api.OK
		for i := range l {
			s := slowTight(l, i)
			want = append(want, s)
			if s.Lo > s.Hi {
				e = api.ErrEmpty
			}
		}
		if e != api.OK {
			want = nil
		}
		if g, f := stamp.Tight(l); !slices.Equal(g, want) || f != e {
			t.Fatal(l, g, want, f, e)
		}
		errors[e]++
	}
	if errors[api.OK] < 1000 || errors[api.ErrEmpty] < 800 {
		t.Error(errors)
	}
}

// P11.2, R1: the errors of Tight, in their order.
func TestTightErrors(t *testing.T) {
	whole := stamp.Stamp{Lo: 0, Hi: last}
	for i, x := range []struct {
		l []stamp.Stamp
		e api.Errno
	}{
		{nil, api.OK}, {[]stamp.Stamp{whole}, api.OK}, {[]stamp.Stamp{{Lo: last, Hi: last}}, api.OK}, {[]stamp.Stamp{{Lo: 5, Hi: 5}}, api.OK}, {slices.Repeat([]stamp.Stamp{whole}, 1000), api.OK},
		{slices.Repeat([]stamp.Stamp{{Lo: -1, Hi: -2}}, 1001), api.ErrMany}, {slices.Repeat([]stamp.Stamp{whole}, 1001), api.ErrMany},
		{[]stamp.Stamp{{Lo: -1, Hi: 5}}, api.ErrRange}, {[]stamp.Stamp{{Lo: 0, Hi: -1}}, api.ErrRange}, {[]stamp.Stamp{{Lo: last + 1, Hi: last}}, api.ErrRange}, {[]stamp.Stamp{{Lo: 0, Hi: last + 1}}, api.ErrRange},
		{[]stamp.Stamp{whole, whole, {Lo: 0, Hi: last + 1}}, api.ErrRange}, {[]stamp.Stamp{{Lo: 6, Hi: 5}, {Lo: -1, Hi: 5}}, api.ErrRange},
		{[]stamp.Stamp{{Lo: 6, Hi: 5}}, api.ErrEmpty}, {[]stamp.Stamp{{Lo: 6, Hi: 9}, {Lo: 1, Hi: 5}}, api.ErrEmpty}, {[]stamp.Stamp{{Lo: 6, Hi: 9}, whole, {Lo: 1, Hi: 6}}, api.OK}, {[]stamp.Stamp{{Lo: 6, Hi: 9}, whole, {Lo: 1, Hi: 5}}, api.ErrEmpty},
		{[]stamp.Stamp{{Lo: 1, Hi: 5}, {Lo: 6, Hi: 9}}, api.OK},
	} {
		if g, e := stamp.Tight(x.l); e != x.e || e != api.OK && g != nil || e == api.OK && len(g) != len(x.l) {
			t.Error(i, g, e)
		}
	}
	for _, n := range far {
		for _, s := range []stamp.Stamp{{Lo: n, Hi: 5}, {Lo: 5, Hi: n}, {Lo: n, Hi: n}} {
			if g, e := stamp.Tight([]stamp.Stamp{whole, s}); g != nil || e != api.ErrRange {
				t.Error(s, g, e)
			}
		}
	}
}

// P11.5: if the true time was in the interval of each reading, it is in that of
// each stamp, and in the tight one; later stamps have no earlier ends.
func TestTrueTimes(t *testing.T) {
	r := rand.New(rand.NewSource(11))
	for i := range 500 {
		c := stamp.New(r.Uint64())
		now, step := r.Intn(100), 1+r.Intn(100)
		if i%5 == 0 {
			now = last - 300
		}
		var truth []int
		for range 1 + r.Intn(40) {
			bound := r.Intn(200)
			reading := min(max(0, now+r.Intn(2*bound+1)-bound), last)
			if _, e := c.Give(1, reading, bound); e != api.OK {
				t.Fatal(now, reading, bound, e)
			}
			truth = append(truth, now)
			now = min(now+r.Intn(step), last)
		}
		l := must[[]stamp.Stamp](t)(c.Stamps())
		tight := must[[]api.Span](t)(stamp.Tight(l))
		for k, s := range l {
			x := tight[k]
			if truth[k] < s.Lo || truth[k] > s.Hi || truth[k] < x.Lo || truth[k] > x.Hi || x.Lo < s.Lo || x.Hi > s.Hi {
				t.Fatal(truth, l, tight)
			}
			if k > 0 && (x.Lo < tight[k-1].Lo || x.Hi < tight[k-1].Hi) {
				t.Fatal(tight)
			}
		}
	}
}
