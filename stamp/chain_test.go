package stamp_test

import (
	"math"
	"math/rand"
	"slices"
	"testing"

	"meridian/api"
	"meridian/stamp"
)

// P11.1: Mix, by arithmetic that does not wrap.
func TestMix(t *testing.T) {
	r := rand.New(rand.NewSource(1))
	l := []uint64{0, 1, 2, 3, 1 << 28, 1 << 29, 1 << 31, 1 << 32, 1 << 63, math.MaxUint64}
	for range 40 {
		l = append(l, r.Uint64())
	}
	for _, x := range l {
		for _, y := range l {
			if z := stamp.Mix(x, y); z != slowMix(x, y) {
				t.Error(x, y, z)
			}
		}
	}
}

// P11.1, example 1: the stamps that are given.
func TestGive(t *testing.T) {
	r := rand.New(rand.NewSource(2))
	errors := map[api.Errno]int{}
	for range 300 {
		key := r.Uint64()
		c := stamp.New(key)
		var l []stamp.Stamp
		for range r.Intn(30) {
			doc, reading, bound := r.Uint64(), r.Intn(400)-10, r.Intn(200)-5
			if r.Intn(10) == 0 {
				reading = last - r.Intn(300) + 10
			}
			s, want := slowGive(key, l, doc, reading, bound)
			if g, e := c.Give(doc, reading, bound); g != s || e != want {
				t.Fatal(l, reading, bound, g, s, e, want)
			}
			errors[want]++
			if want == api.OK {
				l = append(l, s)
			}
			if g := must[[]stamp.Stamp](t)(c.Stamps()); !slices.Equal(g, l) {
				t.Fatal(g, l)
			}
		}
	}
	for _, e := range []api.Errno{api.OK, api.ErrRange, api.ErrEmpty} {
		if errors[e] < 100 {
			t.Error(errors)
		}
	}
}

// slowGive is the stamp that follows those of l, by the chapter's words.
func slowGive(key uint64, l []stamp.Stamp, doc uint64, reading, bound int) (stamp.Stamp, api.Errno) {
	if reading < 0 || reading > last || bound < 0 || bound > last {
		return stamp.Stamp{}, api.ErrRange
	}
	s := stamp.Stamp{Serial: len(l), Doc: doc, Lo: reading - bound, Hi: reading + bound}
	if s.Lo < 0 {
		s.Lo = 0
	}
	if s.Hi > last {
		s.Hi = last
	}
	if len(l) == 0 {
		s.Sign = slowSign(key, s)
		return s, api.OK
	}
	before := l[len(l)-1]
	if s.Lo < before.Lo {
		s.Lo = before.Lo
	}
	if s.Hi < s.Lo {
		return stamp.Stamp{}, api.ErrEmpty
	}
	s.Sign = slowSign(key, s, before.Sign)
	return s, api.OK
}

// P11.1: the ends of what is allowed, and the order of errors.
func TestGiveLimits(t *testing.T) {
	for _, x := range []struct {
		reading, bound, lo, hi int
		e                      api.Errno
	}{
		{0, 0, 0, 0, api.OK}, {last, 0, last, last, api.OK}, {0, last, 0, last, api.OK}, {last, last, 0, last, api.OK},
		{5, 5, 0, 10, api.OK}, {5, 6, 0, 11, api.OK}, {last - 5, 5, last - 10, last, api.OK}, {last - 5, 6, last - 11, last, api.OK},
		{-1, 0, 0, 0, api.ErrRange}, {0, -1, 0, 0, api.ErrRange}, {last + 1, 0, 0, 0, api.ErrRange}, {0, last + 1, 0, 0, api.ErrRange},
		{-1, 5, 0, 0, api.ErrRange}, {last + 1, 5, 0, 0, api.ErrRange},
	} {
		s, e := stamp.New(9).Give(3, x.reading, x.bound)
		want := stamp.Stamp{}
		if x.e == api.OK {
			want = stamp.Stamp{Doc: 3, Lo: x.lo, Hi: x.hi}
			want.Sign = slowSign(9, want)
		}
		if s != want || e != x.e {
			t.Error(x, s, e)
		}
	}
	c := stamp.New(9)
	must[stamp.Stamp](t)(c.Give(1, 1000, 100))
	for _, x := range []struct {
		reading, bound, lo int
		e                  api.Errno
	}{
		{899, 0, 0, api.ErrEmpty}, {0, 899, 0, api.ErrEmpty}, {0, 900, 900, api.OK}, {900, 0, 900, api.OK}, {901, 0, 901, api.OK},
		{-1, 0, 0, api.ErrRange}, {1, -1, 0, api.ErrRange}, {-1, 2000, 0, api.ErrRange}, {2000, -2, 0, api.ErrRange},
	} {
		if s, e := c.Copy().Give(1, x.reading, x.bound); s.Lo != x.lo || e != x.e {
			t.Error(x, s, e)
		}
	}
	for _, n := range far {
		for _, x := range [][2]int{{n, 0}, {0, n}, {n, n}, {1000, n}, {n, 1000}} {
			if s, e := c.Give(1, x[0], x[1]); (s != stamp.Stamp{}) || e != api.ErrRange {
				t.Error(x, s, e)
			}
		}
	}
	if l := must[[]stamp.Stamp](t)(c.Stamps()); len(l) != 1 {
		t.Error(l)
	}
}

// P11.1: a chain has at most MaxStamps, and nothing changes after that.
func TestGiveMany(t *testing.T) {
	c := stamp.New(5)
	for i := range 1000 {
		if s, e := c.Give(uint64(i), 10*i, 3); s.Serial != i || e != api.OK {
			t.Fatal(i, s, e)
		}
	}
	root := must[uint64](t)(c.Root())
	for _, x := range [][2]int{{20000, 0}, {-1, 0}, {0, -1}, {0, 0}} {
		if s, e := c.Give(7, x[0], x[1]); (s != stamp.Stamp{}) || e != api.ErrMany {
			t.Error(x, s, e)
		}
	}
	if l := must[[]stamp.Stamp](t)(c.Stamps()); len(l) != 1000 || root != must[uint64](t)(c.Root()) {
		t.Error(len(l), root)
	}
	if n, e := stamp.Verify(5, must[[]stamp.Stamp](t)(c.Stamps())); n != 1000 || e != api.OK {
		t.Error(n, e)
	}
}

// P11.1: a new chain is empty.
func TestNew(t *testing.T) {
	for _, key := range []uint64{0, 1, math.MaxUint64} {
		c := stamp.New(key)
		if l, e := c.Stamps(); len(l) != 0 || e != api.OK {
			t.Error(l, e)
		}
		if n, e := c.Root(); n != 0 || e != api.OK {
			t.Error(n, e)
		}
		if l, e := c.Show(0); l != nil || e != api.ErrRange {
			t.Error(l, e)
		}
	}
	if a, b := stamp.New(1), stamp.New(1); a == b {
		t.Error("two chains are one")
	}
}

// P11.1: a copy has the same stamps and the same key, and neither of the two
// changes with the other one.
func TestCopy(t *testing.T) {
	r := rand.New(rand.NewSource(3))
	for count := range 40 {
		c := stamp.New(77)
		l := give(t, c, r, count, 50)
		d := c.Copy()
		f := d.Copy()
		a := must[stamp.Stamp](t)(c.Give(1, 100000, 0))
		b := must[stamp.Stamp](t)(d.Give(2, 100001, 0))
		for _, x := range []struct {
			c    *stamp.Chain
			want []stamp.Stamp
		}{{c, append(slices.Clone(l), a)}, {d, append(slices.Clone(l), b)}, {f, l}} {
			if g := must[[]stamp.Stamp](t)(x.c.Stamps()); !slices.Equal(g, x.want) {
				t.Error(g, x.want)
			}
			if n, e := stamp.Verify(77, x.want); n != len(x.want) || e != api.OK {
				t.Error(n, e)
			}
		}
	}
}
