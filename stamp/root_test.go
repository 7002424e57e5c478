package stamp_test

import (
	"math/rand"
	"slices"
	"testing"

	"meridian/api"
	"meridian/stamp"
)

// half is the greatest power of two below n, which is at least 2: so many hashes
// of the lowest row become the left one of the last two.
func half(n int) int {
	k := 1
	for 2*k < n {
		k *= 2
	}
	return k
}

func slowRoot(l []stamp.Stamp) uint64 {
	switch len(l) {
	case 0:
		return 0
	case 1:
		return l[0].Sign
	}
	k := half(len(l))
	return slowMix(slowMix(slowRoot(l[:k]), slowRoot(l[k:])), 5)
}

func slowSides(l []stamp.Stamp, i int) []stamp.Side {
	if len(l) == 1 {
		return nil
	}
	k := half(len(l))
	if i < k {
		return append(slowSides(l[:k], i), stamp.Side{Hash: slowRoot(l[k:])})
	}
	return append(slowSides(l[k:], i-k), stamp.Side{Hash: slowRoot(l[:k]), Left: true})
}

// P11.1, P11.2, P11.5: roots and sides, from the root downwards; a stamp belongs
// to the root by its sides.
func TestRoots(t *testing.T) {
	r := rand.New(rand.NewSource(4))
	for count := range 70 {
		c := stamp.New(r.Uint64())
		l := give(t, c, r, count, 100)
		root := slowRoot(l)
		if n, e := c.Root(); n != root || e != api.OK {
			t.Fatal(count, n, root, e)
		}
		if n, e := stamp.RootOf(l); n != root || e != api.OK {
			t.Fatal(count, n, root, e)
		}
		for i, s := range l {
			sides, e := c.Show(i)
			if want := slowSides(l, i); !slices.Equal(sides, want) || e != api.OK {
				t.Fatal(count, i, sides, want, e)
			}
			if !stamp.Belongs(s, sides, root) {
				t.Fatal(count, i)
			}
			for k, o := range l {
				if k != i && stamp.Belongs(o, sides, root) {
					t.Fatal(count, i, k)
				}
			}
		}
		for _, i := range append(far, -1, count, count+1) {
			if sides, e := c.Show(i); sides != nil || e != api.ErrRange {
				t.Fatal(count, i, sides, e)
			}
		}
	}
}

// P11.1, P11.2: the most stamps, and one more.
func TestRootMany(t *testing.T) {
	r := rand.New(rand.NewSource(5))
	c := stamp.New(6)
	l := give(t, c, r, 1000, 100)
	root := slowRoot(l)
	if n, e := c.Root(); n != root || e != api.OK {
		t.Error(n, root, e)
	}
	if n, e := stamp.RootOf(l); n != root || e != api.OK {
		t.Error(n, root, e)
	}
	for _, i := range []int{0, 1, 511, 512, 767, 768, 991, 992, 998, 999} {
		sides, e := c.Show(i)
		if !slices.Equal(sides, slowSides(l, i)) || !stamp.Belongs(l[i], sides, root) || e != api.OK {
			t.Error(i, sides, e)
		}
	}
	if n, e := stamp.RootOf(append(l, l[0])); n != 0 || e != api.ErrMany {
		t.Error(n, e)
	}
}

// P11.2: the root of any stamps depends on their Signs alone.
func TestRootOfAny(t *testing.T) {
	r := rand.New(rand.NewSource(6))
	for count := range 20 {
		l := make([]stamp.Stamp, count)
		for i := range l {
			l[i] = stamp.Stamp{Serial: r.Intn(9) - 4, Doc: r.Uint64(), Lo: far[r.Intn(len(far))], Hi: far[r.Intn(len(far))], Sign: r.Uint64()}
		}
		if n, e := stamp.RootOf(l); n != slowRoot(l) || e != api.OK {
			t.Error(l, n, e)
		}
	}
}

// P11.2: what does not come to the root.
func TestBelongs(t *testing.T) {
	r := rand.New(rand.NewSource(7))
	c := stamp.New(8)
	l := give(t, c, r, 21, 100)
	root := must[uint64](t)(c.Root())
	for i, s := range l {
		sides := must[[]stamp.Side](t)(c.Show(i))
		for k := range sides {
			other := slices.Clone(sides)
			other[k].Hash++
			if stamp.Belongs(s, other, root) || stamp.Belongs(s, slices.Delete(slices.Clone(sides), k, k+1), root) {
				t.Error(i, k)
			}
		}
		s.Sign ^= 1
		if stamp.Belongs(s, sides, root) || stamp.Belongs(l[i], sides, root+1) || stamp.Belongs(l[i], nil, root) || stamp.Belongs(l[i], append(sides, stamp.Side{}), root) {
			t.Error(i)
		}
	}
	for _, s := range []stamp.Stamp{{}, {Sign: 5}, {Serial: -3, Doc: 7, Lo: 9, Hi: 1, Sign: 5}} { // the Sign alone counts
		if !stamp.Belongs(s, nil, s.Sign) || stamp.Belongs(s, nil, s.Sign+1) {
			t.Error(s)
		}
		want := slowMix(slowMix(slowMix(slowMix(8, s.Sign), 5), 9), 5)
		if !stamp.Belongs(s, []stamp.Side{{Hash: 8, Left: true}, {Hash: 9}}, want) || stamp.Belongs(s, []stamp.Side{{Hash: 9}, {Hash: 8, Left: true}}, want) {
			t.Error(s)
		}
	}
}
