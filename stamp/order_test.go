package stamp_test

import (
	"cmp"
	"math/rand"
	"slices"
	"testing"

	"meridian/api"
	"meridian/stamp"
)

// known is what is known of the order of stamps, by the chapter's words.
type known struct {
	places []stamp.Place
	reason [][]bool // whether a place is before another one by one reason
	steps  [][]int  // the least number of reasons, 0 if there is no list of them
}

func newKnown(sizes []int, l []stamp.Cross) known {
	var k known
	for chain, size := range sizes {
		for serial := range size {
			k.places = append(k.places, place(chain, serial))
		}
	}
	for _, p := range k.places {
		row, steps := make([]bool, len(k.places)), make([]int, len(k.places))
		for i, q := range k.places {
			row[i] = q == place(p.Chain, p.Serial+1)
			for _, x := range l {
				row[i] = row[i] || p.Chain == x.From && p.Serial <= x.Upto && q == place(x.Chain, x.Serial)
			}
			if row[i] {
				steps[i] = 1
			}
		}
		k.reason, k.steps = append(k.reason, row), append(k.steps, steps)
	}
	k.close()
	return k
}

// close finds the least numbers of reasons by way of one place after the other.
func (k known) close() {
	for mid := range k.places {
		for i := range k.places {
			for j := range k.places {
				a, b := k.steps[i][mid], k.steps[mid][j]
				if a > 0 && b > 0 && (k.steps[i][j] == 0 || a+b < k.steps[i][j]) {
					k.steps[i][j] = a + b
				}
			}
		}
	}
}

func (k known) isCircular() bool {
	for i := range k.places {
		if k.steps[i][i] > 0 {
			return true
		}
	}
	return false
}

// ways are all shortest lists from a place to a later one.
func (k known) ways(i, j int) [][]stamp.Place {
	if k.steps[i][j] == 1 {
		return [][]stamp.Place{{k.places[i], k.places[j]}}
	}
	var all [][]stamp.Place
	for mid := range k.places {
		if k.reason[i][mid] && k.steps[mid][j] > 0 && k.steps[mid][j]+1 == k.steps[i][j] {
			for _, way := range k.ways(mid, j) {
				all = append(all, append([]stamp.Place{k.places[i]}, way...))
			}
		}
	}
	return all
}

func before(a, b stamp.Place) int {
	return cmp.Or(cmp.Compare(a.Chain, b.Chain), cmp.Compare(a.Serial, b.Serial))
}

// order is what Order has to return.
func (k known) order(i, j int) (int, []stamp.Place) {
	for _, x := range []struct{ from, to, n int }{{i, j, -1}, {j, i, 1}} {
		if k.steps[x.from][x.to] > 0 {
			return x.n, slices.MinFunc(k.ways(x.from, x.to), func(a, b []stamp.Place) int { return slices.CompareFunc(a, b, before) })
		}
	}
	return 0, nil
}

// since is what Since has to return.
func (k known) since(sizes []int, i int) []int {
	l := slices.Clone(sizes)
	for j, p := range k.places {
		if k.steps[i][j] > 0 && p.Serial < l[p.Chain] {
			l[p.Chain] = p.Serial
		}
	}
	return l
}

// anyCrosses are some of existing stamps; with times they are true ones of a
// random order in which the stamps are given.
func anyCrosses(r *rand.Rand, sizes []int, count int, times [][]int) []stamp.Cross {
	var l []stamp.Cross
	for range 50 * count {
		chain, from := r.Intn(len(sizes)), r.Intn(len(sizes))
		if len(l) == count || chain == from || sizes[chain] == 0 || sizes[from] == 0 {
			continue
		}
		x := cross(chain, r.Intn(sizes[chain]), from, r.Intn(sizes[from]))
		if times == nil || times[from][x.Upto] < times[chain][x.Serial] {
			l = append(l, x)
		}
	}
	return l
}

// anyTimes say when the stamps of some chains are given: each time belongs to one.
func anyTimes(r *rand.Rand, sizes []int) [][]int {
	var chains []int
	for chain, size := range sizes {
		chains = append(chains, slices.Repeat([]int{chain}, size)...)
	}
	r.Shuffle(len(chains), func(i, k int) { chains[i], chains[k] = chains[k], chains[i] })
	times := make([][]int, len(sizes))
	for now, chain := range chains {
		times[chain] = append(times[chain], now)
	}
	return times
}

func anySizes(r *rand.Rand, chains, most int) []int {
	sizes := make([]int, 1+r.Intn(chains))
	for i := range sizes {
		sizes[i] = r.Intn(most + 1)
	}
	return sizes
}

// P11.3, P11.5: all pairs of places of small chains, by all lists of reasons.
func TestOrder(t *testing.T) {
	r := rand.New(rand.NewSource(12))
	circular, several, orders := 0, 0, map[int]int{}
	for i := range 3000 {
		sizes := anySizes(r, 6, 4)
		var times [][]int
		if i%3 > 0 {
			times = anyTimes(r, sizes)
		}
		l := anyCrosses(r, sizes, r.Intn(16), times)
		k := newKnown(sizes, l)
		if k.isCircular() {
			circular++
			checkCircular(t, sizes, l, k)
			continue
		}
		for i, a := range k.places {
			if n, e := stamp.Since(sizes, l, a); !slices.Equal(n, k.since(sizes, i)) || e != api.OK {
				t.Fatal(sizes, l, a, n, e)
			}
			for j, b := range k.places {
				want, way := k.order(i, j)
				if n, w, e := stamp.Order(sizes, l, a, b); n != want || !slices.Equal(w, way) || e != api.OK {
					t.Fatal(sizes, l, a, b, n, w, want, way, e)
				}
				orders[want]++
				if want == -1 && len(k.ways(i, j)) > 1 {
					several++
				}
			}
		}
	}
	if circular < 200 || several < 1000 || orders[0] < 10000 || orders[1] < 10000 {
		t.Error(circular, several, orders)
	}
}

// checkCircular checks that there is an error, whatever is asked.
func checkCircular(t *testing.T, sizes []int, l []stamp.Cross, k known) {
	t.Helper()
	for _, a := range k.places {
		if n, e := stamp.Since(sizes, l, a); n != nil || e != api.ErrOrder {
			t.Fatal(sizes, l, a, n, e)
		}
		b := k.places[0]
		if n, way, e := stamp.Order(sizes, l, a, b); n != 0 || way != nil || e != api.ErrOrder {
			t.Fatal(sizes, l, a, b, n, way, e)
		}
	}
}

// farFrom has the least number of reasons from all places to b, by rounds.
func farFrom(sizes []int, l []stamp.Cross, b stamp.Place) map[stamp.Place]int {
	steps := map[stamp.Place]int{b: 0}
	for now := []stamp.Place{b}; len(now) > 0; {
		var next []stamp.Place
		add := func(p stamp.Place, n int) {
			if _, is := steps[p]; !is {
				steps[p] = n
				next = append(next, p)
			}
		}
		for _, p := range now {
			if p.Serial > 0 {
				add(place(p.Chain, p.Serial-1), steps[p]+1)
			}
			for _, x := range l {
				if p == place(x.Chain, x.Serial) {
					for serial := range x.Upto + 1 {
						add(place(x.From, serial), steps[p]+1)
					}
				}
			}
		}
		now = next
	}
	return steps
}

// leastWay follows the numbers of reasons from a place.
func leastWay(sizes []int, l []stamp.Cross, a stamp.Place, steps map[stamp.Place]int) []stamp.Place {
	way := []stamp.Place{a}
	for a := a; steps[a] > 0; a = way[len(way)-1] {
		after := []stamp.Place{place(a.Chain, a.Serial+1)}
		for _, x := range l {
			if x.From == a.Chain && a.Serial <= x.Upto {
				after = append(after, place(x.Chain, x.Serial))
			}
		}
		after = slices.DeleteFunc(after, func(p stamp.Place) bool {
			n, is := steps[p]
			return !is || n != steps[a]-1
		})
		way = append(way, slices.MinFunc(after, before))
	}
	return way
}

// P11.3, P11.5: the most chains, stamps and crosses.
func TestOrderMany(t *testing.T) {
	r := rand.New(rand.NewSource(13))
	sizes := slices.Repeat([]int{1000}, 6)
	for range 12 {
		times := anyTimes(r, sizes)
		l := anyCrosses(r, sizes, 60, times)
		for range 12 {
			a, b := place(r.Intn(6), r.Intn(1000)), place(r.Intn(6), r.Intn(1000))
			since, e := stamp.Since(sizes, l, a)
			if e != api.OK {
				t.Fatal(l, a, e)
			}
			n, way, e := stamp.Order(sizes, l, a, b)
			m, back, f := stamp.Order(sizes, l, b, a)
			if e != api.OK || f != api.OK || m != -n || !slices.Equal(way, back) {
				t.Fatal(l, a, b, n, m, way, back, e, f)
			}
			isBefore := b.Serial >= since[b.Chain]
			if isBefore != (n == -1) || isBefore && times[a.Chain][a.Serial] >= times[b.Chain][b.Serial] {
				t.Fatal(l, a, b, n, since)
			}
			if n == 1 {
				a, b = b, a
			}
			steps := farFrom(sizes, l, b)
			if _, is := steps[a]; is != (n != 0 || a == b) {
				t.Fatal(l, a, b, n)
			}
			if n != 0 && !slices.Equal(way, leastWay(sizes, l, a, steps)) {
				t.Fatal(l, a, b, way)
			}
		}
	}
	n, way, e := stamp.Order(sizes, nil, place(3, 0), place(3, 999))
	if n != -1 || len(way) != 1000 || e != api.OK {
		t.Error(n, way, e)
	}
	for serial, p := range way {
		if p != place(3, serial) {
			t.Error(serial, p)
		}
	}
}

// P11.5: Order is transitive, and Since says the same.
func TestTransitive(t *testing.T) {
	r := rand.New(rand.NewSource(14))
	for range 60 {
		sizes := anySizes(r, 4, 5)
		l := anyCrosses(r, sizes, r.Intn(10), anyTimes(r, sizes))
		places := newKnown(sizes, nil).places
		order := map[[2]stamp.Place]int{}
		for _, a := range places {
			since := must[[]int](t)(stamp.Since(sizes, l, a))
			for _, b := range places {
				n, _, e := stamp.Order(sizes, l, a, b)
				if e != api.OK || (n == -1) != (b.Serial >= since[b.Chain]) {
					t.Fatal(sizes, l, a, b, n, since, e)
				}
				order[[2]stamp.Place{a, b}] = n
			}
		}
		for _, a := range places {
			for _, b := range places {
				for _, c := range places {
					x, y, z := order[[2]stamp.Place{a, b}], order[[2]stamp.Place{b, c}], order[[2]stamp.Place{a, c}]
					if x == y && x != 0 && z != x || x != -order[[2]stamp.Place{b, a}] {
						t.Fatal(sizes, l, a, b, c, x, y, z)
					}
				}
			}
		}
	}
}

// P11.5: chains at work stamp each other's roots; what is known to be before has
// been given before.
func TestCrossesOfChains(t *testing.T) {
	r := rand.New(rand.NewSource(15))
	for range 40 {
		chains, sizes := make([]*stamp.Chain, 4), make([]int, 4)
		for i := range chains {
			chains[i] = stamp.New(uint64(i))
		}
		var l []stamp.Cross
		times := map[stamp.Place]int{}
		for now := range 40 {
			chain, from := r.Intn(4), r.Intn(4)
			root := must[uint64](t)(chains[from].Root())
			s := must[stamp.Stamp](t)(chains[chain].Give(root, 100*now, 30))
			times[place(chain, s.Serial)] = now
			if chain != from && sizes[from] > 0 {
				l = append(l, cross(chain, s.Serial, from, sizes[from]-1))
			}
			sizes[chain]++
		}
		for a, early := range times {
			for b, late := range times {
				if n, _, e := stamp.Order(sizes, l, a, b); n == -1 && early >= late || n == 1 && late >= early || e != api.OK {
					t.Fatal(sizes, l, a, b, n, e)
				}
			}
		}
	}
}

// P11.3, example 3; R1: the errors of Order and Since, in their order.
func TestOrderErrors(t *testing.T) {
	one := []stamp.Cross{cross(1, 1, 0, 1)}
	many := slices.Repeat(one, 61)
	a := place(0, 0)
	for i, x := range []struct {
		sizes []int
		l     []stamp.Cross
		a     stamp.Place
		e     api.Errno
	}{
		{[]int{3, 3}, one, a, api.OK}, {[]int{3, 3}, one, place(1, 2), api.OK}, {[]int{3, 3}, many[:60], a, api.OK}, {[]int{1}, nil, a, api.OK}, {[]int{1000, 0, 1, 1000, 5, 5}, nil, a, api.OK}, {[]int{2, 2}, one, a, api.OK},
		{nil, nil, a, api.ErrMany}, {make([]int, 7), nil, a, api.ErrMany}, {[]int{3, 3}, many, a, api.ErrMany}, {nil, many, a, api.ErrMany}, {[]int{-1, 3}, many, a, api.ErrMany}, {slices.Repeat([]int{-1}, 7), nil, a, api.ErrMany},
		{[]int{3, -1}, nil, a, api.ErrRange}, {[]int{3, 1001}, nil, a, api.ErrRange}, {[]int{-1, 3}, []stamp.Cross{{}}, a, api.ErrRange},
		{[]int{3, 3}, []stamp.Cross{cross(-1, 1, 0, 1)}, a, api.ErrArg}, {[]int{3, 3}, []stamp.Cross{cross(2, 1, 0, 1)}, a, api.ErrArg}, {[]int{3, 3}, []stamp.Cross{cross(1, -1, 0, 1)}, a, api.ErrArg}, {[]int{3, 3}, []stamp.Cross{cross(1, 3, 0, 1)}, a, api.ErrArg},
		{[]int{3, 3}, []stamp.Cross{cross(1, 1, -1, 1)}, a, api.ErrArg}, {[]int{3, 3}, []stamp.Cross{cross(1, 1, 2, 1)}, a, api.ErrArg}, {[]int{3, 3}, []stamp.Cross{cross(1, 1, 0, -1)}, a, api.ErrArg}, {[]int{3, 3}, []stamp.Cross{cross(1, 1, 0, 3)}, a, api.ErrArg},
		{[]int{3, 3}, []stamp.Cross{cross(1, 2, 1, 0)}, a, api.ErrArg}, {[]int{3, 3}, []stamp.Cross{cross(0, 2, 0, 0)}, a, api.ErrArg}, {[]int{3, 3}, append(slices.Clone(one), cross(0, 3, 1, 1)), a, api.ErrArg}, {[]int{3, 3}, []stamp.Cross{cross(0, 3, 1, 1)}, place(5, 5), api.ErrArg}, {[]int{0, 3}, []stamp.Cross{cross(0, 0, 1, 1)}, place(1, 0), api.ErrArg},
		{[]int{3, 3}, append(slices.Clone(one), cross(0, 1, 1, 1), cross(0, 1, 0, 1)), a, api.ErrArg},
		{[]int{3, 3}, one, place(2, 0), api.ErrRange}, {[]int{3, 3}, one, place(-1, 0), api.ErrRange}, {[]int{3, 3}, one, place(1, 3), api.ErrRange}, {[]int{3, 3}, one, place(1, -1), api.ErrRange}, {[]int{0}, nil, a, api.ErrRange},
		{[]int{3, 3}, append(slices.Clone(one), cross(0, 1, 1, 1)), place(0, 3), api.ErrRange},
		{[]int{3, 3}, append(slices.Clone(one), cross(0, 1, 1, 1)), a, api.ErrOrder}, {[]int{3, 3}, append(slices.Clone(one), cross(0, 1, 1, 2)), a, api.ErrOrder}, {[]int{3, 3}, append(slices.Clone(one), cross(0, 0, 1, 1)), place(1, 0), api.ErrOrder},
		{[]int{3, 3}, append(slices.Clone(one), cross(0, 1, 1, 0)), a, api.OK}, {[]int{3, 3}, append(slices.Clone(one), cross(0, 2, 1, 2)), a, api.OK},
		{[]int{3, 3, 3}, []stamp.Cross{cross(1, 1, 0, 1), cross(2, 1, 1, 1), cross(0, 1, 2, 1)}, a, api.ErrOrder}, {[]int{3, 3, 3}, []stamp.Cross{cross(1, 1, 0, 1), cross(2, 1, 1, 1), cross(0, 2, 2, 1)}, a, api.OK},
		{[]int{3, 3, 3}, []stamp.Cross{cross(1, 1, 2, 1), cross(2, 1, 1, 1)}, a, api.ErrOrder},
	} {
		b := place(0, 0)
		if len(x.sizes) > 1 && x.sizes[0] == 0 {
			b = place(1, 0)
		}
		checkOrderError(t, i, x.sizes, x.l, x.a, b, x.e)
		checkOrderError(t, i, x.sizes, x.l, b, x.a, x.e)
		if n, e := stamp.Since(x.sizes, x.l, x.a); e != x.e || len(n) != 0 && e != api.OK || e == api.OK && len(n) != len(x.sizes) {
			t.Error(i, n, e)
		}
	}
	for _, n := range far {
		checkOrderError(t, n, []int{n}, nil, a, a, api.ErrRange)
		for _, x := range []stamp.Cross{cross(n, 1, 0, 1), cross(1, n, 0, 1), cross(1, 1, n, 1), cross(1, 1, 0, n), cross(n, n, n, n)} {
			checkOrderError(t, n, []int{3, 3}, []stamp.Cross{x}, a, a, api.ErrArg)
		}
		for _, p := range []stamp.Place{place(n, 0), place(0, n), place(n, n)} {
			checkOrderError(t, n, []int{3, 3}, one, a, p, api.ErrRange)
			checkOrderError(t, n, []int{3, 3}, one, p, a, api.ErrRange)
		}
	}
	if n, way, e := stamp.Order([]int{3, 3}, one, place(1, 2), place(0, 1)); n != 1 || !slices.Equal(way, []stamp.Place{place(0, 1), place(1, 1), place(1, 2)}) || e != api.OK {
		t.Error(n, way, e)
	}
	if l := must[[]int](t)(stamp.Since([]int{3, 3}, one, place(0, 1))); !slices.Equal(l, []int{2, 1}) {
		t.Error(l)
	}
}

func checkOrderError(t *testing.T, i int, sizes []int, l []stamp.Cross, a, b stamp.Place, want api.Errno) {
	t.Helper()
	if n, way, e := stamp.Order(sizes, l, a, b); e != want || e != api.OK && (n != 0 || way != nil) {
		t.Error(i, sizes, l, a, b, n, way, e)
	}
}
