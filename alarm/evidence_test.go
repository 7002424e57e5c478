package alarm_test

import (
	"math"
	"math/rand"
	"slices"
	"testing"

	"meridian/alarm"
	"meridian/api"
	"meridian/counter"
)

// checkProof checks what Prove returned of a case whose first least set is want.
func checkProof(t *testing.T, c alarm.Case, set []int, proof [][]counter.Use, want []int) {
	t.Helper()
	if !slices.Equal(set, want) || len(proof) > 6200 || len(want) == 0 && len(proof) > 0 {
		t.Fatal(c, set, len(proof), want)
	}
	if e := slowVerify(c, set, proof); e != api.OK {
		t.Fatal(c, set, proof, e)
	}
	if e := alarm.Verify(c, set, proof); e != api.OK {
		t.Fatal(c, set, proof, e)
	}
}

// P13.4: the examples of the chapter.
func TestExampleOfProof(t *testing.T) {
	checkProof(t, triangle(2), nil, nil, nil)
	for n, want := range map[int][]int{2: nil, 3: {0}, 4: {1}, 5: {1}} {
		set, proof, e := alarm.Prove(triangle(n), 1)
		if e != api.OK {
			t.Error(n, e)
		}
		checkProof(t, triangle(n), set, proof, want)
	}
	one := []counter.Use{down(2), up(0), up(1)}
	for i, x := range []struct {
		n     int
		set   []int
		proof [][]counter.Use
		want  api.Errno
	}{
		{3, []int{0}, [][]counter.Use{one}, api.OK}, {3, []int{1}, [][]counter.Use{one}, api.OK}, {3, []int{2}, [][]counter.Use{one, one}, api.OK},
		{3, []int{3}, [][]counter.Use{one}, api.ErrFalse}, {3, nil, nil, api.ErrFalse}, {3, nil, [][]counter.Use{one}, api.ErrFalse}, {3, []int{0}, nil, api.ErrFalse}, {3, []int{0, 1}, [][]counter.Use{one}, api.ErrFalse},
		{4, []int{0}, [][]counter.Use{one}, api.ErrFalse}, {4, []int{1}, [][]counter.Use{one}, api.OK}, {4, []int{0, 3}, [][]counter.Use{one}, api.ErrFalse}, {4, []int{0, 3}, [][]counter.Use{one, {up(3), up(1), down(2)}}, api.ErrFalse},
		{2, nil, nil, api.OK}, {2, nil, [][]counter.Use{}, api.OK}, {2, []int{0}, nil, api.ErrFalse}, {2, nil, [][]counter.Use{nil}, api.ErrFalse}, {2, nil, [][]counter.Use{{up(0), down(0)}}, api.ErrFalse},
	} {
		if e := alarm.Verify(triangle(x.n), x.set, x.proof); e != x.want {
			t.Error(i, e)
		}
	}
}

// P13.4: what is no conflict, in any place of a proof.
func TestNoConflict(t *testing.T) {
	c := triangle(3)
	one := []counter.Use{down(2), up(0), up(1)}
	for i, wrong := range [][]counter.Use{
		nil, {}, one[1:], one[:2], {down(2), up(1), up(0)}, {up(2), up(0), up(1)}, {down(2), down(0), up(1)}, {up(2), down(1), down(0)}, {up(0), down(0)},
		{down(2), up(0), up(-1)}, {down(2), up(0), up(3)}, {up(-1)}, {up(3)}, {down(math.MinInt)}, {up(math.MaxInt)}, {down(2), up(0), up(1), up(0), down(0), up(0), down(0)},
		slices.Repeat(one, 81), slices.Repeat(one, 5000), slices.Repeat(one[1:], 120),
	} {
		for _, proof := range [][][]counter.Use{{wrong}, {one, wrong}, {wrong, one}, {one, one, wrong, one}} {
			if e := alarm.Verify(c, []int{1}, proof); e != api.ErrFalse {
				t.Error(i, len(proof), e)
			}
		}
	}
	for i, right := range [][]counter.Use{{up(0), up(1), down(2)}, {up(1), down(2), up(0)}, slices.Repeat(one, 2), slices.Repeat(one, 80)} {
		if !isConflict(c, right) {
			t.Error("no conflict", i)
		}
		if e := alarm.Verify(c, []int{1}, [][]counter.Use{right}); e != api.OK {
			t.Error(i, e)
		}
	}
}

// P13.4: sets and lists that are proofs, and those that nearly are.
func TestVerify(t *testing.T) {
	r := rand.New(rand.NewSource(8))
	good, bad := 0, 0
	for range 2500 {
		c := smallCase(r)
		all := conflicts(c)
		var proofs [][][]counter.Use
		set, proof, e := alarm.Prove(c, 5)
		if e == api.OK {
			proofs = append(proofs, proof)
			if len(proof) > 0 {
				proofs = append(proofs, proof[1:], proof[:len(proof)-1], append(slices.Clone(proof[1:]), slices.Clone(proof[0][1:])))
			}
		}
		proofs = append(proofs, nil, all)
		for range 4 {
			var some [][]counter.Use
			for _, u := range all {
				if r.Intn(3) == 0 {
					some = append(some, u)
				}
			}
			proofs = append(proofs, some)
		}
		for _, proof := range proofs {
			for _, s := range [][]int{set, anyParts(r, c.Parts, 5), anyParts(r, c.Parts, 5)} {
				want := slowVerify(c, s, proof)
				if e := alarm.Verify(c, s, proof); e != want {
					t.Fatal(c, s, proof, e, want)
				}
				if want != api.OK {
					bad++
					continue
				}
				good++
				// Whatever Verify accepts is a least set.
				if l := must[[][]int](t)(alarm.Least(c, 5)); !slices.ContainsFunc(l, func(x []int) bool { return slices.Equal(x, s) }) {
					t.Fatal(c, s, l)
				}
			}
		}
	}
	if good < 3000 || bad < 3000 {
		t.Error(good, bad)
	}
}

// P13.4: each least set has the same proof, and all conflicts together are one.
func TestProofOfAll(t *testing.T) {
	r := rand.New(rand.NewSource(9))
	for range 500 {
		c := smallCase(r)
		_, proof, e := alarm.Prove(c, 5)
		if e != api.OK {
			continue
		}
		least := must[[][]int](t)(alarm.Least(c, 5))
		for _, set := range subsets(c.Parts, c.Parts) {
			want := api.ErrFalse
			if slices.ContainsFunc(least, func(x []int) bool { return slices.Equal(x, set) }) {
				want = api.OK
			}
			for _, l := range [][][]counter.Use{proof, conflicts(c)} {
				if e := alarm.Verify(c, set, l); e != want {
					t.Fatal(c, set, e, want)
				}
			}
		}
	}
}

// largeProof is a case that needs many conflicts: each one of three sides of a
// triangle can be any of 80 items, and those of one side all rest on one of 5 parts.
func largeProof(r *rand.Rand) alarm.Case {
	c := alarm.Case{Clocks: 3, Parts: 20}
	for i := range 80 {
		first := append([]int{i % 5}, anyOthers(r)...)
		c.Items = append(c.Items, item(0, 1, -1000, 3, first...), item(1, 2, -1000, 3, sorted(r.Perm(20)[:6])...), item(0, 2, 7, 1000, sorted(r.Perm(20)[:6])...))
	}
	return c
}

// anyOthers are 5 of the parts 5 to 19.
func anyOthers(r *rand.Rand) []int {
	l := sorted(r.Perm(15)[:5])
	for i := range l {
		l[i] += 5
	}
	return l
}

func sorted(l []int) []int {
	slices.Sort(l)
	return l
}

// P13.4: proofs that need some hundred conflicts.
func TestLargeProof(t *testing.T) {
	r := rand.New(rand.NewSource(10))
	for range 3 {
		c := largeProof(r)
		set, proof, e := alarm.Prove(c, 5)
		if e != api.OK || len(proof) < 100 {
			t.Error(set, len(proof), e)
		}
		checkProof(t, c, set, proof, []int{0, 1, 2, 3, 4})
		if e := alarm.Verify(c, set, proof[:len(proof)/2]); e != api.ErrFalse {
			t.Error(e)
		}
		if _, _, e := alarm.Prove(c, 4); e != api.ErrLarge {
			t.Error(e)
		}
	}
}

// P13.4: at most 6200 conflicts, and at most 5 parts, before anything is false.
func TestProofLimits(t *testing.T) {
	one := []counter.Use{down(2), up(0), up(1)}
	for n, want := range map[int][2]api.Errno{6200: {api.OK, api.ErrFalse}, 6201: {api.ErrMany, api.ErrMany}, 7000: {api.ErrMany, api.ErrMany}} {
		right := alarm.Verify(triangle(3), []int{2}, slices.Repeat([][]counter.Use{one}, n))
		wrong := alarm.Verify(triangle(3), nil, make([][]counter.Use, n))
		if right != want[0] || wrong != want[1] {
			t.Error(n, right, wrong)
		}
	}
	c := row(7, []int{0}, []int{1}, []int{2}, []int{3}, []int{4}, []int{5}, []int{6})
	var pairs [][]counter.Use
	for i := range 7 {
		for k := range i {
			pairs = append(pairs, []counter.Use{up(k), down(i)})
		}
	}
	for n, want := range map[int]api.Errno{4: api.ErrFalse, 5: api.ErrFalse, 6: api.ErrMany, 7: api.ErrMany} {
		set := []int{0, 1, 2, 3, 4, 5, 6}[:n]
		for _, proof := range [][][]counter.Use{nil, pairs, {nil}} {
			if e := alarm.Verify(c, set, proof); e != want {
				t.Error(n, e)
			}
		}
	}
	c.Items = c.Items[:6]
	pairs = slices.DeleteFunc(pairs, func(u []counter.Use) bool { return u[1].Bound == 6 })
	if e := alarm.Verify(c, []int{1, 2, 3, 4, 5}, pairs); e != api.OK {
		t.Error(e)
	}
	// Each pair of items leaves a set of 4 parts if its conflict is missing.
	for i := range pairs {
		if e := alarm.Verify(c, []int{1, 2, 3, 4, 5}, slices.Delete(slices.Clone(pairs), i, i+1)); e != api.ErrFalse {
			t.Error(i, e)
		}
	}
}
