package alarm_test

import (
	"cmp"
	"math/rand"
	"slices"
	"testing"

	"meridian/alarm"
	"meridian/api"
)

// P13.3: the examples of the chapter.
func TestExampleOfLeast(t *testing.T) {
	for n, want := range map[int][][]int{0: {nil}, 2: {nil}, 3: {{0}, {1}, {2}}, 4: {{1}, {2}}, 5: {{1}}} {
		if l := must[[][]int](t)(alarm.Least(triangle(n), 5)); !same(l, want) {
			t.Error(n, l)
		}
		var suspects []alarm.Suspect
		for _, set := range want {
			for _, part := range set {
				suspects = append(suspects, alarm.Suspect{Part: part, Sets: 1})
			}
		}
		if l := must[[]alarm.Suspect](t)(alarm.Suspects(triangle(n), 5)); !slices.Equal(l, suspects) {
			t.Error(n, l)
		}
	}
}

// slowSuspects are those of least sets.
func slowSuspects(sets [][]int) []alarm.Suspect {
	var l []alarm.Suspect
	for part := range 20 {
		x := alarm.Suspect{Part: part}
		for _, set := range sets {
			if slices.Contains(set, part) {
				x.Sets++
			}
		}
		if x.Sets > 0 {
			l = append(l, x)
		}
	}
	slices.SortStableFunc(l, func(a, b alarm.Suspect) int { return cmp.Compare(b.Sets, a.Sets) })
	return l
}

// checkLeast compares what Least, Prove and Suspects return with the least sets of a
// case, of which there are none if they have more than most parts.
func checkLeast(t *testing.T, c alarm.Case, most int, want [][]int) {
	t.Helper()
	e := api.OK
	if len(want) == 0 {
		e = api.ErrLarge
		if !fastExplains(c, all(c.Parts)) {
			e = api.ErrNone
		}
	}
	if l, f := alarm.Least(c, most); !same(l, want) || f != e {
		t.Fatal(c, most, l, f, want, e)
	}
	if l, f := alarm.Suspects(c, most); !slices.Equal(l, slowSuspects(want)) || f != e {
		t.Fatal(c, most, l, f, want, e)
	}
	set, proof, f := alarm.Prove(c, most)
	if f != e || e != api.OK && (len(set) > 0 || len(proof) > 0) {
		t.Fatal(c, most, set, proof, f, e)
	}
	if e == api.OK {
		checkProof(t, c, set, proof, want[0])
	}
}

// P13.3: the least sets of small cases, against all sets and all numbers.
func TestLeast(t *testing.T) {
	r := rand.New(rand.NewSource(4))
	sizes := make([]int, 6)
	none := 0
	for range 3000 {
		c := smallCase(r)
		l := slowLeast(c, 5, slowExplains)
		if len(l) == 0 {
			none++
		} else {
			sizes[len(l[0])]++
		}
		for most := range 6 {
			if len(l) > 0 && len(l[0]) <= most {
				checkLeast(t, c, most, l)
			} else {
				checkLeast(t, c, most, nil)
			}
		}
	}
	if none < 50 || slices.Min(sizes[:4]) < 20 {
		t.Error(none, sizes)
	}
}

// P13.3: the least sets of cases of all sizes, against all sets.
func TestLeastOfLargeCases(t *testing.T) {
	r := rand.New(rand.NewSource(5))
	several := 0
	for range 50 {
		for bad := range 6 {
			clocks, parts := 2+r.Intn(15), 8+r.Intn(6)
			c := planted(r, clocks, parts, 20+r.Intn(221), 1+r.Intn(6), r.Perm(parts)[:bad])
			l := slowLeast(c, 5, fastExplains)
			if len(l) > 1 {
				several++
			}
			checkLeast(t, c, 5, l)
		}
	}
	if several < 5 {
		t.Error("seldom several sets", several)
	}
}

// P13.3: all limits at once: 16 clocks, 20 parts, 240 items, and 5 parts to blame.
func TestLargestCase(t *testing.T) {
	r := rand.New(rand.NewSource(6))
	c := planted(r, 16, 20, 240, 6, []int{0, 7, 8, 13, 19})
	if l := must[[][]int](t)(alarm.Least(c, 5)); !same(l, [][]int{{0, 7, 8, 13, 19}}) {
		t.Error(l)
	}
	checkLeast(t, c, 5, slowLeast(c, 5, fastExplains))
	checkLeast(t, c, 4, nil)
	c.Items[239].Parts = nil
	c.Items[238].Parts = nil
	c.Items[238].Bound = c.Items[239].Bound
	c.Items[238].Bound.Span = span(phase, phase)
	checkLeast(t, c, 5, nil)
}

// P13.6: if the measurements were right but for those that rest on some parts, these
// explain the case, and the least sets have at most as many.
func TestPlanted(t *testing.T) {
	r := rand.New(rand.NewSource(7))
	for range 2000 {
		clocks, parts := 2+r.Intn(15), 1+r.Intn(20)
		bad := anyParts(r, parts, 5)
		c := planted(r, clocks, parts, r.Intn(241), 1+r.Intn(min(parts, 6)), bad)
		if is := must[bool](t)(alarm.Explains(c, bad)); !is {
			t.Fatal(c, bad)
		}
		l := must[[][]int](t)(alarm.Least(c, len(bad)))
		if len(l) == 0 || len(l[0]) > len(bad) || !slices.IsSortedFunc(l, slices.Compare) {
			t.Fatal(c, bad, l)
		}
	}
}

// P13.3: as many least sets as there can be, in lexicographic order.
func TestManyLeastSets(t *testing.T) {
	// The items rest on the parts 0 to 3, 4 to 7 and so on: of all groups but one a
	// part has to be blamed.
	c := row(20, []int{0, 1, 2, 3}, []int{4, 5, 6, 7}, []int{8, 9, 10, 11}, []int{12, 13, 14, 15}, []int{16, 17, 18, 19})
	l := must[[][]int](t)(alarm.Least(c, 5))
	if len(l) != 5*256 || !slices.IsSortedFunc(l, slices.Compare) || !slices.Equal(l[0], []int{0, 4, 8, 12}) || !slices.Equal(l[5*256-1], []int{7, 11, 15, 19}) {
		t.Error(len(l), l)
	}
	checkLeast(t, c, 4, slowLeast(c, 4, fastExplains))
	var want []alarm.Suspect
	for part := range 20 {
		want = append(want, alarm.Suspect{Part: part, Sets: 256})
	}
	if l := must[[]alarm.Suspect](t)(alarm.Suspects(c, 4)); !slices.Equal(l, want) {
		t.Error(l)
	}
}

// P13.3: parts in more least sets come first, of equally many the lesser part.
func TestSuspects(t *testing.T) {
	c := row(8, []int{6, 7}, []int{2, 4, 5}, []int{1})
	want := []alarm.Suspect{{Part: 1, Sets: 5}, {Part: 6, Sets: 4}, {Part: 7, Sets: 4}, {Part: 2, Sets: 3}, {Part: 4, Sets: 3}, {Part: 5, Sets: 3}}
	for range 20 {
		if l := must[[]alarm.Suspect](t)(alarm.Suspects(c, 2)); !slices.Equal(l, want) {
			t.Fatal(l)
		}
	}
	if l := must[[]alarm.Suspect](t)(alarm.Suspects(row(3, []int{1}), 5)); len(l) != 0 {
		t.Error(l)
	}
}

// P13.3, P13.4, R1: the order of the errors.
func TestLeastErrors(t *testing.T) {
	none := row(3, []int{0}, nil, []int{1, 2}, nil) // the items 1 and 3 contradict one another
	deep := row(7, []int{0}, []int{1}, []int{2}, []int{3}, []int{4}, []int{5}, []int{6})
	for _, x := range []struct {
		c    alarm.Case
		most int
		want api.Errno
	}{
		{none, -1, api.ErrArg}, {none, 6, api.ErrArg}, {deep, -1, api.ErrArg}, {deep, 6, api.ErrArg}, {triangle(2), -1, api.ErrArg}, {triangle(2), 6, api.ErrArg},
		{none, 0, api.ErrNone}, {none, 5, api.ErrNone},
		{deep, 0, api.ErrLarge}, {deep, 5, api.ErrLarge}, {triangle(3), 0, api.ErrLarge}, {row(3, []int{0}, []int{1}, []int{2}), 1, api.ErrLarge},
	} {
		if l, e := alarm.Least(x.c, x.most); len(l) != 0 || e != x.want {
			t.Error(x, l, e)
		}
		if set, proof, e := alarm.Prove(x.c, x.most); len(set) != 0 || len(proof) != 0 || e != x.want {
			t.Error(x, set, proof, e)
		}
		if l, e := alarm.Suspects(x.c, x.most); len(l) != 0 || e != x.want {
			t.Error(x, l, e)
		}
	}
	for _, most := range far {
		if l, e := alarm.Least(triangle(3), most); len(l) != 0 || e != api.ErrArg {
			t.Error(most, l, e)
		}
	}
	deep.Items = deep.Items[:6]
	for most := range 6 {
		want := [][]int(nil)
		if most == 5 {
			want = [][]int{{0, 1, 2, 3, 4}, {0, 1, 2, 3, 5}, {0, 1, 2, 4, 5}, {0, 1, 3, 4, 5}, {0, 2, 3, 4, 5}, {1, 2, 3, 4, 5}}
		}
		checkLeast(t, deep, most, want)
	}
	// All parts together can be needed; and without parts there is nothing to blame.
	checkLeast(t, row(2, nil, []int{0}, []int{1}), 5, [][]int{{0, 1}})
	checkLeast(t, row(0, nil), 5, [][]int{nil})
	checkLeast(t, row(0, nil, nil), 5, nil)
}
