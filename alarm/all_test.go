package alarm_test

import (
	"math/rand"
	"reflect"
	"slices"
	"testing"

	"meridian/alarm"
	"meridian/api"
	"meridian/counter"
)

// copies of lists, which share no memory with them.
func copies[T any](l [][]T) [][]T {
	l = slices.Clone(l)
	for i := range l {
		l[i] = slices.Clone(l[i])
	}
	return l
}

// R4: no argument is changed.
func TestArguments(t *testing.T) {
	c := planted(rand.New(rand.NewSource(12)), 6, 12, 200, 4, []int{2, 5, 7})
	kept, set := copyOf(c), []int{2, 5, 7}
	alarm.Check(c)
	alarm.Explains(c, set)
	alarm.Conflict(c, set[:1])
	alarm.Rest(c, set)
	alarm.Least(c, 5)
	alarm.Suspects(c, 5)
	_, proof, e := alarm.Prove(c, 5)
	if e != api.OK || len(proof) == 0 {
		t.Fatal(proof, e)
	}
	keptProof := copies(proof)
	if e := alarm.Verify(c, set, proof); e != api.OK {
		t.Error(e)
	}
	if !reflect.DeepEqual(c, kept) || !slices.Equal(set, []int{2, 5, 7}) || !same(proof, keptProof) {
		t.Error(c, set, proof)
	}
	web := [][]int{nil, {0}, {0, 1}}
	l := []alarm.Alarm{{Part: 2, At: 9}, {Part: 1, At: 5}, {Part: 0, At: 7}}
	keptWeb, keptList := copies(web), slices.Clone(l)
	alarm.Roots(web, l, 0)
	if !same(web, keptWeb) || !slices.Equal(l, keptList) {
		t.Error(web, l)
	}
}

// change changes a list of lists, and what there is behind the end of each of them.
func change[T any](l [][]T) {
	for i := range l {
		clear(append(l[i], make([]T, 9)...))
		clear(l[i])
	}
	clear(l)
}

// R4: no result shares memory with an argument or with another result, and no two
// lists of one do.
func TestResults(t *testing.T) {
	c := planted(rand.New(rand.NewSource(13)), 6, 12, 200, 4, []int{2, 5, 7})
	kept := copyOf(c)
	first, proof, _ := alarm.Prove(c, 5)
	least := must[[][]int](t)(alarm.Least(row(6, []int{0, 1}, []int{2}, []int{3, 4, 5}), 5))
	rest := must[[][]int](t)(alarm.Rest(c, first))
	for i := range least {
		before := copies(least)
		for _, l := range [][]int{append(least[i], -1), append(least[i], -2, -3)} {
			l[len(l)-1] = -4
		}
		if !same(least, before) {
			t.Error(i, least)
		}
	}
	for i := range proof {
		before := copies(proof)
		_ = append(proof[i], up(-1), up(-2))
		if !same(proof, before) {
			t.Error(i, proof)
		}
	}
	keptFirst, keptProof, keptRest := slices.Clone(first), copies(proof), copies(rest)
	change(proof)
	change(rest)
	clear(first)
	clear(must[[]counter.Use](t)(alarm.Conflict(c, nil)))
	clear(must[[]alarm.Suspect](t)(alarm.Suspects(c, 5)))
	change(must[[][]int](t)(alarm.Least(c, 5)))
	if !reflect.DeepEqual(c, kept) {
		t.Error(c)
	}
	first, proof, _ = alarm.Prove(c, 5)
	if !slices.Equal(first, keptFirst) || !same(proof, keptProof) || !same(must[[][]int](t)(alarm.Rest(c, first)), keptRest) {
		t.Error(first, proof)
	}
	l := []alarm.Alarm{{At: 3}}
	clear(must[[]alarm.Alarm](t)(alarm.Roots([][]int{nil}, l, 0)))
	if l[0].At != 3 {
		t.Error(l)
	}
}

// R3: a nil list and an empty one are the same value.
func TestNilAndEmpty(t *testing.T) {
	for _, parts := range [][]int{nil, {}} {
		for _, items := range [][]alarm.Item{nil, {}, {{Bound: counter.Bound{A: 1}, Parts: parts}}} {
			c := alarm.Case{Clocks: 2, Items: items}
			if l := must[[][]int](t)(alarm.Least(c, 0)); !same(l, [][]int{nil}) {
				t.Error(l)
			}
			for _, proof := range [][][]counter.Use{nil, {}} {
				if e := alarm.Verify(c, parts, proof); e != api.OK {
					t.Error(e)
				}
			}
			for _, u := range [][]counter.Use{nil, {}} {
				if e := alarm.Verify(c, parts, [][]counter.Use{u}); e != api.ErrFalse {
					t.Error(e)
				}
			}
			if is, e := alarm.Explains(c, parts); !is || e != api.OK {
				t.Error(is, e)
			}
		}
		for _, l := range [][]alarm.Alarm{nil, {}} {
			for _, web := range [][][]int{nil, {}, {parts}} {
				if roots := must[[]alarm.Alarm](t)(alarm.Roots(web, l, 0)); len(roots) != 0 {
					t.Error(roots)
				}
			}
		}
	}
}

// P9: nothing panics, whatever the arguments, and everything ends.
func TestAnyArguments(t *testing.T) {
	r := rand.New(rand.NewSource(14))
	numbers := append(far, -2, -1, 0, 1, 2, 3, 4, 5, 6, 7, 15, 16, 17, 19, 20, 21, 31, 32, 63, 64, phase, phase+1, -phase, -phase-1)
	small := func() int {
		if r.Intn(20) == 0 {
			return numbers[r.Intn(len(numbers))]
		}
		return r.Intn(4)
	}
	list := func() []int {
		l := make([]int, r.Intn(4))
		for i := range l {
			l[i] = small()
		}
		if r.Intn(3) > 0 {
			slices.Sort(l)
		}
		return l
	}
	for range 30000 {
		c := anyCase(r, 2+r.Intn(3), 3+r.Intn(4), r.Intn(8), 3)
		if r.Intn(3) == 0 {
			c.Clocks, c.Parts = small(), small()
		}
		if r.Intn(3) == 0 {
			c.Items = append(c.Items, item(small(), small(), small(), small(), list()...))
		}
		proof := make([][]counter.Use, r.Intn(4))
		for i := range proof {
			for range r.Intn(4) {
				proof[i] = append(proof[i], counter.Use{Bound: small(), Up: r.Intn(2) == 0})
			}
		}
		set := list()
		alarm.Check(c)
		alarm.Explains(c, set)
		alarm.Conflict(c, set)
		alarm.Rest(c, set)
		alarm.Verify(c, set, proof)
		alarm.Least(c, small())
		alarm.Prove(c, small())
		alarm.Suspects(c, small())
		web := make([][]int, r.Intn(5))
		for part := range web {
			web[part] = list()
		}
		l := make([]alarm.Alarm, r.Intn(4))
		for i := range l {
			l[i] = alarm.Alarm{Part: small(), At: small()}
		}
		alarm.Roots(web, l, small())
	}
}
