package alarm

import (
	"cmp"
	"iter"
	"slices"

	"meridian/api"
	"meridian/counter"
	"meridian/number"
)

// Least returns all least sets.
func Least(c Case, most int) ([][]int, api.Errno) {
	found, _, e := least(c, most)
	if e != api.OK {
		return nil, e
	}
	var l [][]int
	for _, set := range found {
		l = append(l, set.list())
	}
	return l, api.OK
}

// Prove returns the first least set with a proof.
func Prove(c Case, most int) ([]int, [][]counter.Use, api.Errno) {
	found, proof, e := least(c, most)
	if e != api.OK {
		return nil, nil, e
	}
	return found[0].list(), proof, api.OK
}

// Suspects returns the parts that are in least sets.
func Suspects(c Case, most int) ([]Suspect, api.Errno) {
	found, e := Least(c, most)
	if e != api.OK {
		return nil, e
	}
	var l []Suspect
	for part, n := range counts(found) {
		l = append(l, Suspect{Part: part, Sets: n})
	}
	slices.SortFunc(l, func(a, b Suspect) int {
		return cmp.Or(cmp.Compare(b.Sets, a.Sets), cmp.Compare(a.Part, b.Part))
	})
	return l, api.OK
}

// least has all least sets, in lexicographic order, and conflicts that prove that
// no set with fewer parts explains the case.
func least(c Case, most int) ([]mask, [][]counter.Use, api.Errno) {
	if e := checkSearch(c, most); e != api.OK {
		return nil, nil, e
	}
	known := evidence{Case: c}
	for size := range most + 1 {
		proof := known.conflicts // each smaller set misses one of them
		if found := known.explaining(size); len(found) > 0 {
			return found, proof, api.OK
		}
	}
	return nil, nil, api.ErrLarge
}

func checkSearch(c Case, most int) api.Errno {
	if e := Check(c); e != api.OK {
		return e
	}
	if !number.Within(most, 0, MaxBlame) {
		return api.ErrArg
	}
	if !c.isExplained(allOf(c.Parts)) {
		return api.ErrNone
	}
	return api.OK
}

// explaining has the sets of a size that explain the case. Only sets that hit all
// conflicts that are known need a look at the net, and each of these that does not
// explain the case makes another conflict known.
func (k *evidence) explaining(size int) []mask {
	var found []mask
	for set := range sets(k.Parts, size, size) {
		if k.isMissed(set) {
			continue
		}
		if u := k.conflict(set); len(u) > 0 {
			k.add(u)
			continue
		}
		found = append(found, set)
	}
	return found
}

// sets yields the sets that have from least to most of so many parts: those with
// fewer parts first, those with equally many in lexicographic order.
func sets(parts, least, most int) iter.Seq[mask] {
	return func(yield func(mask) bool) {
		var search func(set mask, from, missing int) bool
		search = func(set mask, from, missing int) bool {
			if missing == 0 {
				return yield(set)
			}
			for part := from; part < parts; part++ {
				if !search(set|1<<part, part+1, missing-1) {
					return false
				}
			}
			return true
		}
		for size := least; size <= most; size++ {
			if !search(0, 0, size) {
				return
			}
		}
	}
}

// counts has how often each element is in lists.
func counts[T comparable](lists [][]T) map[T]int {
	n := map[T]int{}
	for _, l := range lists {
		for _, x := range l {
			n[x]++
		}
	}
	return n
}
