package alarm

import (
	"iter"
	"slices"

	"meridian/api"
	"meridian/counter"
)

// evidence has conflicts of its case, and of each one the parts on which it rests.
type evidence struct {
	Case
	conflicts [][]counter.Use
	rests     []mask
}

// Verify reports whether a set is proved to be a least one.
func Verify(c Case, set []int, proof [][]counter.Use) api.Errno {
	if e := checkSet(c, set); e != api.OK {
		return e
	}
	if len(proof) > MaxProof || len(set) > MaxBlame {
		return api.ErrMany
	}
	if !c.isExplained(maskOf(set)) || !c.proves(proof, len(set)) {
		return api.ErrFalse
	}
	return api.OK
}

// proves reports whether a list has nothing but conflicts, and these prove that no
// set of fewer than n parts explains the case. What has more uses than Refute takes
// is refused, as its sum might not fit an int.
func (c Case) proves(l [][]counter.Use, n int) bool {
	bounds := c.bounds()
	known := evidence{Case: c}
	for _, u := range l {
		if counter.Refute(c.Clocks, bounds, u) != api.OK {
			return false
		}
		known.add(u)
	}
	return every(sets(c.Parts, 0, n-1), known.isMissed)
}

func (k *evidence) add(u []counter.Use) {
	var parts mask
	for _, x := range u {
		parts |= maskOf(k.Items[x.Bound].Parts)
	}
	k.conflicts = append(k.conflicts, u)
	k.rests = append(k.rests, parts)
}

// isMissed reports whether a set does not hit all conflicts.
func (k *evidence) isMissed(set mask) bool {
	return slices.ContainsFunc(k.rests, func(parts mask) bool { return parts&set == 0 })
}

func every[T any](l iter.Seq[T], holds func(T) bool) bool {
	for x := range l {
		if !holds(x) {
			return false
		}
	}
	return true
}
