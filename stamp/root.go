package stamp

import "meridian/api"

// RootOf returns the root of stamps.
func RootOf(l []Stamp) (uint64, api.Errno) {
	if len(l) > MaxStamps {
		return 0, api.ErrMany
	}
	return root(l), api.OK
}

// Belongs reports whether a stamp comes to a root.
func Belongs(s Stamp, l []Side, root uint64) bool {
	hash := s.Sign
	for _, side := range l {
		if side.Left {
			hash = paired(side.Hash, hash)
		} else {
			hash = paired(hash, side.Hash)
		}
	}
	return hash == root
}

// paired is what two hashes become in the next row.
func paired(left, right uint64) uint64 { return Mix(Mix(left, right), 5) }

func root(l []Stamp) uint64 {
	if len(l) == 0 {
		return 0
	}
	all := rows(l)
	return all[len(all)-1][0]
}

// sides are those of a stamp of l.
func sides(l []Stamp, serial int) []Side {
	var found []Side
	for at, row := range rows(l) {
		place := serial >> at
		other := place ^ 1
		if other < len(row) {
			found = append(found, Side{Hash: row[other], Left: other < place})
		}
	}
	return found
}

// rows are all rows of hashes, from the lowest one on.
func rows(l []Stamp) [][]uint64 {
	var all [][]uint64
	var add func(row []uint64)
	add = func(row []uint64) {
		all = append(all, row)
		if len(row) > 1 {
			add(above(row))
		}
	}
	add(signs(l))
	return all
}

func signs(l []Stamp) []uint64 {
	row := make([]uint64, len(l))
	for i, s := range l {
		row[i] = s.Sign
	}
	return row
}

// above is the next row; a last hash that is alone goes up as it is.
func above(row []uint64) []uint64 {
	var next []uint64
	for i := 0; i+1 < len(row); i += 2 {
		next = append(next, paired(row[i], row[i+1]))
	}
	if len(row)%2 == 1 {
		next = append(next, row[len(row)-1])
	}
	return next
}
