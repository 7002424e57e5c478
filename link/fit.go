package link

import (
	"slices"

	"meridian/api"
	"meridian/number"
)

// fit solves the equations by Cramer's rule. An int holds all that is summed:
// within the limits all products of four coefficients, or of three and a right
// side, are together below 10^17.
func (n Net) fit(weights []int) []api.Ratio {
	left, right := n.equations(weights)
	whole := determinant(left)
	x := make([]api.Ratio, n.Labs)
	for k := range x {
		x[k] = number.Lowest(determinant(replaced(left, k, right)), whole)
	}
	return x
}

// equations say that at each laboratory the weighted rests of its links cancel;
// the first one says instead that the number of laboratory 0 is 0.
func (n Net) equations(weights []int) (table[int], []int) {
	left := tabled(n.Labs, func(int, int) int { return 0 })
	right := make([]int, n.Labs)
	for s, l := range n.steps() {
		w := weights[s.Link]
		left[l.A][l.A] += w
		left[l.A][l.B] -= w
		right[l.A] += w * l.Diff
	}
	clear(left[0])
	left[0][0], right[0] = 1, 0
	return left, right
}

// replaced is t with other values in the column k.
func replaced(t table[int], k int, values []int) table[int] {
	return tabled(len(t), func(i, j int) int {
		if j == k {
			return values[i]
		}
		return t[i][j]
	})
}

// determinant is developed by the first row.
func determinant(t table[int]) int {
	if len(t) == 0 {
		return 1
	}
	sum, sign := 0, 1
	for k, x := range t[0] {
		sum += sign * x * determinant(minor(t, k))
		sign = -sign
	}
	return sum
}

// minor is t without the first row and the column k.
func minor(t table[int], k int) table[int] {
	var m table[int]
	for _, row := range t[1:] {
		m = append(m, slices.Delete(slices.Clone(row), k, k+1))
	}
	return m
}
