package link

func (n Net) triangles() [][]Step {
	sides := tabled(n.Labs, n.between)
	var found [][]Step
	for i := range n.Labs {
		for k := i + 1; k < n.Labs; k++ {
		thirds:
			for l := k + 1; l < n.Labs; l++ {
				around := [][]Step{sides[i][k], sides[k][l], sides[l][i]}
				for _, side := range around {
					if len(side) == 0 {
						continue thirds
					}
				}
				found = append(found, choices(around)...)
			}
		}
	}
	return found
}

// between are the steps from i to k, by the indices of their links.
func (n Net) between(i, k int) []Step {
	var found []Step
	for s, l := range n.steps() {
		if l.A == i && l.B == k {
			found = append(found, s)
		}
	}
	return found
}

// choices are all lists with one step of each side. Their order is that of the
// steps of the first side, for equal ones of the second one, and so on.
func choices(sides [][]Step) [][]Step {
	if len(sides) == 0 {
		return [][]Step{nil}
	}
	var found [][]Step
	for _, s := range sides[0] {
		for _, rest := range choices(sides[1:]) {
			found = append(found, append([]Step{s}, rest...))
		}
	}
	return found
}
