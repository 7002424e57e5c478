package circular

import (
	"meridian/api"
	"meridian/scale"
)

// What a clock enters the scale with, beside its first Diff.
const (
	rate   = 0
	memory = 10
)

// id is that of the clock of a report in the scale.
func (r Report) id() int { return 16*r.Lab + r.Clock }

// enter lets the clocks that are there in a month enter a scale, as far as it
// has room for them. It returns the reports of those that entered.
func (b *Book) enter(c *scale.Scale, month int) []Report {
	var l []Report
	for r := range b.counting(month) {
		if r.Gone {
			continue
		}
		if c.Enter(r.id(), r.Diffs[0], rate, memory) != api.OK {
			break
		}
		l = append(l, r)
	}
	return l
}

// rows are those of a scale that the clocks of some reports have entered. The
// first error of the scale ends them: ErrNone, where no clock has a Diff any more.
func rows(c *scale.Scale, l []Report, u int) []Row {
	rows := []Row{{U: u}}
	for {
		p, e := c.Take(readings(l, len(rows)))
		if e != api.OK {
			return rows
		}
		rows = append(rows, Row{p.U, p.Ids, p.Weights})
	}
}

// readings are those of the clocks that have a Diff for an epoch.
func readings(l []Report, epoch int) []scale.Reading {
	var found []scale.Reading
	for _, r := range l {
		if epoch < len(r.Diffs) {
			found = append(found, scale.Reading{Id: r.id(), Diff: r.Diffs[epoch]})
		}
	}
	return found
}

// sheet is made of the reports of the clocks that entered, and of the rows.
func sheet(month, version int, l []Report, rows []Row) Sheet {
	s := Sheet{Month: month, Version: version, Rows: rows}
	for _, r := range l {
		s.Ids = append(s.Ids, r.id())
		s.Corrections = append(s.Corrections, r.corrections(rows))
	}
	return s
}

// corrections has one for each of the Diffs for which there is a row.
func (r Report) corrections(rows []Row) []int {
	var l []int
	for epoch := range min(len(r.Diffs), len(rows)) {
		l = append(l, r.Diffs[epoch]+rows[epoch].U)
	}
	return l
}

// corrections are those of the clock at an index; none if their list is missing.
func (s Sheet) corrections(i int) []int {
	if i < len(s.Corrections) {
		return s.Corrections[i]
	}
	return nil
}

// firsts has the first index of each Id.
func (s Sheet) firsts() map[int]int {
	firsts := map[int]int{}
	for i, id := range s.Ids {
		if _, twice := firsts[id]; !twice {
			firsts[id] = i
		}
	}
	return firsts
}

// unlike are the indices at which two lists have not the same number, or just
// one of them has a number.
func unlike(a, b []int) []int {
	var l []int
	for i := range max(len(a), len(b)) {
		if i >= len(a) || i >= len(b) || a[i] != b[i] {
			l = append(l, i)
		}
	}
	return l
}
