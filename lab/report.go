package lab

import (
	"slices"

	"meridian/api"
	"meridian/circular"
)

// report makes reports of the last rows like r, which has no clock yet.
func (w *work) report(r circular.Report) ([]circular.Report, api.Errno) {
	reports := w.reports(r)
	// A book tells what is no report. It is asked for r, too: there may be no others.
	r.Gone = true
	if _, _, e := circular.Load(append(reports, r), nil); e != api.OK {
		return nil, e
	}
	if len(reports) == 0 {
		return nil, api.ErrNone
	}
	return reports, api.OK
}

func (w *work) reports(r circular.Report) []circular.Report {
	last := w.rows[max(0, len(w.rows)-circular.MaxEpochs):]
	var reports []circular.Report
	for k := range w.World.Clocks {
		isIn := func(x Row) bool { return slices.Contains(x.Ids, k) }
		if !slices.ContainsFunc(w.rows, isIn) {
			continue
		}
		r.Clock, r.Diffs = k, diffs(last, k)
		r.Gone = len(r.Diffs) == 0
		reports = append(reports, r)
	}
	return reports
}

// diffs are the middles of the spans of clock k, from the first row with one up to
// the next row without.
func diffs(rows []Row, k int) []int {
	var l []int
	for _, x := range rows {
		i := slices.Index(x.Ids, k)
		if i >= 0 {
			l = append(l, middle(x.Spans[i]))
		} else if len(l) > 0 {
			break
		}
	}
	return l
}
