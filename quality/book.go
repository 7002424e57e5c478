package quality

import (
	"slices"

	"meridian/api"
	"meridian/number"
)

const (
	maxDoc = 99
	maxWho = 1000
)

// need tells whether a document allows an entry by someone.
type need func(d document, who int) bool

// document is what a book says of one.
type document struct {
	version   int // the last one; 0 if there is none
	drafter   int
	reviewers []int // of the last version
	withdrawn bool  // since the last version was drafted
	force     Page  // the version in force, or the zero value
}

// Audit reports whether a book is allowed.
func Audit(l []Entry) (int, api.Errno) {
	if len(l) > MaxBook {
		return 0, api.ErrMany
	}
	var documents [maxDoc + 1]document
	known := needs()
	day := 0 // of the entry before
	for i, x := range l {
		allows, is := known[x.Kind]
		switch {
		case !is || !isDoc(x.Doc) || !number.Within(x.Who, 1, maxWho):
			return i, api.ErrRange
		case !isDay(x.Day):
			return i, api.ErrDate
		case x.Day < day:
			return i, api.ErrOrder
		case !allows(documents[x.Doc], x.Who):
			return i, api.ErrState
		}
		documents[x.Doc].enter(x)
		day = x.Day
	}
	return len(l), api.OK
}

// InForce returns the version of a document that is in force on a day.
func InForce(l []Entry, doc, day int) (Page, api.Errno) {
	if _, e := Audit(l); e != api.OK {
		return Page{}, e
	}
	if !isDoc(doc) {
		return Page{}, api.ErrArg
	}
	if !isDay(day) {
		return Page{}, api.ErrDate
	}
	var d document
	for _, x := range l {
		if x.Doc == doc && x.Day <= day {
			d.enter(x)
		}
	}
	if d.force == (Page{}) {
		return Page{}, api.ErrNone
	}
	return d.force, api.OK
}

func isDoc(doc int) bool { return number.Within(doc, 0, maxDoc) }

// needs has what the entries of each kind need.
func needs() map[int]need {
	return map[int]need{
		Draft:    document.allowsDraft,
		Review:   document.allowsReview,
		Approve:  document.allowsApproval,
		Withdraw: document.allowsWithdrawal,
	}
}

func (d document) allowsDraft(int) bool { return true }

// allowsReview is so while the last version is neither approved nor withdrawn. An
// approved version that is not withdrawn is the one in force.
func (d document) allowsReview(who int) bool {
	return d.version > d.force.Version && !d.withdrawn && who != d.drafter
}

func (d document) allowsApproval(who int) bool {
	isOther := func(reviewer int) bool { return reviewer != who }
	return d.allowsReview(who) && slices.ContainsFunc(d.reviewers, isOther)
}

func (d document) allowsWithdrawal(int) bool { return d.version > 0 && !d.withdrawn }

// enter takes an entry that is allowed.
func (d *document) enter(x Entry) {
	switch x.Kind {
	case Draft:
		*d = document{version: d.version + 1, drafter: x.Who, force: d.force}
	case Review:
		d.reviewers = append(d.reviewers, x.Who)
	case Approve:
		d.force = Page{Version: d.version, Drafter: d.drafter, Approved: x.Day}
	case Withdraw:
		d.withdrawn = true
		d.force = Page{}
	}
}
