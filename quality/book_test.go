package quality_test

import (
	"math/rand"
	"slices"
	"testing"

	"meridian/api"
	"meridian/quality"
)

// P12.4: the example of the chapter.
func TestExampleOfBook(t *testing.T) {
	l := []quality.Entry{entry(1, 7, 1, 50000), entry(2, 7, 2, 50000), entry(3, 7, 3, 50000)}
	if n, e := quality.Audit(l); n != 3 || e != api.OK {
		t.Error(n, e)
	}
	for _, day := range []int{50000, 50001, last} {
		if p, e := quality.InForce(l, 7, day); (p != quality.Page{Version: 1, Drafter: 1, Approved: 50000}) || e != api.OK {
			t.Error(day, p, e)
		}
	}
	l[2].Who = 2
	if n, e := quality.Audit(l); n != 2 || e != api.ErrState {
		t.Error(n, e)
	}
	l[1].Who = 1
	if n, e := quality.Audit(l); n != 1 || e != api.ErrState {
		t.Error(n, e)
	}
}

// refuseBook checks that a book has an error.
func refuseBook(t *testing.T, l []quality.Entry, at int, want api.Errno) {
	t.Helper()
	if n, e := quality.Audit(l); n != at || e != want {
		t.Error(n, e, at, want)
	}
	for _, x := range [][2]int{{0, 50000}, {-1, 50000}, {0, 0}, {100, last + 1}} {
		if p, e := quality.InForce(l, x[0], x[1]); (p != quality.Page{}) || e != want {
			t.Error(x, p, e, want)
		}
	}
}

// P12.4, R8: numbers at the limits are allowed, those beyond are not, whichever
// entry has them.
func TestEntryLimits(t *testing.T) {
	for _, x := range []struct {
		name        string
		least, most int
		change      func(x *quality.Entry, n int)
		want        api.Errno
	}{
		{"Kind", 1, 1, func(x *quality.Entry, n int) { x.Kind = n }, api.ErrRange},
		{"Doc", 0, 99, func(x *quality.Entry, n int) { x.Doc = n }, api.ErrRange},
		{"Who", 1, 1000, func(x *quality.Entry, n int) { x.Who = n }, api.ErrRange},
		{"Day", first, last, func(x *quality.Entry, n int) { x.Day = n }, api.ErrDate},
	} {
		for i := range 3 {
			for _, n := range append(far, x.least-1, x.least, x.most, x.most+1) {
				l := []quality.Entry{entry(1, 1, 1, first), entry(1, 2, 2, 50000), entry(1, 3, 3, last)}
				x.change(&l[i], n)
				if x.name == "Kind" && n >= 2 && n <= 4 {
					continue
				}
				if n < x.least || n > x.most {
					refuseBook(t, l, i, x.want)
				} else if at, e := quality.Audit(l[i : i+1]); at != 1 || e != api.OK {
					t.Error(x.name, i, n, at, e)
				}
			}
		}
	}
	for _, kind := range []int{-1, 0, 5, 6} {
		refuseBook(t, []quality.Entry{entry(1, 1, 1, 50000), entry(kind, 1, 1, 50000)}, 1, api.ErrRange)
	}
	for kind := 2; kind <= 4; kind++ {
		refuseBook(t, []quality.Entry{entry(1, 1, 1, 50000), entry(kind, 2, 9, 50000)}, 1, api.ErrState)
	}
}

// P12.4, R1: the order of the errors of an entry, and the first entry with one.
func TestEntryOrder(t *testing.T) {
	draft := entry(1, 7, 1, 50000)
	for _, x := range []struct {
		wrong quality.Entry
		want  api.Errno
	}{
		{entry(0, 7, 1, 1), api.ErrRange}, {entry(2, 100, 1, last+1), api.ErrRange}, {entry(2, 7, 0, 49999), api.ErrRange}, {entry(2, -1, 1, 50000), api.ErrRange}, {entry(5, 7, 1, 50000), api.ErrRange},
		{entry(2, 7, 1, first-1), api.ErrDate}, {entry(1, 7, 1, 0), api.ErrDate}, {entry(3, 7, 2, last+1), api.ErrDate},
		{entry(2, 7, 1, 49999), api.ErrOrder}, {entry(1, 8, 1, first), api.ErrOrder}, {entry(4, 8, 1, 49999), api.ErrOrder},
		{entry(2, 7, 1, 50000), api.ErrState}, {entry(4, 8, 1, 50001), api.ErrState},
	} {
		refuseBook(t, []quality.Entry{draft, x.wrong, entry(9, 9, 9, 9), draft}, 1, x.want)
		refuseBook(t, []quality.Entry{draft, draft, draft, x.wrong, entry(9, 999, 9, 9)}, 3, x.want)
	}
	refuseBook(t, []quality.Entry{entry(2, 7, 1, 50000)}, 0, api.ErrState)
	refuseBook(t, []quality.Entry{entry(1, 7, 1, 50000), entry(1, 8, 1, 50002), entry(1, 7, 1, 50001)}, 2, api.ErrOrder)
}

// P12.4: at most 500 entries, and that comes first.
func TestBookLimit(t *testing.T) {
	l := slices.Repeat([]quality.Entry{entry(1, 7, 1, 50000)}, 500)
	if n, e := quality.Audit(l); n != 500 || e != api.OK {
		t.Error(n, e)
	}
	reviewed := append(l[:498:498], entry(2, 7, 2, 50000), entry(3, 7, 3, 50000))
	if p, e := quality.InForce(reviewed, 7, 50000); (p != quality.Page{Version: 498, Drafter: 1, Approved: 50000}) || e != api.OK {
		t.Error(p, e)
	}
	l[499].Kind = 2
	refuseBook(t, l, 499, api.ErrState)
	refuseBook(t, append(l, entry(1, 7, 1, 50000)), 0, api.ErrMany)
	refuseBook(t, slices.Repeat([]quality.Entry{{}}, 501), 0, api.ErrMany)
	refuseBook(t, slices.Repeat([]quality.Entry{{}}, 5000), 0, api.ErrMany)
}

// P12.4: what is allowed when, entry by entry.
func TestStates(t *testing.T) {
	const draft, review, approve, withdraw = 1, 2, 3, 4
	type step struct{ kind, who int }
	for i, x := range []struct {
		l  []step
		ok bool
	}{
		{[]step{{review, 2}}, false}, {[]step{{approve, 2}}, false}, {[]step{{withdraw, 2}}, false},
		{[]step{{draft, 1}, {draft, 1}, {draft, 2}}, true},
		{[]step{{draft, 1}, {review, 2}, {review, 2}, {review, 3}}, true},
		{[]step{{draft, 1}, {review, 1}}, false},
		{[]step{{draft, 1}, {draft, 2}, {review, 1}}, true},
		{[]step{{draft, 1}, {draft, 2}, {review, 2}}, false},
		{[]step{{draft, 1}, {approve, 2}}, false},
		{[]step{{draft, 1}, {review, 2}, {approve, 3}}, true},
		{[]step{{draft, 1}, {review, 2}, {approve, 2}}, false},
		{[]step{{draft, 1}, {review, 2}, {review, 2}, {approve, 2}}, false},
		{[]step{{draft, 1}, {review, 2}, {approve, 1}}, false},
		{[]step{{draft, 1}, {review, 2}, {review, 3}, {approve, 2}}, true},
		{[]step{{draft, 1}, {review, 2}, {review, 3}, {approve, 3}}, true},
		{[]step{{draft, 1}, {review, 2}, {draft, 1}, {approve, 3}}, false},
		{[]step{{draft, 1}, {review, 2}, {draft, 1}, {review, 3}, {approve, 3}}, false},
		{[]step{{draft, 1}, {review, 2}, {approve, 3}, {review, 4}}, false},
		{[]step{{draft, 1}, {review, 2}, {approve, 3}, {approve, 4}}, false},
		{[]step{{draft, 1}, {review, 2}, {approve, 3}, {withdraw, 1}}, true},
		{[]step{{draft, 1}, {review, 2}, {approve, 3}, {withdraw, 1}, {withdraw, 2}}, false},
		{[]step{{draft, 1}, {review, 2}, {approve, 3}, {withdraw, 1}, {review, 4}}, false},
		{[]step{{draft, 1}, {review, 2}, {approve, 3}, {withdraw, 1}, {approve, 4}}, false},
		{[]step{{draft, 1}, {review, 2}, {approve, 3}, {draft, 4}, {review, 1}, {approve, 2}}, true},
		{[]step{{draft, 1}, {review, 2}, {approve, 3}, {draft, 4}, {withdraw, 1}, {withdraw, 1}}, false},
		{[]step{{draft, 1}, {review, 2}, {approve, 3}, {draft, 4}, {withdraw, 1}, {review, 1}}, false},
		{[]step{{draft, 1}, {withdraw, 1}}, true},
		{[]step{{draft, 1}, {withdraw, 1}, {withdraw, 1}}, false},
		{[]step{{draft, 1}, {withdraw, 1}, {review, 2}}, false},
		{[]step{{draft, 1}, {review, 2}, {withdraw, 1}, {approve, 3}}, false},
		{[]step{{draft, 1}, {withdraw, 1}, {draft, 1}, {withdraw, 1}}, true},
		{[]step{{draft, 1}, {withdraw, 1}, {draft, 1}, {review, 2}, {approve, 3}}, true},
	} {
		var l []quality.Entry
		for k, s := range x.l {
			l = append(l, entry(s.kind, 99, s.who, 50000+k/2))
		}
		n, e := quality.Audit(l)
		if x.ok && (n != len(l) || e != api.OK) || !x.ok && (n != len(l)-1 || e != api.ErrState) {
			t.Error(i, x, n, e)
		}
	}
}

// anyBook has entries that are allowed, on few documents and by few people, and
// one that is not allowed where there was one.
func anyBook(r *rand.Rand, count int) (book []quality.Entry, refused quality.Entry, at int) {
	at = -1
	day := 50000
	for len(book) < count {
		day += r.Intn(3) / 2
		x := entry(1+r.Intn(4), r.Intn(3), 1+r.Intn(4), day)
		if slowAllowed(book, x) {
			book = append(book, x)
		} else {
			refused, at = x, len(book)
		}
	}
	return book, refused, at
}

// P12.4: books of all kinds of entries, by the chapter's words.
func TestAudit(t *testing.T) {
	r := rand.New(rand.NewSource(14))
	for range 1000 {
		l, refused, at := anyBook(r, r.Intn(60))
		if n, e := quality.Audit(l); n != len(l) || e != api.OK {
			t.Fatal(l, n, e)
		}
		if at >= 0 {
			wrong := slices.Insert(slices.Clone(l), at, refused)
			if n, e := quality.Audit(wrong); n != at || e != api.ErrState {
				t.Fatal(wrong, n, e, at)
			}
		}
	}
}

// P12.4, P12.5: what is in force on each day; and each version in force was
// reviewed by someone who neither drafted nor approved it.
func TestInForce(t *testing.T) {
	r := rand.New(rand.NewSource(15))
	pages, nones := 0, 0
	for range 600 {
		l, _, _ := anyBook(r, r.Intn(60))
		for doc := range 4 {
			for day := 49998; day < 50025; day++ {
				want, is := slowInForce(l, doc, day)
				p, e := quality.InForce(l, doc, day)
				if !is {
					nones++
					if (p != quality.Page{}) || e != api.ErrNone {
						t.Fatal(l, doc, day, p, e)
					}
					continue
				}
				pages++
				if p != want || e != api.OK {
					t.Fatal(l, doc, day, p, e, want)
				}
				checkPage(t, l, doc, p)
			}
		}
	}
	if pages < 1000 || nones < 1000 {
		t.Error(pages, nones)
	}
}

// checkPage checks that a version was reviewed by a third one.
func checkPage(t *testing.T, l []quality.Entry, doc int, p quality.Page) {
	t.Helper()
	version := 0
	var reviewers []int
	for _, x := range l {
		if x.Doc != doc {
			continue
		}
		if x.Kind == 1 {
			version++
		}
		if version != p.Version {
			continue
		}
		switch x.Kind {
		case 2:
			reviewers = append(reviewers, x.Who)
		case 3:
			approver := x.Who
			isThird := func(who int) bool { return who != p.Drafter && who != approver }
			if approver == p.Drafter || !slices.ContainsFunc(reviewers, isThird) {
				t.Fatal(l, doc, p, approver, reviewers)
			}
			return
		}
	}
	t.Fatal("never approved", l, doc, p)
}

// P12.4: several entries of one day count in their order.
func TestInForceOfOneDay(t *testing.T) {
	l := []quality.Entry{
		entry(1, 0, 1, 50000), entry(2, 0, 2, 50000), entry(3, 0, 3, 50000), entry(1, 99, 5, 50000), entry(4, 0, 1, 50001),
		entry(1, 0, 4, 50001), entry(2, 0, 5, 50001), entry(3, 0, 6, 50001), entry(1, 0, 9, 50002), entry(2, 99, 1, 50003), entry(3, 99, 2, 50003), entry(4, 0, 1, 50003),
	}
	for _, x := range []struct {
		doc, day int
		want     quality.Page
	}{
		{0, 49999, quality.Page{}}, {0, 50000, quality.Page{Version: 1, Drafter: 1, Approved: 50000}}, {0, 50001, quality.Page{Version: 2, Drafter: 4, Approved: 50001}},
		{0, 50002, quality.Page{Version: 2, Drafter: 4, Approved: 50001}}, {0, 50003, quality.Page{}}, {0, last, quality.Page{}},
		{99, 50002, quality.Page{}}, {99, 50003, quality.Page{Version: 1, Drafter: 5, Approved: 50003}}, {99, last, quality.Page{Version: 1, Drafter: 5, Approved: 50003}}, {98, 50003, quality.Page{}},
	} {
		want := api.OK
		if x.want == (quality.Page{}) {
			want = api.ErrNone
		}
		if p, e := quality.InForce(l, x.doc, x.day); p != x.want || e != want {
			t.Error(x, p, e)
		}
	}
}

// P12.4, R1: the errors of InForce in their order.
func TestInForceErrors(t *testing.T) {
	l := []quality.Entry{entry(1, 7, 1, 50000), entry(2, 7, 2, 50000), entry(3, 7, 3, 50000)}
	for _, doc := range append(far, -1, 100) {
		for _, day := range append(far, 50000, first-1, last+1) {
			if p, e := quality.InForce(l, doc, day); (p != quality.Page{}) || e != api.ErrArg {
				t.Error(doc, day, p, e)
			}
		}
	}
	for _, doc := range []int{0, 7, 99} {
		for _, day := range append(far, -1, 0, first-1, last+1) {
			if p, e := quality.InForce(l, doc, day); (p != quality.Page{}) || e != api.ErrDate {
				t.Error(doc, day, p, e)
			}
		}
		if p, e := quality.InForce(l, doc, first); (p != quality.Page{}) || e != api.ErrNone {
			t.Error(doc, p, e)
		}
	}
}
