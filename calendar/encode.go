package calendar

import (
	"cmp"
	"slices"

	"meridian/api"
	"meridian/number"
)

const (
	unixDay    = 40587 // 1 January 1970
	unixMinute = dayMinutes * unixDay

	ntpLead = 2208988800 // the NTP time less the Unix seconds
	era     = 1 << 32
	maxEra  = 1000

	gpsDay  = 44244 // 6 January 1980
	week    = 604800
	weeks   = 1024 // after so many of them the GPS time begins again
	maxNear = 1000000000000
)

// Unix returns the Unix seconds of a second.
func Unix(t Table, second int) (int, api.Errno) { return ofSecond(t, second, work.unix) }

// FromUnix returns the seconds with Unix seconds.
func FromUnix(t Table, unix int) ([]int, api.Errno) {
	w, e := open(t)
	if e != api.OK {
		return nil, e
	}
	var found []int
	m := moment{unixMinute + number.Floor(unix, 60), number.Modulo(unix, 60)}
	for _, m := range []moment{{m.minute - 1, m.second + 60}, m} { // a second 60 is earlier
		if w.has(m) {
			found = append(found, w.number(m))
		}
	}
	return some(found)
}

// ToNtp returns the NTP time of a second.
func ToNtp(t Table, second int) (Ntp, api.Errno) { return ofSecond(t, second, work.ntp) }

// FromNtp returns the seconds with an NTP time.
func FromNtp(t Table, x Ntp) ([]int, api.Errno) {
	if e := Check(t); e != api.OK {
		return nil, e
	}
	if !number.IsIndex(x.Second, era) || !number.Within(x.Era, 0, maxEra) {
		return nil, api.ErrRange
	}
	return FromUnix(t, x.Era*era+x.Second-ntpLead)
}

// ToGps returns the GPS time of a second.
func ToGps(t Table, second int) (Gps, api.Errno) {
	past, e := ofSecond(t, second, work.sinceGps)
	if e != api.OK {
		return Gps{}, e
	}
	if past < 0 {
		return Gps{}, api.ErrNone
	}
	return Gps{past / week % weeks, past % week}, api.OK
}

// FromGps returns the second with a GPS time that is nearest to another one.
func FromGps(t Table, x Gps, near int) (int, api.Errno) {
	if e := Check(t); e != api.OK {
		return 0, e
	}
	if !number.IsIndex(x.Week, weeks) || !number.IsIndex(x.Second, week) || !number.Within(near, -maxNear, maxNear) {
		return 0, api.ErrRange
	}
	var found []int
	for s := t.begin(gpsDay) + week*x.Week + x.Second; s < t.total(); s += weeks * week {
		found = append(found, s)
	}
	if len(found) == 0 {
		return 0, api.ErrNone
	}
	return slices.MinFunc(found, func(a, b int) int {
		return cmp.Compare(max(a-near, near-a), max(b-near, near-b))
	}), api.OK
}

// some are the seconds of a list, if there are any.
func some(l []int) ([]int, api.Errno) {
	if len(l) == 0 {
		return nil, api.ErrNone
	}
	return l, api.OK
}

func (w work) unix(second int) int {
	m := w.moment(second)
	return 60*(m.minute-unixMinute) + m.second
}

func (w work) ntp(second int) Ntp {
	n := w.unix(second) + ntpLead
	return Ntp{n / era, n % era}
}

// sinceGps is how many seconds ago the GPS time began.
func (w work) sinceGps(second int) int { return second - w.begin(gpsDay) }
