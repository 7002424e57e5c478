package code_test

import (
	"math/rand"
	"testing"

	"meridian/api"
	"meridian/code"
)

// P10.1: the minutes of seconds, and what is told of them.
func TestMinutes(t *testing.T) {
	r := rand.New(rand.NewSource(1))
	for _, x := range tables(r) {
		for _, p := range pairs(r, x) {
			for _, s := range []spot{p.this, p.next} {
				for _, n := range []int{0, 1, r.Intn(59), s.length - 2, s.length - 1} {
					if f, k, e := code.Minute(x, s.first+n); f != s.first || k != s.length || e != api.OK {
						t.Fatal(x, s, n, f, k, e)
					}
					told, want := s.told, api.OK
					if n > 0 {
						told, want = code.Told{}, api.ErrState
					}
					if y, e := code.Tell(x, s.first+n); y != told || e != want {
						t.Fatal(x, s, n, y, e)
					}
				}
			}
		}
	}
}

// P10.1: all seconds of a table belong to a minute, one after the other, and the
// last minute ends with the table.
func TestAllMinutes(t *testing.T) {
	x := short()
	end := 0
	for s := range walk(x, func(int) bool { return true }) {
		if s.first != end {
			t.Fatal(s, end)
		}
		end += s.length
		if s.told.Date.Hour == 23 || s.told.Date.Hour == 0 {
			if y, e := code.Tell(x, s.first); y != s.told || e != api.OK {
				t.Fatal(s, y, e)
			}
			if f, n, e := code.Minute(x, end-1); f != s.first || n != s.length || e != api.OK {
				t.Fatal(s, f, n, e)
			}
		}
	}
	if end != total(x) {
		t.Error(end)
	}
	if f, n, e := code.Minute(x, end-1); f != end-61 || n != 61 || e != api.OK {
		t.Error(f, n, e)
	}
}

// P10.1: minutes at leaps, as numbers.
func TestLeapMinutes(t *testing.T) {
	for second, want := range map[int][2]int{
		0: {0, 60}, 59: {0, 60}, 60: {60, 60}, 86399: {86340, 60}, 86400: {86400, 60},
		86400*31 - 61: {86400*31 - 120, 60}, 86400*31 - 60: {86400*31 - 60, 59}, 86400*31 - 2: {86400*31 - 60, 59}, 86400*31 - 1: {86400*31 - 1, 60},
		86400*60 - 1: {86400*60 - 61, 61}, 86400 * 60: {86400 * 60, 60},
	} {
		if f, n, e := code.Minute(short(), second); f != want[0] || n != want[1] || e != api.OK {
			t.Error(second, f, n, e)
		}
	}
}
