package world

import (
	"meridian/api"
	"meridian/number"
)

const maxBound = 1000000000000000

// Kinds of draws.
const (
	walkDraw  = 1
	whiteDraw = 2
)

// Mix mixes two numbers.
func Mix(x, y uint64) uint64 {
	z := x + y*0x9E3779B97F4A7C15
	z ^= z >> 31
	z *= 0x94D049BB133111EB
	return z ^ z>>30
}

// Draw returns a draw: a number from -most to most.
func Draw(seed uint64, kind, clock, index, most int) (int, api.Errno) {
	if kind < 0 || clock < 0 || index < 0 || !number.Within(most, 0, maxBound) {
		return 0, api.ErrArg
	}
	return draw(source(seed, kind, clock), index, most), api.OK
}

// source is what all draws of a kind and a clock have in common, so that a
// walk mixes it once and not for each index.
func source(seed uint64, kind, clock int) uint64 {
	return Mix(Mix(seed, uint64(kind)), uint64(clock))
}

func draw(source uint64, index, most int) int {
	return int(Mix(source, uint64(index))%uint64(2*most+1)) - most
}
