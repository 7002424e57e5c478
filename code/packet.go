package code

import (
	"meridian/api"
	"meridian/calendar"
	"meridian/number"
)

const (
	packetBytes = 16
	version     = 4
	packetSum   = 251
	nanosecond  = 1000000000 // as many are a second
)

// The places of what stands in a packet.
const (
	leapAt    = 0
	versionAt = 1
	offsetAt  = 2
	sumAt     = 3
	ntpAt     = 4
	nanosAt   = 8
	secondAt  = 12
)

// Pack returns the packet of a second.
func Pack(t calendar.Table, second, nanos int) ([]byte, api.Errno) {
	m, e := minuteOf(t, second)
	if e != api.OK {
		return nil, e
	}
	if !number.IsIndex(nanos, nanosecond) {
		return nil, api.ErrArg
	}
	if !isCoded(m.Offset) {
		return nil, api.ErrCode
	}
	ntp, _ := calendar.ToNtp(t, second)
	b := make([]byte, packetBytes)
	b[leapAt] = byte(leapCode(m.Leap))
	b[versionAt] = version
	b[offsetAt] = byte(m.Offset)
	putFour(b[ntpAt:], ntp.Second)
	putFour(b[nanosAt:], nanos)
	putFour(b[secondAt:], second)
	b[sumAt] = sumOfOthers(b)
	return b, api.OK
}

// Unpack returns what a packet tells.
func Unpack(b []byte) (int, int, int, int, api.Errno) {
	if len(b) != packetBytes || b[leapAt] > 2 || b[versionAt] != version || b[sumAt] != sumOfOthers(b) {
		return 0, 0, 0, 0, api.ErrForm
	}
	nanos := four(b[nanosAt:])
	if !number.IsIndex(nanos, nanosecond) {
		return 0, 0, 0, 0, api.ErrForm
	}
	return leapOf(int(b[leapAt])), int(b[offsetAt]), four(b[secondAt:]), nanos, api.OK
}

// putFour puts the four lowest bytes of a number, the highest one first.
func putFour(b []byte, n int) {
	for i := range 4 {
		b[i] = byte(n >> (24 - 8*i))
	}
}

// four is the number in four bytes.
func four(b []byte) int {
	n := 0
	for i := range 4 {
		n = n<<8 | int(b[i])
	}
	return n
}

// sumOfOthers is the sum of all bytes but that of the sum.
func sumOfOthers(b []byte) byte {
	sum := 0
	for i, x := range b {
		if i != sumAt {
			sum += int(x)
		}
	}
	return byte(sum % packetSum)
}
