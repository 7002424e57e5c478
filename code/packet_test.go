package code_test

import (
	"encoding/binary"
	"math/rand"
	"slices"
	"testing"

	"meridian/api"
	"meridian/calendar"
	"meridian/code"
)

// sealed is a packet with the right sum.
func sealed(b []byte) []byte {
	c := slices.Clone(b)
	sum := 0
	for _, x := range append(c[:3:3], c[4:]...) {
		sum += int(x)
	}
	c[3] = byte(sum % 251)
	return c
}

// slowPacket is a packet by the chapter's words.
func slowPacket(leap, offset, ntp, nanos, second int) []byte {
	b := []byte{map[int]byte{0: 0, 1: 1, -1: 2}[leap], 4, byte(offset), 0}
	for _, n := range []int{ntp, nanos, second} {
		b = binary.BigEndian.AppendUint32(b, uint32(n))
	}
	return sealed(b)
}

// P10.4, P10.7: the packets of seconds, and what is unpacked of them.
func TestPackets(t *testing.T) {
	r := rand.New(rand.NewSource(12))
	for _, x := range tables(r) {
		for _, p := range pairs(r, x) {
			for _, n := range []int{0, r.Intn(59), p.this.length - 1} {
				told, second := p.this.told, p.this.first+n
				nanos := []int{0, 1, 255, 256, 65536, 16777216, 999999999, r.Intn(1000000000)}[r.Intn(8)]
				b, e := code.Pack(x, second, nanos)
				if told.Offset < 0 {
					if b != nil || e != api.ErrCode {
						t.Fatal(x, p, n, b, e)
					}
					continue
				}
				unix := 86400*(p.this.day-40587) + ofDay(told.Date) + n
				want := slowPacket(told.Leap, told.Offset, (unix+2208988800)%(1<<32), nanos, second)
				if !slices.Equal(b, want) || e != api.OK {
					t.Fatal(x, p, n, nanos, b, want, e)
				}
				if l, o, s, k, e := code.Unpack(b); l != told.Leap || o != told.Offset || s != second || k != nanos || e != api.OK {
					t.Fatal(x, p, n, nanos, b, l, o, s, k, e)
				}
			}
		}
	}
}

// P10.4: the bytes of one packet.
func TestPacketExample(t *testing.T) {
	b, e := code.Pack(example(), 15724800, 258)
	// the Unix seconds are 78796800, the NTP time is 2287785600
	want := []byte{1, 4, 10, 0, 0x88, 0x5c, 0xd6, 0x80, 0, 0, 1, 2, 0, 0xef, 0xf1, 0}
	want[3] = byte((1 + 4 + 10 + 0x88 + 0x5c + 0xd6 + 0x80 + 1 + 2 + 0xef + 0xf1) % 251)
	if !slices.Equal(b, want) || e != api.OK {
		t.Error(b, want, e)
	}
	if b, e := code.Pack(short(), 0, 0); b[0] != 2 || e != api.OK {
		t.Error(b, e)
	}
}

// P10.4, R1: the errors of Pack, in their order.
func TestPackErrors(t *testing.T) {
	below := table(0, 41408, leap(41347, -1), leap(41376, 1))
	low, high := 86400*31-1, 86400*60 // the offset is below 0 between them
	for i, x := range []struct {
		second, nanos int
		want          api.Errno
	}{
		{-1, -1, api.ErrRange}, {total(below), 0, api.ErrRange}, {total(below) - 1, 0, api.OK}, {0, -1, api.ErrArg}, {0, 1000000000, api.ErrArg}, {0, 999999999, api.OK}, {0, 0, api.OK},
		{low - 1, 0, api.OK}, {low, 0, api.ErrCode}, {low, -1, api.ErrArg}, {low, 1000000000, api.ErrArg}, {high - 1, 0, api.ErrCode}, {high, 0, api.OK},
	} {
		if b, e := code.Pack(below, x.second, x.nanos); e != x.want || e != api.OK && b != nil {
			t.Error(i, x, b, e)
		}
	}
	for _, n := range far {
		if b, e := code.Pack(below, 0, n); b != nil || e != api.ErrArg {
			t.Error(n, b, e)
		}
	}
}

// P10.4: any packet with the right form, whatever its NTP time, and none other.
func TestUnpack(t *testing.T) {
	r := rand.New(rand.NewSource(13))
	none := func(b []byte) {
		t.Helper()
		if l, o, s, k, e := code.Unpack(b); l != 0 || o != 0 || s != 0 || k != 0 || e != api.ErrForm {
			t.Fatal(b, l, o, s, k, e)
		}
	}
	for range 2000 {
		leap, offset, nanos, second := r.Intn(3)-1, r.Intn(256), r.Intn(1000000000), r.Intn(1<<32)
		b := slowPacket(leap, offset, r.Intn(1<<32), nanos, second)
		if l, o, s, k, e := code.Unpack(b); l != leap || o != offset || s != second || k != nanos || e != api.OK {
			t.Fatal(b, l, o, s, k, e)
		}
		for i := range b {
			c := slices.Clone(b)
			c[i] = byte(r.Intn(256))
			if (int(c[i])-int(b[i]))%251 != 0 {
				none(c)
			}
		}
		for n := 1; n < 256; n++ {
			c := slices.Clone(b)
			c[3] += byte(n)
			none(c)
		}
	}
	b := slowPacket(1, 10, 20, 30, 40)
	for n := range 256 {
		c := slices.Clone(b)
		c[0] = byte(n)
		if n > 2 {
			none(sealed(c))
		}
		c = slices.Clone(b)
		c[1] = byte(n)
		if n != 4 {
			none(sealed(c))
		}
	}
	for _, nanos := range []int{1000000000, 1000000001, 1<<32 - 1} {
		none(slowPacket(0, 0, 0, nanos, 0))
	}
	if _, _, _, k, e := code.Unpack(slowPacket(0, 0, 0, 999999999, 0)); k != 999999999 || e != api.OK {
		t.Error(k, e)
	}
	none(nil)
	none(make([]byte, 16))
	for n := range 40 {
		if c := append(slices.Clone(b), make([]byte, 24)...)[:n]; n != 16 {
			none(c)
			if n > 4 {
				none(sealed(c))
			}
		}
	}
}

// P10.7: all codes tell the same leap, offset and date, as the calendar says.
func TestCodesAgree(t *testing.T) {
	r := rand.New(rand.NewSource(14))
	for _, x := range tables(r) {
		for _, p := range pairs(r, x) {
			second := p.next.first
			d := must[calendar.Date](t)(calendar.Dates(x, second))
			leap := must[int](t)(calendar.Announced(x, second))
			offset := must[int](t)(calendar.Offset(x, p.next.day))
			want := code.Told{Date: d, Leap: leap, Offset: offset}
			if offset < 0 || d.Year > 2071 {
				continue
			}
			frame, e := code.Decode(must[[]bool](t)(code.Frame(x, p.this.first)))
			if frame != want || e != api.OK {
				t.Fatal(x, p, frame, e)
			}
			line, of, e := code.ReadLine(must[string](t)(code.Line(x, second)))
			if line != want || of != ofDay(d) || e != api.OK {
				t.Fatal(x, p, line, of, e)
			}
			l, o, s, _, e := code.Unpack(must[[]byte](t)(code.Pack(x, second, 7)))
			if l != leap || o != offset || s != second || e != api.OK {
				t.Fatal(x, p, l, o, s, e)
			}
		}
	}
}
