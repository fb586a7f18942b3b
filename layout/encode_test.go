package layout_test

import (
	"bytes"
	"testing"

	"rotulet/api"
	"rotulet/layout"
)

// P9.1, P9.2: encodings that were worked out by hand, as bytes.
func TestBytesByHand(t *testing.T) {
	for _, x := range []struct {
		l    api.Layout
		want string
	}{
		{lay(1, 0, seg(0, on(0))), "\x00\x00\x08\x00\x00\x00\x00\x00"},
		{lay(1, 31, seg(0, on(31))), "\x00\x00\x0f\xc0\x00\x00\x0f\x80"},
		{lay(api.MaxEpoch, 0, seg(0, on(0))), "\x80\x00\x00\x00\x00\x00\x00\x00"},
		{lay(1, 0, seg(0, on(0)), seg(api.MaxAddress-1, on(0))), "\x00\x00\x08\x10\x00\x00\x00\x7f\xff\xf8\x00"},
		{given(), "\x00\x00\x20\x90\x00\x00\x50\x88\x18\x00\x05\x09\x42"},
	} {
		if b, e := layout.Encode(x.l); e != api.OK || string(b) != x.want {
			t.Errorf("Encode(%s): %x, %d, want %x", tell(x.l), b, e, x.want)
		}
		if l, e := layout.Decode([]byte(x.want)); e != api.OK || !alike(l, x.l) {
			t.Errorf("Decode(%x): %s, %d, want %s", x.want, tell(l), e, tell(x.l))
		}
	}
}

// P9.1, P9.2: encodings that were worked out by hand, as bits, field by field.
func TestBitsByHand(t *testing.T) {
	for _, x := range []struct {
		l      api.Layout
		digits string
	}{
		{given(), "000000000000000000100 00010 01" +
			" 00000000000000000000 01  01 00001 00010  00 00011" +
			" 00000000000000001010 00  01 00101 00001"},
		{lay(5, 17, seg(0, on(1), on(2), on(4), on(8))), "000000000000000000101 10001 00" +
			" 00000000000000000000 11  00 00001  00 00010  00 00100  00 01000"},
		{lay(1<<20-1, 30, seg(0, on(16, 8, 4, 2))), "011111111111111111111 11110 00" +
			" 00000000000000000000 00  11 10000 01000 00100 00010"},
		{lay(3, 1, seg(0, on(0)), seg(1, on(1)), seg(524288, on(2)), seg(1048575, on(3))), "000000000000000000011 00001 11" +
			" 00000000000000000000 00  00 00000" +
			" 00000000000000000001 00  00 00001" +
			" 10000000000000000000 00  00 00010" +
			" 11111111111111111111 00  00 00011"},
		{lay(6, 2, seg(0, on(9, 10), on(11, 12, 13)), seg(700, on(20, 21, 22), on(23), on(24, 25))), "000000000000000000110 00010 01" +
			" 00000000000000000000 01  01 01001 01010  10 01011 01100 01101" +
			" 00000000001010111100 10  10 10100 10101 10110  00 10111  01 11000 11001"},
	} {
		want := bytesOf(x.digits)
		if b, e := layout.Encode(x.l); e != api.OK || !bytes.Equal(b, want) {
			t.Errorf("Encode(%s): %x, %d, want %x", tell(x.l), b, e, want)
		}
		if l, e := layout.Decode(want); e != api.OK || !alike(l, x.l) {
			t.Errorf("Decode(%x): %s, %d, want %s", want, tell(l), e, tell(x.l))
		}
	}
}

// P9.1: the longest encoding has 468 bits.
func TestWidest(t *testing.T) {
	b, e := layout.Encode(widest())
	if e != api.OK || len(b) != 59 || !bytes.Equal(b, spelled(widest())) {
		t.Errorf("%x, %d", b, e)
	}
}

// P9.2: any valid layout is decoded from its encoding, and no other layout has it.
func TestEncodeAny(t *testing.T) {
	s := stir(91)
	known := map[string]string{}
	for range 30000 {
		l := s.layout()
		holds(t, "any layout", l)
		b, _ := layout.Encode(l)
		if was, is := known[string(b)]; is && was != tell(l) {
			t.Fatalf("%s and %s: both are %x", was, tell(l), b)
		}
		known[string(b)] = tell(l)
	}
}

// P2, rule 4: Encode changes no layout; its bytes do not change with the layout or with other bytes; the same layout has the same bytes again.
func TestEncodeIsApart(t *testing.T) {
	for _, l := range some() {
		x := lent(l)
		first, _ := layout.Encode(x)
		second, _ := layout.Encode(x)
		kept(t, "Encode", x, l)
		if !bytes.Equal(first, second) {
			t.Fatalf("%s: %x, then %x", tell(l), first, second)
		}
		for i := range second {
			second[i]++
		}
		_ = append(second, "more"...)
		kept(t, "Encode, its bytes changed", x, l)
		spoil(x)
		if !bytes.Equal(first, spelled(l)) {
			t.Errorf("%s: the bytes changed: %x", tell(l), first)
		}
	}
}
