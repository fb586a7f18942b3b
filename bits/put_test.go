package bits_test

import (
	"slices"
	"testing"

	"rotulet/bits"
)

// P1.1 (B1): examples that were worked out by hand; bits above the width do not count.
func TestPutByHand(t *testing.T) {
	for _, x := range []struct {
		b     []byte
		at, n int
		v     uint64
		want  []byte
	}{
		{[]byte{0x12, 0x34}, 4, 8, 0x23, []byte{0x12, 0x34}},
		{[]byte{0x12, 0x34}, 4, 8, 0xAB, []byte{0x1A, 0xB4}},
		{[]byte{0x12, 0x34}, 4, 8, 0xFFFFFFFFFFFFFF00, []byte{0x10, 0x04}},
		{[]byte{0xFF, 0xFF}, 3, 1, 0, []byte{0xEF, 0xFF}},
		{[]byte{0, 0}, 15, 1, 3, []byte{0, 1}},
		{[]byte{0, 0}, 0, 1, 1, []byte{0x80, 0}},
		{[]byte{0xFF, 0xFF, 0xFF}, 6, 12, 0, []byte{0xFC, 0, 0x3F}},
		{[]byte{0, 0, 0, 0, 0, 0, 0, 0, 0}, 4, 64, 0x123456789ABCDEF0, []byte{0x01, 0x23, 0x45, 0x67, 0x89, 0xAB, 0xCD, 0xEF, 0}},
		{[]byte{1, 1, 1, 1, 1, 1, 1, 1}, 0, 64, 1 << 63, []byte{0x80, 0, 0, 0, 0, 0, 0, 0}},
	} {
		if c, ok := bits.Put(x.b, x.at, x.n, x.v); !slices.Equal(c, x.want) || !ok {
			t.Errorf("Put(%x, %d, %d, %x): %x, %v, want %x", x.b, x.at, x.n, x.v, c, ok, x.want)
		}
	}
}

// P1.1 (B1), P1.2: every width at every offset: Put sets these bits and no others, and Get returns them.
func TestPutEverywhere(t *testing.T) {
	s := stir(2)
	for _, b := range [][]byte{{}, make([]byte, 9), slices.Repeat([]byte{0xFF}, 9), s.bytes(1), s.bytes(8), s.bytes(10)} {
		digits := digitsOf(b)
		for at := -9; at <= len(b)*8+9; at++ {
			for n := -2; n <= 67; n++ {
				if n < 0 || n > 64 || at < 0 || at+n > len(b)*8 {
					wrong(t, b, at, n)
					continue
				}
				for _, v := range []uint64{0, 1<<64 - 1, s.next()} {
					putGet(t, b, digits, at, n, v)
				}
			}
		}
	}
}

func putGet(t *testing.T, b []byte, digits string, at, n int, v uint64) {
	t.Helper()
	c, ok := bits.Put(b, at, n, v)
	if want := digits[:at] + spell(v, n) + digits[at+n:]; !ok || digitsOf(c) != want {
		t.Fatalf("Put(%x, %d, %d, %x): %x, %v, want %s", b, at, n, v, c, ok, want)
	}
	if got, ok := bits.Get(c, at, n); got != value(spell(v, n)) || !ok {
		t.Fatalf("Get(%d, %d) of what Put(%x) wrote: %x, %v", at, n, v, got, ok)
	}
	if digitsOf(b) != digits {
		t.Fatalf("Put(%d, %d, %x) changed its argument", at, n, v)
	}
}

// P1.2: numbers that are put side by side do not disturb each other.
func TestPutSideBySide(t *testing.T) {
	s := stir(3)
	for range 200 {
		widths, v := s.fitting(1 + s.below(8))
		b := s.bytes(8*len(widths) + 1)
		start := s.below(9)
		at := start
		for i, n := range widths {
			b, _ = bits.Put(b, at, n, v[i])
			at += n
		}
		at = start
		for i, n := range widths {
			if got, ok := bits.Get(b, at, n); got != v[i] || !ok {
				t.Fatalf("widths %v: number %d is %x, %v, want %x", widths, i, got, ok, v[i])
			}
			at += n
		}
	}
}

// P1.1 (B1): the answer is a copy, also where nothing changes, and what lies behind the length is left alone.
func TestPutCopies(t *testing.T) {
	for _, n := range []int{0, 1, 8, 16} {
		part, all := roomy([]byte{0x12, 0x34})
		before := slices.Clone(all)
		c, ok := bits.Put(part, 0, n, 0)
		if !ok || len(c) != 2 {
			t.Fatalf("Put of %d bits: %x, %v", n, c, ok)
		}
		after := slices.Clone(c)
		c[0], c[1] = ^c[0], ^c[1]
		_ = append(c, 0xEE) // may write behind c's length
		equal(t, "the argument, once Put's answer was changed", all, before)
		c[0], c[1] = after[0], after[1]
		part[0], part[1] = 0x77, 0x77
		equal(t, "Put's answer, once the argument was changed", c, after)
	}
}

// P1.1 (B1, B2): what lies between the length and the capacity is not there.
func TestCapacityIsNoLength(t *testing.T) {
	part, all := roomy([]byte{0xFF})
	before := slices.Clone(all)
	wrong(t, part, 1, 8)
	wrong(t, part, 8, 1)
	if n := bits.Count(part); n != 8 {
		t.Errorf("Count: %d", n)
	}
	unpackFails(t, []int{16}, part)
	widths, allWidths := roomy([]int{3, 5})
	v, allV := roomy([]uint64{7, 31})
	keepWidths, keepV := slices.Clone(allWidths), slices.Clone(allV)
	b, ok := bits.Pack(widths, v)
	if !ok || !slices.Equal(b, []byte{0xFF}) {
		t.Errorf("Pack: %x, %v", b, ok)
	}
	got, ok := bits.Unpack(widths, part)
	if !ok || !slices.Equal(got, v) {
		t.Errorf("Unpack: %v, %v", got, ok)
	}
	packFails(t, widths, allV)
	packFails(t, allWidths, v)
	equal(t, "bytes, afterwards,", all, before)
	equal(t, "widths, afterwards,", allWidths, keepWidths)
	equal(t, "numbers, afterwards,", allV, keepV)
}
