package bits_test

import (
	"math"
	"slices"
	"testing"

	"rotulet/bits"
)

// P1.1 (B1): the document's example, and others that were worked out by hand.
func TestGetByHand(t *testing.T) {
	b := []byte{0x12, 0x34, 0x56, 0x78, 0x9A, 0xBC, 0xDE, 0xF0, 0x0F}
	for _, x := range []struct {
		at, n int
		want  uint64
	}{
		{4, 8, 0x23}, {0, 4, 1}, {3, 1, 1}, {0, 1, 0}, {8, 8, 0x34}, {5, 3, 2}, {6, 12, 0x8D1},
		{0, 64, 0x123456789ABCDEF0}, {4, 64, 0x23456789ABCDEF00}, {8, 64, 0x3456789ABCDEF00F}, {1, 63, 0x123456789ABCDEF0},
		{71, 1, 1}, {68, 4, 0xF}, {64, 8, 0x0F},
	} {
		if v, ok := bits.Get(b, x.at, x.n); v != x.want || !ok {
			t.Errorf("Get(%d, %d): %x, %v, want %x", x.at, x.n, v, ok, x.want)
		}
	}
}

// P1.1 (B1): every width at every offset of some bytes, wrong ones too.
func TestGetEverywhere(t *testing.T) {
	s := stir(1)
	for _, size := range []int{0, 1, 2, 7, 8, 9, 10} {
		b := s.bytes(size)
		digits := digitsOf(b)
		for at := -9; at <= size*8+9; at++ {
			for n := -2; n <= 67; n++ {
				want, right := uint64(0), n >= 0 && n <= 64 && at >= 0 && at+n <= size*8
				if right {
					want = value(digits[at : at+n])
				}
				if v, ok := bits.Get(b, at, n); v != want || ok != right {
					t.Fatalf("Get(%x, %d, %d): %x, %v, want %x, %v", b, at, n, v, ok, want, right)
				}
			}
		}
		equal(t, "Get changed its argument", b, bytesOf(digits))
	}
}

// P1.1 (B1), P1: offsets and widths that are far off.
func TestGetPutFarOff(t *testing.T) {
	far := []int{math.MinInt, math.MinInt + 1, math.MinInt + 63, math.MinInt32, -1 << 61, -65, -64, -8, -1, 17, 24, 64, 1 << 31, 1 << 61, 1<<61 + 8, math.MaxInt - 64, math.MaxInt - 1, math.MaxInt}
	for _, b := range [][]byte{nil, {}, {0xFF}, {0xFF, 0xFF}} {
		for _, at := range far {
			for _, n := range []int{0, 1, 8, 63, 64} {
				wrong(t, b, at, n)
			}
		}
		for _, n := range far {
			if n < 0 || n > len(b)*8 {
				wrong(t, b, 0, n)
				wrong(t, b, len(b)*8, n)
			}
		}
	}
}

func wrong(t *testing.T, b []byte, at, n int) {
	t.Helper()
	if v, ok := bits.Get(b, at, n); v != 0 || ok {
		t.Errorf("Get(%x, %d, %d): %x, %v", b, at, n, v, ok)
	}
	if c, ok := bits.Put(b, at, n, 1<<64-1); len(c) != 0 || ok {
		t.Errorf("Put(%x, %d, %d): %x, %v", b, at, n, c, ok)
	}
}

// P1.1 (B1): a number of no bits is at every offset up to the end, and is 0.
func TestNoBits(t *testing.T) {
	for _, b := range [][]byte{nil, {}, {0xFF}, {0xFF, 0xAA, 0xFF}} {
		for at := 0; at <= len(b)*8; at++ {
			if v, ok := bits.Get(b, at, 0); v != 0 || !ok {
				t.Errorf("Get(%x, %d, 0): %x, %v", b, at, v, ok)
			}
			if c, ok := bits.Put(b, at, 0, 1<<64-1); !slices.Equal(c, b) || !ok {
				t.Errorf("Put(%x, %d, 0): %x, %v", b, at, c, ok)
			}
		}
		wrong(t, b, len(b)*8+1, 0)
		wrong(t, b, -1, 0)
	}
}

// P1.1 (B1): what does not fit even where the bytes begin.
func TestWiderThanTheBytes(t *testing.T) {
	for _, b := range [][]byte{nil, {0xFF}, make([]byte, 7)} {
		for n := len(b)*8 + 1; n <= 64; n++ {
			wrong(t, b, 0, n)
		}
	}
}
