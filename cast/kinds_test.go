package cast_test

import (
	"math"
	"testing"

	"rotulet/cast"
)

// P2.1: examples of K1's signed numbers, worked out by hand.
func TestSignedOfBits(t *testing.T) {
	for _, x := range []struct {
		v           int64
		n           int
		fits        bool
		wrap, clamp int64
	}{
		{0, 1, true, 0, 0},
		{-1, 1, true, -1, -1},
		{1, 1, false, -1, 0},
		{2, 1, false, 0, 0},
		{-2, 1, false, 0, -1},
		{-3, 1, false, -1, -1},
		{1, 2, true, 1, 1},
		{2, 2, false, -2, 1},
		{-3, 2, false, 1, -2},
		{200, 8, false, -56, 127},
		{-200, 8, false, 56, -128},
		{127, 8, true, 127, 127},
		{128, 8, false, -128, 127},
		{-128, 8, true, -128, -128},
		{-129, 8, false, 127, -128},
		{256, 8, false, 0, 127},
		{40000, 16, false, -25536, 32767},
		{1 << 31, 32, false, -1 << 31, 1<<31 - 1},
		{-1<<31 - 1, 32, false, 1<<31 - 1, -1 << 31},
		{1<<62 - 1, 63, true, 1<<62 - 1, 1<<62 - 1},
		{1 << 62, 63, false, -1 << 62, 1<<62 - 1},
		{-1 << 62, 63, true, -1 << 62, -1 << 62},
		{-1<<62 - 1, 63, false, 1<<62 - 1, -1 << 62},
		{math.MaxInt64, 63, false, -1, 1<<62 - 1},
		{math.MinInt64, 63, false, 0, -1 << 62},
		{math.MaxInt64, 64, true, math.MaxInt64, math.MaxInt64},
		{math.MinInt64, 64, true, math.MinInt64, math.MinInt64},
		{math.MaxInt64, 1, false, -1, 0},
		{math.MinInt64, 1, false, 0, -1},
		// An n below 1 counts as 1, an n above 64 as 64.
		{1, 0, false, -1, 0},
		{-1, 0, true, -1, -1},
		{5, -7, false, -1, 0},
		{-2, math.MinInt, false, 0, -1},
		{math.MaxInt64, 65, true, math.MaxInt64, math.MaxInt64},
		{math.MinInt64, 99, true, math.MinInt64, math.MinInt64},
		{200, 1<<32 + 8, true, 200, 200},
		{math.MinInt64, math.MaxInt, true, math.MinInt64, math.MinInt64},
	} {
		if f := cast.Fits(x.v, x.n); f != x.fits {
			t.Errorf("Fits(%d, %d): %v", x.v, x.n, f)
		}
		if w := cast.Wrap(x.v, x.n); w != x.wrap {
			t.Errorf("Wrap(%d, %d): %d, want %d", x.v, x.n, w, x.wrap)
		}
		if c := cast.Clamp(x.v, x.n); c != x.clamp {
			t.Errorf("Clamp(%d, %d): %d, want %d", x.v, x.n, c, x.clamp)
		}
	}
}

// P2.1: Fits, by the least and the greatest number of each width.
func TestFitsAllWidths(t *testing.T) {
	for _, n := range widths() {
		least, greatest := ends(n)
		for _, v := range near() {
			want := signed(v).Cmp(least) >= 0 && signed(v).Cmp(greatest) <= 0
			if cast.Fits(v, n) != want {
				t.Fatalf("Fits(%d, %d): %v", v, n, !want)
			}
		}
	}
}

// P2.1: Wrap is a signed number of n bits, and a multiple of 2^n away.
func TestWrapAllWidths(t *testing.T) {
	for _, n := range widths() {
		least, greatest := ends(n)
		for _, v := range near() {
			w := signed(cast.Wrap(v, n))
			if w.Cmp(least) < 0 || w.Cmp(greatest) > 0 {
				t.Fatalf("Wrap(%d, %d): %d is not of so many bits", v, n, w)
			}
			if rest(minus(signed(v), w), power(counted(n))).Sign() != 0 {
				t.Fatalf("Wrap(%d, %d): %d is no multiple away", v, n, w)
			}
		}
	}
}

// P2.1: Clamp is v within the range, and the nearer end outside of it.
func TestClampAllWidths(t *testing.T) {
	for _, n := range widths() {
		least, greatest := ends(n)
		for _, v := range near() {
			want := signed(v)
			if want.Cmp(least) < 0 {
				want = least
			} else if want.Cmp(greatest) > 0 {
				want = greatest
			}
			if c := cast.Clamp(v, n); !same(signed(c), want) {
				t.Fatalf("Clamp(%d, %d): %d, want %d", v, n, c, want)
			}
		}
	}
}

// P2.1: examples of Narrow, whose number is not zero beside false.
func TestNarrowExamples(t *testing.T) {
	for _, x := range []struct {
		v    uint64
		n    int
		want uint64
		ok   bool
	}{
		{0, 1, 0, true},
		{1, 1, 1, true},
		{2, 1, 0, false},
		{3, 1, 1, false},
		{0xFF, 8, 0xFF, true},
		{0x100, 8, 0, false},
		{0x1FF, 8, 0xFF, false},
		{0x12345, 16, 0x2345, false},
		{1<<63 - 1, 63, 1<<63 - 1, true},
		{1 << 63, 63, 0, false},
		{math.MaxUint64, 63, 1<<63 - 1, false},
		{math.MaxUint64, 64, math.MaxUint64, true},
		{1, 0, 1, true},
		{2, 0, 0, false},
		{7, -1, 1, false},
		{math.MaxUint64, math.MinInt, 1, false},
		{math.MaxUint64, 65, math.MaxUint64, true},
		{0x1FF, 1<<32 + 8, 0x1FF, true},
		{1 << 63, math.MaxInt, 1 << 63, true},
	} {
		if v, ok := cast.Narrow(x.v, x.n); v != x.want || ok != x.ok {
			t.Errorf("Narrow(%#x, %d): %#x, %v", x.v, x.n, v, ok)
		}
	}
}

// P2.1: Narrow at all widths.
func TestNarrowAllWidths(t *testing.T) {
	for _, n := range widths() {
		for _, v := range nearUnsigned() {
			want := rest(unsigned(v), power(counted(n)))
			got, ok := cast.Narrow(v, n)
			if !same(unsigned(got), want) || ok != same(unsigned(v), want) {
				t.Fatalf("Narrow(%#x, %d): %#x, %v, want %x", v, n, got, ok, want)
			}
		}
	}
}

// P2.1: Signed, at the edge of the signed numbers and on both sides.
func TestSigned(t *testing.T) {
	for _, x := range []struct {
		v    uint64
		want int64
		ok   bool
	}{
		{0, 0, true},
		{1, 1, true},
		{1<<63 - 2, math.MaxInt64 - 1, true},
		{1<<63 - 1, math.MaxInt64, true},
		{1 << 63, 0, false},
		{1<<63 + 1, 0, false},
		{math.MaxUint64, 0, false},
	} {
		if v, ok := cast.Signed(x.v); v != x.want || ok != x.ok {
			t.Errorf("Signed(%d): %d, %v", x.v, v, ok)
		}
	}
	for _, v := range nearUnsigned() {
		got, ok := cast.Signed(v)
		if ok && !same(signed(got), unsigned(v)) || ok != (v <= math.MaxInt64) || !ok && got != 0 {
			t.Fatalf("Signed(%d): %d, %v", v, got, ok)
		}
	}
}
