package cast_test

import (
	"math"
	"math/big"
	"testing"

	"rotulet/cast"
)

// P2.1: Zig and Zag, by hand.
func TestZigZagExamples(t *testing.T) {
	for _, x := range []struct {
		v int64
		z uint64
	}{
		{0, 0},
		{-1, 1},
		{1, 2},
		{-2, 3},
		{2, 4},
		{-3, 5},
		{1 << 31, 1 << 32},
		{-1 << 31, 1<<32 - 1},
		{1 << 62, 1 << 63},
		{-1 << 62, 1<<63 - 1},
		{math.MaxInt64, math.MaxUint64 - 1},
		{math.MinInt64 + 1, math.MaxUint64 - 2},
		{math.MinInt64, math.MaxUint64},
	} {
		if z := cast.Zig(x.v); z != x.z {
			t.Errorf("Zig(%d): %d, want %d", x.v, z, x.z)
		}
		if v := cast.Zag(x.z); v != x.v {
			t.Errorf("Zag(%d): %d, want %d", x.z, v, x.v)
		}
	}
}

// P2.1: Zig is 2 v, or -2 v - 1 of a negative one.
func TestZigTerms(t *testing.T) {
	for _, v := range near() {
		want := times(big.NewInt(2), signed(v))
		if v < 0 {
			want = minus(times(big.NewInt(-2), signed(v)), big.NewInt(1))
		}
		if z := cast.Zig(v); !same(unsigned(z), want) {
			t.Fatalf("Zig(%d): %d, want %d", v, z, want)
		}
	}
}

// P2.1: Half, by hand: odd sums, both signs, and sums that no int64 holds.
func TestHalfExamples(t *testing.T) {
	for _, x := range []struct{ a, b, want int64 }{
		{0, 0, 0},
		{3, 4, 3},
		{3, 5, 4},
		{-3, 0, -2},
		{-3, -4, -4},
		{-3, -5, -4},
		{-1, 0, -1},
		{-1, 1, 0},
		{-1, 2, 0},
		{-2, 1, -1},
		{math.MaxInt64, math.MaxInt64, math.MaxInt64},
		{math.MaxInt64, math.MaxInt64 - 1, math.MaxInt64 - 1},
		{math.MaxInt64, 0, math.MaxInt64 / 2},
		{math.MaxInt64, 1, 1 << 62},
		{math.MinInt64, math.MinInt64, math.MinInt64},
		{math.MinInt64, math.MinInt64 + 1, math.MinInt64},
		{math.MinInt64, math.MaxInt64, -1},
		{math.MinInt64, 0, -1 << 62},
		{math.MinInt64, -1, -1<<62 - 1},
		{math.MinInt64, 1, -1 << 62},
	} {
		if h := cast.Half(x.a, x.b); h != x.want {
			t.Errorf("Half(%d, %d): %d, want %d", x.a, x.b, h, x.want)
		}
	}
}

// P2.1: Half of each with each.
func TestHalfPairs(t *testing.T) {
	l := few()
	for _, a := range l {
		for _, b := range l {
			want := down(plus(signed(a), signed(b)), big.NewInt(2))
			if h := cast.Half(a, b); !same(signed(h), want) {
				t.Fatalf("Half(%d, %d): %d, want %d", a, b, h, want)
			}
		}
	}
}

// P2.1: Log is the greatest k of which 2^k is at most v; 0 has none.
func TestLog(t *testing.T) {
	if k, ok := cast.Log(0); k != 0 || ok {
		t.Errorf("Log(0): %d, %v", k, ok)
	}
	for v, want := range map[uint64]int{1: 0, 2: 1, 3: 1, 4: 2, 7: 2, 8: 3, 1000: 9, 1023: 9, 1024: 10, 1<<32 - 1: 31, 1 << 32: 32, 1<<63 - 1: 62, 1 << 63: 63, math.MaxUint64: 63} {
		if k, ok := cast.Log(v); k != want || !ok {
			t.Errorf("Log(%d): %d, %v, want %d", v, k, ok, want)
		}
	}
	for _, v := range nearUnsigned() {
		if v == 0 {
			continue
		}
		k, ok := cast.Log(v)
		if !ok || k < 0 || power(k).Cmp(unsigned(v)) > 0 || power(k+1).Cmp(unsigned(v)) <= 0 {
			t.Fatalf("Log(%d): %d, %v", v, k, ok)
		}
	}
}

// P2.1: Align, by hand: the n that count as others, and the last multiple.
func TestAlignExamples(t *testing.T) {
	for _, x := range []struct {
		v    uint64
		n    int
		want uint64
		ok   bool
	}{
		{0, 0, 0, true},
		{0, 3, 0, true},
		{1, 3, 8, true},
		{8, 3, 8, true},
		{9, 3, 16, true},
		{13, 3, 16, true},
		{13, 1, 14, true},
		{13, 0, 13, true},
		{1<<64 - 8, 3, 1<<64 - 8, true},
		{1<<64 - 7, 3, 0, false},
		{1<<64 - 2, 1, 1<<64 - 2, true},
		{1<<64 - 1, 1, 0, false},
		{1<<64 - 1, 0, 1<<64 - 1, true},
		{0, 63, 0, true},
		{1, 63, 1 << 63, true},
		{1 << 63, 63, 1 << 63, true},
		{1<<63 + 1, 63, 0, false},
		{1 << 63, 62, 1 << 63, true},
		{1<<63 + 1, 62, 3 << 62, true},
		{3<<62 + 1, 62, 0, false},
		// n below 0 counts as 0, n above 63 as 63.
		{5, -1, 5, true},
		{1<<64 - 1, -64, 1<<64 - 1, true},
		{5, math.MinInt, 5, true},
		{0, 64, 0, true},
		{1, 64, 1 << 63, true},
		{1<<63 + 1, 64, 0, false},
		{1, 1 << 32, 1 << 63, true},
		{1, math.MaxInt, 1 << 63, true},
		{1<<64 - 1, math.MaxInt, 0, false},
	} {
		if a, ok := cast.Align(x.v, x.n); a != x.want || ok != x.ok {
			t.Errorf("Align(%d, %d): %d, %v, want %d", x.v, x.n, a, ok, x.want)
		}
	}
}

// P2.1: Align at all n.
func TestAlignAll(t *testing.T) {
	for _, n := range widths() {
		step := power(min(max(n, 0), 63))
		for _, v := range nearUnsigned() {
			want := times(step, down(plus(unsigned(v), minus(step, big.NewInt(1))), step))
			fits := want.Cmp(power(64)) < 0
			if !fits {
				want = big.NewInt(0)
			}
			if a, ok := cast.Align(v, n); ok != fits || !same(unsigned(a), want) {
				t.Fatalf("Align(%d, %d): %d, %v, want %d, %v", v, n, a, ok, want, fits)
			}
		}
	}
}

// P2.1: Between, by hand: inside, at both ends, outside, and from greater than to.
func TestBetweenExamples(t *testing.T) {
	for _, x := range []struct{ v, from, to, want int64 }{
		{2, 1, 3, 2},
		{1, 1, 3, 1},
		{3, 1, 3, 3},
		{0, 1, 3, 1},
		{4, 1, 3, 3},
		{5, 3, 1, 3},
		{2, 3, 1, 2},
		{0, 3, 1, 1},
		{7, 5, 5, 5},
		{3, 5, 5, 5},
		{5, 5, 5, 5},
		{-9, -3, -5, -5},
		{9, -3, -5, -3},
		{math.MinInt64, 0, math.MaxInt64, 0},
		{math.MaxInt64, 0, math.MinInt64, 0},
		{math.MinInt64, math.MaxInt64, math.MinInt64, math.MinInt64},
		{math.MaxInt64, math.MaxInt64, math.MinInt64, math.MaxInt64},
		{0, math.MinInt64, math.MinInt64, math.MinInt64},
		{0, math.MaxInt64, math.MaxInt64, math.MaxInt64},
	} {
		if b := cast.Between(x.v, x.from, x.to); b != x.want {
			t.Errorf("Between(%d, %d, %d): %d, want %d", x.v, x.from, x.to, b, x.want)
		}
	}
}

// P2.1: Between of all three numbers: v within, else the end with the least distance, whichever end comes first.
func TestBetweenAll(t *testing.T) {
	l := few()
	for _, v := range l {
		for _, from := range l {
			for _, to := range l {
				want := v
				if (v < from) == (v < to) && v != from && v != to {
					want = from
					if minus(signed(v), signed(to)).CmpAbs(minus(signed(v), signed(from))) < 0 {
						want = to
					}
				}
				if b := cast.Between(v, from, to); b != want {
					t.Fatalf("Between(%d, %d, %d): %d, want %d", v, from, to, b, want)
				}
			}
		}
	}
}
