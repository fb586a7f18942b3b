package bits_test

import (
	"math"
	"testing"

	"rotulet/bits"
)

// widest are all n that matter: those that are widths, and those that are limited to one.
func widest() []int {
	l := []int{math.MinInt, math.MinInt + 1, -1 << 32, -65, -64, math.MaxInt, math.MaxInt - 1, 1 << 32, 128}
	for n := -3; n <= 70; n++ {
		l = append(l, n)
	}
	return l
}

func limited(n int) int {
	if n < 0 {
		return 0
	}
	if n > 64 {
		return 64
	}
	return n
}

// P1.1 (B2): examples that were worked out by hand.
func TestExtendByHand(t *testing.T) {
	for _, x := range []struct {
		v    uint64
		n    int
		want int64
	}{
		{200, 8, -56}, {200, 9, 200}, {0xFFC8, 8, -56}, {56, 8, 56}, {1, 1, -1}, {0, 1, 0}, {2, 1, 0}, {2, 2, -2}, {3, 2, -1}, {1, 2, 1},
		{1<<63 - 1, 63, -1}, {1 << 62, 63, -1 << 62}, {1<<62 - 1, 63, 1<<62 - 1},
		{1 << 63, 64, math.MinInt64}, {1<<63 - 1, 64, math.MaxInt64}, {1<<64 - 1, 64, -1}, {1<<64 - 56, 64, -56}, {1<<64 - 56, 1000, -56},
		{1<<64 - 1, 0, 0}, {1<<64 - 1, -1, 0}, {1<<64 - 1, math.MinInt, 0}, {1<<64 - 1, math.MaxInt, -1},
	} {
		if e := bits.Extend(x.v, x.n); e != x.want {
			t.Errorf("Extend(%x, %d): %d, want %d", x.v, x.n, e, x.want)
		}
	}
}

// P1.1 (B2): each bit has its weight, the highest one a negative weight.
func TestExtendWeights(t *testing.T) {
	for _, n := range widest() {
		for _, v := range values() {
			digits := spell(v, limited(n))
			var want, weight int64 = 0, 1
			for i := len(digits) - 1; i >= 0; i-- {
				if digits[i] == '1' && i > 0 {
					want += weight
				} else if digits[i] == '1' {
					want -= weight
				}
				weight *= 2
			}
			if e := bits.Extend(v, n); e != want {
				t.Fatalf("Extend(%x, %d): %d, want %d", v, n, e, want)
			}
		}
	}
}

// P1.1 (B2): examples that were worked out by hand.
func TestReverseByHand(t *testing.T) {
	for _, x := range []struct {
		v    uint64
		n    int
		want uint64
	}{
		{0b1101, 4, 0b1011}, {0b1101, 3, 0b101}, {0b1101, 6, 0b101100}, {0xF1, 4, 8}, {0x12, 8, 0x48}, {1, 1, 1}, {2, 1, 0},
		{1, 64, 1 << 63}, {1 << 63, 64, 1}, {1, 63, 1 << 62}, {0x0123456789ABCDEF, 64, 0xF7B3D591E6A2C480}, {0x0123456789ABCDEF, 70, 0xF7B3D591E6A2C480},
		{1<<64 - 1, 0, 0}, {1<<64 - 1, -1, 0}, {1<<64 - 1, math.MinInt, 0}, {1, math.MaxInt, 1 << 63},
	} {
		if r := bits.Reverse(x.v, x.n); r != x.want {
			t.Errorf("Reverse(%x, %d): %x, want %x", x.v, x.n, r, x.want)
		}
	}
}

// P1.1 (B2), P1.2: the digits stand in the other order, and stand again as they stood when turned once more.
func TestReverseTwice(t *testing.T) {
	for _, n := range widest() {
		for _, v := range values() {
			digits := spell(v, limited(n))
			turned := ""
			for _, d := range digits {
				turned = string(d) + turned
			}
			r := bits.Reverse(v, n)
			if r != value(turned) {
				t.Fatalf("Reverse(%x, %d): %x, want %x", v, n, r, value(turned))
			}
			if back := bits.Reverse(r, n); back != value(digits) {
				t.Fatalf("Reverse(Reverse(%x, %d)): %x, want %x", v, n, back, value(digits))
			}
		}
	}
}

// P1.1 (B2): no bytes, each byte, and many bytes.
func TestCount(t *testing.T) {
	if bits.Count(nil) != 0 || bits.Count([]byte{}) != 0 {
		t.Error("Count of no bytes is not 0")
	}
	s := stir(7)
	for i := range 256 {
		b := s.bytes(i)
		b = append(b, byte(i))
		want := 0
		for _, d := range digitsOf(b) {
			want += int(d - '0')
		}
		if n := bits.Count(b); n != want {
			t.Fatalf("Count(%x): %d, want %d", b, n, want)
		}
		if n := bits.Count(b[i:]); n != i-sumOfHalves(i) {
			t.Fatalf("Count of byte %x: %d", i, n)
		}
	}
	if n := bits.Count(make([]byte, 100)); n != 0 {
		t.Errorf("Count of zeros: %d", n)
	}
}

// sumOfHalves is x/2 + x/4 + x/8 ..: x less this is how many of its bits are 1.
func sumOfHalves(x int) int {
	sum := 0
	for x /= 2; x > 0; x /= 2 {
		sum += x
	}
	return sum
}
