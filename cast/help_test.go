package cast_test

import (
	"math"
	"math/big"
	"slices"
)

// The reference computes with numbers of any size, so that it shares no shift, mask or wrap-round with what it checks.

func signed(v int64) *big.Int { return big.NewInt(v) }

func unsigned(v uint64) *big.Int { return new(big.Int).SetUint64(v) }

// power is 2^n.
func power(n int) *big.Int { return new(big.Int).Exp(big.NewInt(2), big.NewInt(int64(n)), nil) }

func plus(a, b *big.Int) *big.Int { return new(big.Int).Add(a, b) }

func minus(a, b *big.Int) *big.Int { return new(big.Int).Sub(a, b) }

func times(a, b *big.Int) *big.Int { return new(big.Int).Mul(a, b) }

// rest is what is left of a, divided by a positive b: never negative.
func rest(a, b *big.Int) *big.Int { return new(big.Int).Mod(a, b) }

// down is a divided by a positive b, rounded down.
func down(a, b *big.Int) *big.Int { return new(big.Int).Quo(minus(a, rest(a, b)), b) }

func same(a, b *big.Int) bool { return a.Cmp(b) == 0 }

// counted is the width that n counts as.
func counted(n int) int {
	switch {
	case n < 1:
		return 1
	case n > 64:
		return 64
	}
	return n
}

// ends are the least and the greatest signed number of n bits.
func ends(n int) (least, greatest *big.Int) {
	half := power(counted(n) - 1)
	return new(big.Int).Neg(half), minus(half, big.NewInt(1))
}

// widths are all widths, the numbers beside them, and some far from them.
func widths() []int {
	l := []int{math.MinInt, math.MinInt + 1, -1 << 32, -256, -64, -63}
	for n := -3; n <= 70; n++ {
		l = append(l, n)
	}
	return append(l, 127, 128, 129, 192, 256, 1<<32, 1<<32+8, math.MaxInt-1, math.MaxInt)
}

// near are the numbers beside each power of 2 and beside its negative, and some others; they ascend.
func near() []int64 {
	s := stir(5)
	l := []int64{0, 200, -56, 1000, -1000, 1<<40 + 12345, -(1<<40 + 12345)}
	for k := range 64 {
		for d := int64(-2); d <= 2; d++ {
			l = append(l, int64(1)<<k+d, -(int64(1)<<k)+d)
		}
	}
	for i := range 60 {
		l = append(l, int64(s.next())>>i)
	}
	slices.Sort(l)
	return slices.Compact(l)
}

// nearUnsigned are the same numbers without a sign; they ascend.
func nearUnsigned() []uint64 {
	var l []uint64
	for _, v := range near() {
		l = append(l, uint64(v))
	}
	slices.Sort(l)
	return l
}

// few are numbers of near, few enough to take each with each.
func few() []int64 {
	l := []int64{math.MinInt64, math.MinInt64 + 1, math.MinInt64 + 2, math.MaxInt64 - 2, math.MaxInt64 - 1, math.MaxInt64}
	for v := int64(-6); v <= 6; v++ {
		l = append(l, v)
	}
	for i, v := range near() {
		if i%9 == 0 {
			l = append(l, v)
		}
	}
	slices.Sort(l)
	return slices.Compact(l)
}

// stir is a row of numbers without a plain pattern, the same in each run.
type stir uint64

func (s *stir) next() uint64 {
	*s = *s*6364136223846793005 + 1442695040888963407
	x := uint64(*s)
	return x ^ x>>29 ^ x<<17
}
