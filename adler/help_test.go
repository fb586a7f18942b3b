package adler_test

import (
	"bytes"
	"math"
	"math/big"
	"testing"
)

const modulus = 65521

// The references reduce only once, at the end, and compute either as the chapter's Words say it, byte by byte, or by its formulas on numbers of any size.

// defined is the sum of some bytes by definition, going on from the halves of a sum.
func defined(sum uint32, b []byte) uint32 {
	low, high := uint64(sum%65536), uint64(sum/65536)
	for _, x := range b {
		low += uint64(x)
		high += low
	}
	return uint32(65536*(high%modulus) + low%modulus)
}

// joined is Join by its formula.
func joined(x, y uint32, n int) uint32 {
	a, b := halves(x)
	c, d := halves(y)
	less := minus(a, big.NewInt(1))
	return made(plus(c, less), plus(b, d, times(counted(n), less)))
}

// rolled is Roll by its formula.
func rolled(sum uint32, n int, out, in byte) uint32 {
	a, b := halves(sum)
	next := plus(minus(a, big.NewInt(int64(out))), big.NewInt(int64(in)))
	high := minus(b, times(counted(n), big.NewInt(int64(out))))
	return made(next, plus(minus(high, big.NewInt(1)), next))
}

func halves(sum uint32) (a, b *big.Int) {
	return big.NewInt(int64(sum % 65536)), big.NewInt(int64(sum / 65536))
}

func made(a, b *big.Int) uint32 {
	m := big.NewInt(modulus)
	low, high := new(big.Int).Mod(a, m), new(big.Int).Mod(b, m)
	return uint32(65536*high.Int64() + low.Int64())
}

// counted is n, or 0 if that is negative.
func counted(n int) *big.Int {
	if n < 0 {
		return big.NewInt(0)
	}
	return big.NewInt(int64(n))
}

func plus(l ...*big.Int) *big.Int {
	sum := new(big.Int)
	for _, x := range l {
		sum.Add(sum, x)
	}
	return sum
}

func minus(a, b *big.Int) *big.Int { return new(big.Int).Sub(a, b) }

func times(a, b *big.Int) *big.Int { return new(big.Int).Mul(a, b) }

// edgeSums are sums with halves at the edges, those that no bytes have among them.
func edgeSums() []uint32 {
	half := []uint32{0, 1, 2, 255, 256, 32768, 65519, 65520, 65521, 65522, 65534, 65535}
	var l []uint32
	for _, b := range half {
		for _, a := range half {
			l = append(l, b<<16|a)
		}
	}
	return append(l, 0x11E60398, 0x024D0127)
}

// edgeCounts are the least and the greatest n, and those beside 0 and beside the multiples of the modulus.
func edgeCounts() []int {
	l := []int{math.MinInt, math.MinInt + 1, -1 << 32, -modulus - 1, -modulus, -2, -1}
	l = append(l, 0, 1, 2, 5, 255, 65520, 65521, 65522, 65535, 65536, 2*modulus-1, 2*modulus, 2*modulus+1)
	return append(l, math.MaxInt32, 1<<31, 1<<32-1, 1<<32, 1<<62, math.MaxInt-1, math.MaxInt)
}

// mixed are n bytes without a plain pattern, the same in each run.
func mixed(n int) []byte {
	x := uint32(2463534242)
	b := make([]byte, n)
	for i := range b {
		x ^= x << 13
		x ^= x >> 17
		x ^= x << 5
		b[i] = byte(x >> 11)
	}
	return b
}

// lists are byte lists of many kinds: short ones, repetitive ones, and long ones whose halves wrap round.
func lists() [][]byte {
	l := [][]byte{nil, {}, {0}, {1}, {255}, {0, 0, 0}, []byte("abracadabra"), []byte("Wikipedia")}
	for _, n := range []int{2, 3, 16, 17, 255, 256, 257, 258, 361, 362, 363, 1000, 5552, 5553} {
		l = append(l, mixed(n), bytes.Repeat([]byte{255}, n))
	}
	for _, n := range []int{65520, 65521, 65522, 200000} {
		l = append(l, mixed(n), bytes.Repeat([]byte{255}, n), make([]byte, n))
	}
	return l
}

// begin is how a list starts, for what a failing test tells.
func begin(b []byte) []byte { return b[:min(len(b), 8)] }

func same(t *testing.T, what string, got, want uint32) {
	t.Helper()
	if got != want {
		t.Fatalf("%s: %08x, want %08x", what, got, want)
	}
}
