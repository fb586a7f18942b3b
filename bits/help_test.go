package bits_test

import (
	"slices"
	"strings"
	"testing"
)

// The reference works on texts of the digits 0 and 1, so that it shares no shift or mask with what it checks.

// spell tells the lowest n bits of v, the highest one first.
func spell(v uint64, n int) string {
	digits := make([]byte, n)
	for i := n - 1; i >= 0; i-- {
		digits[i] = '0' + byte(v%2)
		v /= 2
	}
	return string(digits)
}

// value is the number that digits tell.
func value(digits string) uint64 {
	var v uint64
	for _, d := range digits {
		v = v*2 + uint64(d-'0')
	}
	return v
}

// digitsOf tells the bits of bytes.
func digitsOf(b []byte) string {
	var s strings.Builder
	for _, x := range b {
		s.WriteString(spell(uint64(x), 8))
	}
	return s.String()
}

// bytesOf are the bytes that digits tell, filled up with 0.
func bytesOf(digits string) []byte {
	for len(digits)%8 != 0 {
		digits += "0"
	}
	b := []byte{}
	for i := 0; i < len(digits); i += 8 {
		b = append(b, byte(value(digits[i:i+8])))
	}
	return b
}

// stir is a row of numbers without a plain pattern, the same in each run.
type stir uint64

func (s *stir) next() uint64 {
	*s = *s*6364136223846793005 + 1442695040888963407
	x := uint64(*s)
	return x ^ x>>29 ^ x<<17
}

func (s *stir) below(n int) int { return int(s.next() % uint64(n)) }

func (s *stir) bytes(n int) []byte {
	b := make([]byte, n)
	for i := range b {
		b[i] = byte(s.next() >> 20)
	}
	return b
}

// fitting are widths, and numbers that fit them.
func (s *stir) fitting(n int) ([]int, []uint64) {
	widths := make([]int, n)
	v := make([]uint64, n)
	for i := range widths {
		widths[i] = s.below(65)
		v[i] = value(spell(s.next(), widths[i]))
	}
	return widths, v
}

// packed is what Pack should make.
func packed(widths []int, v []uint64) []byte {
	var s strings.Builder
	for i, n := range widths {
		s.WriteString(spell(v[i], n))
	}
	return bytesOf(s.String())
}

// values are numbers at the edges, and some others.
func values() []uint64 {
	s := stir(11)
	l := []uint64{0, 1, 2, 3, 5, 0x7F, 0x80, 0xFF, 0x100, 0x12345678, 1<<32 - 1, 1 << 32, 1<<63 - 1, 1 << 63, 1<<63 + 1, 1<<64 - 2, 1<<64 - 1}
	for range 20 {
		l = append(l, s.next())
	}
	return l
}

// roomy is a copy of l with more memory behind its length, and all of that memory.
func roomy[T byte | int | uint64](l []T) (part, all []T) {
	all = append(slices.Clone(l), 65, 0, 255, 1, 64, 8, 200, 3, 100)
	return all[:len(l)], all
}

func equal[T comparable](t *testing.T, what string, got, want []T) {
	t.Helper()
	if !slices.Equal(got, want) {
		t.Fatalf("%s: %v, want %v", what, got, want)
	}
}
