// Package bits is layer 1: it reads and writes unsigned numbers of 0 to 64 bits in byte slices; see shared/doc/01-bits.md.
package bits

import mathbits "math/bits"

const (
	byteBits = 8
	wordBits = 64
)

// Get is the number of n bits at a bit offset; false if it does not lie within b.
func Get(b []byte, at, n int) (uint64, bool) {
	if !inside(b, at, n) {
		return 0, false
	}
	return load(b, at, n), true
}

// Put is a copy of b in which the n bits at a bit offset are the lowest ones of v; false if they do not lie within b.
func Put(b []byte, at, n int, v uint64) ([]byte, bool) {
	if !inside(b, at, n) {
		return nil, false
	}
	c := make([]byte, len(b))
	copy(c, b)
	store(c, at, n, v)
	return c, true
}

// Pack stores numbers one after the other, each with its width; false if a number does not fit its width, or a width is none.
func Pack(widths []int, v []uint64) ([]byte, bool) {
	total, ok := span(widths...)
	if !ok || len(widths) != len(v) {
		return nil, false
	}
	for i, n := range widths {
		if v[i] != lowest(v[i], n) {
			return nil, false
		}
	}
	b := make([]byte, bytesFor(total))
	at := 0
	for i, n := range widths {
		store(b, at, n, v[i])
		at += n
	}
	return b, true
}

// Unpack are the numbers of which Pack makes exactly these bytes; false if there are none.
func Unpack(widths []int, b []byte) ([]uint64, bool) {
	total, ok := span(widths...)
	// The lengths are compared ahead of all else: only then is what fills up less than a byte.
	if !ok || len(b) != bytesFor(total) || load(b, total, len(b)*byteBits-total) != 0 {
		return nil, false
	}
	v := make([]uint64, len(widths))
	at := 0
	for i, n := range widths {
		v[i] = load(b, at, n)
		at += n
	}
	return v, true
}

// Extend are the lowest n bits as a two's complement number.
func Extend(v uint64, n int) int64 {
	// The sign's bit is moved to the top; moving back as a signed number spreads it.
	spare := wordBits - limit(n)
	return int64(v<<spare) >> spare
}

// Reverse are the lowest n bits in the other order.
func Reverse(v uint64, n int) uint64 {
	return mathbits.Reverse64(v) >> (wordBits - limit(n))
}

// Count is how many bits are 1.
func Count(b []byte) int {
	ones := 0
	for _, x := range b {
		ones += mathbits.OnesCount8(x)
	}
	return ones
}

// span is how many bits numbers of these widths take together; false if one of them is no width.
func span(widths ...int) (int, bool) {
	total := 0
	for _, n := range widths {
		if n < 0 || n > wordBits {
			return 0, false
		}
		total += n
	}
	return total, true
}

// inside tells whether n is a width, and a number of n bits at a bit offset lies within b.
func inside(b []byte, at, n int) bool {
	total, ok := span(n)
	// Any at may come in, so at + total could overflow; this difference can't.
	return ok && at >= 0 && at <= len(b)*byteBits-total
}

// bytesFor is the fewest bytes that hold so many bits.
func bytesFor(total int) int {
	return (total + byteBits - 1) / byteBits
}

// lowest are the lowest n bits of v, n being a width.
func lowest(v uint64, n int) uint64 {
	return v & (1<<n - 1)
}

// limit brings any n to the nearest width.
func limit(n int) int {
	return min(max(n, 0), wordBits)
}

// load is the number of n bits at a bit offset, which lies within b.
func load(b []byte, at, n int) uint64 {
	var v uint64
	for n > 0 {
		left := byteBits - at%byteBits
		take := min(left, n)
		part := lowest(uint64(b[at/byteBits])>>(left-take), take)
		v = v<<take | part
		at += take
		n -= take
	}
	return v
}

// store makes the n bits at a bit offset, which lie within b, the lowest ones of v.
func store(b []byte, at, n int, v uint64) {
	for n > 0 {
		left := byteBits - at%byteBits
		take := min(left, n)
		mask := byte(1<<take-1) << (left - take)
		part := byte(v>>(n-take)) << (left - take)
		i := at / byteBits
		b[i] = b[i]&^mask | part&mask
		at += take
		n -= take
	}
}
