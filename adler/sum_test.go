package adler_test

import (
	"bytes"
	"fmt"
	"hash/adler32"
	"math"
	"testing"

	"rotulet/adler"
)

// P3.1 (R1): sums that were worked out by hand, and the document's example.
func TestSumByHand(t *testing.T) {
	for s, want := range map[string]uint32{
		"":             1,
		"\x00":         0x00010001,
		"\x00\x00":     0x00020001,
		"\x01":         0x00020002,
		"\xFF":         0x01000100,
		"\xFF\xFF":     0x02FF01FF,
		"a":            0x00620062,
		"abc":          0x024D0127,
		"Wikipedia":    0x11E60398,
		"\x01\x02\x03": 0x000D0007,
	} {
		same(t, fmt.Sprintf("Sum(%q)", s), adler.Sum([]byte(s)), want)
	}
	same(t, "Sum(nil)", adler.Sum(nil), 1)
}

// P3.1 (R1): a and b wrap round at the modulus, not at the next power of 2.
func TestSumWraps(t *testing.T) {
	// 257 bytes of 255 are 65535, 1 more is 65536: a is that less the modulus.
	same(t, "low half", adler.Sum(bytes.Repeat([]byte{255}, 257))%65536, 15)
	// a is 1 all along, so b is the number of the bytes.
	for n, want := range map[int]uint32{65520: 65520<<16 | 1, 65521: 1, 65522: 1<<16 | 1, 65536: 15<<16 | 1, 131042: 1} {
		same(t, fmt.Sprintf("%d zero bytes", n), adler.Sum(make([]byte, n)), want)
	}
	// 65520 of 1 make a 65521, which is 0.
	same(t, "65520 bytes of 1", adler.Sum(bytes.Repeat([]byte{1}, 65520))%65536, 0)
}

// P3.1 (R1): lists of all kinds, against the definition, and against the library's sum.
func TestSumOfLists(t *testing.T) {
	for _, b := range lists() {
		what := fmt.Sprintf("Sum of %d bytes, %x..", len(b), begin(b))
		same(t, what, adler.Sum(b), defined(1, b))
		same(t, what, adler.Sum(b), adler32.Checksum(b))
	}
}

// P3.1 (R1): More goes on from any halves; with no bytes it still reduces them.
func TestMoreByHand(t *testing.T) {
	for _, x := range []struct {
		sum  uint32
		b    string
		want uint32
	}{
		{1, "", 1},
		{1, "a", 0x00620062},
		{0x00620062, "bc", 0x024D0127},
		{0, "", 0},
		{0, "\x05", 0x00050005},
		{65520<<16 | 65520, "", 65520<<16 | 65520},
		{65520<<16 | 65520, "\x01", 65520 << 16},
		{65520<<16 | 65520, "\x00", 65519<<16 | 65520},
		{65521, "", 0},
		{65521 << 16, "", 0},
		{65522<<16 | 65523, "", 1<<16 | 2},
		{65522<<16 | 65523, "\x03", 6<<16 | 5},
		{0xFFFFFFFF, "", 14<<16 | 14},
		{0xFFFFFFFF, "\xFF", 283<<16 | 269},
	} {
		same(t, fmt.Sprintf("More(%08x, %x)", x.sum, x.b), adler.More(x.sum, []byte(x.b)), x.want)
	}
}

// P3.1 (R1): More from sums at the edges, those that no bytes have too.
func TestMoreFromEdges(t *testing.T) {
	for _, sum := range edgeSums() {
		for _, b := range [][]byte{nil, {0}, {1}, {14}, {255}, {255, 255}, mixed(40), mixed(3000), bytes.Repeat([]byte{255}, 600)} {
			same(t, fmt.Sprintf("More(%08x, %d bytes, %x..)", sum, len(b), begin(b)), adler.More(sum, b), defined(sum, b))
		}
	}
}

// P3.1 (R1): Join, by hand.
func TestJoinByHand(t *testing.T) {
	for _, x := range []struct {
		x, y uint32
		n    int
		want uint32
	}{
		{1, 1, 0, 1},
		{7, 1, 0, 7},
		{0x00620062, 1, 0, 0x00620062},
		{1, 0x00620062, 1, 0x00620062},
		{0x00620062, 0x012900C6, 2, 0x024D0127},
		{0, 0, 0, 65520},
		{0, 0, 1, 65520<<16 | 65520},
		{0, 0, 2, 65519<<16 | 65520},
		{2, 1, 65521, 2},
		{2, 1, 65522, 1<<16 | 2},
		{2, 1, -1, 2},
		{2, 1, math.MinInt, 2},
		{2, 1, math.MaxInt, 58072<<16 | 2},
		{0xFFFFFFFF, 0xFFFFFFFF, 0, 28<<16 | 27},
		{0xFFFFFFFF, 0xFFFFFFFF, 1, 41<<16 | 27},
	} {
		same(t, fmt.Sprintf("Join(%08x, %08x, %d)", x.x, x.y, x.n), adler.Join(x.x, x.y, x.n), x.want)
	}
}

// P3.1 (R1): Join of sums at the edges, each with each, with all n at the edges.
func TestJoinEdges(t *testing.T) {
	for _, x := range edgeSums() {
		for _, y := range edgeSums() {
			for _, n := range edgeCounts() {
				same(t, fmt.Sprintf("Join(%08x, %08x, %d)", x, y, n), adler.Join(x, y, n), joined(x, y, n))
			}
		}
	}
}

// P3.1 (R1): Roll, by hand.
func TestRollByHand(t *testing.T) {
	for _, x := range []struct {
		sum     uint32
		n       int
		out, in byte
		want    uint32
	}{
		{0x00620062, 1, 'a', 'b', 0x00630063},
		{adler.Sum([]byte("abc")), 3, 'a', 'd', adler.Sum([]byte("bcd"))},
		{adler.Sum([]byte{255, 0}), 2, 255, 255, adler.Sum([]byte{0, 255})},
		{1, 0, 9, 9, 1},
		{1, 0, 0, 0, 1},
		{1, -5, 9, 9, 1},
		{1, math.MinInt, 9, 9, 1},
		{1, 0, 3, 5, 2<<16 | 3},
		{1, 0, 5, 3, 65519<<16 | 65520},
		{0, 1, 1, 0, 65518<<16 | 65520},
		{65521<<16 | 65521, 1, 1, 0, 65518<<16 | 65520},
		{0xFFFFFFFF, 2, 1, 3, 27<<16 | 16},
		{1, 65521, 200, 200, 1},
		{1, 65522, 200, 200, 65321<<16 | 1},
		{1, math.MaxInt, 0, 0, 1},
	} {
		same(t, fmt.Sprintf("Roll(%08x, %d, %d, %d)", x.sum, x.n, x.out, x.in), adler.Roll(x.sum, x.n, x.out, x.in), x.want)
	}
}

// P3.1 (R1): Roll of sums at the edges, with all n at the edges.
func TestRollEdges(t *testing.T) {
	some := []byte{0, 1, 14, 128, 254, 255}
	for _, sum := range edgeSums() {
		for _, n := range edgeCounts() {
			for _, out := range some {
				for _, in := range some {
					same(t, fmt.Sprintf("Roll(%08x, %d, %d, %d)", sum, n, out, in), adler.Roll(sum, n, out, in), rolled(sum, n, out, in))
				}
			}
		}
	}
}

// P3.2: wherever a list is cut, More and Join make the whole's sum.
func TestTwoPieces(t *testing.T) {
	for _, b := range lists() {
		whole := adler.Sum(b)
		for at := 0; at <= len(b); at += 1 + len(b)/50 {
			front, back := b[:at], b[at:]
			what := fmt.Sprintf("%d bytes, %x.., cut at %d", len(b), begin(b), at)
			same(t, what+": More", adler.More(adler.Sum(front), back), whole)
			same(t, what+": Join", adler.Join(adler.Sum(front), adler.Sum(back), len(back)), whole)
		}
	}
}

// P3.2: many pieces of all sizes, empty ones among them, joined from the front and from the back.
func TestManyPieces(t *testing.T) {
	b := mixed(150000)
	pieces := cut(b)
	more, front := adler.Sum(nil), adler.Sum(nil)
	for _, p := range pieces {
		more = adler.More(more, p)
		front = adler.Join(front, adler.Sum(p), len(p))
	}
	back, n := adler.Sum(nil), 0
	for i := len(pieces) - 1; i >= 0; i-- {
		back = adler.Join(adler.Sum(pieces[i]), back, n)
		n += len(pieces[i])
	}
	whole := adler32.Checksum(b)
	same(t, "Sum", adler.Sum(b), whole)
	same(t, "More", more, whole)
	same(t, "Join from the front", front, whole)
	same(t, "Join from the back", back, whole)
}

// cut are pieces of b: of 0 bytes, 1 byte and so on, and the rest.
func cut(b []byte) [][]byte {
	var l [][]byte
	for n := 0; n < len(b); n++ {
		l = append(l, b[:n])
		b = b[n:]
	}
	return append(l, b)
}

// P3.2: the pieces' lengths are at and beside the modulus, so that n wraps round.
func TestLongSecondPiece(t *testing.T) {
	for _, n := range []int{65520, 65521, 65522, 131041, 131042, 131043} {
		b := mixed(77 + n)
		same(t, fmt.Sprintf("%d bytes behind", n), adler.Join(adler.Sum(b[:77]), adler.Sum(b[77:]), n), adler32.Checksum(b))
	}
}

// P3.3: a short list, with each byte made each other one.
func TestOneByteOfShort(t *testing.T) {
	for _, b := range [][]byte{{0}, {255}, make([]byte, 20), bytes.Repeat([]byte{255}, 20), mixed(33), mixed(300)} {
		for at := range b {
			differ(t, b, at, 1)
		}
	}
}

// P3.3: a long list; the byte that is 65521 from the end adds nothing to b, so that a alone tells it.
func TestOneByteOfLong(t *testing.T) {
	b := mixed(2*modulus + 10)
	for _, at := range []int{0, 9, 10, 11, modulus + 9, modulus + 10, modulus + 11, len(b) - 2, len(b) - 1} {
		differ(t, b, at, 23)
	}
}

// differ makes one byte other ones, and tells whether the sum stays.
func differ(t *testing.T, b []byte, at, step int) {
	t.Helper()
	sum := adler.Sum(b)
	other := bytes.Clone(b)
	for add := 1; add < 256; add += step {
		other[at] = b[at] + byte(add)
		if adler.Sum(other) == sum {
			t.Fatalf("%d bytes, %x..: at %d, %d and %d have the same sum %08x", len(b), begin(b), at, b[at], other[at], sum)
		}
	}
}
