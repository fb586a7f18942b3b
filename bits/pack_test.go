package bits_test

import (
	"math"
	"slices"
	"testing"

	"rotulet/bits"
)

// P1.1 (B1): examples that were worked out by hand.
func TestPackByHand(t *testing.T) {
	for _, x := range []struct {
		widths []int
		v      []uint64
		want   []byte
	}{
		{nil, nil, nil},
		{[]int{}, nil, nil},
		{nil, []uint64{}, nil},
		{[]int{0}, []uint64{0}, nil},
		{[]int{0, 0, 0}, []uint64{0, 0, 0}, nil},
		{[]int{1}, []uint64{1}, []byte{0x80}},
		{[]int{8}, []uint64{0x12}, []byte{0x12}},
		{[]int{9}, []uint64{0x1FF}, []byte{0xFF, 0x80}},
		{[]int{3, 5}, []uint64{5, 6}, []byte{0xA6}},
		{[]int{4, 0, 8, 0, 4}, []uint64{1, 0, 0x23, 0, 4}, []byte{0x12, 0x34}},
		{[]int{64}, []uint64{1<<64 - 1}, slices.Repeat([]byte{0xFF}, 8)},
		{[]int{64, 64}, []uint64{1, 1 << 63}, []byte{0, 0, 0, 0, 0, 0, 0, 1, 0x80, 0, 0, 0, 0, 0, 0, 0}},
		{[]int{1, 64}, []uint64{0, 1<<64 - 1}, []byte{0x7F, 0xFF, 0xFF, 0xFF, 0xFF, 0xFF, 0xFF, 0xFF, 0x80}},
		{[]int{2, 3, 7}, []uint64{1, 4, 100}, []byte{0x66, 0x40}},
		{[]int{20, 21, 21}, []uint64{0, 0, 0}, make([]byte, 8)},
	} {
		b, ok := bits.Pack(x.widths, x.v)
		if !slices.Equal(b, x.want) || !ok {
			t.Errorf("Pack(%v, %x): %x, %v, want %x", x.widths, x.v, b, ok, x.want)
		}
		v, ok := bits.Unpack(x.widths, x.want)
		if !slices.Equal(v, x.v) || !ok {
			t.Errorf("Unpack(%v, %x): %x, %v, want %x", x.widths, x.want, v, ok, x.v)
		}
	}
}

// P1.1 (B1): one number of each width, alone and behind some bits: the greatest one fits, the next one does not.
func TestPackGreatest(t *testing.T) {
	for n := 0; n <= 64; n++ {
		most := value(spell(1<<64-1, n))
		for lead := 0; lead <= 9; lead++ {
			widths := []int{lead, n, 3}
			v := []uint64{0, most, 5}
			b, ok := bits.Pack(widths, v)
			if !slices.Equal(b, packed(widths, v)) || !ok {
				t.Fatalf("Pack(%v, %x): %x, %v", widths, v, b, ok)
			}
			if n == 64 {
				continue
			}
			for _, more := range []uint64{most + 1, most<<1 | 1, 1 << 63, 1<<64 - 1} {
				if more > most {
					packFails(t, widths, []uint64{0, more, 5})
				}
			}
		}
	}
}

func packFails(t *testing.T, widths []int, v []uint64) {
	t.Helper()
	if b, ok := bits.Pack(widths, v); len(b) != 0 || ok {
		t.Errorf("Pack(%v, %x): %x, %v", widths, v, b, ok)
	}
}

func unpackFails(t *testing.T, widths []int, b []byte) {
	t.Helper()
	if v, ok := bits.Unpack(widths, b); len(v) != 0 || ok {
		t.Errorf("Unpack(%v, %x): %x, %v", widths, b, v, ok)
	}
}

// P1.1 (B1): as many numbers as widths.
func TestPackUnevenly(t *testing.T) {
	for i := range 5 {
		for j := range 5 {
			if i != j {
				packFails(t, make([]int, i), make([]uint64, j))
				packFails(t, slices.Repeat([]int{8}, i), make([]uint64, j))
			}
		}
	}
}

// P1.1 (B1), P1: what is no width, wherever it stands, and even where the sum of all would be right.
func TestPackWrongWidths(t *testing.T) {
	for _, n := range []int{-1, -8, -64, 65, 72, 128, 1 << 32, 1 << 62, math.MinInt, math.MaxInt} {
		for i := range 3 {
			widths := []int{8, 8, 8}
			widths[i] = n
			packFails(t, widths, []uint64{0, 0, 0})
			for size := range 20 {
				unpackFails(t, widths, make([]byte, size))
			}
		}
	}
	for _, widths := range [][]int{{-1, 9}, {9, -1}, {-8, 16}, {65, -57}, {1 << 62, 1 << 62, 1 << 62, 1 << 62, 8}, {math.MaxInt, math.MaxInt, 2, 8}, {math.MinInt, math.MinInt, 8}} {
		packFails(t, widths, make([]uint64, len(widths)))
		unpackFails(t, widths, []byte{0})
		unpackFails(t, widths, []byte{0, 0})
	}
}

// P1.1 (B1): exactly these bytes: neither fewer nor more, and what fills up is 0.
func TestUnpackExactly(t *testing.T) {
	s := stir(4)
	for range 100 {
		widths, v := s.fitting(s.below(6))
		b := packed(widths, v)
		unpackFails(t, widths, append(slices.Clone(b), 0))
		unpackFails(t, widths, append(slices.Clone(b), 0xFF))
		if len(b) > 0 {
			unpackFails(t, widths, b[:len(b)-1])
			unpackFails(t, widths, nil)
		}
	}
	for total := 1; total <= 130; total++ {
		widths := slices.Repeat([]int{1}, total)
		for bit := total; bit%8 != 0; bit++ {
			b := make([]byte, (total+7)/8)
			b[bit/8] |= 0x80 >> (bit % 8)
			unpackFails(t, widths, b)
			if total <= 64 {
				unpackFails(t, []int{total}, b)
			}
		}
	}
	unpackFails(t, nil, []byte{0})
	unpackFails(t, []int{0}, []byte{0})
	unpackFails(t, []int{0, 0}, []byte{0x80})
}

// P1.1 (B1), P1.2: whatever is packed is what the reference packs, and Unpack returns it.
func TestPackUnpack(t *testing.T) {
	s := stir(5)
	for range 2000 {
		widths, v := s.fitting(s.below(12))
		keepWidths, keepV := slices.Clone(widths), slices.Clone(v)
		b, ok := bits.Pack(widths, v)
		if !ok {
			t.Fatalf("Pack(%v, %x) fails", widths, v)
		}
		equal(t, "Pack", b, packed(widths, v))
		keepB := slices.Clone(b)
		back, ok := bits.Unpack(widths, b)
		if !ok {
			t.Fatalf("Unpack(%v, %x) fails", widths, b)
		}
		equal(t, "Unpack of Pack", back, v)
		equal(t, "widths, afterwards,", widths, keepWidths)
		equal(t, "numbers, afterwards,", v, keepV)
		equal(t, "bytes, afterwards,", b, keepB)
	}
}

// P1.2: what Unpack returns is packed into exactly these bytes, and Unpack returns something wherever there is something.
func TestUnpackPack(t *testing.T) {
	s := stir(6)
	for range 2000 {
		b := s.bytes(s.below(5))
		widths := []int{}
		left := len(b) * 8
		for left > 7 || left > 0 && s.below(3) > 0 {
			n := min(left, s.below(12))
			widths = append(widths, n)
			left -= n
		}
		v, ok := bits.Unpack(widths, b)
		if fill := digitsOf(b)[len(b)*8-left:]; ok != (value(fill) == 0) {
			t.Fatalf("Unpack(%v, %x): %v, %v", widths, b, v, ok)
		}
		if !ok {
			equal(t, "numbers beside false", v, nil)
			continue
		}
		again, ok := bits.Pack(widths, v)
		if !ok {
			t.Fatalf("Pack(%v, %x) fails", widths, v)
		}
		equal(t, "Pack of Unpack", again, b)
	}
}

// P1.1 (B1): no limit to how many numbers there are.
func TestPackMany(t *testing.T) {
	widths := slices.Repeat([]int{1, 0, 64, 7}, 5000)
	v := slices.Repeat([]uint64{1, 0, 0x0123456789ABCDEF, 0x55}, 5000)
	b, ok := bits.Pack(widths, v)
	if !ok {
		t.Fatal("Pack fails")
	}
	equal(t, "Pack", b, packed(widths, v))
	back, ok := bits.Unpack(widths, b)
	if !ok {
		t.Fatal("Unpack fails")
	}
	equal(t, "Unpack", back, v)
}

// P2: the same call has the same answer, whatever was called before; and answers are new memory.
func TestPackAgain(t *testing.T) {
	widths, v := []int{5, 11, 3}, []uint64{17, 1025, 6}
	first, _ := bits.Pack(widths, v)
	want := slices.Clone(first)
	for i := range first {
		first[i] = 0xFF
	}
	bits.Pack([]int{64}, []uint64{1<<64 - 1})
	second, ok := bits.Pack(widths, v)
	if !ok {
		t.Fatal("Pack fails the second time")
	}
	equal(t, "Pack again", second, want)
	numbers, _ := bits.Unpack(widths, second)
	for i := range numbers {
		numbers[i] = 0
	}
	again, ok := bits.Unpack(widths, second)
	if !ok {
		t.Fatal("Unpack fails the second time")
	}
	equal(t, "Unpack again", again, v)
	equal(t, "numbers", v, []uint64{17, 1025, 6})
}
