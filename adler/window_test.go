package adler_test

import (
	"bytes"
	"fmt"
	"hash/adler32"
	"math"
	"slices"
	"testing"

	"rotulet/adler"
)

// P3.1 (R2): Windows, by hand.
func TestWindowsByHand(t *testing.T) {
	for _, x := range []struct {
		b    string
		n    int
		want []uint32
	}{
		{"", 0, []uint32{1}},
		{"", 1, nil},
		{"", -1, nil},
		{"a", 0, []uint32{1, 1}},
		{"a", 1, []uint32{0x00620062}},
		{"a", 2, nil},
		{"abc", 3, []uint32{0x024D0127}},
		{"\x00\x01\x00", 1, []uint32{0x00010001, 0x00020002, 0x00010001}},
		{"\x01\x02\x03", 2, []uint32{0x00060004, 0x00090006}},
		{"\xFF\x00\xFF", 0, []uint32{1, 1, 1, 1}},
		{"abc", 4, nil},
		{"abc", math.MaxInt, nil},
		{"abc", -1, nil},
		{"abc", math.MinInt, nil},
	} {
		if l := adler.Windows([]byte(x.b), x.n); !slices.Equal(l, x.want) {
			t.Errorf("Windows(%x, %d): %08x, want %08x", x.b, x.n, l, x.want)
		}
	}
}

// P3.1 (R2), P3.4: the windows' sums are those of their bytes, for all n.
func TestWindowsAllLengths(t *testing.T) {
	for _, b := range [][]byte{nil, {7}, []byte("abracadabra"), mixed(70), bytes.Repeat([]byte{255}, 300), make([]byte, 30)} {
		for n := -2; n <= len(b)+3; n++ {
			if l, want := adler.Windows(b, n), everyWindow(b, n); !slices.Equal(l, want) {
				t.Fatalf("Windows of %d bytes, %x.., %d: %08x, want %08x", len(b), begin(b), n, l, want)
			}
		}
	}
}

// P3.1 (R2), P3.4: windows so long that n wraps round.
func TestLongWindows(t *testing.T) {
	b := mixed(2*modulus + 20)
	for _, n := range []int{65520, 65521, 65522, 2*modulus - 1, 2 * modulus, 2*modulus + 1, len(b)} {
		part := b[:min(len(b), n+20)]
		if l, want := adler.Windows(part, n), everyWindow(part, n); !slices.Equal(l, want) {
			t.Fatalf("Windows of %d bytes, %d: %08x, want %08x", len(part), n, l, want)
		}
	}
}

// everyWindow are the sums of all windows, each from its own bytes.
func everyWindow(b []byte, n int) []uint32 {
	var l []uint32
	for i := 0; n >= 0 && i+n <= len(b); i++ {
		l = append(l, adler32.Checksum(b[i:i+n]))
	}
	return l
}

// P3.4: rolling from the first window on, all n.
func TestRollAlong(t *testing.T) {
	for _, b := range [][]byte{[]byte("abracadabra"), mixed(70), bytes.Repeat([]byte{255}, 300), make([]byte, 30)} {
		for n := 0; n <= len(b); n++ {
			rollAlong(t, b, n)
		}
	}
	long := mixed(2*modulus + 20)
	for _, n := range []int{65520, 65521, 65522, 2 * modulus} {
		rollAlong(t, long[:n+20], n)
	}
}

func rollAlong(t *testing.T, b []byte, n int) {
	t.Helper()
	sum := adler32.Checksum(b[:n])
	for i := 0; i+n < len(b); i++ {
		sum = adler.Roll(sum, n, b[i], b[i+n])
		same(t, fmt.Sprintf("%d bytes, %x.., n %d, window %d", len(b), begin(b), n, i+1), sum, adler32.Checksum(b[i+1:i+1+n]))
	}
}

// P3.1 (R2): Find, by hand: the first of several windows, at both ends, and sums that no window has.
func TestFindByHand(t *testing.T) {
	text := []byte("abracadabra")
	for _, x := range []struct {
		b    []byte
		sum  uint32
		n    int
		want int
		ok   bool
	}{
		{text, adler.Sum([]byte("abra")), 4, 0, true},
		{text, adler.Sum([]byte("bra")), 3, 1, true},
		{text, adler.Sum([]byte("cada")), 4, 4, true},
		{text, adler.Sum([]byte("dabra")), 5, 6, true},
		{text, adler.Sum(text), 11, 0, true},
		{text, adler.Sum([]byte("a")), 1, 0, true},
		{text, adler.Sum([]byte("d")), 1, 6, true},
		{text, 1, 0, 0, true},
		{nil, 1, 0, 0, true},
		{text, 0, 0, 0, false},
		{nil, 0, 0, 0, false},
		{nil, 1, 1, 0, false},
		{nil, 1, -1, 0, false},
		{text, 5, 4, 0, false},
		{text, 1, 4, 0, false},
		{text, 1, 12, 0, false},
		{text, 1, -1, 0, false},
		{text, adler.Sum(text), 12, 0, false},
		{text, adler.Sum(text), math.MaxInt, 0, false},
		{text, 1, math.MinInt, 0, false},
		{text, adler.Sum([]byte("abra")), 5, 0, false},
		{text, adler.Sum([]byte("abra")), 3, 0, false},
	} {
		if i, ok := adler.Find(x.b, x.sum, x.n); i != x.want || ok != x.ok {
			t.Errorf("Find(%q, %08x, %d): %d, %v, want %d, %v", x.b, x.sum, x.n, i, ok, x.want, x.ok)
		}
	}
}

// P3.1 (R2): each half is to be the window's: not the other half alone, nor a half that is greater by the modulus.
func TestFindWholeSum(t *testing.T) {
	b := make([]byte, 6)
	b[5] = 3
	for n := range 7 {
		for i, sum := range everyWindow(b, n) {
			for _, wrong := range []uint32{sum + modulus, sum + modulus<<16, sum + modulus<<16 + modulus, sum + 1<<16, sum ^ 0x80000000, sum&0xFFFF | 99<<16, sum&0xFFFF0000 | 99} {
				if at, ok := adler.Find(b, wrong, n); at != 0 || ok {
					t.Fatalf("Find(%x, %08x, %d): %d, %v, but window %d has %08x", b, wrong, n, at, ok, i, sum)
				}
			}
		}
	}
}

// P3.1 (R2): of all windows with the sum the first one, for all n, and for sums from elsewhere.
func TestFindFirst(t *testing.T) {
	elsewhere := append(edgeSums(), everyWindow(mixed(40), 5)...)
	for _, b := range [][]byte{nil, []byte("abracadabra"), mixed(60), bytes.Repeat([]byte{1, 2, 3}, 9), make([]byte, 12)} {
		for n := -1; n <= len(b)+1; n++ {
			l := everyWindow(b, n)
			for _, sum := range append(elsewhere, l...) {
				want, right := slices.Index(l, sum), true
				if want < 0 {
					want, right = 0, false
				}
				if i, ok := adler.Find(b, sum, n); i != want || ok != right {
					t.Fatalf("Find(%x, %08x, %d): %d, %v, want %d, %v", b, sum, n, i, ok, want, right)
				}
			}
		}
	}
}

// P1: n at the edges ends without a panic, whatever the bytes.
func TestEdgeCounts(t *testing.T) {
	for _, b := range [][]byte{nil, {}, {1}, mixed(300)} {
		for _, n := range edgeCounts() {
			l := adler.Windows(b, n)
			if !slices.Equal(l, everyWindow(b, min(n, 1000))) {
				t.Fatalf("Windows of %d bytes, %d: %08x", len(b), n, l)
			}
			if _, ok := adler.Find(b, 1, n); ok != (n == 0) {
				t.Fatalf("Find in %d bytes, %d: %v", len(b), n, ok)
			}
		}
	}
}

// The arguments stay, what is behind their length is not read, and the answers share no memory.
func TestMemory(t *testing.T) {
	whole := append(mixed(40), 1, 2, 3, 4)
	b, kept := whole[:40], bytes.Clone(whole)
	if len(adler.Windows(b, 41)) != 0 {
		t.Error("a window behind the length")
	}
	if _, ok := adler.Find(b, adler32.Checksum(whole[37:42]), 5); ok {
		t.Error("found behind the length")
	}
	first, second := adler.Windows(b, 4), adler.Windows(b, 4)
	clear(first)
	if !slices.Equal(second, everyWindow(b, 4)) || !slices.Equal(adler.Windows(b, 4), second) {
		t.Error("two answers share memory")
	}
	same(t, "Sum", adler.Sum(b), adler32.Checksum(b))
	same(t, "More", adler.More(1, b), adler32.Checksum(b))
	if !bytes.Equal(whole, kept) {
		t.Errorf("the bytes were changed: %x, were %x", whole, kept)
	}
}
