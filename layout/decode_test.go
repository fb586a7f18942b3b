package layout_test

import (
	"bytes"
	"strings"
	"testing"

	"rotulet/api"
	"rotulet/layout"
)

// P9.1, P9.2: no bytes at all, any byte, any two, and few bytes that are 0 or 255.
func TestEveryFewBytes(t *testing.T) {
	reads(t, "nil", nil)
	reads(t, "empty", []byte{})
	for a := range 256 {
		reads(t, "one byte", []byte{byte(a)})
		for b := range 256 {
			reads(t, "two bytes", []byte{byte(a), byte(b)})
		}
	}
	for n := range 80 {
		reads(t, "zeros", make([]byte, n))
		reads(t, "ones", bytes.Repeat([]byte{255}, n))
		reads(t, "a bit in each", bytes.Repeat([]byte{0x10}, n))
	}
}

// P9.1, wrong inputs: bytes that would be a layout that is not valid, worked out by hand.
func TestDecodeRefuses(t *testing.T) {
	epoch, from := strings.Repeat("0", 20)+"1", strings.Repeat("0", 20)
	head, unit := epoch+"00000", "00 00 00000"
	right := head + "00" + from + unit
	if l, e := layout.Decode(bytesOf(right)); e != api.OK || !alike(l, lay(1, 0, seg(0, on(0)))) {
		t.Fatalf("%s, %d", tell(l), e)
	}
	for what, digits := range map[string]string{
		"nothing":                       "",
		"epoch 0":                       strings.Repeat("0", 21) + "00000 00" + from + unit,
		"epoch MaxEpoch + 1":            "1" + strings.Repeat("0", 19) + "1 00000 00" + from + unit,
		"the greatest epoch":            strings.Repeat("1", 21) + "00000 00" + from + unit,
		"the first From is 1":           head + "00" + from[1:] + "1" + unit,
		"the first From is MaxAddress":  head + "00" + strings.Repeat("1", 20) + unit,
		"Froms are equal":               head + "01" + from + unit + from + unit,
		"Froms decrease":                head + "10" + from + unit + from[2:] + "10" + unit + from[2:] + "01" + unit,
		"a unit twice in a chain":       head + "00" + from + "00 01 00101 00101",
		"a unit in two chains":          head + "00" + from + "01 00 00101 00 00101",
		"a unit twice, later":           head + "01" + from + unit + from[1:] + "1 01 01 00101 00110 00 00110",
		"the segment is missing":        head + "00",
		"the second segment is missing": head + "01" + from + unit,
		"the chain is missing":          head + "00" + from + "00",
		"three chains are missing":      head + "00" + from + "11 00 00001",
		"the unit is missing":           head + "00" + from + "00 00",
		"three units are missing":       head + "00" + from + "00 11 00001",
		"the lowest bit behind isn't 0": right + "0000001",
		"the first bit behind isn't 0":  right + "1000000",
		"bits behind aren't 0":          right + "1111111",
		"a byte behind that is 0":       right + "0000000 00000000",
		"a byte behind":                 right + "0000000 00000001",
		"eight bytes behind":            right + "0000000" + strings.Repeat("0", 64),
		"a layout behind":               right + "0000000" + right,
	} {
		b := bytesOf(digits)
		if l, e := layout.Decode(b); e != api.ErrLayout || !alike(l, api.Layout{}) {
			t.Errorf("%s: Decode(%x): %s, %d", what, b, tell(l), e)
		}
		reads(t, what, b)
	}
}

// P9.1: 0 to 7 padding bits, each of which must be 0, and no byte more or less than is needed.
func TestPadding(t *testing.T) {
	seen := map[int]bool{}
	s := stir(92)
	for range 2000 {
		l := s.layout()
		bits := 28
		for _, x := range l.Segments {
			bits += 22
			for _, c := range x.Chains {
				bits += 2 + 5*len(c)
			}
		}
		b := spelled(l)
		seen[len(b)*8-bits] = true
		for i := bits; i < len(b)*8; i++ {
			one := bytes.Clone(b)
			one[i/8] |= 128 >> (i % 8)
			if x, e := layout.Decode(one); e != api.ErrLayout || !alike(x, api.Layout{}) {
				t.Fatalf("bit %d of %x: %s, %d", i, one, tell(x), e)
			}
		}
		for _, x := range [][]byte{b[:len(b)-1], b[1:], append(bytes.Clone(b), 0), append([]byte{0}, b...)} {
			if l, e := layout.Decode(x); e != api.ErrLayout && !bytes.Equal(x, spelled(l)) {
				t.Fatalf("%x: %s, %d", x, tell(l), e)
			}
		}
	}
	if len(seen) != 8 {
		t.Errorf("padding bits: %v", seen)
	}
}

// P9.2, wrong inputs: encodings of which one bit, or two, are turned round, and to which bytes are missing, or added.
func TestDamaged(t *testing.T) {
	for _, l := range some() {
		b := spelled(l)
		for n := range b {
			reads(t, "cut short", b[:n])
			reads(t, "the beginning is missing", b[n+1:])
		}
		for x := range 256 {
			reads(t, "a byte behind", append(bytes.Clone(b), byte(x)))
			reads(t, "a byte ahead", append([]byte{byte(x)}, b...))
		}
		step := 1 + len(b)/20
		for i := range len(b) * 8 {
			one := bytes.Clone(b)
			one[i/8] ^= 128 >> (i % 8)
			reads(t, "a bit turned round", one)
			for j := 0; j < i; j += step {
				one[j/8] ^= 128 >> (j % 8)
				reads(t, "two bits turned round", one)
				one[j/8] ^= 128 >> (j % 8)
			}
		}
	}
}

// P9.2: any fields: counts that agree with what follows, or nearly so, numbers at the edges.
func TestAnyFields(t *testing.T) {
	s := stir(93)
	right := 0
	epochs := []uint64{0, 1, 2, 9, api.MaxEpoch - 1, api.MaxEpoch, api.MaxEpoch, api.MaxEpoch + 1, 1<<21 - 1}
	padding := []string{"", "", "", "1", "00000001", "0000001"}
	for range 60000 {
		n := s.below(4)
		digits := spell(epochs[s.below(len(epochs))], 21) + spell(uint64(s.below(32)), 5) + spell(uint64(n), 2)
		from := uint64(0)
		for range n + 1 {
			digits += spell(from, 20)
			from += uint64(s.below(20))
			chains := s.below(3)
			digits += spell(uint64(chains), 2)
			for range chains + 1 {
				size := s.below(3)
				digits += spell(uint64(size), 2)
				for range size + 1 {
					digits += spell(uint64(s.below(32)), 5)
				}
			}
		}
		digits += padding[s.below(len(padding))]
		if s.below(8) == 0 {
			digits = digits[:len(digits)-s.below(12)]
		}
		b := bytesOf(digits)
		reads(t, "any fields", b)
		if _, is := read(b); is {
			right++
		}
	}
	if right < 1000 || right > 50000 {
		t.Errorf("%d of them were right", right)
	}
}

// P1: many bytes, and any bytes.
func TestAnyBytes(t *testing.T) {
	s := stir(94)
	some := func(n int) []byte {
		b := make([]byte, n)
		for i := range b {
			b[i] = byte(s.below(256))
		}
		return b
	}
	for _, n := range []int{100, 1000, 1 << 16} {
		reads(t, "many bytes", some(n))
		reads(t, "an encoding ahead", append(spelled(given()), some(n)...))
	}
	for range 20000 {
		b := some(s.below(64))
		reads(t, "any bytes", b)
		if len(b) > 6 {
			b[0], b[1], b[2], b[3], b[4], b[5] = 0, 1, 0, 0, 0, 0
			reads(t, "any bytes behind a beginning", b)
		}
	}
}

// P2, rule 4: the layout doesn't change when the bytes are changed later, nor do the bytes, or another layout, when the layout is; no two of its lists share memory.
func TestDecodeIsApart(t *testing.T) {
	for _, want := range some() {
		all := append(spelled(want), "behind the end"...)
		b := all[:len(all)-14]
		first, _ := layout.Decode(b)
		second, _ := layout.Decode(b)
		apart(t, "Decode", second)
		spoil(second)
		if !bytes.Equal(b, spelled(want)) || string(all[len(b):]) != "behind the end" || !alike(first, want) {
			t.Errorf("%s: changed with another layout: %x, %s", tell(want), all, tell(first))
		}
		for i := range b {
			b[i]++
		}
		if !alike(first, want) {
			t.Errorf("%s: the layout changed with the bytes: %s", tell(want), tell(first))
		}
	}
}

// Rule 4: memory behind the end of the bytes is not read.
func TestDecodeLeavesWhatIsBehind(t *testing.T) {
	for _, want := range some() {
		all := append(spelled(want), "behind the end"...)
		for n := range all {
			x, is := read(all[:n:n])
			l, e := layout.Decode(all[:n])
			if is != (e == api.OK) || is && !alike(l, x) {
				t.Errorf("%x: %s, %d", all[:n], tell(l), e)
			}
		}
	}
}
