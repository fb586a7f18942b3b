package cell_test

import (
	"bytes"
	"strings"
	"testing"

	"rotulet/api"
	"rotulet/cell"
)

// P7.1, P7.2: no bytes at all, any byte, any two, and any two with one of some behind.
func TestEveryFewBytes(t *testing.T) {
	reads(t, "nil", nil)
	reads(t, "empty", []byte{})
	for a := range 256 {
		reads(t, "one byte", []byte{byte(a)})
		for b := range 256 {
			reads(t, "two bytes", []byte{byte(a), byte(b)})
			for _, c := range []byte{0, 1, 2, 0x40, 0x80, 0xff} {
				reads(t, "three bytes", []byte{byte(a), byte(b), c})
			}
		}
	}
}

// P7.1, wrong inputs, worked out by hand.
func TestDecodeRefuses(t *testing.T) {
	zero, one, two, mark := strings.Repeat("0", 21), strings.Repeat("0", 20)+"1", strings.Repeat("0", 19)+"10", "1"+strings.Repeat("0", 20)
	above, greatest := "1"+strings.Repeat("0", 19)+"1", strings.Repeat("1", 21)
	head := "01 001 0000000 "
	for what, b := range map[string][]byte{
		"nothing":                       nil,
		"0":                             {0},
		"1":                             {1},
		"3":                             {3},
		"2 with a 0 behind":             {2, 0},
		"2 with a 2 behind":             {2, 2},
		"2 behind a 0":                  {0, 2},
		"a first byte alone":            {0x40},
		"first number 0":                {0x00, 0x00},
		"first number 2":                {0x80, 0x00},
		"first number 3":                {0xc0, 0x00},
		"first number 0, a byte":        {0x00, 0x10, 'x'},
		"first number 2, a byte":        {0x80, 0x10, 'x'},
		"first number 3, a byte":        {0xc0, 0x10, 'x'},
		"first number 2, a Back":        bytesOf("10 001 0000000 0001" + two + one),
		"a byte is missing":             {0x40, 0x10},
		"a byte is missing, of three":   []byte("\x40\x30he"),
		"a byte too much":               []byte("\x40\x00x"),
		"a 0 too much":                  {0x40, 0x00, 0x00},
		"a byte too much, of three":     []byte("\x40\x30hey!"),
		"the lowest bit behind isn't 0": {0x40, 0x01},
		"the first bit behind isn't 0":  {0x40, 0x08},
		"bits behind, a byte":           {0x40, 0x11, 'x'},
		"101 bytes":                     append([]byte{0x46, 0x50}, strings.Repeat("x", 101)...),
		"127 bytes":                     append([]byte{0x47, 0xf0}, strings.Repeat("x", 127)...),
		"127 bytes, none there":         {0x47, 0xf0},
		"the Back is missing":           bytesOf(head),
		"half of the Back is missing":   bytesOf(head + "0001" + two),
		"its last byte is missing":      bytesOf(head + "0001" + two + one)[:7],
		"a byte behind the Back":        append(bytesOf(head+"0001"+two+one), 0),
		"bits behind the Back":          bytesOf(head + "0001" + two + one + "000001"),
		"the first one behind the Back": bytesOf(head + "0001" + two + one + "1"),
		"bits behind the Back, a byte":  append(bytesOf("01 001 0000001 0001"+two+one+"000001"), 'x'),
		"a number above the mark":       bytesOf(head + "0001" + above + one),
		"the greatest number":           bytesOf(head + "0001" + greatest + one),
		"above the mark, behind":        bytesOf(head + "0001" + two + above),
		"the greatest number, behind":   bytesOf(head + "0001" + two + greatest),
		"above the mark, behind None":   bytesOf(head + "0001" + mark + above),
		"above the mark, ahead of None": bytesOf(head + "0001" + above + mark),
		"both above the mark":           bytesOf(head + "0001" + greatest + above),
		"addresses that are equal":      bytesOf(head + "0001" + one + one),
		"both 0":                        bytesOf(head + "0001" + zero + zero),
		"addresses that increase":       bytesOf(head + "0001" + one + two),
		"an address behind a None":      bytesOf(head + "0001" + mark + one),
		"0 behind a None":               bytesOf(head + "0001" + mark + zero),
		"streams that are equal":        bytesOf("01 010 0000000 0011" + two + one + "0011" + two + one),
		"streams that decrease":         bytesOf("01 010 0000000 0100" + two + one + "0011" + two + one),
		"five Backs":                    bytesOf("01 101 0000000" + backs(5)),
		"six Backs":                     bytesOf("01 110 0000000" + backs(6)),
		"seven Backs":                   bytesOf("01 111 0000000" + backs(7)),
		"four Backs, five there":        bytesOf("01 100 0000000" + backs(5)),
		"four Backs, three there":       bytesOf("01 100 0000000" + backs(3)),
		"three Backs, four there":       bytesOf("01 011 0000000" + backs(4)),
	} {
		if c, e := cell.Decode(b); e != api.ErrCell || !alike(c, api.Cell{}) {
			t.Errorf("%s: Decode(%x): %v, %d", what, b, c, e)
		}
		reads(t, what, b)
	}
}

// backs are the digits of so many Backs, each of which is right.
func backs(n int) string {
	digits := ""
	for s := range n {
		digits += spell(uint64(s), 4) + spell(5, 21) + spell(4, 21)
	}
	return digits
}

// P7.2, wrong inputs: encodings of which one bit, or two, are turned round, and to which bytes are missing, or added.
func TestDamaged(t *testing.T) {
	for _, c := range some() {
		if !valid(c) {
			continue
		}
		b := spelled(c)
		for n := range b {
			reads(t, "cut short", b[:n])
			reads(t, "the beginning is missing", b[n+1:])
		}
		for x := range 256 {
			reads(t, "a byte behind", append(bytes.Clone(b), byte(x)))
			reads(t, "a byte ahead", append([]byte{byte(x)}, b...))
		}
		bits := min(len(b), 30) * 8
		for i := range bits {
			one := bytes.Clone(b)
			one[i/8] ^= 128 >> (i % 8)
			reads(t, "a bit turned round", one)
			for j := range i {
				one[j/8] ^= 128 >> (j % 8)
				reads(t, "two bits turned round", one)
				one[j/8] ^= 128 >> (j % 8)
			}
		}
	}
}

// P7.2: any fields: counts that agree with what follows, or nearly so, streams and numbers of 21 bits at the edges.
func TestAnyFields(t *testing.T) {
	s := stir(70)
	numbers := []uint64{0, 1, 2, 9, api.MaxAddress - 2, api.MaxAddress - 1, api.MaxAddress, api.MaxAddress, api.MaxAddress + 1, 1<<21 - 1}
	padding := []string{"", "", "", "1", "00000001", "0000001"}
	right := 0
	for range 100000 {
		n, size, number := s.below(8), s.below(128), uint64(1)
		if s.below(3) > 0 {
			n = s.below(3)
		}
		if s.below(8) == 0 {
			number = uint64(s.below(4))
		}
		digits := spell(number, 2) + spell(uint64(n), 3) + spell(uint64(size), 7)
		for range n {
			digits += spell(uint64(s.below(16)), 4) + spell(numbers[s.below(len(numbers))], 21) + spell(numbers[s.below(len(numbers))], 21)
		}
		digits += padding[s.below(len(padding))]
		if s.below(8) == 0 {
			size = max(0, size+s.below(3)-1)
		}
		b := append(bytesOf(digits), s.text(size)...)
		reads(t, "any fields", b)
		if _, is := read(b); is {
			right++
		}
	}
	if right < 1000 {
		t.Errorf("only %d of them were right", right)
	}
}

// P1: many bytes, and any bytes.
func TestAnyBytes(t *testing.T) {
	s := stir(71)
	for _, n := range []int{129, 200, 256, 1000, 1 << 16} {
		for _, first := range []byte{0, 2, 0x40, 0x48, 0x67, 0x7f, 0xff} {
			reads(t, "many bytes", append([]byte{first}, s.text(n)...))
		}
	}
	for range 20000 {
		reads(t, "any bytes", []byte(s.text(s.below(140))))
	}
}

// P2, rule 4: the cell doesn't change when the bytes are changed later, nor do the bytes, or another cell, when the cell is; the same bytes are the same cell again.
func TestDecodeIsApart(t *testing.T) {
	for _, want := range some() {
		if !valid(want) {
			continue
		}
		was := spelled(want)
		b := bytes.Clone(was)
		first, _ := cell.Decode(b)
		second, _ := cell.Decode(b)
		if !bytes.Equal(b, was) || !alike(second, want) {
			t.Fatalf("%x: Decode changed its argument: %x, or: %v, want %v", was, b, second, want)
		}
		for i := range second.Data {
			second.Data[i]++
		}
		for i := range second.Backs {
			second.Backs[i] = api.Back{Stream: 11}
		}
		second.Data, second.Backs = append(second.Data, "more"...), append(second.Backs, api.Back{})
		if !bytes.Equal(b, was) || !alike(first, want) {
			t.Errorf("%x: changed with another cell: %x, %v", was, b, first)
		}
		for i := range b {
			b[i]++
		}
		if !alike(first, want) {
			t.Errorf("%x: the cell changed with the bytes: %v, want %v", was, first, want)
		}
	}
}

// Rule 4: memory behind the end of the bytes is neither read nor written.
func TestDecodeLeavesWhatIsBehind(t *testing.T) {
	for _, want := range some() {
		if !valid(want) {
			continue
		}
		all := append(spelled(want), "behind the end"...)
		n := len(all) - 14
		for size := range n + 1 {
			c, e := cell.Decode(all[:size])
			x, is := read(all[:size:size])
			if is != (e == api.OK) || is && !alike(c, x) {
				t.Errorf("%x: %v, %d", all[:size], c, e)
			}
			c.Data, c.Backs = append(c.Data, "more"...), append(c.Backs, api.Back{})
			if string(all[n:]) != "behind the end" || !bytes.Equal(all[:n], spelled(want)) {
				t.Fatalf("%v: written behind the end: %q", want, all)
			}
		}
	}
}
