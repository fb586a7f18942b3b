package cell_test

import (
	"bytes"
	"math"
	"slices"
	"strings"
	"testing"

	"rotulet/api"
	"rotulet/cell"
)

const none = uint64(api.None)

func junk() api.Cell { return api.Cell{Kind: api.Junk} }

func data(text string, backs ...api.Back) api.Cell {
	return api.Cell{Kind: api.Data, Data: []byte(text), Backs: backs}
}

func back(stream int, a, b uint64) api.Back {
	return api.Back{Stream: stream, Last: [2]uint64{a, b}}
}

// The reference spells fields as texts of digits, so that it shares no shift or mask with what it checks.

// spell tells a number in n digits, the highest one first.
func spell(v uint64, n int) string {
	digits := make([]byte, n)
	for i := n - 1; i >= 0; i-- {
		digits[i] = '0' + byte(v%2)
		v /= 2
	}
	return string(digits)
}

// value is the number that digits tell.
func value(digits string) uint64 {
	var v uint64
	for _, d := range digits {
		v = v*2 + uint64(d-'0')
	}
	return v
}

// bytesOf are the bytes that digits tell, filled up with 0; spaces between them are for the eye.
func bytesOf(digits string) []byte {
	digits = strings.ReplaceAll(digits, " ", "")
	for len(digits)%8 != 0 {
		digits += "0"
	}
	b := []byte{}
	for i := 0; i < len(digits); i += 8 {
		b = append(b, byte(value(digits[i:i+8])))
	}
	return b
}

// digitsOf tells the bits of bytes.
func digitsOf(b []byte) string {
	var s strings.Builder
	for _, x := range b {
		s.WriteString(spell(uint64(x), 8))
	}
	return s.String()
}

// valid holds a cell against the chapter's words; of the addresses of a Back it names the three forms that there are.
func valid(c api.Cell) bool {
	if c.Kind == 2 {
		return len(c.Data)+len(c.Backs) == 0
	}
	if c.Kind != 1 || len(c.Data) > 100 || len(c.Backs) > 4 {
		return false
	}
	for i, b := range c.Backs {
		if b.Stream < 0 || b.Stream > 15 || i > 0 && b.Stream <= c.Backs[i-1].Stream {
			return false
		}
		x, y := b.Last[0], b.Last[1]
		neither, one, both := x == none && y == none, x < 1048576 && y == none, x < 1048576 && y < x
		if !neither && !one && !both {
			return false
		}
	}
	return true
}

// spelled is the encoding of a valid cell.
func spelled(c api.Cell) []byte {
	if c.Kind == 2 {
		return []byte{2}
	}
	digits := "01" + spell(uint64(len(c.Backs)), 3) + spell(uint64(len(c.Data)), 7)
	for _, b := range c.Backs {
		digits += spell(uint64(b.Stream), 4)
		for _, a := range b.Last {
			if a == none {
				a = 1048576
			}
			digits += spell(a, 21)
		}
	}
	return append(bytesOf(digits), c.Data...)
}

// read is the valid cell that bytes stand for; false if there is none.
func read(b []byte) (api.Cell, bool) {
	if string(b) == "\x02" {
		return junk(), true
	}
	digits, short := digitsOf(b), false
	take := func(n int) uint64 {
		if n > len(digits) {
			short = true
			return 0
		}
		v := value(digits[:n])
		digits = digits[n:]
		return v
	}
	number, backs, size := take(2), take(3), take(7)
	c := api.Cell{Kind: api.Data}
	for range backs {
		x := back(int(take(4)), take(21), take(21))
		for i, a := range x.Last {
			if a == 1048576 {
				x.Last[i] = none
			}
		}
		c.Backs = append(c.Backs, x)
	}
	padding := take(len(digits) % 8)
	c.Data = b[len(b)-len(digits)/8:]
	return c, !short && number == 1 && padding == 0 && uint64(len(c.Data)) == size && valid(c)
}

// alike tells whether two cells have the same fields.
func alike(a, b api.Cell) bool {
	return a.Kind == b.Kind && string(a.Data) == string(b.Data) && slices.Equal(a.Backs, b.Backs)
}

// holds has a cell checked, encoded and, if it is valid, decoded, and holds all that against the reference.
func holds(t *testing.T, what string, c api.Cell) {
	t.Helper()
	want := valid(c)
	if got := cell.Right(c); got != want {
		t.Fatalf("%s: Right(%v): %v, want %v", what, c, got, want)
	}
	b, e := cell.Encode(c)
	if !want {
		if e != api.ErrCell || len(b) != 0 {
			t.Fatalf("%s: Encode(%v): %x, %d, want ErrCell", what, c, b, e)
		}
		return
	}
	if e != api.OK || !bytes.Equal(b, spelled(c)) {
		t.Fatalf("%s: Encode(%v): %x, %d, want %x", what, c, b, e, spelled(c))
	}
	if x, e := cell.Decode(b); e != api.OK || !alike(x, c) {
		t.Fatalf("%s: Decode(%x): %v, %d, want %v", what, b, x, e, c)
	}
}

// reads has bytes decoded, and holds the cell against the reference, and its encoding against the bytes.
func reads(t *testing.T, what string, b []byte) {
	t.Helper()
	want, is := read(b)
	c, e := cell.Decode(b)
	if !is {
		if e != api.ErrCell || !alike(c, api.Cell{}) {
			t.Fatalf("%s: Decode(%x): %v, %d, want ErrCell", what, b, c, e)
		}
		return
	}
	if e != api.OK || !alike(c, want) || !cell.Right(c) {
		t.Fatalf("%s: Decode(%x): %v, %d, want %v", what, b, c, e, want)
	}
	if again, e := cell.Encode(c); e != api.OK || !bytes.Equal(again, b) {
		t.Fatalf("%s: Encode of what %x says: %x, %d", what, b, again, e)
	}
}

// edges are numbers that a Last may be tried with: addresses, None, and what is neither.
func edges() []uint64 {
	return []uint64{
		0, 1, 2, 3, 524287, 524288, api.MaxAddress - 2, api.MaxAddress - 1, api.MaxAddress, api.MaxAddress + 1, 2097151, 2097152,
		1<<32 - 1, 1 << 32, 1<<32 + 1, 1<<63 - 1, 1 << 63, none - 1048576, none - 1, none,
	}
}

// streams are numbers that a stream may be tried with.
func streams() []int {
	l := []int{math.MinInt, math.MinInt + 3, math.MinInt32, -16, 31, 32, 256 + 3, 1 << 32, 1<<32 + 3, math.MaxInt - 1, math.MaxInt}
	for s := -2; s <= 18; s++ {
		l = append(l, s)
	}
	return l
}

// some are cells with none to MaxStreams Backs, valid ones and others.
func some() []api.Cell {
	a, b, c, d := back(0, 9, 4), back(3, 7, none), back(9, none, none), back(15, api.MaxAddress-1, 0)
	return []api.Cell{
		junk(), data(""), data("x"), data("\x00"), data("hey", a), data("", b, c), data("hey", a, b, d), data(strings.Repeat("z", 100), a, b, c, d),
		{}, {Kind: 3}, {Kind: -1}, {Kind: api.Junk, Data: []byte("x")}, {Kind: api.Junk, Backs: []api.Back{a}}, data("hey", d, a), data("hey", b, b),
		{Backs: []api.Back{a}}, data(strings.Repeat("z", 101)), data("", back(16, 5, 4)), data("", back(2, 4, 5)),
	}
}

// stir is a row of numbers without a plain pattern, the same in each run.
type stir uint64

func (s *stir) next() uint64 {
	*s = *s*6364136223846793005 + 1442695040888963407
	x := uint64(*s)
	return x ^ x>>29 ^ x<<17
}

func (s *stir) below(n int) int { return int(s.next() >> 8 % uint64(n)) }

func (s *stir) text(n int) string {
	b := make([]byte, n)
	for i := range b {
		b[i] = byte(s.next() >> 20)
	}
	return string(b)
}

// cell is any valid data.
func (s *stir) cell() api.Cell {
	c := data(s.text(s.below(101)))
	for stream := s.below(6); stream < 16 && len(c.Backs) < 4; stream += 1 + s.below(6) {
		a := uint64(1 + s.below(1048575))
		b := uint64(s.below(int(a)))
		switch s.below(4) {
		case 0:
			b = none
		case 1:
			a, b = none, none
		}
		c.Backs = append(c.Backs, back(stream, a, b))
	}
	return c
}

// copyOf is a cell in memory of its own.
func copyOf(c api.Cell) api.Cell {
	return api.Cell{Kind: c.Kind, Data: slices.Clone(c.Data), Backs: slices.Clone(c.Backs)}
}
