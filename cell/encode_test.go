package cell_test

import (
	"bytes"
	"strings"
	"testing"

	"rotulet/api"
	"rotulet/cell"
)

// P7.1: encodings that were worked out by hand, as bytes.
func TestBytesByHand(t *testing.T) {
	full := strings.Repeat("x", 100)
	for _, x := range []struct {
		c    api.Cell
		want string
	}{
		{junk(), "\x02"},
		{data(""), "\x40\x00"},
		{data("\x00"), "\x40\x10\x00"},
		{data("hey"), "\x40\x30hey"},
		{data(full), "\x46\x40" + full},
		{data("hey", back(3, 7, 2)), "\x48\x33\x00\x00\x38\x00\x00\x80hey"},
		{data("", back(0, 1, 0)), "\x48\x00\x00\x00\x08\x00\x00\x00"},
		{data("", back(15, none, none)), "\x48\x0f\x80\x00\x04\x00\x00\x00"},
		{data("", back(15, api.MaxAddress-1, none)), "\x48\x0f\x7f\xff\xfc\x00\x00\x00"},
		{data("z", back(3, 7, 2), back(9, none, none)), "\x50\x13\x00\x00\x38\x00\x00\xa6\x00\x00\x10\x00\x00z"},
	} {
		if b, e := cell.Encode(x.c); e != api.OK || string(b) != x.want {
			t.Errorf("Encode(%v): %x, %d, want %x", x.c, b, e, x.want)
		}
		if c, e := cell.Decode([]byte(x.want)); e != api.OK || !alike(c, x.c) {
			t.Errorf("Decode(%x): %v, %d, want %v", x.want, c, e, x.c)
		}
	}
}

// P7.1: encodings that were worked out by hand, as bits, field by field: three Backs, and MaxStreams of them, whose packed bytes are filled up.
func TestBitsByHand(t *testing.T) {
	zero, least, mark, most := strings.Repeat("0", 21), strings.Repeat("0", 20)+"1", "1"+strings.Repeat("0", 20), "0"+strings.Repeat("1", 20)
	for _, x := range []struct {
		c      api.Cell
		digits string
	}{
		{data("abc", back(0, 1, 0), back(7, api.MaxAddress-1, 1), back(8, 0, none)),
			"01 011 0000011 0000" + least + zero + "0111" + most + least + "1000" + zero + mark + "00"},
		{data(strings.Repeat("abcde", 20), back(1, none, none), back(2, 1, none), back(4, api.MaxAddress-1, 0), back(15, 1, 0)),
			"01 100 1100100 0001" + mark + mark + "0010" + least + mark + "0100" + most + zero + "1111" + least + zero + "0000"},
	} {
		want := append(bytesOf(x.digits), x.c.Data...)
		if b, e := cell.Encode(x.c); e != api.OK || !bytes.Equal(b, want) {
			t.Errorf("Encode(%v): %x, %d, want %x", x.c, b, e, want)
		}
		if c, e := cell.Decode(want); e != api.OK || !alike(c, x.c) {
			t.Errorf("Decode(%x): %v, %d, want %v", want, c, e, x.c)
		}
	}
}

// P7.2: Decode inverts Encode, for cells of all kinds; cells that differ have encodings that differ.
func TestThereAndBack(t *testing.T) {
	s, of := stir(7), map[string]api.Cell{}
	for range 20000 {
		c := s.cell()
		holds(t, "any cell", c)
		b, _ := cell.Encode(c)
		if other, is := of[string(b)]; is && !alike(other, c) {
			t.Fatalf("%v and %v: both %x", other, c, b)
		}
		of[string(b)] = c
	}
}

// P7.1, P7.2: every address as a Last, with what is next to it behind.
func TestEveryAddress(t *testing.T) {
	for a := uint64(0); a < api.MaxAddress; a += 7 {
		holds(t, "alone", data("", back(1, a, none)))
		holds(t, "one less", data("", back(1, a+1, a)))
	}
}

// P2, rule 4: the bytes don't change when the cell is changed later, nor does the cell when the bytes are; the same cell has the same bytes again.
func TestEncodeIsApart(t *testing.T) {
	for _, c := range some() {
		was := copyOf(c)
		first, e := cell.Encode(c)
		want := bytes.Clone(first)
		if !alike(c, was) {
			t.Fatalf("Encode changed its argument: %v, was %v", c, was)
		}
		second, again := cell.Encode(c)
		for i := range second {
			second[i]++
		}
		if !alike(c, was) || !bytes.Equal(first, want) || again != e {
			t.Errorf("%v: changed with the bytes of another call: %v, %x", was, c, first)
		}
		for i := range c.Data {
			c.Data[i]++
		}
		for i := range c.Backs {
			c.Backs[i] = api.Back{Stream: 11}
		}
		if !bytes.Equal(first, want) {
			t.Errorf("%v: its bytes changed with it: %x, want %x", was, first, want)
		}
		if b, e := cell.Encode(was); e != again || !bytes.Equal(b, want) {
			t.Errorf("%v: %x, %d, want %x", was, b, e, want)
		}
	}
}

// Rule 4: memory behind the end of Data and Backs is neither read nor written.
func TestEncodeLeavesWhatIsBehind(t *testing.T) {
	for _, c := range some() {
		want, e := cell.Encode(c)
		roomy := copyOf(c)
		roomy.Data = append(roomy.Data, "behind the end"...)[:len(c.Data)]
		roomy.Backs = append(roomy.Backs, back(-5, 1, 2), back(6, 2, 1))[:len(c.Backs)]
		if b, f := cell.Encode(roomy); f != e || !bytes.Equal(b, want) {
			t.Errorf("%v: %x, %d, want %x, %d", c, b, f, want, e)
		}
		if cell.Right(roomy) != cell.Right(c) || !cell.Same(roomy, c) {
			t.Errorf("%v: Right or Same", c)
		}
		data, backs := roomy.Data[:len(c.Data)+14], roomy.Backs[:len(c.Backs)+2]
		if string(data[len(c.Data):]) != "behind the end" || backs[len(c.Backs)] != back(-5, 1, 2) || backs[len(c.Backs)+1] != back(6, 2, 1) {
			t.Errorf("%v: written behind the end: %q, %v", c, data, backs)
		}
	}
}
