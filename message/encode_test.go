package message_test

import (
	"bytes"
	"strings"
	"testing"

	"rotulet/api"
	"rotulet/message"
)

// byHand holds a message's encoding against bytes that were worked out by hand, and what is decoded from these against the message.
func byHand(t *testing.T, m api.Message, want []byte) {
	t.Helper()
	if b, e := message.Encode(m); e != api.OK || !bytes.Equal(b, want) {
		t.Errorf("Encode(%s): %x, %d, want %x", tell(m), b, e, want)
	}
	if x, e := message.Decode(want); e != api.OK || !alike(x, m) {
		t.Errorf("Decode(%x): %s, %d, want %s", want, tell(x), e, tell(m))
	}
}

// P10.1, P10.2: encodings that were worked out by hand, as bytes.
func TestBytesByHand(t *testing.T) {
	zeros := func(n int) string { return strings.Repeat("\x00", n) }
	question := api.Message{Kind: api.Copy, From: client(3), To: unit(9), ID: 0xabcde, Epoch: 1, Address: 2, Error: 0x5a}
	answer := message.Answer(question, api.ErrSealed)
	content := least()
	content.Cell = junk()
	plan := least()
	plan.Layout = smallLayout()
	for _, x := range []struct {
		m    api.Message
		want string
	}{
		{least(), "\x10\x20\x20" + zeros(17)},
		{question, "\x80\x83\x29\xab\xcd\xe0\x00\x00\x80\x00\x09\x68" + zeros(8)},
		{answer, "\xe8\x29\x83\xab\xcd\xe0\x00\x00\x80\x00\x09\x50" + zeros(8)},
		{content, "\x10\x20\x20" + zeros(14) + "\x00\x40\x80\x00"},
		{plan, "\x10\x20\x20" + zeros(14) + "\x00\x02\x00\x00\x02" + zeros(6)},
	} {
		byHand(t, x.m, []byte(x.want))
	}
}

// P10.1, P10.2: encodings that were worked out by hand, as bits, field by field.
func TestBitsByHand(t *testing.T) {
	zero, mark := strings.Repeat("0", 21), "1"+strings.Repeat("0", 20)
	byHand(t, least(), bytesOf("0001 0000 001 00000 001 00000"+zero[1:]+zero+zero+"00000000 0000000000000000 00 0000000000000000 00 000 00000 00000000 00000000"))
	byHand(t, given(), bytesOf("1110 1001 010 10101 100 00010 00010001000101110000 000010011100010000001 000010101111110010010 01010100"+
		"0001011101110000 01 0001101101011000 11 010 0001 0100"+
		"00010 0100 000000000000000001000"+mark+"1001 000000000001001011000 000000000000000000101"+
		"00001011 01001000 00110011 00000000 00000000 00111000 00000000 00000000 10000000 01101000 01100101 01111001"+
		"00001101 00000000 00000000 00100000 10010000 00000000 00000000 01010000 10001000 00011000 00000000 00000101 00001001 01000010"))
	m := api.Message{Kind: api.Prepare, From: place(api.Client, 0), To: place(api.Server, 2), ID: 1, Epoch: api.MaxEpoch, Address: api.MaxAddress, Error: 1}
	m.Streams, m.Ballot, m.Promised = []int{0, 7, 8, 15}, ballot(65535, 3), ballot(1, 0)
	m.Backs = []api.Back{back(0, 1, 0), back(1, none, none), back(2, api.MaxAddress-1, none), back(14, 2, 1), back(15, 524288, 262144)}
	one, two := zero[1:]+"1", zero[2:]+"10"
	byHand(t, m, bytesOf("1011 0000 100 00000 011 00010 00000000000000000001"+mark+mark+"00000001"+
		"1111111111111111 11 0000000000000001 00 100 0000 0111 1000 1111"+
		"00101 0000"+one+zero+"0001"+mark+mark+"0010 0"+strings.Repeat("1", 20)+mark+"1110"+two+one+"1111 0 10000000000000000000 0 01000000000000000000"+
		"00000000 00000000"))
	m = api.Message{Kind: api.Accept, From: client(1), To: place(api.Server, 1), Layout: someLayout(), Cell: data("")}
	byHand(t, m, bytesOf("1100 0000 100 00001 011 00001"+zero[1:]+zero+zero+"00000000 0000000000000000 00 0000000000000000 00 000 00000"+
		"00000010 01000000 00000000"+
		"00001101 00000000 00000000 00100000 10010000 00000000 00000000 01010000 10001000 00011000 00000000 00000101 00001001 01000010"))
}

// P10.1: the longest encoding has 2378 bits, of which 1000 are a cell's and 472 a layout's; each field has its most.
func TestLargest(t *testing.T) {
	b, e := message.Encode(largest())
	if e != api.OK || len(b) != 298 || !bytes.Equal(b, spelled(largest())) {
		t.Errorf("%x, %d", b, e)
	}
	holds(t, "the largest", largest())
}

// P10.1: a field stands where the ones ahead of it end: with any number of streams and Backs, and any length of a cell's data.
func TestEverySize(t *testing.T) {
	for streams := range 5 {
		for n := range 17 {
			for size := 0; size <= 100; size += 20 {
				m := given()
				m.Streams = []int{2, 5, 9, 14}[:streams]
				m.Backs = backs(0, n-1)
				m.Cell = data(strings.Repeat("\xa5", size))
				holds(t, "any size", m)
			}
		}
	}
}

// P10.2: any valid message is decoded from its encoding, and no other message has it.
func TestEncodeAny(t *testing.T) {
	s := stir(101)
	known := map[string]string{}
	for range 10000 {
		m := s.message()
		holds(t, "any message", m)
		b, _ := message.Encode(m)
		if was, is := known[string(b)]; is && was != tell(m) {
			t.Fatalf("%s and %s: both are %x", was, tell(m), b)
		}
		known[string(b)] = tell(m)
	}
}

// P10.1, rule 6: nil and empty slices have the same encoding.
func TestEncodeEmpty(t *testing.T) {
	m := least()
	m.Streams, m.Backs = []int{}, []api.Back{}
	m.Cell = api.Cell{Data: []byte{}, Backs: []api.Back{}}
	m.Layout.Segments = []api.Segment{}
	byHand(t, m, spelled(least()))
	m.Cell.Kind = api.Junk
	n := least()
	n.Cell = junk()
	byHand(t, m, spelled(n))
}

// P2, rule 4: Encode changes no message; its bytes do not change with the message or with other bytes; the same message has the same bytes again.
func TestEncodeIsApart(t *testing.T) {
	for _, m := range some() {
		x := lent(m)
		first, _ := message.Encode(x)
		second, _ := message.Encode(x)
		kept(t, "Encode", x, m)
		if !bytes.Equal(first, second) {
			t.Fatalf("%s: %x, then %x", tell(m), first, second)
		}
		for i := range second {
			second[i]++
		}
		_ = append(second, "more"...)
		kept(t, "Encode, its bytes changed", x, m)
		spoil(x)
		if !bytes.Equal(first, spelled(m)) {
			t.Errorf("%s: the bytes changed: %x", tell(m), first)
		}
	}
}

// Rule 4: nor does Encode change a message that it refuses.
func TestEncodeKeepsWhatIsWrong(t *testing.T) {
	for _, m := range some() {
		m.Backs = append(backs(3, 3), backs(3, 3)...)
		x := lent(m)
		if b, e := message.Encode(x); e != api.ErrMessage || len(b) != 0 {
			t.Errorf("Encode(%s): %x, %d", tell(m), b, e)
		}
		kept(t, "Encode", x, m)
	}
}
