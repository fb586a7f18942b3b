package message_test

import (
	"bytes"
	"fmt"
	"math"
	"slices"
	"strings"
	"testing"

	"rotulet/api"
	"rotulet/cell"
	"rotulet/layout"
	"rotulet/message"
)

const none = uint64(api.None)

func place(r api.Role, n int) api.Place { return api.Place{Role: r, Number: n} }

func unit(n int) api.Place { return place(api.Unit, n) }

func client(n int) api.Place { return place(api.Client, n) }

func ballot(round, client int) api.Ballot { return api.Ballot{Round: round, Client: client} }

func back(stream int, a, b uint64) api.Back {
	return api.Back{Stream: stream, Last: [2]uint64{a, b}}
}

// backs are Backs of the streams from one on, each with other addresses.
func backs(from, to int) []api.Back {
	l := []api.Back{}
	for s := from; s <= to; s++ {
		l = append(l, back(s, uint64(40+s), uint64(s)))
	}
	return l
}

func junk() api.Cell { return api.Cell{Kind: api.Junk} }

func data(text string, backs ...api.Back) api.Cell {
	return api.Cell{Kind: api.Data, Data: []byte(text), Backs: backs}
}

// largestCell is the cell with the longest encoding.
func largestCell() api.Cell {
	return data(strings.Repeat("\xff", 100), back(12, none, none), back(13, api.MaxAddress-1, none), back(14, 1, 0), back(15, api.MaxAddress-1, api.MaxAddress-2))
}

// smallLayout is a layout of one unit.
func smallLayout() api.Layout {
	return api.Layout{Epoch: 1, Segments: []api.Segment{{Chains: [][]int{{0}}}}}
}

// someLayout is a layout with two segments, and chains of different lengths.
func someLayout() api.Layout {
	return api.Layout{Epoch: 4, Sequencer: 2, Segments: []api.Segment{{Chains: [][]int{{1, 2}, {3}}}, {From: 10, Chains: [][]int{{5, 1}}}}}
}

// largestLayout is the layout with the longest encoding.
func largestLayout() api.Layout {
	l := api.Layout{Epoch: api.MaxEpoch, Sequencer: 31}
	for i, from := range []uint64{0, 1, 524288, api.MaxAddress - 1} {
		s := api.Segment{From: from}
		for c := range 4 {
			s.Chains = append(s.Chains, []int{31 - 4*c - i, 30 - 4*c - i, 29 - 4*c - i, 28 - 4*c - i})
		}
		l.Segments = append(l.Segments, s)
	}
	return l
}

// least is the valid message that has the fewest numbers that are not 0.
func least() api.Message { return api.Message{Kind: api.Write, From: unit(0), To: unit(0)} }

// given is a message with a bit of all, each number another one.
func given() api.Message {
	return api.Message{
		Kind: api.Reply, Of: api.Token, From: place(api.Sequencer, 21), To: client(2), ID: 70000, Epoch: 80001, Address: 90002, Error: 84,
		Cell: data("hey", back(3, 7, 2)), Streams: []int{1, 4}, Backs: []api.Back{back(4, 8, none), back(9, 600, 5)},
		Ballot: ballot(6000, 1), Promised: ballot(7000, 3), Layout: someLayout(),
	}
}

// largest is the message with the longest encoding.
func largest() api.Message {
	return api.Message{
		Kind: api.Reply, Of: api.Learn, From: unit(31), To: place(api.Sequencer, 31), ID: 1048575, Epoch: api.MaxEpoch, Address: api.MaxAddress, Error: 255,
		Cell: largestCell(), Streams: []int{12, 13, 14, 15}, Backs: backs(0, 15), Ballot: ballot(65535, 3), Promised: ballot(65535, 3), Layout: largestLayout(),
	}
}

// some are valid messages.
func some() []api.Message {
	l := []api.Message{least(), given(), largest()}
	for kind := api.Write; kind <= api.Learn; kind++ {
		l = append(l, api.Message{Kind: kind, From: client(int(kind) % 4), To: unit(int(kind)), ID: int(kind), Epoch: uint64(kind)})
		l = append(l, message.Answer(l[len(l)-1], api.ErrSealed))
	}
	for _, change := range []func(*api.Message){
		func(m *api.Message) { m.Cell = junk() }, func(m *api.Message) { m.Cell = data("") }, func(m *api.Message) { m.Cell = largestCell() },
		func(m *api.Message) { m.Layout = smallLayout() }, func(m *api.Message) { m.Layout = largestLayout() },
		func(m *api.Message) { m.Streams = []int{0} }, func(m *api.Message) { m.Streams = []int{3, 7, 15} },
		func(m *api.Message) { m.Backs = backs(15, 15) }, func(m *api.Message) { m.Backs = backs(0, 15) }, func(m *api.Message) { m.Backs = []api.Back{back(2, none, none)} },
		func(m *api.Message) { m.Ballot = ballot(65535, 0) }, func(m *api.Message) { m.Promised = ballot(0, 3) },
	} {
		m := least()
		change(&m)
		l = append(l, m)
	}
	return l
}

// tell writes a message as a text that is the same for nil and empty slices, and for nothing else.
func tell(m api.Message) string { return fmt.Sprintf("%+v", m) }

// alike tells whether two messages have the same fields.
func alike(a, b api.Message) bool { return tell(a) == tell(b) }

// The reference spells fields as texts of digits, so that it shares no shift or mask with what it checks.

// spell tells a number in n digits, the highest one first.
func spell(v uint64, n int) string {
	digits := make([]byte, n)
	for i := n - 1; i >= 0; i-- {
		digits[i] = '0' + byte(v%2)
		v /= 2
	}
	return string(digits)
}

// value is the number that digits tell.
func value(digits string) uint64 {
	var v uint64
	for _, d := range digits {
		v = v*2 + uint64(d-'0')
	}
	return v
}

// bytesOf are the bytes that digits tell, filled up with 0; spaces between them are for the eye.
func bytesOf(digits string) []byte {
	digits = strings.ReplaceAll(digits, " ", "")
	for len(digits)%8 != 0 {
		digits += "0"
	}
	b := []byte{}
	for i := 0; i < len(digits); i += 8 {
		b = append(b, byte(value(digits[i:i+8])))
	}
	return b
}

// digitsOf tells the bits of bytes.
func digitsOf(b []byte) string {
	var s strings.Builder
	for _, x := range b {
		s.WriteString(spell(uint64(x), 8))
	}
	return s.String()
}

// valid holds a message against the chapter's words, one word after the other.
func valid(m api.Message) bool {
	reply := m.Kind == 14
	if m.Kind <= 0 || m.Kind > 14 || reply && (m.Of <= 0 || m.Of > 13) || !reply && m.Of != 0 {
		return false
	}
	for _, p := range []api.Place{m.From, m.To} {
		most, is := map[api.Role]int{1: 31, 2: 31, 3: 2, 4: 3}[p.Role]
		if !is || p.Number < 0 || p.Number > most {
			return false
		}
	}
	if m.ID < 0 || m.ID > 1048575 || m.Epoch > 1048576 || m.Address > 1048576 || m.Error < 0 || m.Error > 255 {
		return false
	}
	for _, b := range []api.Ballot{m.Ballot, m.Promised} {
		if b.Round < 0 || b.Round > 65535 || b.Client < 0 || b.Client > 3 {
			return false
		}
	}
	emptyCell := m.Cell.Kind == 0 && len(m.Cell.Data) == 0 && len(m.Cell.Backs) == 0
	emptyLayout := m.Layout.Epoch == 0 && m.Layout.Sequencer == 0 && len(m.Layout.Segments) == 0
	return validStreams(m.Streams) && validBacks(m.Backs) && (emptyCell || cell.Right(m.Cell)) && (emptyLayout || layout.Right(m.Layout))
}

// validStreams holds streams against the chapter's words.
func validStreams(l []int) bool {
	for i, s := range l {
		if i == 4 || s < 0 || s > 15 || i > 0 && s <= l[i-1] {
			return false
		}
	}
	return true
}

// validBacks holds Backs against the words of chapter 7; of the addresses of a Back it names the three forms that there are.
func validBacks(l []api.Back) bool {
	for i, b := range l {
		if i == 16 || b.Stream < 0 || b.Stream > 15 || i > 0 && b.Stream <= l[i-1].Stream {
			return false
		}
		x, y := b.Last[0], b.Last[1]
		neither, one, both := x == none && y == none, x < 1048576 && y == none, x < 1048576 && y < x
		if !neither && !one && !both {
			return false
		}
	}
	return true
}

// parts are the digits of a valid message, field by field.
func parts(m api.Message) []string {
	l := []string{
		spell(uint64(m.Kind), 4), spell(uint64(m.Of), 4),
		spell(uint64(m.From.Role), 3), spell(uint64(m.From.Number), 5), spell(uint64(m.To.Role), 3), spell(uint64(m.To.Number), 5),
		spell(uint64(m.ID), 20), spell(m.Epoch, 21), spell(m.Address, 21), spell(uint64(m.Error), 8),
		spell(uint64(m.Ballot.Round), 16), spell(uint64(m.Ballot.Client), 2), spell(uint64(m.Promised.Round), 16), spell(uint64(m.Promised.Client), 2),
	}
	streams := spell(uint64(len(m.Streams)), 3)
	for _, s := range m.Streams {
		streams += spell(uint64(s), 4)
	}
	last := spell(uint64(len(m.Backs)), 5)
	for _, b := range m.Backs {
		last += spellBack(b)
	}
	content, plan := []byte{}, []byte{}
	if m.Cell.Kind != 0 {
		content, _ = cell.Encode(m.Cell)
	}
	if m.Layout.Epoch != 0 {
		plan, _ = layout.Encode(m.Layout)
	}
	return append(l, streams, last, spellBytes(content), spellBytes(plan))
}

// spellBack tells a Back.
func spellBack(b api.Back) string {
	digits := spell(uint64(b.Stream), 4)
	for _, a := range b.Last {
		if a == none {
			a = 1048576
		}
		digits += spell(a, 21)
	}
	return digits
}

// spellBytes tells how many bytes there are, and each of them.
func spellBytes(b []byte) string { return spell(uint64(len(b)), 8) + digitsOf(b) }

// The fields that parts tells, by their place in the list.
const (
	kindAt = iota
	ofAt
	fromRoleAt
	fromNumberAt
	toRoleAt
	toNumberAt
	idAt
	epochAt
	addressAt
	errorAt
	roundAt
	clientAt
	promisedRoundAt
	promisedClientAt
	streamsAt
	backsAt
	cellAt
	layoutAt
)

// digits are those of a valid message's encoding, without padding.
func digits(m api.Message) string { return strings.Join(parts(m), "") }

// spelled is the encoding of a valid message.
func spelled(m api.Message) []byte { return bytesOf(digits(m)) }

// read is the valid message that bytes stand for; false if there is none.
func read(b []byte) (api.Message, bool) {
	digits, short := digitsOf(b), false
	take := func(n int) uint64 {
		if n > len(digits) {
			digits, short = "", true
			return 0
		}
		v := value(digits[:n])
		digits = digits[n:]
		return v
	}
	number := func(n int) int { return int(take(n)) }
	var m api.Message
	m.Kind, m.Of = api.MessageKind(number(4)), api.MessageKind(number(4))
	m.From.Role, m.From.Number = api.Role(number(3)), number(5)
	m.To.Role, m.To.Number = api.Role(number(3)), number(5)
	m.ID, m.Epoch, m.Address, m.Error = number(20), take(21), take(21), api.Errno(number(8))
	m.Ballot.Round, m.Ballot.Client = number(16), number(2)
	m.Promised.Round, m.Promised.Client = number(16), number(2)
	for range take(3) {
		m.Streams = append(m.Streams, number(4))
	}
	for range take(5) {
		x := back(number(4), take(21), take(21))
		for i, a := range x.Last {
			if a == 1048576 {
				x.Last[i] = none
			}
		}
		m.Backs = append(m.Backs, x)
	}
	list := func() []byte {
		l := []byte{}
		for range take(8) {
			l = append(l, byte(take(8)))
		}
		return l
	}
	is := true
	if l := list(); len(l) > 0 {
		c, e := cell.Decode(l)
		m.Cell, is = c, is && e == api.OK
	}
	if l := list(); len(l) > 0 {
		x, e := layout.Decode(l)
		m.Layout, is = x, is && e == api.OK
	}
	return m, is && !short && len(digits) < 8 && !strings.Contains(digits, "1") && valid(m)
}

// holds has a message checked, encoded and, if it is valid, decoded, and holds all that against the reference.
func holds(t *testing.T, what string, m api.Message) {
	t.Helper()
	want := valid(m)
	if got := message.Right(m); got != want {
		t.Fatalf("%s: Right(%s): %v, want %v", what, tell(m), got, want)
	}
	b, e := message.Encode(m)
	if !want {
		if e != api.ErrMessage || len(b) != 0 {
			t.Fatalf("%s: Encode(%s): %x, %d, want ErrMessage", what, tell(m), b, e)
		}
		return
	}
	if e != api.OK || !bytes.Equal(b, spelled(m)) {
		t.Fatalf("%s: Encode(%s): %x, %d, want %x", what, tell(m), b, e, spelled(m))
	}
	if x, e := message.Decode(b); e != api.OK || !alike(x, m) {
		t.Fatalf("%s: Decode(%x): %s, %d, want %s", what, b, tell(x), e, tell(m))
	}
}

// reads has bytes decoded, and holds the message against the reference, and its encoding against the bytes.
func reads(t *testing.T, what string, b []byte) {
	t.Helper()
	want, is := read(b)
	m, e := message.Decode(b)
	if !is {
		if e != api.ErrMessage || !alike(m, api.Message{}) {
			t.Fatalf("%s: Decode(%x): %s, %d, want ErrMessage", what, b, tell(m), e)
		}
		return
	}
	if e != api.OK || !alike(m, want) || !message.Right(m) {
		t.Fatalf("%s: Decode(%x): %s, %d, want %s", what, b, tell(m), e, tell(want))
	}
	if again, e := message.Encode(m); e != api.OK || !bytes.Equal(again, b) {
		t.Fatalf("%s: Encode of what %x says: %x, %d", what, b, again, e)
	}
}

// numbers are those that any field of kind int may be tried with.
func numbers() []int {
	l := []int{
		math.MinInt, math.MinInt + 1, math.MinInt32, -256, 30, 31, 32, 33, 63, 64, 127, 128, 254, 255, 256, 257, 511, 512, 65534, 65535, 65536, 65537, 131071, 131072,
		524288, 1048574, 1048575, 1048576, 1048577, 2097151, 2097152, 1<<32 - 1, 1 << 32, 1<<32 + 1, 1<<32 + 3, math.MaxInt - 1, math.MaxInt,
	}
	for n := -18; n <= 18; n++ {
		l = append(l, n)
	}
	return l
}

// addresses are those that an Epoch, an Address or a Last may be tried with.
func addresses() []uint64 {
	l := []uint64{none, none - 1, none - 1048576, 1 << 63, 1<<63 - 1, 1<<32 + 1, 1 << 32, 1<<32 - 1, 2097152, 2097151, 524288, 524287}
	for a := range uint64(4) {
		l = append(l, a, api.MaxAddress-2+a)
	}
	return l
}

// stir is a row of numbers without a plain pattern, the same in each run.
type stir uint64

func (s *stir) next() uint64 {
	*s = *s*6364136223846793005 + 1442695040888963407
	x := uint64(*s)
	return x ^ x>>29 ^ x<<17
}

func (s *stir) below(n int) int { return int(s.next() >> 8 % uint64(n)) }

func (s *stir) text(n int) string {
	b := make([]byte, n)
	for i := range b {
		b[i] = byte(s.next() >> 20)
	}
	return string(b)
}

// backs are up to so many valid ones.
func (s *stir) backs(most int) []api.Back {
	l := []api.Back{}
	for stream := 0; stream < 16 && len(l) < most; stream++ {
		a := uint64(1 + s.below(1048575))
		switch s.below(6) {
		case 0:
			l = append(l, back(stream, none, none))
		case 1:
			l = append(l, back(stream, a, none))
		case 2, 3:
			l = append(l, back(stream, a, uint64(s.below(int(a)))))
		}
	}
	return l
}

// streams are valid ones.
func (s *stir) streams() []int {
	l := []int{}
	for stream := s.below(16); stream < 16 && len(l) < 4; stream += 1 + s.below(5) {
		l = append(l, stream)
	}
	return l
}

// place is any valid one.
func (s *stir) place() api.Place {
	role := 1 + s.below(4)
	return place(api.Role(role), s.below([]int{0, 32, 32, 3, 4}[role]))
}

// layout is any valid one, or the empty one.
func (s *stir) layout() api.Layout {
	l := api.Layout{Epoch: uint64(1 + s.below(1048576)), Sequencer: s.below(32)}
	froms := []uint64{0, uint64(1 + s.below(9)), uint64(20 + s.below(900)), uint64(1000 + s.below(1<<19))}
	for _, from := range froms[:1+s.below(4)] {
		x, u := api.Segment{From: from}, s.below(17)
		for range 1 + s.below(4) {
			c := []int{}
			for range 1 + s.below(4) {
				c = append(c, u)
				u++
			}
			x.Chains = append(x.Chains, c)
		}
		l.Segments = append(l.Segments, x)
	}
	if s.below(3) == 0 {
		return api.Layout{}
	}
	return l
}

// message is any valid one.
func (s *stir) message() api.Message {
	m := api.Message{
		Kind: api.MessageKind(1 + s.below(13)), From: s.place(), To: s.place(), ID: s.below(1 << 20), Epoch: uint64(s.below(1<<20 + 1)), Address: uint64(s.below(1<<20 + 1)),
		Error: api.Errno(s.below(256)), Streams: s.streams(), Backs: s.backs(16), Ballot: ballot(s.below(1<<16), s.below(4)), Promised: ballot(s.below(1<<16), s.below(4)), Layout: s.layout(),
	}
	if s.below(2) == 0 {
		m.Kind, m.Of = api.Reply, m.Kind
	}
	switch s.below(3) {
	case 0:
		m.Cell = junk()
	case 1:
		m.Cell = data(s.text(s.below(101)), s.backs(4)...)
	}
	return m
}

// lent is a copy of a message in which each list has memory behind its end.
func lent(m api.Message) api.Message {
	m.Streams = append(slices.Clone(m.Streams), 55, 55)[:len(m.Streams)]
	m.Backs = append(slices.Clone(m.Backs), back(-5, 1, 2))[:len(m.Backs)]
	m.Cell.Data = append(slices.Clone(m.Cell.Data), "behind"...)[:len(m.Cell.Data)]
	m.Cell.Backs = append(slices.Clone(m.Cell.Backs), back(-6, 3, 4))[:len(m.Cell.Backs)]
	segments := append(slices.Clone(m.Layout.Segments), api.Segment{From: 77})[:len(m.Layout.Segments)]
	for i, s := range segments {
		chains := append(slices.Clone(s.Chains), []int{66})[:len(s.Chains)]
		for j, c := range chains {
			chains[j] = append(slices.Clone(c), 44)[:len(c)]
		}
		segments[i].Chains = chains
	}
	m.Layout.Segments = segments
	return m
}

// behind tells what is behind the ends of the lists of a message that was lent.
func behind(m api.Message) string {
	s := fmt.Sprint(m.Streams[:len(m.Streams)+2][len(m.Streams):], m.Backs[:len(m.Backs)+1][len(m.Backs)], m.Cell.Backs[:len(m.Cell.Backs)+1][len(m.Cell.Backs)])
	s += string(m.Cell.Data[:len(m.Cell.Data)+6][len(m.Cell.Data):]) + fmt.Sprint(m.Layout.Segments[:len(m.Layout.Segments)+1][len(m.Layout.Segments)])
	for _, x := range m.Layout.Segments {
		s += fmt.Sprint(x.Chains[:len(x.Chains)+1][len(x.Chains)])
		for _, c := range x.Chains {
			s += fmt.Sprint(c[:len(c)+1][len(c)])
		}
	}
	return s
}

// kept holds a message that was lent against what it was, behind the ends as well.
func kept(t *testing.T, what string, given, was api.Message) {
	t.Helper()
	if !alike(given, was) || behind(given) != behind(lent(was)) {
		t.Fatalf("%s: the message was changed: %s, behind it %s; was %s", what, tell(given), behind(given), tell(was))
	}
}

// spoil writes over all lists of a message, and behind their ends.
func spoil(m api.Message) {
	_, _, _, _, _ = append(m.Streams, 1234), append(m.Backs, back(1, 2, 3)), append(m.Cell.Data, "more"...), append(m.Cell.Backs, back(1, 2, 3)), append(m.Layout.Segments, api.Segment{From: 1234})
	for i := range m.Streams {
		m.Streams[i] = 1234
	}
	for i := range m.Cell.Data {
		m.Cell.Data[i]++
	}
	for i := range m.Backs {
		m.Backs[i] = back(77, 78, 79)
	}
	for i := range m.Cell.Backs {
		m.Cell.Backs[i] = back(87, 88, 89)
	}
	for _, s := range m.Layout.Segments {
		_ = append(s.Chains, []int{1234})
		for _, c := range s.Chains {
			_ = append(c, 1234)
			clear(c)
		}
		clear(s.Chains)
	}
	clear(m.Layout.Segments)
}

// apart holds that no two lists of a message share memory: what is written into one, or behind its end, is there once.
func apart(t *testing.T, what string, m api.Message) {
	t.Helper()
	was := tell(m)
	for i := range m.Backs {
		old := m.Backs[i]
		cells := fmt.Sprint(m.Cell)
		m.Backs[i] = back(77, 78, 79)
		if fmt.Sprint(m.Cell) != cells {
			t.Fatalf("%s: the Backs of the message and those of its cell share memory: %s", what, was)
		}
		m.Backs[i] = old
	}
	for i, s := range m.Layout.Segments {
		for j, c := range s.Chains {
			for k := range c {
				c[k] += 1000
				if strings.Count(tell(m), fmt.Sprint(c[k])) != strings.Count(was, fmt.Sprint(c[k]))+1 {
					t.Fatalf("%s: a unit of segment %d, chain %d is there twice: %s, was %s", what, i, j, tell(m), was)
				}
				c[k] -= 1000
			}
			_ = append(c, 1234)
		}
		_ = append(s.Chains, []int{1234})
	}
	_, _, _, _, _ = append(m.Streams, 1234), append(m.Backs, back(1, 2, 3)), append(m.Cell.Data, "more"...), append(m.Cell.Backs, back(1, 2, 3)), append(m.Layout.Segments, api.Segment{From: 1234})
	if tell(m) != was {
		t.Fatalf("%s: two lists share memory: %s, was %s", what, tell(m), was)
	}
}
