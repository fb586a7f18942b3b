package acceptor_test

import (
	"encoding/binary"
	"slices"
	"strconv"
	"strings"

	"rotulet/acceptor"
	"rotulet/api"
	"rotulet/layout"
)

// act is a call of Prepare or of Accept; one that was not refused is what a record says.
type act struct {
	accept bool
	epoch  uint64
	ballot api.Ballot
	layout api.Layout
}

func prepare(epoch uint64, b api.Ballot) act { return act{epoch: epoch, ballot: b} }

func accept(epoch uint64, b api.Ballot, l api.Layout) act { return act{true, epoch, b, l} }

// name tells a call.
func (c act) name() string {
	s := "Prepare "
	if c.accept {
		s = "Accept "
	}
	return s + strconv.FormatUint(c.epoch, 10) + ", " + strconv.Itoa(c.ballot.Round) + ", " + strconv.Itoa(c.ballot.Client)
}

// rank tells where a ballot stands among all ballots.
func rank(b api.Ballot) int { return 4*b.Round + b.Client }

// The reference spells numbers as texts of digits, so that it shares nothing with what makes the records.

// spell tells a number in n digits, the highest one first.
func spell(v uint64, n int) string {
	digits := make([]byte, n)
	for i := n - 1; i >= 0; i-- {
		digits[i] = '0' + byte(v%2)
		v /= 2
	}
	return string(digits)
}

// value is the number that digits tell.
func value(digits string) uint64 {
	var v uint64
	for _, d := range digits {
		v = v*2 + uint64(d-'0')
	}
	return v
}

// bytesOf are the bytes that digits tell; spaces between them are for the eye.
func bytesOf(digits string) []byte {
	digits = strings.ReplaceAll(digits, " ", "")
	var b []byte
	for i := 0; i < len(digits); i += 8 {
		b = append(b, byte(value(digits[i:i+8])))
	}
	return b
}

// head are the bytes that a record begins with.
func head(accept bool, epoch, round, client uint64) []byte {
	first := "0"
	if accept {
		first = "1"
	}
	return bytesOf(first + spell(epoch, 21) + spell(round, 16) + spell(client, 2))
}

// bytes are those of the record that says an act.
func (c act) bytes() []byte {
	b := head(c.accept, c.epoch, uint64(c.ballot.Round), uint64(c.ballot.Client))
	if c.accept {
		encoded, _ := layout.Encode(c.layout)
		b = append(b, encoded...)
	}
	return b
}

// read is the act that a record says, whatever was promised before it; false if it says none.
func read(b []byte) (act, bool) {
	if len(b) < 5 {
		return act{}, false
	}
	var digits string
	for _, x := range b[:5] {
		digits += spell(uint64(x), 8)
	}
	c := prepare(value(digits[1:22]), api.Ballot{Round: int(value(digits[22:38])), Client: int(value(digits[38:]))})
	if c.epoch < 1 || c.epoch > 1048576 || rank(c.ballot) == 0 {
		return act{}, false
	}
	if digits[0] == '0' {
		return c, len(b) == 5
	}
	l, e := layout.Decode(b[5:])
	return accept(c.epoch, c.ballot, l), e == api.OK && l.Epoch == c.epoch
}

// model is the reference. It has all acts that were not refused, in which everything is looked up anew whenever it is asked for, and the records that are to stand on the tape.
type model struct {
	size int // bytes of a half
	half int
	tape [][]byte
	made []act
}

// state is an epoch's.
func (m *model) state(epoch uint64) acceptor.State {
	var s acceptor.State
	for _, c := range m.made {
		if c.epoch != epoch {
			continue
		}
		if rank(c.ballot) > rank(s.Promised) {
			s.Promised = c.ballot
		}
		if c.accept {
			s.Accepted, s.Layout = c.ballot, c.layout
		}
	}
	return s
}

// epochs are those of which something was heard.
func (m *model) epochs() []uint64 {
	var l []uint64
	for _, c := range m.made {
		l = append(l, c.epoch)
	}
	slices.Sort(l)
	return slices.Compact(l)
}

// fewest are the records that take the place of all.
func (m *model) fewest() [][]byte {
	var l [][]byte
	for _, epoch := range m.epochs() {
		s := m.state(epoch)
		if rank(s.Accepted) > 0 {
			l = append(l, accept(epoch, s.Accepted, s.Layout).bytes())
		}
		if rank(s.Promised) > rank(s.Accepted) {
			l = append(l, prepare(epoch, s.Promised).bytes())
		}
	}
	return l
}

// framed are the frames of records.
func framed(l [][]byte) []byte {
	var b []byte
	for _, x := range l {
		b = append(binary.BigEndian.AppendUint16(b, uint16(len(x))), x...)
	}
	return b
}

// room is how many bytes are left on the tape.
func (m *model) room() int { return m.size - len(framed(m.tape)) }

// with is the model with one more act, whatever the tape has.
func (m *model) with(c act) *model {
	return &model{size: m.size, half: m.half, tape: m.tape, made: append(slices.Clip(m.made), c)}
}

// wrong tells whether an act names what is no epoch, no ballot or no layout of the epoch.
func (c act) wrong() bool {
	b := c.ballot
	return c.epoch < 1 || c.epoch > 1048576 || b.Round < 0 || b.Round > 65535 || b.Client < 0 || b.Client > 3 || rank(b) == 0 ||
		c.accept && (!layout.Right(c.layout) || c.layout.Epoch != c.epoch)
}

// try is the result of an act.
func (m *model) try(c act) (acceptor.State, api.Errno) {
	if c.wrong() {
		return acceptor.State{}, api.ErrArg
	}
	promised := rank(m.state(c.epoch).Promised)
	if rank(c.ballot) < promised || !c.accept && rank(c.ballot) == promised {
		return m.state(c.epoch), api.ErrBallot
	}
	next := m.with(c)
	next.tape = append(slices.Clip(m.tape), c.bytes())
	if next.room() < 0 {
		next.tape, next.half = next.fewest(), 1-m.half
	}
	if next.room() < 0 {
		return acceptor.State{}, api.ErrFull
	}
	*m = *next
	return m.state(c.epoch), api.OK
}

// described is what the records of a tape describe; false if they are malformed, or one of them may not be there.
func described(size int, l [][]byte) (*model, bool) {
	m := &model{size: size, tape: l}
	for _, b := range l {
		c, ok := read(b)
		if !ok || rank(c.ballot) < rank(m.state(c.epoch).Promised) {
			return nil, false
		}
		m.made = append(m.made, c)
	}
	return m, true
}
