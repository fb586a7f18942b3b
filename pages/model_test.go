package pages_test

import (
	"cmp"
	"encoding/binary"
	"slices"
	"strings"

	"rotulet/api"
	"rotulet/cell"
	"rotulet/runs"
)

// change is what one record says, of one of the five kinds.
type change struct {
	kind  int
	n, to uint64
	cell  api.Cell
}

func seal(epoch uint64) change { return change{kind: 1, n: epoch} }

func write(a uint64, c api.Cell) change { return change{kind: 2, n: a, cell: c} }

func trim(mark uint64) change { return change{kind: 3, n: mark} }

func trimRun(from, to uint64) change { return change{kind: 4, n: from, to: to} }

func trimOne(a uint64) change { return trimRun(a, a+1) }

func open(epoch uint64) change { return change{kind: 5, n: epoch} }

// name tells a kind.
func (c change) name() string {
	return []string{"", "Seal", "Write", "Trim", "TrimOne", "Open"}[c.kind]
}

// The reference spells numbers as texts of digits, so that it shares nothing with what makes the records.

// spell tells a number in n digits, the highest one first.
func spell(v uint64, n int) string {
	digits := make([]byte, n)
	for i := n - 1; i >= 0; i-- {
		digits[i] = '0' + byte(v%2)
		v /= 2
	}
	return string(digits)
}

// value is the number that digits tell.
func value(digits string) uint64 {
	var v uint64
	for _, d := range digits {
		v = v*2 + uint64(d-'0')
	}
	return v
}

// bytesOf are the bytes that digits tell, filled up with 0; spaces between them are for the eye.
func bytesOf(digits string) []byte {
	digits = strings.ReplaceAll(digits, " ", "")
	for len(digits)%8 != 0 {
		digits += "0"
	}
	var b []byte
	for i := 0; i < len(digits); i += 8 {
		b = append(b, byte(value(digits[i:i+8])))
	}
	return b
}

// bytes are those of the record that says a change.
func (c change) bytes() []byte {
	kind := spell(uint64(c.kind), 3)
	switch c.kind {
	case 2:
		encoded, _ := cell.Encode(c.cell)
		return append(bytesOf(kind+spell(c.n, 20)), encoded...)
	case 4:
		return bytesOf(kind + spell(c.n, 21) + spell(c.to, 21))
	default:
		return bytesOf(kind + spell(c.n, 21))
	}
}

// read is the change that a record says, whatever its numbers; false if it says none.
func read(b []byte) (change, bool) {
	var digits string
	for _, x := range b {
		digits += spell(uint64(x), 8)
	}
	switch {
	case len(digits) == 24 && (digits[:3] == "001" || digits[:3] == "011" || digits[:3] == "101"):
		return change{kind: int(value(digits[:3])), n: value(digits[3:])}, true
	case len(digits) == 48 && digits[:3] == "100" && digits[45:] == "000":
		return trimRun(value(digits[3:24]), value(digits[24:45])), true
	case len(digits) > 24 && digits[:3] == "010" && digits[23] == '0':
		c, e := cell.Decode(b[3:])
		return write(value(digits[3:23]), c), e == api.OK
	}
	return change{}, false
}

// model is the reference. It has all changes that were made, in which everything is looked up anew whenever it is asked for, and the records that are to stand on the tape.
type model struct {
	size int // bytes of a half
	half int
	tape [][]byte
	made []change
}

// last is the number that the last change of a kind set.
func (m *model) last(kind int) uint64 {
	for _, c := range slices.Backward(m.made) {
		if c.kind == kind {
			return c.n
		}
	}
	return 0
}

func (m *model) epoch() uint64  { return m.last(1) }
func (m *model) mark() uint64   { return m.last(3) }
func (m *model) opened() uint64 { return m.last(5) }

// inRun tells whether an address was trimmed otherwise than by a mark.
func (m *model) inRun(a uint64) bool {
	return slices.ContainsFunc(m.made, func(c change) bool { return c.kind == 4 && c.n <= a && a < c.to })
}

func (m *model) isTrimmed(a uint64) bool { return a < m.mark() || m.inRun(a) }

// at is the change that wrote the cell at an address, unless it is trimmed.
func (m *model) at(a uint64) (change, bool) {
	for _, c := range m.made {
		if c.kind == 2 && c.n == a && !m.isTrimmed(a) {
			return c, true
		}
	}
	return change{}, false
}

// written are all changes whose cells are there, by increasing addresses.
func (m *model) written() []change {
	var l []change
	for _, c := range m.made {
		if c.kind == 2 && !m.isTrimmed(c.n) {
			l = append(l, c)
		}
	}
	slices.SortFunc(l, func(x, y change) int { return cmp.Compare(x.n, y.n) })
	return l
}

// trimmed are the runs: between two numbers that some change names, all addresses fare alike.
func (m *model) trimmed() []runs.Run {
	cuts := []uint64{m.mark()}
	for _, c := range m.made {
		if c.kind == 4 {
			cuts = append(cuts, c.n, c.to)
		}
	}
	slices.Sort(cuts)
	var l []runs.Run
	for i, from := range cuts[:len(cuts)-1] {
		to := cuts[i+1]
		switch n := len(l); {
		case from == to || from < m.mark() || !m.inRun(from):
		case n > 0 && l[n-1].To == from:
			l[n-1].To = to
		default:
			l = append(l, runs.Run{From: from, To: to})
		}
	}
	return l
}

// tail is one above the greatest address that any change wrote or trimmed: it is written or trimmed ever since.
func (m *model) tail() uint64 {
	n := m.mark()
	for _, c := range m.made {
		switch c.kind {
		case 2:
			n = max(n, c.n+1)
		case 4:
			n = max(n, c.to)
		}
	}
	return n
}

// fewest are the records that take the place of all.
func (m *model) fewest() [][]byte {
	var l [][]byte
	for _, c := range []change{seal(m.epoch()), open(m.opened()), trim(m.mark())} {
		if c.n > 0 {
			l = append(l, c.bytes())
		}
	}
	for _, r := range m.trimmed() {
		l = append(l, trimRun(r.From, r.To).bytes())
	}
	for _, c := range m.written() {
		l = append(l, c.bytes())
	}
	return l
}

// framed are the frames of records.
func framed(l [][]byte) []byte {
	var b []byte
	for _, x := range l {
		b = append(binary.BigEndian.AppendUint16(b, uint16(len(x))), x...)
	}
	return b
}

// room is how many bytes are left on the tape.
func (m *model) room() int { return m.size - len(framed(m.tape)) }

// with is the model with one more change, whatever the tape has.
func (m *model) with(c change) *model {
	return &model{size: m.size, half: m.half, tape: m.tape, made: append(slices.Clip(m.made), c)}
}

// make makes a change that is not refused, if the tape has room.
func (m *model) make(c change) api.Errno {
	next := m.with(c)
	next.tape = append(slices.Clip(m.tape), c.bytes())
	if next.room() < 0 {
		next.tape, next.half = next.fewest(), 1-m.half
	}
	if next.room() < 0 {
		return api.ErrFull
	}
	*m = *next
	return api.OK
}

// try is the result of the call that asks for a change.
func (m *model) try(c change) api.Errno {
	_, written := m.at(c.n)
	limit := map[int]uint64{1: 1048576, 2: 1048575, 3: 1048576, 4: 1048575, 5: 1048576}[c.kind]
	switch {
	case c.n > limit || c.kind == 2 && !cell.Right(c.cell):
		return api.ErrArg
	case c.kind == 1 && c.n <= m.epoch():
		return api.ErrSealed
	case c.kind == 2 && m.isTrimmed(c.n):
		return api.ErrTrimmed
	case c.kind == 2 && written:
		return api.ErrWritten
	case c.kind == 3 && c.n <= m.mark(), c.kind == 4 && m.isTrimmed(c.n), c.kind == 5 && c.n <= m.opened():
		return api.OK
	}
	return m.make(c)
}

// described is what the records of a tape describe; false if they are malformed, or one of them may not be there.
func described(size int, l [][]byte) (*model, bool) {
	m := &model{size: size, tape: l}
	for _, b := range l {
		c, ok := read(b)
		_, written := m.at(c.n)
		switch {
		case !ok || c.kind != 2 && max(c.n, c.to) > 1048576:
			return nil, false
		case c.kind == 2 && (written || m.isTrimmed(c.n)):
			return nil, false
		case c.kind == 4 && c.n >= c.to:
			return nil, false
		case c.kind != 2 && c.kind != 4 && c.n < m.last(c.kind):
			return nil, false
		}
		m.made = append(m.made, c)
	}
	return m, true
}
