package unit_test

import (
	"slices"

	"rotulet/api"
	"rotulet/cell"
	"rotulet/message"
	"rotulet/runs"
)

// model is the reference: unit 5 with enough room. It has the messages that could change something, in which everything is looked up anew whenever it is asked for.
type model struct {
	made []api.Message
}

// of are the messages of a kind.
func (m *model) of(kind api.MessageKind) []api.Message {
	var l []api.Message
	for _, x := range m.made {
		if x.Kind == kind {
			l = append(l, x)
		}
	}
	return l
}

func (m *model) epoch() uint64 {
	n := uint64(0)
	for _, x := range m.of(api.Seal) {
		n = max(n, x.Epoch)
	}
	return n
}

func (m *model) opened() uint64 {
	n := uint64(0)
	for _, x := range m.of(api.Open) {
		n = max(n, x.Epoch)
	}
	return n
}

func (m *model) mark() uint64 {
	n := uint64(0)
	for _, x := range m.of(api.Trim) {
		n = max(n, x.Address)
	}
	return n
}

// single are the addresses that were trimmed one by one, in order.
func (m *model) single() []uint64 {
	var l []uint64
	for _, x := range m.made {
		if x.Kind == api.TrimOne || x.Kind == api.Copy && x.Cell.Kind == 0 {
			l = append(l, x.Address)
		}
	}
	slices.Sort(l)
	return slices.Compact(l)
}

func (m *model) isTrimmed(a uint64) bool { return a < m.mark() || slices.Contains(m.single(), a) }

// at is the cell that was written first at an address, if that is not trimmed.
func (m *model) at(a uint64) (api.Cell, bool) {
	for _, x := range m.made {
		if x.Address == a && (x.Kind == api.Write || x.Kind == api.Copy) && x.Cell.Kind != 0 && !m.isTrimmed(a) {
			return x.Cell, true
		}
	}
	return api.Cell{}, false
}

// written are the addresses that have cells, in order.
func (m *model) written() []uint64 {
	var l []uint64
	for _, x := range m.made {
		if _, ok := m.at(x.Address); ok {
			l = append(l, x.Address)
		}
	}
	slices.Sort(l)
	return slices.Compact(l)
}

// trimmed are the runs of the addresses from the mark on that were trimmed one by one.
func (m *model) trimmed() []runs.Run {
	var l []runs.Run
	for _, a := range m.single() {
		n := len(l)
		switch {
		case a < m.mark():
		case n > 0 && l[n-1].To == a:
			l[n-1].To++
		default:
			l = append(l, runs.Run{From: a, To: a + 1})
		}
	}
	return l
}

func (m *model) tail() uint64 {
	n := m.mark()
	for _, a := range append(m.written(), m.single()...) {
		n = max(n, a+1)
	}
	return n
}

// tell is what the unit answers; the message is noted if it could change something.
func (m *model) tell(x api.Message) (api.Message, bool) {
	if x.Kind > api.Copy || x.To.Role != api.Unit || x.To.Number != 5 || !message.Right(x) {
		return api.Message{}, false
	}
	a := api.Message{Kind: api.Reply, Of: x.Kind, From: x.To, To: x.From, ID: x.ID, Epoch: x.Epoch, Address: x.Address}
	if x.Epoch < m.epoch() {
		a.Error, a.Epoch = api.ErrSealed, m.epoch()
		return a, true
	}
	var notes bool
	switch x.Kind {
	case api.Seal, api.Tail:
		a.Address, a.Epoch = m.tail(), m.opened()
		notes = x.Kind == api.Seal
	case api.Open, api.Trim:
		notes = true
	default:
		a.Error, a.Cell, notes = m.tellAt(x)
	}
	if notes {
		m.made = append(m.made, x)
	}
	return a, true
}

// tellAt is what the unit answers to a message about one address, and whether that could change something.
func (m *model) tellAt(x api.Message) (api.Errno, api.Cell, bool) {
	c, written := m.at(x.Address)
	bare := x.Cell.Kind == 0
	switch {
	case x.Address >= 1048576, x.Kind == api.Write && bare:
		return api.ErrArg, api.Cell{}, false
	case x.Kind == api.TrimOne, x.Kind == api.Copy && bare:
		return api.OK, api.Cell{}, true
	case m.isTrimmed(x.Address):
		return api.ErrTrimmed, api.Cell{}, false
	case x.Kind == api.Read && written:
		return api.OK, c, false
	case x.Kind == api.Read:
		return api.ErrUnwritten, api.Cell{}, false
	case x.Kind == api.Copy && written && cell.Same(c, x.Cell):
		return api.OK, api.Cell{}, false
	case written:
		return api.ErrWritten, c, false
	}
	return api.OK, api.Cell{}, true
}
