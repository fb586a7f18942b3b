package sequencer_test

import (
	"slices"

	"rotulet/api"
	"rotulet/message"
	"rotulet/sequencer"
)

// model is the reference: sequencer 5. It has the messages that changed something, in which everything is looked up anew whenever it is asked for.
type model struct {
	made []api.Message
}

// now are the Begin of the present epoch, and the Tokens behind it.
func (m *model) now() (first api.Message, tokens []api.Message) {
	for i := range m.made {
		if m.made[i].Kind == api.Begin {
			first, tokens = m.made[i], m.made[i+1:]
		}
	}
	return first, tokens
}

func (m *model) epoch() uint64 {
	first, _ := m.now()
	return first.Epoch
}

func (m *model) tail() uint64 {
	first, tokens := m.now()
	return first.Address + uint64(len(tokens))
}

// last are the two greatest of all addresses of a stream that were given out in the epoch, or with which it began.
func (m *model) last(stream int) [2]uint64 {
	first, tokens := m.now()
	var l []uint64
	for _, b := range first.Backs {
		for _, a := range b.Last {
			if b.Stream == stream && a != none {
				l = append(l, a)
			}
		}
	}
	for i, x := range tokens {
		if slices.Contains(x.Streams, stream) {
			l = append(l, first.Address+uint64(i))
		}
	}
	return greatest(l)
}

// greatest are the two greatest of addresses, the greatest first, and None for what is missing.
func greatest(l []uint64) [2]uint64 {
	two := pair(none, none)
	for i := range two {
		for _, a := range l {
			if (two[i] == none || a > two[i]) && (i == 0 || a < two[0]) {
				two[i] = a
			}
		}
	}
	return two
}

// tell is what the sequencer answers; the message is noted if it changes something.
func (m *model) tell(x api.Message) (api.Message, bool) {
	asks := x.Kind == api.Token || x.Kind == api.Tail || x.Kind == api.Begin
	if !asks || x.To.Role != api.Sequencer || x.To.Number != 5 || !message.Right(x) {
		return api.Message{}, false
	}
	a := api.Message{Kind: api.Reply, Of: x.Kind, From: x.To, To: x.From, ID: x.ID, Epoch: x.Epoch, Address: x.Address}
	a.Error = m.wrong(x)
	switch {
	case a.Error == api.ErrSealed:
		a.Epoch = m.epoch()
	case a.Error != api.OK:
	case x.Kind == api.Begin:
		m.made = append(m.made, x)
	default:
		a.Address = m.tail()
		if x.Kind == api.Tail {
			break
		}
		for _, n := range x.Streams {
			a.Streams = append(a.Streams, n)
			a.Backs = append(a.Backs, api.Back{Stream: n, Last: m.last(n)})
		}
		m.made = append(m.made, x)
	}
	return a, true
}

// wrong is the error with which a message is refused.
func (m *model) wrong(x api.Message) api.Errno {
	late := x.Epoch != m.epoch() || x.Epoch == 0
	if x.Kind == api.Begin {
		late = x.Epoch <= m.epoch()
	}
	ahead := false
	for _, b := range x.Backs {
		for _, a := range b.Last {
			ahead = ahead || a != none && a >= x.Address
		}
	}
	switch {
	case late:
		return api.ErrSealed
	case x.Kind == api.Begin && ahead:
		return api.ErrStream
	case x.Kind == api.Token && m.tail() == most:
		return api.ErrSpace
	}
	return api.OK
}

// gathered is the reference for Gather: for each stream, all entries are gone through.
func gathered(l []sequencer.Entry) []api.Back {
	var backs []api.Back
	for stream := range 16 {
		var in []uint64
		for _, x := range l {
			for _, b := range x.Cell.Backs {
				if x.Cell.Kind == 1 && b.Stream == stream && x.Address < most {
					in = append(in, x.Address)
				}
			}
		}
		if len(in) > 0 {
			backs = append(backs, api.Back{Stream: stream, Last: greatest(in)})
		}
	}
	return backs
}
