package sequencer_test

import (
	"testing"

	"rotulet/api"
	"rotulet/message"
	"rotulet/sequencer"
)

// some are the messages of the short scripts.
func some() []api.Message {
	return []api.Message{
		token(0), token(1), token(1, 3), token(1, 3, 4), token(2, 3), tail(0), tail(1), tail(2),
		begin(0, 4), begin(1, 4), begin(1, 4, back(3, 4, none)), begin(1, 4, back(3, 3, 1)), begin(2, 2, back(4, 1, none), back(5, 0, none)), begin(2, most-1), begin(3, 0),
	}
}

// P15.1: any row of four messages to a new sequencer.
func TestShortScripts(t *testing.T) {
	all := some()
	for n := range len(all) * len(all) * len(all) * len(all) {
		r := newRig(t)
		for k := n; k > 0; k /= len(all) {
			r.serve(all[k%len(all)])
		}
	}
}

// P15.1: long scripts of messages, from any place, most of them with the epoch of the sequencer.
func TestLongScripts(t *testing.T) {
	s := stir(154)
	for range 300 {
		r := newRig(t)
		for range 80 {
			r.serve(s.message(r.m.epoch()))
		}
	}
}

// P15.1: among them are messages that the sequencer does not answer, which change nothing.
func TestScriptsWithOthers(t *testing.T) {
	s := stir(155)
	for range 200 {
		r := newRig(t)
		for range 60 {
			m := s.message(r.m.epoch())
			switch s.below(16) {
			case 0:
				m.To.Number = s.below(32)
			case 1:
				m.To = place(api.Role(1+s.below(4)), 5)
			case 2:
				m.Kind = api.MessageKind(s.below(16))
			case 3:
				m.Of = api.MessageKind(s.below(14))
			case 4:
				m.Streams = append(m.Streams, s.below(18))
			case 5:
				m.Backs = append(m.Backs, back(s.below(18), uint64(s.below(4)), uint64(s.below(4))))
			case 6:
				m.Address, m.Epoch = m.Address+uint64(s.below(2))<<32, m.Epoch+uint64(s.below(2))<<32
			}
			r.serve(m)
		}
	}
}

// P2: what a sequencer answers hangs on what it was asked alone: sequencers of all numbers that are asked the same, while others are asked other things.
func TestAlike(t *testing.T) {
	s := stir(156)
	for range 20 {
		var l []*sequencer.Sequencer
		for n := range api.MaxUnits {
			x, _ := sequencer.New(n)
			l = append(l, x)
		}
		epoch, other := uint64(0), fresh(t)
		for range 60 {
			m := s.message(epoch)
			var first api.Message
			for n, x := range l {
				m.To.Number = n
				a, ok := serve(t, x, m)
				a.From.Number = 0
				if n == 0 {
					first = a
				}
				if !ok || !message.Same(a, first) || shot(x) != shot(l[0]) {
					t.Fatalf("%d: %+v: %+v, want %+v", n, m, a, first)
				}
				serve(t, other, s.message(other.Epoch()))
			}
			epoch = l[0].Epoch()
		}
	}
}

// P2: asking for the tail, being refused, and looking change nothing in what comes later.
func TestAskingChangesNothing(t *testing.T) {
	s := stir(157)
	for range 60 {
		x, y := fresh(t), fresh(t)
		for range 60 {
			m := s.message(x.Epoch())
			a, ok := serve(t, x, m)
			if a.Error == api.OK && m.Kind != api.Tail {
				b, is := serve(t, y, m)
				if is != ok || !message.Same(a, b) {
					t.Fatalf("%+v: %+v, want %+v", m, b, a)
				}
			}
			if shot(x) != shot(y) {
				t.Fatalf("%+v: %s, want %s", m, shot(x), shot(y))
			}
		}
	}
}
