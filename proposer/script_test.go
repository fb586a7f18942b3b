package proposer_test

import (
	"testing"

	"rotulet/api"
)

// act is something that happens to a proposer.
type act func(r *rig)

// vote is that a server answers what is asked now, and tells of a layout, or of none.
func vote(from int, promised api.Ballot, l api.Layout) act {
	return func(r *rig) { r.hear(r.answer(from, api.OK, promised, l)) }
}

// refusal is that a server refuses what is asked now.
func refusal(from int, promised api.Ballot) act {
	return func(r *rig) { r.hear(r.answer(from, api.ErrBallot, promised, api.Layout{})) }
}

// acts are those of the short scripts.
func acts() []act {
	return []act{
		func(r *rig) { r.start() }, func(r *rig) { r.ticks(3) }, func(r *rig) { r.out() },
		vote(0, ballot(0, 0), api.Layout{}), vote(1, ballot(0, 3), small(3, 8)), vote(2, ballot(0, 2), small(3, 9)),
		refusal(1, ballot(4, 0)),
		// A vote that the first question asked for, at whatever is asked now.
		func(r *rig) { r.hear(told(api.Prepare, 2, 1, api.OK, ballot(0, 0), api.Layout{})) },
		func(r *rig) { r.hear(told(api.Accept, 0, 1, api.OK, ballot(0, 0), api.Layout{})) },
	}
}

// play plays a row of acts, of which n is the number, and then looks at what is left.
func play(r *rig, n, length int) {
	r.t.Helper()
	all := acts()
	for range length {
		all[n%len(all)](r)
		n /= len(all)
	}
	r.out()
	r.ticks(6)
	r.out()
}

// P13.1: any row of four acts on a new proposer, and of five on one that was started.
func TestShortScripts(t *testing.T) {
	for n := range 9 * 9 * 9 * 9 {
		play(fresh(t, 1, 7, small(3, 5)), n, 4)
	}
	for n := range 9 * 9 * 9 * 9 * 9 {
		play(usual(t), n, 5)
	}
}

// message is one that may come to a client, most often one that answers what is asked now.
func (s *stir) message(r *rig) api.Message {
	layouts := append(some(3), api.Layout{}, api.Layout{}, small(4, 1))
	errors := []api.Errno{0, 0, 0, 0, api.ErrBallot, api.ErrBallot, api.ErrFull, api.ErrArg, 255}
	promised := ballot(s.below(5), s.below(4))
	switch s.below(40) {
	case 0:
		promised.Round = 65535 - s.below(3)
	case 1:
		promised.Round = s.below(70000)
	}
	m := r.answer(s.below(3), errors[s.below(len(errors))], promised, layouts[s.below(len(layouts))])
	switch s.below(20) {
	case 0:
		m.Ballot.Round = max(0, m.Ballot.Round-s.below(3))
	case 1:
		m.Of = api.Prepare + api.MessageKind(s.below(3))
	case 2:
		m.ID = 6 + s.below(3)
	case 3:
		m.Epoch = uint64(2 + s.below(3))
	case 4:
		m.To = client(s.below(4))
	case 5:
		m.Ballot.Client = s.below(4)
	}
	return m
}

// P13.1: long scripts of any acts, till a while behind the decision.
func TestLongScripts(t *testing.T) {
	s := stir(132)
	for n := range 600 {
		r := fresh(t, n%4, 7, some(3)[n%3])
		for left := 30; left > 0; {
			switch x := s.below(20); {
			case x == 0:
				r.start()
			case x < 3:
				r.out()
			case x < 10:
				r.ticks(1 + s.below(3))
			default:
				// One answer of three is kept back, so that not all is decided soon.
				if m := s.message(r); m.Of != api.Accept || s.below(3) == 0 {
					r.hear(m)
				}
			}
			if _, over := r.m.decided(); over || len(r.m.asks) > 12 {
				left--
			}
			if len(r.m.asks) == 0 && s.below(8) == 0 {
				r.start()
			}
		}
	}
}
