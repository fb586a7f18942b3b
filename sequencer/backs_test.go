package sequencer_test

import (
	"testing"

	"rotulet/api"
	"rotulet/cell"
	"rotulet/message"
)

// tally is what is known of an epoch from the messages and answers alone: each stream's addresses, the latest last.
type tally [16][]uint64

// begun is the tally behind a Begin.
func begun(m api.Message) tally {
	var l tally
	for _, b := range m.Backs {
		for i := range b.Last {
			if a := b.Last[len(b.Last)-1-i]; a != none {
				l[b.Stream] = append(l[b.Stream], a)
			}
		}
	}
	return l
}

// latest are the two last addresses of a stream.
func (l *tally) latest(stream int) [2]uint64 {
	two := pair(none, none)
	for i := range two {
		if n := len(l[stream]) - 1 - i; n >= 0 {
			two[i] = l[stream][n]
		}
	}
	return two
}

// P15.3: in any scripts, the Backs of a token are those of its streams, in order, with the last addresses that were given out for each, or with which the epoch began; a cell with them can be written there.
func TestBacks(t *testing.T) {
	stirred := stir(160)
	began, gave := 0, 0
	for range 300 {
		s, l := fresh(t), tally{}
		for range 120 {
			m := stirred.message(s.Epoch())
			a, ok := serve(t, s, m)
			switch {
			case !ok || !message.Right(a):
				t.Fatalf("%+v: %+v, %v", m, a, ok)
			case a.Error != api.OK || m.Kind == api.Tail:
				if len(a.Streams)+len(a.Backs) > 0 {
					t.Fatalf("%+v: %+v", m, a)
				}
			case m.Kind == api.Begin:
				l = begun(m)
				began++
			default:
				for i, n := range m.Streams {
					if len(a.Backs) != len(m.Streams) || a.Streams[i] != n || a.Backs[i].Stream != n || a.Backs[i].Last != l.latest(n) {
						t.Fatalf("%+v: %+v, with %v", m, a, l)
					}
					l[n] = append(l[n], a.Address)
				}
				if c := (api.Cell{Kind: api.Data, Backs: a.Backs}); !cell.Right(c) || !cell.Before(c, a.Address) {
					t.Fatalf("%+v: %+v", m, a)
				}
				gave++
			}
			for n := range l {
				if s.Last(n) != l.latest(n) {
					t.Fatalf("%+v: Last(%d): %d, want %d", m, n, s.Last(n), l.latest(n))
				}
			}
		}
	}
	if began < 500 || gave < 3000 {
		t.Errorf("just %d Begins and %d Tokens", began, gave)
	}
}

// P15.3: from the last address of a stream, the Backs lead to each that was given out for it, and to those with which the epoch began.
func TestBacksLeadBack(t *testing.T) {
	stirred := stir(161)
	for range 100 {
		s := fresh(t)
		first := begin(3, 40, stirred.backs(16, 40)...)
		serve(t, s, first)
		l, at := begun(first), map[uint64]api.Cell{}
		for range 60 {
			m := token(3, stirred.streams(4)...)
			a, _ := serve(t, s, m)
			at[a.Address] = api.Cell{Kind: api.Data, Backs: a.Backs}
			for _, n := range m.Streams {
				l[n] = append(l[n], a.Address)
			}
		}
		for n := range l {
			// The second address of each pair is the first one of the next pair.
			last := s.Last(n)
			for i := len(l[n]) - 1; i >= 0; i-- {
				if last[0] != l[n][i] || i > 0 && last[1] != l[n][i-1] {
					t.Fatalf("stream %d: %d, want %d", n, last, l[n][:i+1])
				}
				if l[n][i] < 40 {
					break // it was written in another epoch
				}
				last, _ = cell.Find(at[l[n][i]], n)
			}
		}
	}
}

// P15.3: a token whose sequencer has no space, or another epoch, is pushed to no stream.
func TestNotPushed(t *testing.T) {
	s := fresh(t)
	exchanges(t, s, []exchange{
		{begin(2, most-2, back(3, 9, 8)), reply(api.Begin, 2, most-2, api.OK)},
		{token(1, 3, 4), reply(api.Token, 2, 0, api.ErrSealed)},
		{token(2, 3), given(2, most-2, back(3, 9, 8))},
		{token(3, 3, 4), reply(api.Token, 2, 0, api.ErrSealed)},
		{token(2, 3, 4), given(2, most-1, back(3, most-2, 9), back(4, none, none))},
		{token(2, 3, 4, 5), reply(api.Token, 2, 0, api.ErrSpace)},
	})
	lasts(t, s, map[int][2]uint64{3: {most - 1, most - 2}, 4: {most - 1, none}})
}
