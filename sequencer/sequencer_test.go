package sequencer_test

import (
	"testing"

	"rotulet/api"
	"rotulet/message"
	"rotulet/sequencer"
)

// exchange is a message and its answer, worked out by hand.
type exchange struct{ asked, want api.Message }

// exchanges asks a sequencer one thing after the other.
func exchanges(t *testing.T, s *sequencer.Sequencer, l []exchange) {
	t.Helper()
	for i, x := range l {
		if a, ok := serve(t, s, x.asked); !ok || !message.Same(a, x.want) || !message.Right(a) {
			t.Errorf("%d: %+v, %v, want %+v", i, a, ok, x.want)
		}
	}
}

// lasts holds all last addresses of a sequencer against those of some streams; None for all others.
func lasts(t *testing.T, s *sequencer.Sequencer, want map[int][2]uint64) {
	t.Helper()
	for n := -1; n <= 17; n++ {
		w, ok := want[n]
		if !ok {
			w = pair(none, none)
		}
		if got := s.Last(n); got != w {
			t.Errorf("Last(%d): %d, want %d", n, got, w)
		}
	}
}

// numbers holds a sequencer's epoch and tail against others.
func numbers(t *testing.T, s *sequencer.Sequencer, epoch, tail uint64) {
	t.Helper()
	if s.Epoch() != epoch || s.Tail() != tail {
		t.Errorf("epoch %d, tail %d, want %d, %d", s.Epoch(), s.Tail(), epoch, tail)
	}
}

// P15.1 (Q1): what a sequencer answers, in all fields.
func TestServeByHand(t *testing.T) {
	s := fresh(t)
	numbers(t, s, 0, 0)
	lasts(t, s, nil)
	exchanges(t, s, []exchange{
		{token(0), reply(api.Token, 0, 0, api.ErrSealed)},
		{token(1, 3), reply(api.Token, 0, 0, api.ErrSealed)},
		{tail(0), reply(api.Tail, 0, 0, api.ErrSealed)},
		{tail(1), reply(api.Tail, 0, 0, api.ErrSealed)},
		{begin(0, 9), reply(api.Begin, 0, 9, api.ErrSealed)},
		{begin(3, 9, back(2, 8, 4), back(7, 0, none), back(9, none, none)), reply(api.Begin, 3, 9, api.OK)},
	})
	numbers(t, s, 3, 9)
	lasts(t, s, map[int][2]uint64{2: {8, 4}, 7: {0, none}})
	exchanges(t, s, []exchange{
		{tail(3), reply(api.Tail, 3, 9, api.OK)},
		{token(3, 2), given(3, 9, back(2, 8, 4))},
		{tail(3), reply(api.Tail, 3, 10, api.OK)},
		{token(3), given(3, 10)},
		{token(3, 0, 2, 7, 15), given(3, 11, back(0, none, none), back(2, 9, 8), back(7, 0, none), back(15, none, none))},
		{token(3, 0, 2, 7, 15), given(3, 12, back(0, 11, none), back(2, 11, 9), back(7, 11, 0), back(15, 11, none))},
		{token(3, 15), given(3, 13, back(15, 12, 11))},
		{token(2, 15), reply(api.Token, 3, 0, api.ErrSealed)},
		{token(4, 15), reply(api.Token, 3, 0, api.ErrSealed)},
		{tail(2), reply(api.Tail, 3, 0, api.ErrSealed)},
		{tail(4), reply(api.Tail, 3, 0, api.ErrSealed)},
		{begin(3, 77), reply(api.Begin, 3, 77, api.ErrSealed)},
		{begin(2, 77), reply(api.Begin, 3, 77, api.ErrSealed)},
		{tail(3), reply(api.Tail, 3, 14, api.OK)},
	})
	numbers(t, s, 3, 14)
	lasts(t, s, map[int][2]uint64{0: {12, 11}, 2: {12, 11}, 7: {12, 11}, 15: {13, 12}})
	exchanges(t, s, []exchange{
		{begin(4, 6, back(2, 6, 5)), reply(api.Begin, 4, 6, api.ErrStream)},
		{tail(4), reply(api.Tail, 3, 0, api.ErrSealed)},
		{begin(4, 6, back(2, 5, 4)), reply(api.Begin, 4, 6, api.OK)},
	})
	numbers(t, s, 4, 6)
	lasts(t, s, map[int][2]uint64{2: {5, 4}})
	exchanges(t, s, []exchange{
		{tail(3), reply(api.Tail, 4, 0, api.ErrSealed)},
		{token(4, 0, 2), given(4, 6, back(0, none, none), back(2, 5, 4))},
		{tail(4), reply(api.Tail, 4, 7, api.OK)},
	})
}

// P15.1 (Q1): fields that have no meaning in a message do not matter, and do not come back.
func TestFurtherFields(t *testing.T) {
	full := func(m api.Message) api.Message {
		m.Error, m.Ballot, m.Promised = 84, api.Ballot{Round: 6000, Client: 1}, api.Ballot{Round: 7000, Client: 3}
		m.Cell = api.Cell{Kind: api.Data, Data: []byte("hey"), Backs: []api.Back{back(3, 900, 1)}}
		m.Layout = api.Layout{Epoch: 4, Sequencer: 2, Segments: []api.Segment{{Chains: [][]int{{1, 2}, {3}}}}}
		return m
	}
	s := fresh(t)
	b := full(begin(6, 40, back(1, 30, 20)))
	b.Streams = []int{1, 3}
	tk := full(token(6, 1, 3))
	tk.Address, tk.Backs = 500, []api.Back{back(1, 700, 600), back(2, 50, 40)}
	tl := full(tail(6))
	tl.Address, tl.Streams, tl.Backs = 500, []int{1, 3}, []api.Back{back(1, 700, 600)}
	exchanges(t, s, []exchange{
		{b, reply(api.Begin, 6, 40, api.OK)},
		{tl, reply(api.Tail, 6, 40, api.OK)},
		{tk, given(6, 40, back(1, 30, 20), back(3, none, none))},
		{tl, reply(api.Tail, 6, 41, api.OK)},
		{b, reply(api.Begin, 6, 40, api.ErrSealed)},
	})
	tl.Epoch, tk.Epoch = 5, 7
	exchanges(t, s, []exchange{{tl, reply(api.Tail, 6, 500, api.ErrSealed)}, {tk, reply(api.Token, 6, 500, api.ErrSealed)}})
	numbers(t, s, 6, 41)
	lasts(t, s, map[int][2]uint64{1: {40, 30}, 3: {40, none}})
}

// P15.1 (Q1): answers go to whoever asked, with the ID.
func TestWhoAsks(t *testing.T) {
	s := fresh(t)
	serve(t, s, begin(2, 0))
	at := uint64(0)
	for role, count := range map[api.Role]int{api.Unit: 32, api.Sequencer: 32, api.Server: 3, api.Client: 4} {
		for n := range count {
			for _, id := range []int{0, 1, 1048575} {
				m := token(2, 4)
				m.From, m.ID = place(role, n), id
				want := given(2, at, back(4, none, none))
				want.To, want.ID = m.From, id
				want.Backs[0].Last = s.Last(4)
				exchanges(t, s, []exchange{{m, want}})
				at++
			}
		}
	}
}

// P15.1 (Q1): each number of a sequencer; it answers what is addressed to it, as itself, and nothing that is addressed to another one.
func TestNumbers(t *testing.T) {
	for n := range 32 {
		s, e := sequencer.New(n)
		if s == nil || e != api.OK {
			t.Fatalf("New(%d): %p, %d", n, s, e)
		}
		for to := range 32 {
			for _, m := range []api.Message{begin(1, 9), token(1), tail(1)} {
				m.To.Number = to
				a, ok := serve(t, s, m)
				if ok != (to == n) || ok && (a.From != m.To || a.Error != api.OK) {
					t.Errorf("%+v, of %d: %+v, %v", m, n, a, ok)
				}
			}
		}
		numbers(t, s, 1, 10)
	}
}

// P15.1 (Q1): what goes wrong in New.
func TestNewErrors(t *testing.T) {
	for n, want := range map[int]api.Errno{
		-1 << 63: api.ErrArg, -2: api.ErrArg, -1: api.ErrArg, 0: api.OK, 1: api.OK, 30: api.OK, 31: api.OK, 32: api.ErrArg, 33: api.ErrArg,
		1 << 32: api.ErrArg, 1<<32 + 5: api.ErrArg, 1<<63 - 1: api.ErrArg,
	} {
		s, e := sequencer.New(n)
		if e != want || (s == nil) != (e != api.OK) {
			t.Errorf("New(%d): %p, %d, want %d", n, s, e, want)
		}
		if s != nil {
			numbers(t, s, 0, 0)
			lasts(t, s, nil)
		}
	}
}

// P15.1 (Q1): a Begin of each epoch at the edges against the sequencer's own: only a greater one begins.
func TestBeginEpochs(t *testing.T) {
	for _, epoch := range []uint64{0, 1, 2, 4, 255, 256, 65536, most - 2, most - 1, most} {
		for _, with := range []uint64{0, 1, epoch - 1, epoch, epoch + 1, epoch + 2, most - 1, most} {
			if with > most {
				continue
			}
			r := newRig(t)
			if epoch > 0 {
				r.serve(begin(epoch, 9, back(3, 8, 7)))
			}
			r.serve(token(epoch, 3))
			was := shot(r.s)
			a := r.serve(begin(with, 4, back(2, 3, none)))
			if late := with <= epoch; late != (a.Error == api.ErrSealed) || late != (a.Epoch == epoch) || late != (shot(r.s) == was) {
				t.Errorf("%d in %d: %+v", with, epoch, a)
			}
			r.all(token(epoch, 2), token(with, 2, 3))
		}
	}
}

// P15.1 (Q1): the greatest epoch; what is above it is not a message that is answered.
func TestGreatestEpoch(t *testing.T) {
	s := fresh(t)
	exchanges(t, s, []exchange{
		{begin(most, 9, back(3, 8, none)), reply(api.Begin, most, 9, api.OK)},
		{token(most, 3), given(most, 9, back(3, 8, none))},
		{tail(most), reply(api.Tail, most, 10, api.OK)},
		{begin(most, 0), reply(api.Begin, most, 0, api.ErrSealed)},
		{begin(0, 0), reply(api.Begin, most, 0, api.ErrSealed)},
	})
	was := shot(s)
	for _, epoch := range []uint64{most + 1, most + 2, 1 << 32, 1<<32 + most, none - 1, none} {
		for _, m := range []api.Message{begin(epoch, 4), token(epoch, 3), tail(epoch)} {
			for _, x := range []*sequencer.Sequencer{s, fresh(t)} {
				if a, ok := serve(t, x, m); ok || tell(a) != tell(api.Message{}) {
					t.Errorf("%+v: %+v, %v", m, a, ok)
				}
			}
		}
	}
	if shot(s) != was {
		t.Errorf("%s, and it was %s", shot(s), was)
	}
}

// P15.1 (Q1): Lasts of a Begin's Backs at the edges against its Address; None is no address.
func TestBeginLasts(t *testing.T) {
	for _, a := range []uint64{0, 1, 2, 3, 7, 255, 256, 65536, most - 1, most} {
		for _, x := range []uint64{0, 1, a - 2, a - 1, a, a + 1, a + 2, most - 1, none} {
			if x >= most && x != none {
				continue
			}
			for _, second := range []uint64{none, 0, x - 1} {
				if second != none && (x == none || second >= x) {
					continue
				}
				want := reply(api.Begin, 8, a, api.OK)
				tells := pair(x, second)
				if x != none && x >= a {
					want.Error, tells = api.ErrStream, pair(none, none)
				}
				for _, n := range []int{0, 9, 15} {
					s := fresh(t)
					exchanges(t, s, []exchange{{begin(8, a, back(n, x, second)), want}})
					lasts(t, s, map[int][2]uint64{n: tells})
					if want.Error == api.OK {
						numbers(t, s, 8, a)
					} else {
						numbers(t, s, 0, 0)
					}
				}
			}
		}
	}
}

// P15.1 (Q1): one Back of 16 that is not less than the Address, and none of them.
func TestBeginWithAllStreams(t *testing.T) {
	var l []api.Back
	want := map[int][2]uint64{}
	for n := range 16 {
		l = append(l, back(n, 100-uint64(n), 50+uint64(n)))
		want[n] = l[n].Last
	}
	for n := range 16 {
		was := l[n]
		for _, x := range []api.Back{back(n, 101, 50), back(n, 102, none), back(n, 1048575, 101)} {
			l[n] = x
			s := fresh(t)
			exchanges(t, s, []exchange{{begin(8, 101, l...), reply(api.Begin, 8, 101, api.ErrStream)}})
			numbers(t, s, 0, 0)
			lasts(t, s, nil)
		}
		l[n] = was
	}
	s := fresh(t)
	exchanges(t, s, []exchange{{begin(8, 101, l...), reply(api.Begin, 8, 101, api.OK)}})
	lasts(t, s, want)
	exchanges(t, s, []exchange{{token(8, 0, 1, 14, 15), given(8, 101, l[0], l[1], l[14], l[15])}})
}

// P15.1 (Q1): a Begin forgets what streams had that it does not name, and what those had that it names.
func TestBeginForgets(t *testing.T) {
	r := newRig(t)
	r.all(begin(1, 20, back(1, 3, 2), back(2, 5, 4), back(3, 7, 6)), token(1, 1, 4), token(1, 2, 4), token(1, 5))
	lasts(t, r.s, map[int][2]uint64{1: {20, 3}, 2: {21, 5}, 3: {7, 6}, 4: {21, 20}, 5: {22, none}})
	r.serve(begin(2, 30, back(2, 9, none), back(4, none, none), back(6, 29, 8)))
	lasts(t, r.s, map[int][2]uint64{2: {9, none}, 6: {29, 8}})
	r.serve(begin(3, 10))
	lasts(t, r.s, nil)
	numbers(t, r.s, 3, 10)
}

// P15.1 (Q1): a Begin with Address 0: no stream can have a last address.
func TestBeginAtZero(t *testing.T) {
	s := fresh(t)
	exchanges(t, s, []exchange{
		{begin(1, 0, back(3, 0, none)), reply(api.Begin, 1, 0, api.ErrStream)},
		{begin(1, 0, back(3, none, none)), reply(api.Begin, 1, 0, api.OK)},
		{tail(1), reply(api.Tail, 1, 0, api.OK)},
		{token(1, 3), given(1, 0, back(3, none, none))},
		{token(1, 3), given(1, 1, back(3, 0, none))},
		{token(1, 3), given(1, 2, back(3, 1, 0))},
		{begin(2, 0), reply(api.Begin, 2, 0, api.OK)},
		{token(2), given(2, 0)},
		{token(2, 3), given(2, 1, back(3, none, none))},
	})
}

// P15.1 (Q1): the last address, and what is asked behind it, up to another Begin.
func TestLastAddress(t *testing.T) {
	const last = most - 1
	s := fresh(t)
	exchanges(t, s, []exchange{
		{begin(2, last, back(3, last-1, 0)), reply(api.Begin, 2, last, api.OK)},
		{token(2, 3, 4), given(2, last, back(3, last-1, 0), back(4, none, none))},
		{tail(2), reply(api.Tail, 2, most, api.OK)},
		{token(2, 3), reply(api.Token, 2, 0, api.ErrSpace)},
		{token(2), reply(api.Token, 2, 0, api.ErrSpace)},
		{token(1), reply(api.Token, 2, 0, api.ErrSealed)},
		{token(3), reply(api.Token, 2, 0, api.ErrSealed)},
		{token(0), reply(api.Token, 2, 0, api.ErrSealed)},
		{tail(2), reply(api.Tail, 2, most, api.OK)},
	})
	numbers(t, s, 2, most)
	lasts(t, s, map[int][2]uint64{3: {last, last - 1}, 4: {last, none}})
	exchanges(t, s, []exchange{
		{begin(3, most, back(3, last, last-1)), reply(api.Begin, 3, most, api.OK)},
		{token(3, 3), reply(api.Token, 3, 0, api.ErrSpace)},
		{tail(3), reply(api.Tail, 3, most, api.OK)},
		{begin(4, 0), reply(api.Begin, 4, 0, api.OK)},
		{token(4, 3), given(4, 0, back(3, none, none))},
	})
}

// P15.1 (Q1): a Token and a Tail of all epochs at the edges against the sequencer's own; none is answered with an address in epoch 0.
func TestEpochs(t *testing.T) {
	for _, epoch := range []uint64{0, 1, 2, 4, 255, 256, 65536, most - 1, most} {
		for _, with := range []uint64{0, 1, epoch - 1, epoch, epoch + 1, most - 1, most} {
			if with > most {
				continue
			}
			for _, m := range []api.Message{token(with), token(with, 3), token(with, 1, 3, 4, 5), tail(with)} {
				r := newRig(t)
				if epoch > 0 {
					r.serve(begin(epoch, 9, back(3, 8, 7)))
				}
				a := r.serve(m)
				if now := with == epoch && epoch > 0; now != (a.Error == api.OK) || a.Epoch != epoch || a.Error != api.OK && a.Error != api.ErrSealed {
					t.Errorf("%d in %d: %+v", with, epoch, a)
				}
			}
		}
	}
}

// P15.1 (Q1): a Token with each single stream, and with each four.
func TestStreams(t *testing.T) {
	r := newRig(t)
	r.serve(begin(1, 5))
	for n := range 16 {
		r.all(token(1, n), token(1, n))
	}
	numbers(t, r.s, 1, 5+32)
	for i, l := range fours() {
		// The reference goes through all that was asked, so that it is made anew now and then.
		if i%40 == 0 {
			r = newRig(t)
			r.serve(begin(1, 50, back(2, 40, 30), back(9, 49, none)))
		}
		r.serve(token(1, l...))
	}
}

// fours are all four streams of 16, in order.
func fours() [][]int {
	var l [][]int
	for set := range 1 << 16 {
		var streams []int
		for n := range 16 {
			if set>>n&1 == 1 {
				streams = append(streams, n)
			}
		}
		if len(streams) == 4 {
			l = append(l, streams)
		}
	}
	return l
}
