package proposer_test

import (
	"testing"

	"rotulet/acceptor"
	"rotulet/api"
	"rotulet/layout"
	"rotulet/message"
	"rotulet/proposer"
)

// question is one with each number another one.
func question(kind api.MessageKind, epoch uint64, b api.Ballot, l api.Layout) api.Message {
	return api.Message{Kind: kind, From: client(2), To: server(1), ID: 70000, Epoch: epoch, Address: 90002, Ballot: b, Layout: l}
}

// reply is an answer to a question, written out.
func reply(of api.MessageKind, epoch uint64, e api.Errno, b, promised api.Ballot, l api.Layout) api.Message {
	return api.Message{Kind: api.Reply, Of: of, From: server(1), To: client(2), ID: 70000, Epoch: epoch, Address: 90002, Error: e, Ballot: b, Promised: promised, Layout: l}
}

// serve asks an acceptor, with a layout that is spoilt as soon as the call is over.
func serve(t *testing.T, x *acceptor.Acceptor, m api.Message) (api.Message, bool) {
	t.Helper()
	given := m
	given.Layout = copyOf(m.Layout)
	a, ok := proposer.Serve(x, given)
	if !untouched(given.Layout, m.Layout) {
		t.Fatalf("Serve %+v: the layout was changed", m)
	}
	spoil(given.Layout)
	return a, ok
}

// P13.1 (O3): what an acceptor answers, worked out by hand.
func TestServeByHand(t *testing.T) {
	x, _ := empty(t, 41)
	none, no, one, two := api.Layout{}, ballot(0, 0), small(5, 1), some(5)[3]
	for i, s := range []struct{ asked, want api.Message }{
		{question(api.Learn, 5, no, none), reply(api.Learn, 5, api.OK, no, no, none)},
		{question(api.Prepare, 5, ballot(2, 1), none), reply(api.Prepare, 5, api.OK, ballot(2, 1), no, none)},
		{question(api.Prepare, 5, ballot(2, 1), none), reply(api.Prepare, 5, api.ErrBallot, ballot(2, 1), ballot(2, 1), none)},
		{question(api.Prepare, 5, ballot(2, 0), one), reply(api.Prepare, 5, api.ErrBallot, ballot(2, 0), ballot(2, 1), none)},
		{question(api.Learn, 5, ballot(7, 3), one), reply(api.Learn, 5, api.OK, no, ballot(2, 1), none)},
		{question(api.Accept, 5, ballot(1, 3), one), reply(api.Accept, 5, api.ErrBallot, ballot(1, 3), ballot(2, 1), none)},
		{question(api.Accept, 5, ballot(2, 1), one), reply(api.Accept, 5, api.OK, ballot(2, 1), no, none)},
		{question(api.Learn, 5, no, none), reply(api.Learn, 5, api.OK, ballot(2, 1), ballot(2, 1), one)},
		{question(api.Prepare, 5, ballot(2, 1), none), reply(api.Prepare, 5, api.ErrBallot, ballot(2, 1), ballot(2, 1), one)},
		{question(api.Prepare, 5, ballot(3, 0), two), reply(api.Prepare, 5, api.OK, ballot(3, 0), ballot(2, 1), one)},
		{question(api.Learn, 5, no, two), reply(api.Learn, 5, api.OK, ballot(2, 1), ballot(3, 0), one)},
		{question(api.Prepare, 5, ballot(2, 3), none), reply(api.Prepare, 5, api.ErrBallot, ballot(2, 3), ballot(3, 0), one)},
		{question(api.Accept, 5, ballot(2, 3), two), reply(api.Accept, 5, api.ErrBallot, ballot(2, 3), ballot(3, 0), none)},
		{question(api.Accept, 5, ballot(4, 0), two), reply(api.Accept, 5, api.OK, ballot(4, 0), no, none)},
		{question(api.Learn, 5, no, none), reply(api.Learn, 5, api.OK, ballot(4, 0), ballot(4, 0), two)},
		{question(api.Prepare, 5, ballot(65535, 3), none), reply(api.Prepare, 5, api.OK, ballot(65535, 3), ballot(4, 0), two)},
		{question(api.Learn, 6, no, none), reply(api.Learn, 6, api.OK, no, no, none)},
		{question(api.Learn, 1048576, no, none), reply(api.Learn, 1048576, api.OK, no, no, none)},
		{question(api.Prepare, 1048576, ballot(0, 1), none), reply(api.Prepare, 1048576, api.OK, ballot(0, 1), no, none)},
		{question(api.Learn, 0, ballot(1, 1), one), reply(api.Learn, 0, api.ErrArg, no, no, none)},
		{question(api.Prepare, 0, ballot(9, 2), none), reply(api.Prepare, 0, api.ErrArg, ballot(9, 2), no, none)},
		{question(api.Prepare, 5, no, none), reply(api.Prepare, 5, api.ErrArg, no, no, none)},
		{question(api.Accept, 0, ballot(9, 2), one), reply(api.Accept, 0, api.ErrArg, ballot(9, 2), no, none)},
		{question(api.Accept, 5, no, one), reply(api.Accept, 5, api.ErrArg, no, no, none)},
		{question(api.Accept, 5, ballot(65535, 3), none), reply(api.Accept, 5, api.ErrArg, ballot(65535, 3), no, none)},
		{question(api.Accept, 6, ballot(9, 2), one), reply(api.Accept, 6, api.ErrArg, ballot(9, 2), no, none)},
		{question(api.Learn, 5, no, none), reply(api.Learn, 5, api.OK, ballot(4, 0), ballot(65535, 3), two)},
	} {
		if a, ok := serve(t, x, s.asked); !ok || !message.Same(a, s.want) || !message.Right(a) {
			t.Errorf("%d: %+v, %v, want %+v", i, a, ok, s.want)
		}
	}
}

// P13.1 (O3): any questions, in a few epochs, of any place to any place: the answers, and what the acceptor has then, are those of the reference.
func TestServe(t *testing.T) {
	s := stir(131)
	for range 40 {
		x, d := empty(t, 201)
		states := map[uint64]state{}
		for n := range 60 {
			epoch := uint64(s.below(4))
			m := question(api.Prepare+api.MessageKind(s.below(3)), epoch, ballot(s.below(5), s.below(4)), some(3)[s.below(4)])
			m.Layout.Epoch = uint64(3 - s.below(60)/20)
			if s.below(2) == 0 {
				m.Layout.Epoch = max(epoch, 1)
			}
			m.ID, m.Address = s.below(1<<20), uint64(s.below(1<<20))
			m.From = api.Place{Role: api.Role(1 + s.below(4)), Number: s.below(3)}
			m.To = api.Place{Role: api.Role(1 + s.below(4)), Number: s.below(3)}
			if s.below(10) == 0 {
				m.Layout = api.Layout{}
			}
			want, next := states[epoch].tell(m)
			states[epoch] = next
			a, ok := serve(t, x, m)
			if !ok || !message.Same(a, want) || !message.Right(a) {
				t.Fatalf("%d: %+v: %+v, %v, want %+v", n, m, a, ok, want)
			}
			spoil(a.Layout)
			for _, y := range []*acceptor.Acceptor{x, opened(t, d.Crash(nil))} {
				kept, _ := y.Learn(epoch)
				if kept.Promised != next.promised || kept.Accepted != next.accepted || !layout.Same(kept.Layout, next.layout) {
					t.Fatalf("%d: %+v: the state is %+v, want %+v", n, m, kept, next)
				}
			}
		}
	}
}

// P13.1 (O3): an acceptor without room answers ErrFull, with the ballot of the question and nothing else, and has not changed; what needs no room is answered as ever.
func TestServeFull(t *testing.T) {
	x, _ := empty(t, 3)
	one := small(5, 1)
	x.Accept(5, ballot(1, 1), one)
	for epoch := uint64(6); ; epoch++ {
		if _, e := x.Prepare(epoch, ballot(1, 1)); e == api.ErrFull {
			break
		}
	}
	none, no := api.Layout{}, ballot(0, 0)
	for i, s := range []struct{ asked, want api.Message }{
		{question(api.Prepare, 5, ballot(3, 1), none), reply(api.Prepare, 5, api.ErrFull, ballot(3, 1), no, none)},
		{question(api.Accept, 90, ballot(3, 1), small(90, 2)), reply(api.Accept, 90, api.ErrFull, ballot(3, 1), no, none)},
		{question(api.Prepare, 5, ballot(1, 1), none), reply(api.Prepare, 5, api.ErrBallot, ballot(1, 1), ballot(1, 1), one)},
		{question(api.Learn, 5, no, none), reply(api.Learn, 5, api.OK, ballot(1, 1), ballot(1, 1), one)},
	} {
		if a, ok := serve(t, x, s.asked); !ok || !message.Same(a, s.want) {
			t.Errorf("%d: %+v, %v, want %+v", i, a, ok, s.want)
		}
	}
}

// P13.1 (O3): fields that have no meaning in a question do not matter.
func TestServeFurtherFields(t *testing.T) {
	x, _ := empty(t, 41)
	m := question(api.Prepare, 5, ballot(2, 1), api.Layout{})
	m.Error, m.Streams, m.Backs, m.Promised = 84, []int{1, 4}, []api.Back{{Stream: 3, Last: [2]uint64{7, 2}}}, ballot(9, 3)
	m.Cell = api.Cell{Kind: api.Data, Data: []byte("hey")}
	if a, ok := serve(t, x, m); !ok || !message.Same(a, reply(api.Prepare, 5, api.OK, ballot(2, 1), ballot(0, 0), api.Layout{})) {
		t.Errorf("%+v, %v", a, ok)
	}
}

// P13.1 (O3), wrong inputs: any other kind, what is not valid in whichever way, and the nil acceptor: a zero message and false, and nothing has changed.
func TestNotServed(t *testing.T) {
	x, _ := empty(t, 41)
	x.Accept(5, ballot(1, 1), small(5, 1))
	before, _ := x.Learn(5)
	refused := func(x *acceptor.Acceptor, m api.Message) {
		t.Helper()
		if a, ok := serve(t, x, m); ok || !message.Same(a, api.Message{}) {
			t.Errorf("%+v: %+v, %v", m, a, ok)
		}
	}
	right := question(api.Prepare, 5, ballot(7, 1), small(5, 2))
	for kind := api.MessageKind(-1); kind < 16; kind++ {
		m := right
		if m.Kind = kind; kind < api.Prepare || kind > api.Learn {
			refused(x, m)
		}
		for of := range api.MessageKind(15) {
			if m.Of = of; of != 0 {
				refused(x, m)
			}
		}
	}
	for _, kind := range []api.MessageKind{api.Prepare, api.Accept, api.Learn} {
		for _, change := range []func(m *api.Message){
			func(m *api.Message) { m.From = api.Place{} }, func(m *api.Message) { m.To = api.Place{} },
			func(m *api.Message) { m.From.Number = 4 }, func(m *api.Message) { m.To.Number = 3 }, func(m *api.Message) { m.To.Number = -1 },
			func(m *api.Message) { m.ID = -1 }, func(m *api.Message) { m.ID = 1048576 },
			func(m *api.Message) { m.Epoch = 1048577 }, func(m *api.Message) { m.Epoch = 1<<32 + 5 }, func(m *api.Message) { m.Address = 1048577 },
			func(m *api.Message) { m.Error = -1 }, func(m *api.Message) { m.Error = 256 },
			func(m *api.Message) { m.Ballot = ballot(65536, 1) }, func(m *api.Message) { m.Ballot = ballot(7, 4) }, func(m *api.Message) { m.Ballot = ballot(-1, 1) },
			func(m *api.Message) { m.Promised = ballot(65536, 1) }, func(m *api.Message) { m.Promised = ballot(0, -1) },
			func(m *api.Message) { m.Layout.Epoch = 0 }, func(m *api.Message) { m.Layout.Sequencer = 32 }, func(m *api.Message) { m.Layout = small(5, 32) },
			func(m *api.Message) { m.Streams = []int{1, 1} }, func(m *api.Message) { m.Backs = []api.Back{{Stream: -1}} }, func(m *api.Message) { m.Cell.Kind = 3 },
		} {
			m := right
			m.Kind = kind
			change(&m)
			refused(x, m)
		}
		m := right
		m.Kind = kind
		refused(nil, m)
	}
	refused(nil, api.Message{})
	refused(x, api.Message{})
	if s, _ := x.Learn(5); s.Promised != before.Promised || !layout.Same(s.Layout, before.Layout) || len(x.Epochs()) != 1 {
		t.Errorf("changed: %+v", s)
	}
}
