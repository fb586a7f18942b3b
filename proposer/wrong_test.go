package proposer_test

import (
	"testing"

	"rotulet/api"
	"rotulet/layout"
	"rotulet/message"
	"rotulet/proposer"
)

// P13.1 (O1), wrong inputs: no such client, no such ID, a wish that is not valid, and several of these at once.
func TestNewErrors(t *testing.T) {
	clients := []int{-1, 4, 5, 1 << 32, -1 << 63, 1<<63 - 1}
	ids := []int{-1, 1048576, 1048577, 1 << 32, -1 << 63, 1<<63 - 1}
	wishes := wrong(3)
	for _, epoch := range noEpochs() {
		wishes = append(wishes, small(epoch, 5))
	}
	refused := func(client, id int, wish api.Layout) {
		t.Helper()
		given := copyOf(wish)
		if p, e := proposer.New(client, id, given); p != nil || e != api.ErrArg {
			t.Errorf("New(%d, %d, %v): %p, %d", client, id, wish, p, e)
		}
		if !untouched(given, wish) {
			t.Errorf("New(%d, %d, %v): the wish was changed", client, id, wish)
		}
	}
	for _, c := range clients {
		refused(c, 7, small(3, 5))
		for _, id := range ids {
			refused(c, id, small(3, 5))
			refused(c, id, wishes[c&1])
		}
	}
	for _, id := range ids {
		refused(0, id, small(3, 5))
		refused(3, id, small(3, 5))
	}
	for _, wish := range wishes {
		refused(0, 0, wish)
		refused(3, 1048575, wish)
	}
}

// badly are messages that are no replies to what a proposer asks, each of which differs from a right one in one thing.
func badly(x api.Message) map[string][]api.Message {
	l := map[string][]api.Message{}
	add := func(what string, change func(m *api.Message)) {
		m := x
		change(&m)
		l[what] = append(l[what], m)
	}
	for k := api.MessageKind(-1); k < 16; k++ {
		if k != api.Reply {
			add("not a Reply", func(m *api.Message) { m.Kind = k })
			add("not a Reply", func(m *api.Message) { m.Kind, m.Of = k, 0 })
		}
		if k != x.Of {
			add("another Of", func(m *api.Message) { m.Of = k })
		}
	}
	for _, c := range []int{-1, 0, 2, 3, 4, 1<<32 + 1} {
		add("to another client", func(m *api.Message) { m.To = client(c) })
		add("a ballot of another client", func(m *api.Message) { m.Ballot.Client = c })
	}
	for role := api.Role(0); role < 6; role++ {
		if role != api.Server {
			add("not from a server", func(m *api.Message) { m.From.Role = role })
		}
		if role != api.Client {
			add("not to a client", func(m *api.Message) { m.To.Role = role })
		}
	}
	for _, n := range []int{-1, 3, 4, 1 << 32} {
		add("from no server", func(m *api.Message) { m.From.Number = n })
	}
	for _, d := range []int{-1 << 20, -7, -2, -1, 1, 2, 1 << 16, 1 << 20, 1 << 32} {
		add("another ID", func(m *api.Message) { m.ID += d })
		add("another epoch", func(m *api.Message) { m.Epoch += uint64(d) })
		add("another round", func(m *api.Message) { m.Ballot.Round += d })
	}
	add("no ballot", func(m *api.Message) { m.Ballot = ballot(0, 0) })
	add("the epoch 0", func(m *api.Message) { m.Epoch = 0 })
	for _, e := range []api.Errno{-1, 256, 256 + 121, 1 << 32} {
		add("not valid: the error", func(m *api.Message) { m.Error = e })
	}
	for _, b := range []api.Ballot{ballot(-1, 0), ballot(65536, 0), ballot(0, -1), ballot(0, 4)} {
		add("not valid: Promised", func(m *api.Message) { m.Promised = b })
	}
	for _, w := range wrong(x.Epoch)[1:] {
		add("not valid: the layout", func(m *api.Message) { m.Layout = w })
	}
	add("not valid: the layout", func(m *api.Message) { m.Layout = small(1048577, 1) })
	add("not valid: the layout", func(m *api.Message) { m.Layout = small(0, 1) })
	add("not valid: the address", func(m *api.Message) { m.Address = 1048577 })
	add("not valid: the streams", func(m *api.Message) { m.Streams = []int{2, 1} })
	add("not valid: the backs", func(m *api.Message) { m.Backs = []api.Back{{Stream: 16}} })
	add("not valid: the cell", func(m *api.Message) { m.Cell.Kind = 3 })
	return l
}

// P13.1 (O1), wrong inputs: a message that does not answer what is asked now, at any point, with or without an error: Hear returns false, and all goes on as if it had not been.
func TestNotHeard(t *testing.T) {
	for what, reach := range at() {
		for _, e := range []api.Errno{api.OK, api.ErrBallot} {
			x := reach(t).answer(1, e, ballot(40, 3), small(3, 9))
			if what == "not started" {
				x.Of, x.Ballot = api.Prepare, ballot(1, 1)
			}
			for why, l := range badly(x) {
				for _, m := range l {
					for _, way := range ways() {
						r := reach(t)
						if r.hear(m) {
							t.Fatalf("%s: %s: taken in: %+v", what, why, m)
						}
						way(r)
					}
				}
			}
		}
	}
}

// P13.1 (O1): ahead of Start and behind a decision no reply is taken in, whatever its kind and its ballot are.
func TestNothingIsAsked(t *testing.T) {
	for _, what := range []string{"not started", "decided"} {
		for round := range 3 {
			for c := range 4 {
				for of := api.Write; of <= api.Learn; of++ {
					for _, e := range []api.Errno{api.OK, api.ErrBallot, api.ErrFull} {
						r := at()[what](t)
						m := told(of, c%3, round, e, ballot(9, 0), small(3, 9))
						m.Ballot.Client = c
						if !message.Right(m) || r.hear(m) {
							t.Fatalf("%s: taken in: %+v", what, m)
						}
						ways()[round](r)
					}
				}
			}
		}
	}
}

// P13.1 (O1): what else a reply says does not matter, as long as it is valid.
func TestFurtherFields(t *testing.T) {
	for _, address := range []uint64{0, 5, 1048576} {
		r := usual(t)
		for n := range 4 {
			x := r.answer(n%2, api.OK, ballot(0, 0), api.Layout{})
			x.Address, x.Streams, x.Backs = address, []int{1, 4}, []api.Back{{Stream: 3, Last: [2]uint64{7, 2}}}
			x.Cell = api.Cell{Kind: api.Data, Data: []byte("hey")}
			if !message.Right(x) || !r.hear(x) {
				t.Errorf("not taken in: %+v", x)
			}
		}
		if _, over := r.p.Decided(); !over {
			t.Error("not decided")
		}
	}
}

// P13.1 (O2), rule 8: the nil proposer.
func TestNil(t *testing.T) {
	var p *proposer.Proposer
	if e := p.Start(); e != api.ErrArg {
		t.Errorf("Start: %d", e)
	}
	if e := p.Tick(); e != api.ErrArg {
		t.Errorf("Tick: %d", e)
	}
	for _, b := range []api.Ballot{ballot(0, 0), ballot(1, 0), ballot(1, 1)} {
		for _, of := range []api.MessageKind{api.Prepare, api.Accept} {
			m := told(of, 0, 0, api.OK, ballot(0, 0), api.Layout{})
			m.Ballot, m.To, m.ID = b, client(b.Client), 0
			if p.Hear(m) {
				t.Errorf("Hear: %+v", m)
			}
		}
	}
	if p.Hear(api.Message{}) {
		t.Error("Hear")
	}
	if l := p.Out(); len(l) != 0 {
		t.Errorf("Out: %v", l)
	}
	if b := p.Ballot(); b != ballot(0, 0) {
		t.Errorf("Ballot: %v", b)
	}
	if l, over := p.Decided(); over || !layout.Same(l, api.Layout{}) {
		t.Errorf("Decided: %v, %v", l, over)
	}
}
