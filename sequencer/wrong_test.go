package sequencer_test

import (
	"strings"
	"testing"

	"rotulet/api"
	"rotulet/message"
	"rotulet/sequencer"
)

// asks are messages of all kinds that a sequencer of epoch 6 would answer without an error.
func asks() []api.Message {
	return []api.Message{tail(6), token(6), token(6, 2, 3), begin(7, 9), begin(7, 9, back(3, 8, 7), back(5, 4, none))}
}

// used is a sequencer of epoch 6 that gave some addresses out.
func used(t *testing.T) *sequencer.Sequencer {
	t.Helper()
	s := fresh(t)
	for _, m := range []api.Message{begin(6, 20, back(2, 19, 5), back(4, 6, none)), token(6, 2), token(6, 3)} {
		if a, ok := serve(t, s, m); !ok || a.Error != api.OK {
			t.Fatalf("%+v: %+v, %v", m, a, ok)
		}
	}
	return s
}

// spoilt are ways in which a message is not valid.
func spoilt() map[string]func(m *api.Message) {
	return map[string]func(m *api.Message){
		"Kind -1": func(m *api.Message) { m.Kind = -1 }, "Kind 0": func(m *api.Message) { m.Kind = 0 }, "Kind 15": func(m *api.Message) { m.Kind = 15 },
		"Kind of 33 bits": func(m *api.Message) { m.Kind += 1 << 32 }, "Of": func(m *api.Message) { m.Of = api.Token }, "Of -1": func(m *api.Message) { m.Of = -1 },
		"no From": func(m *api.Message) { m.From = api.Place{} }, "From 32": func(m *api.Message) { m.From = place(api.Unit, 32) }, "From client 4": func(m *api.Message) { m.From = client(4) },
		"From -1": func(m *api.Message) { m.From = client(-1) }, "From server 3": func(m *api.Message) { m.From = place(api.Server, 3) }, "From a fifth role": func(m *api.Message) { m.From.Role = 5 },
		"ID -1": func(m *api.Message) { m.ID = -1 }, "ID 2^20": func(m *api.Message) { m.ID = 1048576 },
		"Epoch": func(m *api.Message) { m.Epoch = 1048577 }, "Epoch of 33 bits": func(m *api.Message) { m.Epoch += 1 << 32 }, "Epoch None": func(m *api.Message) { m.Epoch = none },
		"Address": func(m *api.Message) { m.Address = 1048577 }, "Address of 33 bits": func(m *api.Message) { m.Address += 1 << 32 }, "Address None": func(m *api.Message) { m.Address = none },
		"Error -1": func(m *api.Message) { m.Error = -1 }, "Error 256": func(m *api.Message) { m.Error = 256 },
		"Cell of kind 3": func(m *api.Message) { m.Cell.Kind = 3 }, "Cell of kind 0 with Data": func(m *api.Message) { m.Cell.Data = []byte("x") },
		"junk with Data": func(m *api.Message) { m.Cell = api.Cell{Kind: api.Junk, Data: []byte("x")} },
		"Cell of 101":    func(m *api.Message) { m.Cell = api.Cell{Kind: api.Data, Data: []byte(strings.Repeat("z", 101))} },
		"Cell's Backs":   func(m *api.Message) { m.Cell = api.Cell{Kind: api.Data, Backs: []api.Back{back(3, 2, 2)}} },
		"a stream twice": func(m *api.Message) { m.Streams = []int{1, 1} }, "streams out of order": func(m *api.Message) { m.Streams = []int{2, 1} },
		"stream 16": func(m *api.Message) { m.Streams = []int{16} }, "stream -1": func(m *api.Message) { m.Streams = []int{-1} }, "stream of 33 bits": func(m *api.Message) { m.Streams = []int{1 << 32} },
		"five Streams": func(m *api.Message) { m.Streams = []int{1, 2, 3, 4, 5} }, "all Streams": func(m *api.Message) { m.Streams = []int{0, 1, 2, 3, 4, 5, 6, 7, 8, 9, 10, 11, 12, 13, 14, 15} },
		"Back's Last": func(m *api.Message) { m.Backs = []api.Back{back(1, 2, 3)} }, "Back's Lasts alike": func(m *api.Message) { m.Backs = []api.Back{back(1, 2, 2)} },
		"Back's None in front": func(m *api.Message) { m.Backs = []api.Back{back(1, none, 2)} }, "Back's MaxAddress": func(m *api.Message) { m.Backs = []api.Back{back(1, most, 2)} },
		"Back's Last of 33 bits": func(m *api.Message) { m.Backs = []api.Back{back(1, 1<<32+2, 1)} }, "Back's second": func(m *api.Message) { m.Backs = []api.Back{back(1, 2, none-1)} },
		"Backs' streams": func(m *api.Message) { m.Backs = []api.Back{back(2, 3, 2), back(1, 3, 2)} }, "a Back twice": func(m *api.Message) { m.Backs = []api.Back{back(2, 3, 2), back(2, 3, 2)} },
		"Back's stream 16": func(m *api.Message) { m.Backs = []api.Back{back(16, 3, 2)} }, "Back's stream -1": func(m *api.Message) { m.Backs = []api.Back{back(-1, 3, 2)} },
		"Ballot": func(m *api.Message) { m.Ballot.Round = 65536 }, "Ballot's client": func(m *api.Message) { m.Ballot.Client = 4 }, "Promised": func(m *api.Message) { m.Promised.Round = -1 },
		"Layout": func(m *api.Message) { m.Layout.Sequencer = 32 }, "Layout with an epoch alone": func(m *api.Message) { m.Layout = api.Layout{Epoch: 3} },
	}
}

// misled are messages that sequencer 5 does not answer, late and not, that it would answer but for one thing, or two.
func misled() map[string]api.Message {
	l := map[string]api.Message{"zero": {}}
	for _, right := range asks() {
		for _, epoch := range []uint64{0, 5, 6, 7} {
			right.Epoch = epoch
			text := tell(right)
			for what, change := range spoilt() {
				m := right
				change(&m)
				l[what+" of "+text] = m
				m.To.Number = 6
				l[what+" to another sequencer of "+text] = m
			}
			for to := range 32 {
				m := right
				if m.To.Number = to; to != 5 {
					l["to another sequencer: "+tell(m)] = m
				}
			}
			for _, to := range []api.Place{place(api.Sequencer, 32), place(api.Sequencer, 5+32), place(api.Sequencer, 5-32), place(api.Sequencer, -1), place(api.Sequencer, 1<<32+5), place(api.Unit, 5), place(api.Server, 5), place(api.Client, 5), place(api.Server, 2), client(2), place(0, 5), place(5, 5), place(-1, 5), place(1<<32+2, 5), {}} {
				m := right
				m.To = to
				l["not to a sequencer: "+tell(m)] = m
			}
			for kind := api.Write; kind <= api.Reply; kind++ {
				m := right
				if m.Kind = kind; kind != api.Token && kind != api.Begin && kind != api.Tail {
					l["of a kind: "+tell(m)] = m
				}
			}
			reply := right
			reply.Kind, reply.Of = api.Reply, right.Kind
			l["a Reply: "+tell(reply)] = reply
		}
	}
	return l
}

// P15.1 (Q1), wrong inputs: what a sequencer does not answer: a zero message and false, and nothing has changed; of a nil sequencer, so is all.
func TestNotServed(t *testing.T) {
	s := used(t)
	was := shot(s)
	for what, m := range misled() {
		for _, x := range []*sequencer.Sequencer{s, nil} {
			if a, ok := x.Serve(m); ok || tell(a) != tell(api.Message{}) {
				t.Errorf("%s: %+v, %v", what, a, ok)
			}
		}
	}
	if shot(s) != was {
		t.Errorf("%s, and it was %s", shot(s), was)
	}
}

// P15.1: each of the messages that the wrong ones were made of is answered.
func TestServed(t *testing.T) {
	for _, m := range asks() {
		if a, ok := serve(t, used(t), m); !ok || a.Error != api.OK {
			t.Errorf("%+v: %+v, %v", m, a, ok)
		}
	}
}

// P15.1, rule 8: every call of a nil sequencer.
func TestNil(t *testing.T) {
	var s *sequencer.Sequencer
	numbers(t, s, 0, 0)
	lasts(t, s, nil)
	for _, n := range []int{-1 << 63, 1<<63 - 1, 1 << 32} {
		if got := s.Last(n); got != pair(none, none) {
			t.Errorf("Last(%d): %d", n, got)
		}
	}
	for _, m := range asks() {
		for to := range 32 {
			m.To.Number = to
			if a, ok := s.Serve(m); ok || tell(a) != tell(api.Message{}) {
				t.Errorf("%+v: %+v, %v", m, a, ok)
			}
		}
	}
}

// P15.1 (Q2): Last of numbers that are no streams.
func TestLastOfNoStream(t *testing.T) {
	s := fresh(t)
	var l []api.Back
	for n := range 16 {
		l = append(l, back(n, 90-uint64(n), 40+uint64(n)))
	}
	serve(t, s, begin(1, 91, l...))
	for n := range 16 {
		if got := s.Last(n); got != l[n].Last {
			t.Errorf("Last(%d): %d", n, got)
		}
	}
	for _, n := range []int{-1 << 63, -16, -15, -2, -1, 16, 17, 31, 32, 1 << 32, 1<<32 + 3, 1<<63 - 1} {
		if got := s.Last(n); got != pair(none, none) {
			t.Errorf("Last(%d): %d", n, got)
		}
	}
}

// P15.1 (Q1), rule 1: the error that comes first where several hold; what is refused changes nothing.
func TestFirstError(t *testing.T) {
	late := begin(6, 4, back(3, 9, 8))
	for _, x := range []struct {
		asked, want api.Message
	}{
		{late, reply(api.Begin, 6, 4, api.ErrSealed)},
		{begin(0, 0, back(3, 9, 8)), reply(api.Begin, 6, 0, api.ErrSealed)},
		{begin(7, 4, back(3, 9, 8)), reply(api.Begin, 7, 4, api.ErrStream)},
		{begin(7, 4, back(3, 3, 2), back(4, 4, 2)), reply(api.Begin, 7, 4, api.ErrStream)},
		{begin(most, 0, back(15, 0, none)), reply(api.Begin, most, 0, api.ErrStream)},
		{token(5, 3), reply(api.Token, 6, 0, api.ErrSealed)},
		{token(7, 3), reply(api.Token, 6, 0, api.ErrSealed)},
		{token(0), reply(api.Token, 6, 0, api.ErrSealed)},
		{tail(0), reply(api.Tail, 6, 0, api.ErrSealed)},
		{token(6, 3), reply(api.Token, 6, 0, api.ErrSpace)},
	} {
		s := fresh(t)
		serve(t, s, begin(6, most-1, back(3, 5, none)))
		serve(t, s, token(6, 3))
		was := shot(s)
		exchanges(t, s, []exchange{x, x})
		if shot(s) != was {
			t.Errorf("%+v: %s, and it was %s", x.asked, shot(s), was)
		}
	}
}

// P15.1 (Q1): all answers with an error tell nothing but what chapter 10's Answer and Q1 say.
func TestRefused(t *testing.T) {
	stirred := stir(158)
	seen := map[api.Errno]int{}
	for range 200 {
		s := fresh(t)
		for range 60 {
			m := stirred.message(s.Epoch())
			was := shot(s)
			a, _ := serve(t, s, m)
			if a.Error == api.OK {
				continue
			}
			seen[a.Error]++
			want := message.Answer(m, a.Error)
			if a.Error == api.ErrSealed {
				want.Epoch = s.Epoch()
			}
			if !message.Same(a, want) || shot(s) != was {
				t.Fatalf("%+v: %+v, want %+v; %s, and it was %s", m, a, want, shot(s), was)
			}
		}
	}
	for _, e := range []api.Errno{api.ErrSealed, api.ErrStream, api.ErrSpace} {
		if seen[e] < 50 {
			t.Errorf("error %d: %d times", e, seen[e])
		}
	}
}
