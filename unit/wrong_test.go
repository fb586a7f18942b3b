package unit_test

import (
	"bytes"
	"strings"
	"testing"

	"rotulet/api"
	"rotulet/message"
	"rotulet/pages"
	"rotulet/unit"
)

// full is a message with a bit of all, each number another one, most of which has no meaning to a unit.
func full(kind api.MessageKind) api.Message {
	m := ask(kind, 6, 4, data("hey", back(3, 2, 1)))
	m.Error, m.Streams, m.Backs = 84, []int{1, 4}, []api.Back{back(4, 8, none), back(9, 600, 5)}
	m.Ballot, m.Promised = api.Ballot{Round: 6000, Client: 1}, api.Ballot{Round: 7000, Client: 3}
	m.Layout = api.Layout{Epoch: 4, Sequencer: 2, Segments: []api.Segment{{Chains: [][]int{{1, 2}, {3}}}, {From: 10, Chains: [][]int{{5, 1}}}}}
	return m
}

// used is a unit with epoch 6 in which something is written at 9, and 8 is trimmed.
func used(t *testing.T) *rig {
	t.Helper()
	r := roomy(t)
	r.all(ask(api.Write, 0, 9, data("kept")), ask(api.TrimOne, 0, 8, empty()), ask(api.Open, 3, 0, empty()), ask(api.Seal, 6, 0, empty()))
	return r
}

// P14.1: fields that have no meaning in a message do not matter, and do not come back.
func TestFurtherFields(t *testing.T) {
	for _, kind := range kinds() {
		for _, epoch := range []uint64{5, 6} {
			x, y := used(t), used(t)
			m := full(kind)
			m.Epoch = epoch
			plain := ask(kind, epoch, 4, m.Cell)
			if a, b := x.serve(m), y.serve(plain); tell(a) != tell(b) || shot(x.u.Pages()) != shot(y.u.Pages()) {
				t.Errorf("%+v: %+v, and %+v", m, a, b)
			}
		}
	}
}

// P14.1: messages of kinds that carry no cell to a unit, with one all the same.
func TestFurtherCells(t *testing.T) {
	for _, kind := range []api.MessageKind{api.Read, api.Open, api.Trim, api.TrimOne, api.Seal, api.Tail} {
		for _, c := range some() {
			for _, a := range []uint64{4, 8, 9, 1048576} {
				x, y := used(t), used(t)
				if a, b := x.serve(ask(kind, 7, a, c)), y.serve(ask(kind, 7, a, empty())); tell(a) != tell(b) || shot(x.u.Pages()) != shot(y.u.Pages()) {
					t.Errorf("%d: %+v, and %+v", kind, a, b)
				}
			}
		}
	}
}

// spoilt are ways in which a message is not valid.
func spoilt() map[string]func(m *api.Message) {
	return map[string]func(m *api.Message){
		"Kind -1": func(m *api.Message) { m.Kind = -1 }, "Kind 0": func(m *api.Message) { m.Kind = 0 }, "Kind 15": func(m *api.Message) { m.Kind = 15 },
		"Kind of 33 bits": func(m *api.Message) { m.Kind += 1 << 32 }, "Of": func(m *api.Message) { m.Of = api.Write }, "Of -1": func(m *api.Message) { m.Of = -1 },
		"no From": func(m *api.Message) { m.From = api.Place{} }, "From 32": func(m *api.Message) { m.From = place(api.Unit, 32) }, "From client 4": func(m *api.Message) { m.From = client(4) },
		"From -1": func(m *api.Message) { m.From = client(-1) }, "From server 3": func(m *api.Message) { m.From = place(api.Server, 3) }, "From a fifth role": func(m *api.Message) { m.From.Role = 5 },
		"ID -1": func(m *api.Message) { m.ID = -1 }, "ID 2^20": func(m *api.Message) { m.ID = 1048576 },
		"Epoch": func(m *api.Message) { m.Epoch = 1048577 }, "Epoch of 33 bits": func(m *api.Message) { m.Epoch += 1 << 32 }, "Epoch None": func(m *api.Message) { m.Epoch = none },
		"Address": func(m *api.Message) { m.Address = 1048577 }, "Address of 33 bits": func(m *api.Message) { m.Address += 1 << 32 }, "Address None": func(m *api.Message) { m.Address = none },
		"Error -1": func(m *api.Message) { m.Error = -1 }, "Error 256": func(m *api.Message) { m.Error = 256 },
		"Cell of kind 3": func(m *api.Message) { m.Cell.Kind = 3 }, "Cell of kind -1": func(m *api.Message) { m.Cell.Kind = -1 }, "Cell of kind 0 with Data": func(m *api.Message) { m.Cell = api.Cell{Data: []byte("x")} },
		"Cell of kind 0 with Backs": func(m *api.Message) { m.Cell = api.Cell{Backs: []api.Back{back(3, 2, 1)}} }, "junk with Data": func(m *api.Message) { m.Cell = api.Cell{Kind: api.Junk, Data: []byte("x")} },
		"junk with Backs":  func(m *api.Message) { m.Cell = api.Cell{Kind: api.Junk, Backs: []api.Back{back(3, 2, 1)}} },
		"Cell of 101":      func(m *api.Message) { m.Cell = data(strings.Repeat("z", 101)) },
		"Cell's Backs":     func(m *api.Message) { m.Cell = data("", back(3, 2, 2)) },
		"Cell's streams":   func(m *api.Message) { m.Cell = data("", back(3, 2, 1), back(3, 2, 1)) },
		"Cell's stream 16": func(m *api.Message) { m.Cell = data("", back(16, 2, 1)) },
		"Streams":          func(m *api.Message) { m.Streams = []int{1, 1} }, "stream 16": func(m *api.Message) { m.Streams = []int{16} }, "five Streams": func(m *api.Message) { m.Streams = []int{1, 2, 3, 4, 5} },
		"Backs": func(m *api.Message) { m.Backs = []api.Back{back(1, 2, 3)} }, "Backs' streams": func(m *api.Message) { m.Backs = []api.Back{back(2, 3, 2), back(1, 3, 2)} },
		"Ballot": func(m *api.Message) { m.Ballot.Round = 65536 }, "Ballot's client": func(m *api.Message) { m.Ballot.Client = 4 }, "Promised": func(m *api.Message) { m.Promised.Round = -1 },
		"Layout": func(m *api.Message) { m.Layout.Sequencer = 32 }, "Layout with an epoch alone": func(m *api.Message) { m.Layout = api.Layout{Epoch: 3} },
	}
}

// misled are messages that a unit does not answer, late and not, that it would answer but for one thing, or two.
func misled() map[string]api.Message {
	l := map[string]api.Message{"zero": {}}
	for _, epoch := range []uint64{0, 6, 7} {
		for _, kind := range kinds() {
			right := ask(kind, epoch, 4, junk())
			text := tell(right)
			for what, change := range spoilt() {
				m := right
				change(&m)
				l[what+" of "+text] = m
				m.To.Number = 6
				l[what+" to another unit of "+text] = m
			}
			for to := range 32 {
				m := right
				if m.To.Number = to; to != 5 {
					l["to another unit: "+tell(m)] = m
				}
			}
			for _, to := range []api.Place{place(api.Unit, 32), place(api.Unit, 5+32), place(api.Unit, 5-32), place(api.Unit, -1), place(api.Sequencer, 5), place(api.Server, 5), place(api.Client, 5), place(api.Server, 2), client(2), place(0, 5), place(5, 5), place(-1, 5), {}} {
				m := right
				m.To = to
				l["not to a unit: "+tell(m)] = m
			}
			reply := message.Answer(right, api.OK)
			reply.From, reply.To = reply.To, reply.From
			l["a Reply: "+tell(reply)] = reply
			reply.Of = 0
			l["a Reply without Of: "+tell(reply)] = reply
		}
		for kind := api.Token; kind <= api.Reply; kind++ {
			m := ask(kind, epoch, 4, junk())
			l["of a kind: "+tell(m)] = m
		}
	}
	return l
}

// P14.1 (I1), wrong inputs: what a unit does not answer: a zero message and false, and nothing has changed; of a nil unit, so is all.
func TestNotServed(t *testing.T) {
	r := used(t)
	was, before := shot(r.u.Pages()), image(r.d)
	for what, m := range misled() {
		for _, u := range []*unit.Unit{r.u, nil} {
			if a, ok := u.Serve(m); ok || tell(a) != tell(api.Message{}) {
				t.Errorf("%s: %+v, %v", what, a, ok)
			}
		}
	}
	if shot(r.u.Pages()) != was || !bytes.Equal(image(r.d), before) {
		t.Errorf("changed: %s", shot(r.u.Pages()))
	}
}

// P14.1, rule 8: every call of a nil unit.
func TestNil(t *testing.T) {
	var u *unit.Unit
	if u.Pages() != nil || u.Number() != 0 {
		t.Errorf("%p, %d", u.Pages(), u.Number())
	}
	for _, kind := range kinds() {
		for to := range 6 {
			m := ask(kind, 6, 4, junk())
			m.To.Number = to
			if a, ok := u.Serve(m); ok || tell(a) != tell(api.Message{}) {
				t.Errorf("%+v: %+v, %v", m, a, ok)
			}
		}
	}
}

// P14.1 (I2), rule 1: the error that comes first where several hold.
func TestFirstError(t *testing.T) {
	r := used(t)
	before := image(r.d)
	var l []exchange
	for _, x := range []struct {
		kind    api.MessageKind
		address uint64
		cell    api.Cell
		want    api.Errno
	}{
		{api.Write, 9, empty(), api.ErrArg}, {api.Write, 8, empty(), api.ErrArg}, {api.Write, 4, empty(), api.ErrArg}, {api.Write, 1048576, empty(), api.ErrArg}, {api.Write, 1048576, junk(), api.ErrArg},
		{api.Write, 8, junk(), api.ErrTrimmed}, {api.Copy, 8, junk(), api.ErrTrimmed}, {api.Copy, 1048576, junk(), api.ErrArg}, {api.Copy, 1048576, empty(), api.ErrArg},
		{api.Read, 8, empty(), api.ErrTrimmed}, {api.Read, 4, empty(), api.ErrUnwritten}, {api.Read, 1048576, empty(), api.ErrArg}, {api.TrimOne, 1048576, empty(), api.ErrArg},
	} {
		for _, epoch := range []uint64{6, 7, 1048576} {
			l = append(l, exchange{ask(x.kind, epoch, x.address, x.cell), reply(x.kind, epoch, x.address, x.want, empty())})
		}
		// What is late is told ahead of all else.
		for _, epoch := range []uint64{0, 5} {
			l = append(l, exchange{ask(x.kind, epoch, x.address, x.cell), reply(x.kind, 6, x.address, api.ErrSealed, empty())})
		}
	}
	for _, epoch := range []uint64{0, 5} {
		l = append(l, exchange{ask(api.Write, epoch, 9, junk()), reply(api.Write, 6, 9, api.ErrSealed, empty())})
		l = append(l, exchange{ask(api.Copy, epoch, 9, junk()), reply(api.Copy, 6, 9, api.ErrSealed, empty())})
	}
	exchanges(t, r.u, l)
	if !bytes.Equal(image(r.d), before) {
		t.Error("changed")
	}
}

// P1: pages that nobody opened have no tape: what has to be kept is refused, and nothing panics.
func TestPagesThatWereNotOpened(t *testing.T) {
	u, e := unit.New(new(pages.Pages), 5)
	if e != api.OK {
		t.Fatalf("New: %d", e)
	}
	exchanges(t, u, []exchange{
		{ask(api.Write, 0, 4, junk()), reply(api.Write, 0, 4, api.ErrArg, empty())},
		{ask(api.Copy, 0, 4, junk()), reply(api.Copy, 0, 4, api.ErrArg, empty())},
		{ask(api.Copy, 0, 4, empty()), reply(api.Copy, 0, 4, api.ErrArg, empty())},
		{ask(api.Read, 0, 4, empty()), reply(api.Read, 0, 4, api.ErrUnwritten, empty())},
		{ask(api.Open, 2, 4, empty()), reply(api.Open, 2, 4, api.ErrArg, empty())},
		{ask(api.Trim, 0, 4, empty()), reply(api.Trim, 0, 4, api.ErrArg, empty())},
		{ask(api.TrimOne, 0, 4, empty()), reply(api.TrimOne, 0, 4, api.ErrArg, empty())},
		{ask(api.Seal, 2, 4, empty()), reply(api.Seal, 0, 0, api.ErrArg, empty())},
		{ask(api.Tail, 0, 4, empty()), reply(api.Tail, 0, 0, api.OK, empty())},
	})
}
