package unit_test

import (
	"testing"

	"rotulet/api"
	"rotulet/message"
	"rotulet/unit"
)

// lists is a message with something in each of its lists.
func lists(kind api.MessageKind, c api.Cell) api.Message {
	m := full(kind)
	m.Cell = c
	return m
}

// spoilAll changes whatever a message has in its lists.
func spoilAll(m api.Message) {
	spoil(m.Cell)
	for i := range m.Streams {
		m.Streams[i] = 9
	}
	for i := range m.Backs {
		m.Backs[i] = back(13, 1, 0)
	}
	for i, s := range m.Layout.Segments {
		for _, c := range s.Chains {
			clear(c)
		}
		m.Layout.Segments[i] = api.Segment{From: 99}
	}
}

// hands asks a unit without spoiling anything.
func hands(t *testing.T, u *unit.Unit, m api.Message) api.Message {
	t.Helper()
	a, ok := u.Serve(m)
	if !ok {
		t.Fatalf("%+v is not answered", m)
	}
	return a
}

// Rule 4: a message that is handed in is not kept: when it is changed, the unit's pages and its answers do not change, for each kind that takes a cell.
func TestHandedIn(t *testing.T) {
	for _, kind := range []api.MessageKind{api.Write, api.Copy} {
		r := roomy(t)
		c := data("first", back(3, 7, 2), back(5, 9, none))
		m := lists(kind, data("first", back(3, 7, 2), back(5, 9, none)))
		was := tell(m)
		a := hands(t, r.u, m)
		one, two := hands(t, r.u, ask(api.Read, 6, 4, empty())), hands(t, r.u, ask(api.Write, 6, 4, junk()))
		if tell(m) != was {
			t.Errorf("kind %d: the message was changed: %+v", kind, m)
		}
		spoilAll(m)
		for _, x := range []api.Message{one, two, hands(t, r.u, ask(api.Read, 6, 4, empty())), hands(t, opened(t, r.d.Crash(nil)), ask(api.Read, 6, 4, empty()))} {
			if tell(api.Message{Cell: x.Cell}) != tell(api.Message{Cell: c}) {
				t.Errorf("kind %d: the cell is %+v", kind, x.Cell)
			}
		}
		if !message.Same(a, reply(kind, 6, 4, api.OK, empty())) {
			t.Errorf("kind %d: the answer is %+v", kind, a)
		}
	}
}

// cellsOut are messages whose answers have the cell of address 4, each in memory of its own.
func cellsOut() []api.Message {
	return []api.Message{
		ask(api.Read, 0, 4, empty()), ask(api.Read, 0, 4, data("first", back(3, 7, 2))),
		ask(api.Write, 0, 4, data("later", back(3, 7, 2))), ask(api.Write, 0, 4, data("first", back(3, 7, 2))), ask(api.Copy, 0, 4, data("later", back(3, 7, 2))),
	}
}

// Rule 4: answers share nothing with each other, with the messages that they answer, or with the pages.
func TestHandedOut(t *testing.T) {
	r := roomy(t)
	c := data("first", back(3, 7, 2))
	r.serve(ask(api.Write, 0, 4, c))
	for i := range cellsOut() {
		for k := range cellsOut() {
			x, y := cellsOut()[i], cellsOut()[k]
			a, b, again := hands(t, r.u, x), hands(t, r.u, y), hands(t, r.u, x)
			was := tell(x) + tell(y) + tell(b) + tell(again)
			spoilAll(a)
			if now := tell(x) + tell(y) + tell(b) + tell(again); now != was {
				t.Errorf("%d, %d: %s, and it was %s", i, k, now, was)
			}
			spoilAll(x)
			for _, m := range []api.Message{b, again, hands(t, r.u, y), hands(t, r.u, ask(api.Read, 0, 4, empty()))} {
				if !message.Same(m, reply(m.Of, 0, 4, m.Error, c)) {
					t.Errorf("%d, %d: %+v", i, k, m)
				}
			}
		}
	}
}

// Rule 4: what was handed in and out stays as it is when the unit goes on, or another unit with the same message.
func TestUnitGoesOn(t *testing.T) {
	x, y := roomy(t), roomy(t)
	m := lists(api.Write, data("first", back(3, 7, 2)))
	hands(t, x.u, m)
	hands(t, y.u, m)
	a, b := hands(t, x.u, m), hands(t, y.u, m)
	c := hands(t, x.u, ask(api.Read, 6, 4, empty()))
	was := tell(m) + tell(a) + tell(b) + tell(c)
	for _, u := range []*unit.Unit{x.u, y.u} {
		for _, next := range []api.Message{ask(api.Copy, 6, 4, empty()), ask(api.Trim, 6, 9, empty()), ask(api.Write, 6, 12, great()), ask(api.Open, 6, 0, empty()), ask(api.Seal, 9, 0, empty())} {
			hands(t, u, next)
			if tell(m)+tell(a)+tell(b)+tell(c) != was {
				t.Errorf("%+v: changed: %+v, %+v, %+v, %+v", next, m, a, b, c)
			}
		}
		if b := hands(t, y.u, ask(api.Read, 9, 4, empty())); u == x.u && (b.Error != api.OK || string(b.Cell.Data) != "first") {
			t.Errorf("the other unit: %+v", b)
		}
	}
}

// Rule 4: memory behind the end of a cell's lists is not taken in.
func TestBehindTheEnd(t *testing.T) {
	r := roomy(t)
	for a, c := range some() {
		given := lent(c)
		for _, m := range []api.Message{ask(api.Write, 0, uint64(a), given), ask(api.Copy, 0, uint64(a), given), ask(api.Write, 0, uint64(a), given)} {
			got := hands(t, r.u, m)
			if !untouched(given, c) {
				t.Fatalf("%+v: the cell was changed", m)
			}
			_, _ = append(got.Cell.Data, "more"...), append(got.Cell.Backs, back(1, 1, 1))
		}
		if got := hands(t, r.u, ask(api.Read, 0, uint64(a), empty())); !message.Same(got, reply(api.Read, 0, uint64(a), api.OK, c)) {
			t.Fatalf("%+v, want %+v", got, c)
		}
	}
}
