package unit_test

import (
	"bytes"
	"testing"

	"rotulet/api"
)

// alike fails if two units do not have the same pages, or their disks not the same bytes.
func alike(t *testing.T, what string, x, y *rig) {
	t.Helper()
	if a, b := shot(x.u.Pages()), shot(y.u.Pages()); a != b {
		t.Fatalf("%s: %s, and %s", what, a, b)
	}
	if !bytes.Equal(image(x.d), image(y.d)) {
		t.Fatalf("%s: the disks differ", what)
	}
}

// repeated are messages that change something, each in some way, and such as do not.
func repeated() []api.Message {
	l := asks(2, 4, data("x"), junk())
	l = append(l, asks(3, 6, data("x"))...)
	return append(l, ask(api.Seal, 4, 4, empty()), ask(api.Open, 5, 4, empty()), ask(api.Trim, 2, 7, empty()), ask(api.Trim, 2, 1048576, empty()), ask(api.Read, 1, 4, empty()), ask(api.Write, 2, 1048576, junk()))
}

// P14.3: what is answered to a message that comes twice, worked out by hand.
func TestTwiceByHand(t *testing.T) {
	r := roomy(t)
	x, y := data("x", back(3, 2, 1)), data("y")
	exchanges(t, r.u, []exchange{
		{ask(api.Write, 0, 4, x), reply(api.Write, 0, 4, api.OK, empty())},
		{ask(api.Write, 0, 4, x), reply(api.Write, 0, 4, api.ErrWritten, x)},
		{ask(api.Write, 0, 4, y), reply(api.Write, 0, 4, api.ErrWritten, x)},
		{ask(api.Write, 0, 4, y), reply(api.Write, 0, 4, api.ErrWritten, x)},
		{ask(api.Copy, 0, 6, y), reply(api.Copy, 0, 6, api.OK, empty())},
		{ask(api.Copy, 0, 6, y), reply(api.Copy, 0, 6, api.OK, empty())},
		{ask(api.Copy, 0, 6, x), reply(api.Copy, 0, 6, api.ErrWritten, y)},
		{ask(api.Copy, 0, 6, x), reply(api.Copy, 0, 6, api.ErrWritten, y)},
		{ask(api.Read, 0, 6, empty()), reply(api.Read, 0, 6, api.OK, y)},
		{ask(api.Read, 0, 6, empty()), reply(api.Read, 0, 6, api.OK, y)},
		{ask(api.Copy, 0, 6, empty()), reply(api.Copy, 0, 6, api.OK, empty())},
		{ask(api.Copy, 0, 6, empty()), reply(api.Copy, 0, 6, api.OK, empty())},
		{ask(api.TrimOne, 0, 5, empty()), reply(api.TrimOne, 0, 5, api.OK, empty())},
		{ask(api.TrimOne, 0, 5, empty()), reply(api.TrimOne, 0, 5, api.OK, empty())},
		{ask(api.Trim, 0, 3, empty()), reply(api.Trim, 0, 3, api.OK, empty())},
		{ask(api.Trim, 0, 3, empty()), reply(api.Trim, 0, 3, api.OK, empty())},
		{ask(api.Open, 2, 0, empty()), reply(api.Open, 2, 0, api.OK, empty())},
		{ask(api.Open, 2, 0, empty()), reply(api.Open, 2, 0, api.OK, empty())},
		{ask(api.Seal, 6, 0, empty()), reply(api.Seal, 2, 7, api.OK, empty())},
		{ask(api.Seal, 6, 0, empty()), reply(api.Seal, 2, 7, api.OK, empty())},
		{ask(api.Tail, 6, 0, empty()), reply(api.Tail, 2, 7, api.OK, empty())},
		{ask(api.Tail, 6, 0, empty()), reply(api.Tail, 2, 7, api.OK, empty())},
		{ask(api.Trim, 6, 5, empty()), reply(api.Trim, 6, 5, api.OK, empty())},
		{ask(api.Write, 6, 4, x), reply(api.Write, 6, 4, api.ErrTrimmed, empty())},
		{ask(api.Write, 6, 6, junk()), reply(api.Write, 6, 6, api.ErrTrimmed, empty())},
		{ask(api.Write, 0, 4, x), reply(api.Write, 6, 4, api.ErrSealed, empty())},
	})
}

// P14.3: any two messages, behind which the first one comes again once or twice, at once or behind the other one, also behind a crash.
func TestTwice(t *testing.T) {
	l := repeated()
	for _, first := range l {
		for _, second := range l {
			x, y := fresh(t, 21), fresh(t, 21)
			x.serve(first)
			y.all(first, first, first)
			alike(t, "at once", x, y)
			x.serve(second)
			y.all(second, first, second)
			alike(t, "behind another one", x, y)
			y.reopen(true)
			y.all(first, second, second, first)
			alike(t, "behind a crash", x, y)
		}
	}
}

// P14.3: long scripts, in which messages come again, however late.
func TestTwiceAmidOthers(t *testing.T) {
	s := stir(145)
	for range 80 {
		x, y := roomy(t), roomy(t)
		var gone []api.Message
		for range 30 {
			m := s.message(x.m.epoch())
			gone = append(gone, m)
			x.serve(m)
			y.serve(m)
			for range s.below(4) {
				y.serve(gone[s.below(len(gone))])
			}
			if s.below(8) == 0 {
				y.reopen(s.below(2) == 0)
			}
			alike(t, tell(m), x, y)
		}
	}
}

// P14.3: on disks that get full, a message that comes twice at once is refused twice, or has the same effect as once.
func TestTwiceWhenFull(t *testing.T) {
	s := stir(146)
	full := 0
	for range 200 {
		d := s.filled(t)
		u := opened(t, d)
		for range 12 {
			m := s.message(u.Pages().Epoch())
			a, _ := serve(t, u, m)
			was, before := shot(u.Pages()), image(d)
			b, _ := serve(t, u, m)
			if shot(u.Pages()) != was || !bytes.Equal(image(d), before) {
				t.Fatalf("%+v: %+v, then %+v: changed once more: %s, and it was %s", m, a, b, shot(u.Pages()), was)
			}
			if (a.Error == api.ErrFull) != (b.Error == api.ErrFull) || a.Error != api.OK && tell(a) != tell(b) {
				t.Fatalf("%+v: %+v, then %+v", m, a, b)
			}
			if a.Error == api.ErrFull {
				full++
			}
		}
	}
	if full < 100 {
		t.Errorf("full: %d", full)
	}
}
