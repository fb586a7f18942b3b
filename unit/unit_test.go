package unit_test

import (
	"testing"

	"rotulet/api"
	"rotulet/message"
	"rotulet/pages"
	"rotulet/unit"
)

// exchange is a message and its answer, worked out by hand.
type exchange struct{ asked, want api.Message }

// exchanges asks a unit one thing after the other.
func exchanges(t *testing.T, u *unit.Unit, l []exchange) {
	t.Helper()
	for i, x := range l {
		if a, ok := serve(t, u, x.asked); !ok || !message.Same(a, x.want) || !message.Right(a) {
			t.Errorf("%d: %+v, %v, want %+v", i, a, ok, x.want)
		}
	}
}

// P14.1 (I2): what a unit answers, in all fields.
func TestServeByHand(t *testing.T) {
	r := roomy(t)
	x, y := data("x", back(3, 2, 1)), data("y")
	exchanges(t, r.u, []exchange{
		{ask(api.Tail, 0, 77, empty()), reply(api.Tail, 0, 0, api.OK, empty())},
		{ask(api.Tail, 9, 77, empty()), reply(api.Tail, 0, 0, api.OK, empty())},
		{ask(api.Write, 0, 4, x), reply(api.Write, 0, 4, api.OK, empty())},
		{ask(api.Write, 0, 4, y), reply(api.Write, 0, 4, api.ErrWritten, x)},
		{ask(api.Write, 7, 4, x), reply(api.Write, 7, 4, api.ErrWritten, x)},
		{ask(api.Write, 7, 6, junk()), reply(api.Write, 7, 6, api.OK, empty())},
		{ask(api.Write, 0, 4, empty()), reply(api.Write, 0, 4, api.ErrArg, empty())},
		{ask(api.Read, 0, 4, empty()), reply(api.Read, 0, 4, api.OK, x)},
		{ask(api.Read, 3, 6, y), reply(api.Read, 3, 6, api.OK, junk())},
		{ask(api.Read, 0, 5, empty()), reply(api.Read, 0, 5, api.ErrUnwritten, empty())},
		{ask(api.Tail, 0, 0, empty()), reply(api.Tail, 0, 7, api.OK, empty())},
		{ask(api.Copy, 0, 4, x), reply(api.Copy, 0, 4, api.OK, empty())},
		{ask(api.Copy, 0, 4, y), reply(api.Copy, 0, 4, api.ErrWritten, x)},
		{ask(api.Copy, 0, 8, y), reply(api.Copy, 0, 8, api.OK, empty())},
		{ask(api.Read, 0, 8, empty()), reply(api.Read, 0, 8, api.OK, y)},
		{ask(api.Copy, 0, 4, empty()), reply(api.Copy, 0, 4, api.OK, empty())},
		{ask(api.Read, 0, 4, empty()), reply(api.Read, 0, 4, api.ErrTrimmed, empty())},
		{ask(api.Write, 0, 4, x), reply(api.Write, 0, 4, api.ErrTrimmed, empty())},
		{ask(api.Write, 0, 4, empty()), reply(api.Write, 0, 4, api.ErrArg, empty())},
		{ask(api.Copy, 0, 4, x), reply(api.Copy, 0, 4, api.ErrTrimmed, empty())},
		{ask(api.Copy, 0, 4, empty()), reply(api.Copy, 0, 4, api.OK, empty())},
		{ask(api.TrimOne, 0, 9, y), reply(api.TrimOne, 0, 9, api.OK, empty())},
		{ask(api.Tail, 0, 0, empty()), reply(api.Tail, 0, 10, api.OK, empty())},
		{ask(api.Open, 2, 77, empty()), reply(api.Open, 2, 77, api.OK, empty())},
		{ask(api.Open, 1, 77, empty()), reply(api.Open, 1, 77, api.OK, empty())},
		{ask(api.Tail, 0, 77, empty()), reply(api.Tail, 2, 10, api.OK, empty())},
		{ask(api.Seal, 4, 77, empty()), reply(api.Seal, 2, 10, api.OK, empty())},
		{ask(api.Seal, 4, 78, empty()), reply(api.Seal, 2, 10, api.OK, empty())},
		{ask(api.Seal, 3, 77, empty()), reply(api.Seal, 4, 77, api.ErrSealed, empty())},
		{ask(api.Read, 3, 6, empty()), reply(api.Read, 4, 6, api.ErrSealed, empty())},
		{ask(api.Read, 4, 6, empty()), reply(api.Read, 4, 6, api.OK, junk())},
		{ask(api.Read, 5, 6, empty()), reply(api.Read, 5, 6, api.OK, junk())},
		{ask(api.Tail, 3, 77, empty()), reply(api.Tail, 4, 77, api.ErrSealed, empty())},
		{ask(api.Trim, 3, 9, empty()), reply(api.Trim, 4, 9, api.ErrSealed, empty())},
		{ask(api.Trim, 4, 7, empty()), reply(api.Trim, 4, 7, api.OK, empty())},
		{ask(api.Trim, 6, 3, junk()), reply(api.Trim, 6, 3, api.OK, empty())},
		{ask(api.Read, 4, 6, empty()), reply(api.Read, 4, 6, api.ErrTrimmed, empty())},
		{ask(api.Read, 4, 8, empty()), reply(api.Read, 4, 8, api.OK, y)},
		{ask(api.Open, 4, 0, empty()), reply(api.Open, 4, 0, api.OK, empty())},
		{ask(api.Seal, 1048576, 0, empty()), reply(api.Seal, 4, 10, api.OK, empty())},
		{ask(api.Tail, 1048575, 0, empty()), reply(api.Tail, 1048576, 0, api.ErrSealed, empty())},
		{ask(api.Open, 1048576, 0, empty()), reply(api.Open, 1048576, 0, api.OK, empty())},
		{ask(api.Tail, 1048576, 0, empty()), reply(api.Tail, 1048576, 10, api.OK, empty())},
	})
	if got := shot(r.u.Pages()); got != "1048576 1048576 7 10 [{9 10}] [8] {Kind:1 Data:[121] Backs:[]} 0" {
		t.Error(got)
	}
}

// P14.1 (I2): the greatest address, and the number behind it.
func TestGreatestAddress(t *testing.T) {
	const last, most = 1048575, 1048576
	r := roomy(t)
	exchanges(t, r.u, []exchange{
		{ask(api.Read, 0, last, empty()), reply(api.Read, 0, last, api.ErrUnwritten, empty())},
		{ask(api.Read, 0, most, empty()), reply(api.Read, 0, most, api.ErrArg, empty())},
		{ask(api.Write, 0, most, junk()), reply(api.Write, 0, most, api.ErrArg, empty())},
		{ask(api.Write, 0, most, empty()), reply(api.Write, 0, most, api.ErrArg, empty())},
		{ask(api.Copy, 0, most, junk()), reply(api.Copy, 0, most, api.ErrArg, empty())},
		{ask(api.Copy, 0, most, empty()), reply(api.Copy, 0, most, api.ErrArg, empty())},
		{ask(api.TrimOne, 0, most, empty()), reply(api.TrimOne, 0, most, api.ErrArg, empty())},
		{ask(api.Open, 0, most, empty()), reply(api.Open, 0, most, api.OK, empty())},
		{ask(api.Tail, 0, most, empty()), reply(api.Tail, 0, 0, api.OK, empty())},
		{ask(api.Seal, 0, most, empty()), reply(api.Seal, 0, 0, api.OK, empty())},
		{ask(api.Write, 0, last, great()), reply(api.Write, 0, last, api.OK, empty())},
		{ask(api.Write, 0, 0, junk()), reply(api.Write, 0, 0, api.OK, empty())},
		{ask(api.Read, 0, last, empty()), reply(api.Read, 0, last, api.OK, great())},
		{ask(api.Tail, 0, 0, empty()), reply(api.Tail, 0, most, api.OK, empty())},
		{ask(api.Trim, 0, last, empty()), reply(api.Trim, 0, last, api.OK, empty())},
		{ask(api.Read, 0, 0, empty()), reply(api.Read, 0, 0, api.ErrTrimmed, empty())},
		{ask(api.Write, 0, last, junk()), reply(api.Write, 0, last, api.ErrWritten, great())},
		{ask(api.TrimOne, 0, last, empty()), reply(api.TrimOne, 0, last, api.OK, empty())},
		{ask(api.Trim, 0, most, empty()), reply(api.Trim, 0, most, api.OK, empty())},
		{ask(api.Read, 0, last, empty()), reply(api.Read, 0, last, api.ErrTrimmed, empty())},
		{ask(api.Read, 0, most, empty()), reply(api.Read, 0, most, api.ErrArg, empty())},
		{ask(api.TrimOne, 0, most, empty()), reply(api.TrimOne, 0, most, api.ErrArg, empty())},
		{ask(api.Seal, 1, 0, empty()), reply(api.Seal, 0, most, api.OK, empty())},
	})
	if got := shot(r.u.Pages()); got != "1 0 1048576 1048576 [] []" {
		t.Error(got)
	}
}

// P14.1 (I1): each number of a unit; it answers what is addressed to it, as itself, and nothing that is addressed to another one.
func TestNumbers(t *testing.T) {
	for n := range 32 {
		r := roomy(t)
		u, e := unit.New(r.u.Pages(), n)
		if e != api.OK || u.Number() != n || u.Pages() != r.u.Pages() {
			t.Fatalf("New(%d): %d, %d", n, e, u.Number())
		}
		for to := range 32 {
			m := ask(api.Write, 0, uint64(to), junk())
			m.To.Number = to
			a, ok := serve(t, u, m)
			if ok != (to == n) || ok && a.From != m.To {
				t.Errorf("to %d, of %d: %+v, %v", to, n, a, ok)
			}
		}
		if l := r.u.Pages().Written(); len(l) != 1 || l[0] != uint64(n) {
			t.Errorf("%d: written: %v", n, l)
		}
	}
}

// P14.1 (I1): what goes wrong in New.
func TestNewErrors(t *testing.T) {
	p := roomy(t).u.Pages()
	for _, x := range []struct {
		p      *pages.Pages
		number int
		want   api.Errno
	}{
		{p, -1, api.ErrArg}, {p, 0, api.OK}, {p, 31, api.OK}, {p, 32, api.ErrArg}, {p, 33, api.ErrArg}, {p, -1 << 63, api.ErrArg}, {p, 1<<63 - 1, api.ErrArg}, {p, 1 << 32, api.ErrArg},
		{nil, 0, api.ErrArg}, {nil, 3, api.ErrArg}, {nil, -1, api.ErrArg}, {nil, 32, api.ErrArg},
	} {
		u, e := unit.New(x.p, x.number)
		if e != x.want || (u == nil) != (e != api.OK) {
			t.Errorf("New(%p, %d): %p, %d, want %d", x.p, x.number, u, e, x.want)
		}
	}
	if got := shot(p); got != "0 0 0 0 [] []" {
		t.Error(got)
	}
}

// P14.1 (I2): epochs at all edges against the epoch of the pages: only a lesser one is late.
func TestEpochs(t *testing.T) {
	for _, epoch := range []uint64{0, 1, 2, 4, 255, 256, 65536, 1048574, 1048575, 1048576} {
		for _, with := range []uint64{0, 1, epoch - 1, epoch, epoch + 1, 1048575, 1048576} {
			if with > 1048576 {
				continue
			}
			for _, m := range asks(with, 4, junk(), data("x")) {
				r := fresh(t, 21)
				r.all(ask(api.Write, 0, 4, data("x")), ask(api.Open, 3, 0, empty()), ask(api.Seal, epoch, 0, empty()))
				a := r.serve(m)
				if late := with < epoch; late != (a.Error == api.ErrSealed) || late && a.Epoch != epoch {
					t.Fatalf("epoch %d: %+v: %+v", epoch, m, a)
				}
			}
		}
	}
}

// P14.1 (I2): a Write or a Copy of each cell to an address that has each cell, none, or is trimmed in one way or the other.
func TestCells(t *testing.T) {
	for _, kind := range []api.MessageKind{api.Write, api.Copy} {
		for _, c := range append(some(), empty()) {
			for _, had := range some() {
				r := fresh(t, 31)
				r.serve(ask(api.Write, 0, 4, had))
				r.all(ask(kind, 0, 4, c), ask(api.Read, 0, 4, empty()), ask(kind, 0, 5, c), ask(api.Read, 0, 5, empty()))
			}
			r := fresh(t, 31)
			r.all(ask(api.TrimOne, 0, 7, empty()), ask(api.Trim, 0, 3, empty()), ask(kind, 0, 7, c), ask(kind, 0, 2, c), ask(kind, 0, 3, c), ask(api.Read, 0, 7, empty()), ask(api.Read, 0, 2, empty()))
		}
	}
}

// P14.1 (I2): the tail, as a Tail and a Seal tell it, of cells and of addresses that are trimmed in one way or the other.
func TestTails(t *testing.T) {
	for _, x := range []struct {
		made []api.Message
		want uint64
	}{
		{nil, 0},
		{[]api.Message{ask(api.Write, 0, 0, junk())}, 1},
		{[]api.Message{ask(api.Copy, 0, 9, junk()), ask(api.Write, 0, 4, junk())}, 10},
		{[]api.Message{ask(api.Copy, 0, 9, empty()), ask(api.Write, 0, 4, junk())}, 10},
		{[]api.Message{ask(api.TrimOne, 0, 6, empty())}, 7},
		{[]api.Message{ask(api.Trim, 0, 6, empty())}, 6},
		{[]api.Message{ask(api.Write, 0, 9, junk()), ask(api.Trim, 0, 6, empty())}, 10},
		{[]api.Message{ask(api.Write, 0, 9, junk()), ask(api.Trim, 0, 12, empty())}, 12},
		{[]api.Message{ask(api.Write, 0, 9, junk()), ask(api.TrimOne, 0, 9, empty())}, 10},
	} {
		r := roomy(t)
		r.all(x.made...)
		r.serve(ask(api.Open, 3, 0, empty()))
		exchanges(t, r.u, []exchange{
			{ask(api.Tail, 0, 5, empty()), reply(api.Tail, 3, x.want, api.OK, empty())},
			{ask(api.Seal, 0, 5, empty()), reply(api.Seal, 3, x.want, api.OK, empty())},
			{ask(api.Seal, 8, 5, empty()), reply(api.Seal, 3, x.want, api.OK, empty())},
			{ask(api.Seal, 8, 5, empty()), reply(api.Seal, 3, x.want, api.OK, empty())},
			{ask(api.Tail, 8, 5, empty()), reply(api.Tail, 3, x.want, api.OK, empty())},
		})
	}
}

// P14.1 (I1): Pages are the object itself: what is done to them is seen by the unit, and the other way round.
func TestPages(t *testing.T) {
	r := roomy(t)
	p := r.u.Pages()
	p.Write(4, junk())
	p.Seal(6)
	p.Open(2)
	exchanges(t, r.u, []exchange{
		{ask(api.Read, 6, 4, empty()), reply(api.Read, 6, 4, api.OK, junk())},
		{ask(api.Read, 5, 4, empty()), reply(api.Read, 6, 4, api.ErrSealed, empty())},
		{ask(api.Seal, 7, 4, empty()), reply(api.Seal, 2, 5, api.OK, empty())},
	})
	if p.Epoch() != 7 || r.u.Pages() != p {
		t.Errorf("epoch %d", p.Epoch())
	}
}
