package acceptor_test

import (
	"testing"

	"rotulet/acceptor"
	"rotulet/api"
)

// used are acceptors on which ErrArg comes ahead of other errors: a new one, one with a promise and one with an acceptance, both of the greatest ballot, and one without room.
func used(t *testing.T) map[string]*rig {
	t.Helper()
	promised, accepted, full := fresh(t, 41), fresh(t, 41), fresh(t, 3)
	promised.all(prepare(5, ballot(65535, 3)))
	accepted.all(accept(5, ballot(65535, 3), small(5, 1)))
	for n := range 9 {
		full.all(prepare(uint64(5+n), ballot(1, 1)))
	}
	return map[string]*rig{"new": fresh(t, 41), "promised": promised, "accepted": accepted, "full": full}
}

// P12.1 (A2), wrong inputs: what is no epoch, no ballot, no valid layout, or a layout of another epoch; ErrArg comes ahead of ErrBallot and of ErrFull.
func TestErrArg(t *testing.T) {
	for what, r := range used(t) {
		var l []act
		for _, epoch := range noEpochs() {
			l = append(l, prepare(epoch, ballot(1, 1)), accept(epoch, ballot(1, 1), small(epoch, 1)), accept(epoch, ballot(1, 1), small(5, 1)), accept(epoch, ballot(0, 0), lay(0, 0)))
			if s, e := r.x.Learn(epoch); e != api.ErrArg || !alike(s, acceptor.State{}) {
				t.Errorf("%s: Learn(%d): %v, %d", what, epoch, s, e)
			}
		}
		for _, b := range noBallots() {
			l = append(l, prepare(5, b), accept(5, b, small(5, 1)), prepare(99, b), accept(99, b, small(99, 1)), accept(5, b, small(6, 1)))
		}
		for _, epoch := range []uint64{1, 5, 99, 1048576} {
			for _, x := range wrong(epoch) {
				l = append(l, accept(epoch, ballot(1, 1), x), accept(epoch, ballot(65535, 3), x))
			}
			for _, other := range append(noEpochs(), 1, 2, 4, 6, 98, 100, 1048575, 1048576) {
				if other != epoch {
					l = append(l, accept(epoch, ballot(1, 1), small(other, 1)), accept(epoch, ballot(65535, 3), great(other)))
				}
			}
		}
		for _, c := range l {
			if s, e := ask(r.x, c, c.layout); e != api.ErrArg || !alike(s, acceptor.State{}) {
				t.Errorf("%s: %s, %v: %v, %d", what, c.name(), c.layout, s, e)
			}
		}
		r.same(what)
	}
}

// P12.1 (A2, A3): on a full tape, ErrBallot comes with the state; what is not refused and has no room is ErrFull, with a zero state, and nothing has changed.
func TestErrorsWhenFull(t *testing.T) {
	r := fresh(t, 3) // 64 bytes a half
	l := small(5, 1)
	r.all(accept(5, ballot(3, 1), l), prepare(5, ballot(3, 2)), prepare(6, ballot(1, 1)), prepare(7, ballot(1, 1)), prepare(8, ballot(1, 1)), prepare(9, ballot(1, 1)), prepare(10, ballot(1, 1)), prepare(11, ballot(1, 1)))
	if r.m.room() != 0 {
		t.Fatalf("room: %d", r.m.room())
	}
	for _, x := range []struct {
		c    act
		want api.Errno
	}{
		{prepare(5, ballot(3, 2)), api.ErrBallot}, {prepare(5, ballot(0, 1)), api.ErrBallot}, {accept(5, ballot(3, 1), l), api.ErrBallot}, {accept(6, ballot(1, 0), small(6, 1)), api.ErrBallot},
		{prepare(12, ballot(1, 1)), api.ErrFull}, {prepare(4, ballot(1, 1)), api.ErrFull}, {accept(6, ballot(1, 1), small(6, 1)), api.ErrFull}, {accept(12, ballot(1, 1), small(12, 1)), api.ErrFull}, {accept(5, ballot(3, 2), great(5)), api.ErrFull},
		{prepare(12, ballot(0, 0)), api.ErrArg}, {accept(12, ballot(1, 1), small(11, 1)), api.ErrArg}, {accept(5, ballot(0, 1), lay(5, 0)), api.ErrArg},
		{prepare(5, ballot(3, 3)), api.OK}, {prepare(11, ballot(1, 2)), api.OK}, {prepare(11, ballot(1, 1)), api.ErrBallot}, {accept(5, ballot(3, 3), l), api.OK}, {prepare(12, ballot(1, 1)), api.OK}, {prepare(13, ballot(1, 1)), api.ErrFull},
	} {
		if e := r.do(x.c); e != x.want {
			t.Errorf("%s: %d, want %d", x.c.name(), e, x.want)
		}
	}
}

// P12.1, rule 8: a nil acceptor, with arguments that are right, and with such as are not.
func TestNil(t *testing.T) {
	var x *acceptor.Acceptor
	no := func(what string, s acceptor.State, e api.Errno) {
		if e != api.ErrArg || !alike(s, acceptor.State{}) {
			t.Errorf("%s: %v, %d", what, s, e)
		}
	}
	for _, epoch := range append(noEpochs(), 1, 5, 1048576) {
		for _, b := range append(noBallots(), ballot(0, 1), ballot(1, 0), ballot(65535, 3)) {
			s, e := x.Prepare(epoch, b)
			no("Prepare", s, e)
			for _, l := range []api.Layout{{}, small(epoch, 1), small(5, 1), great(epoch)} {
				s, e = x.Accept(epoch, b, l)
				no("Accept", s, e)
			}
		}
		s, e := x.Learn(epoch)
		no("Learn", s, e)
	}
	if l := x.Epochs(); len(l) != 0 {
		t.Errorf("Epochs: %v", l)
	}
}
