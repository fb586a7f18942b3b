package acceptor_test

import (
	"slices"
	"testing"

	"rotulet/acceptor"
	"rotulet/api"
	"rotulet/disk"
	"rotulet/layout"
)

// step is an act, what it answers, and which epochs have a state behind it.
type step struct {
	c      act
	want   api.Errno
	state  acceptor.State
	epochs []uint64
}

// P12.1 (A1, A2): what the calls answer, and what can be asked for behind each of them, worked out by hand, with the disk opened again behind each, with and without a crash.
func TestByHand(t *testing.T) {
	d, _ := disk.New(60)
	x, e := acceptor.Open(d)
	if e != api.OK || len(x.Epochs()) != 0 {
		t.Fatalf("Open: %d, %v", e, x.Epochs())
	}
	one, two := small(5, 1), lay(5, 3, seg(0, []int{2, 3}, []int{4}))
	high, low := small(1048576, 9), small(1, 8)
	no := acceptor.State{}
	for i, s := range []step{
		{prepare(5, ballot(2, 1)), api.OK, acceptor.State{Promised: ballot(2, 1)}, []uint64{5}},
		{prepare(5, ballot(2, 1)), api.ErrBallot, acceptor.State{Promised: ballot(2, 1)}, []uint64{5}},
		{prepare(5, ballot(2, 0)), api.ErrBallot, acceptor.State{Promised: ballot(2, 1)}, []uint64{5}},
		{prepare(5, ballot(1, 3)), api.ErrBallot, acceptor.State{Promised: ballot(2, 1)}, []uint64{5}},
		{prepare(5, ballot(2, 2)), api.OK, acceptor.State{Promised: ballot(2, 2)}, []uint64{5}},
		{prepare(5, ballot(3, 0)), api.OK, acceptor.State{Promised: ballot(3, 0)}, []uint64{5}},
		{accept(5, ballot(2, 3), one), api.ErrBallot, acceptor.State{Promised: ballot(3, 0)}, []uint64{5}},
		{accept(5, ballot(3, 0), one), api.OK, acceptor.State{Promised: ballot(3, 0), Accepted: ballot(3, 0), Layout: one}, []uint64{5}},
		{accept(5, ballot(2, 3), two), api.ErrBallot, acceptor.State{Promised: ballot(3, 0), Accepted: ballot(3, 0), Layout: one}, []uint64{5}},
		{accept(5, ballot(3, 0), one), api.OK, acceptor.State{Promised: ballot(3, 0), Accepted: ballot(3, 0), Layout: one}, []uint64{5}},
		{accept(5, ballot(3, 0), two), api.OK, acceptor.State{Promised: ballot(3, 0), Accepted: ballot(3, 0), Layout: two}, []uint64{5}},
		{prepare(5, ballot(3, 0)), api.ErrBallot, acceptor.State{Promised: ballot(3, 0), Accepted: ballot(3, 0), Layout: two}, []uint64{5}},
		{prepare(5, ballot(7, 1)), api.OK, acceptor.State{Promised: ballot(7, 1), Accepted: ballot(3, 0), Layout: two}, []uint64{5}},
		{accept(5, ballot(7, 0), one), api.ErrBallot, acceptor.State{Promised: ballot(7, 1), Accepted: ballot(3, 0), Layout: two}, []uint64{5}},
		{accept(5, ballot(3, 0), two), api.ErrBallot, acceptor.State{Promised: ballot(7, 1), Accepted: ballot(3, 0), Layout: two}, []uint64{5}},
		{accept(5, ballot(7, 2), one), api.OK, acceptor.State{Promised: ballot(7, 2), Accepted: ballot(7, 2), Layout: one}, []uint64{5}},
		{accept(1048576, ballot(65535, 3), high), api.OK, acceptor.State{Promised: ballot(65535, 3), Accepted: ballot(65535, 3), Layout: high}, []uint64{5, 1048576}},
		{accept(1048576, ballot(65535, 2), high), api.ErrBallot, acceptor.State{Promised: ballot(65535, 3), Accepted: ballot(65535, 3), Layout: high}, []uint64{5, 1048576}},
		{prepare(1048576, ballot(65536, 0)), api.ErrArg, no, []uint64{5, 1048576}},
		{accept(1048576, ballot(65536, 0), high), api.ErrArg, no, []uint64{5, 1048576}},
		{prepare(1, ballot(0, 0)), api.ErrArg, no, []uint64{5, 1048576}},
		{prepare(1, ballot(0, 1)), api.OK, acceptor.State{Promised: ballot(0, 1)}, []uint64{1, 5, 1048576}},
		{accept(1, ballot(0, 0), low), api.ErrArg, no, []uint64{1, 5, 1048576}},
		{accept(1, ballot(0, 2), low), api.OK, acceptor.State{Promised: ballot(0, 2), Accepted: ballot(0, 2), Layout: low}, []uint64{1, 5, 1048576}},
		{accept(1, ballot(0, 3), high), api.ErrArg, no, []uint64{1, 5, 1048576}},
		{prepare(0, ballot(9, 1)), api.ErrArg, no, []uint64{1, 5, 1048576}},
		{prepare(1048577, ballot(9, 1)), api.ErrArg, no, []uint64{1, 5, 1048576}},
		{accept(0, ballot(9, 1), small(0, 1)), api.ErrArg, no, []uint64{1, 5, 1048576}},
		{accept(1048577, ballot(9, 1), small(1048577, 1)), api.ErrArg, no, []uint64{1, 5, 1048576}},
	} {
		if got, e := ask(x, s.c, s.c.layout); e != s.want || !alike(got, s.state) {
			t.Errorf("%d: %s: %v, %d, want %v, %d", i, s.c.name(), got, e, s.state, s.want)
		}
		again, _ := acceptor.Open(d)
		crashed, _ := acceptor.Open(d.Crash(nil))
		for _, y := range []*acceptor.Acceptor{x, again, crashed} {
			if l := y.Epochs(); !slices.Equal(l, s.epochs) {
				t.Errorf("%d: %s: Epochs: %v, want %v", i, s.c.name(), l, s.epochs)
			}
			if got, e := y.Learn(s.c.epoch); s.want != api.ErrArg && (e != api.OK || !alike(got, s.state)) {
				t.Errorf("%d: %s: Learn: %v, %d, want %v", i, s.c.name(), got, e, s.state)
			}
		}
	}
}

// P12.1 (A1): Less asks the round, and the client if the rounds are the same; any two numbers are told apart.
func TestLess(t *testing.T) {
	const least, most = -1 << 63, 1<<63 - 1
	numbers := []int{least, least + 1, -65536, -2, -1, 0, 1, 2, 3, 4, 65535, 65536, most - 1, most}
	var l []api.Ballot // in order
	for _, round := range numbers {
		for _, client := range numbers {
			l = append(l, ballot(round, client))
		}
	}
	for i, a := range l {
		for j, b := range l {
			if acceptor.Less(a, b) != (i < j) {
				t.Fatalf("Less(%v, %v): %v", a, b, i >= j)
			}
		}
	}
}

// ballots are such as differ in the round alone, in the client alone, and in both, in order.
func ballots() []api.Ballot {
	return []api.Ballot{ballot(0, 1), ballot(0, 3), ballot(1, 0), ballot(1, 1), ballot(1, 2), ballot(1, 3), ballot(2, 0), ballot(2, 2), ballot(255, 1), ballot(256, 0), ballot(65534, 3), ballot(65535, 0), ballot(65535, 2), ballot(65535, 3)}
}

// P12.1 (A2): any ballot that is promised, or accepted, or accepted and then another one promised; behind it a Prepare, or an Accept, with any ballot that is less, equal or greater.
func TestBallots(t *testing.T) {
	for i, first := range ballots() {
		for j, second := range ballots() {
			for _, before := range [][]act{{prepare(7, first)}, {accept(7, first, small(7, 1))}, {accept(7, ballot(0, 1), small(7, 2)), accept(7, first, small(7, 3))}} {
				r := fresh(t, 41)
				r.all(before...)
				if e := r.do(prepare(7, second)); (e == api.OK) != (j > i) || e != api.OK && e != api.ErrBallot {
					t.Errorf("%v, then Prepare %v: %d", first, second, e)
				}
				q := fresh(t, 41)
				q.all(before...)
				if e := q.do(accept(7, second, small(7, 4))); (e == api.OK) != (j >= i) || e != api.OK && e != api.ErrBallot {
					t.Errorf("%v, then Accept %v: %d", first, second, e)
				}
			}
		}
	}
}

// P12.1 (A2): a promise that is greater than what is accepted counts, not what is accepted.
func TestPromisedAboveAccepted(t *testing.T) {
	for i, promised := range ballots()[1:] {
		for j, b := range ballots() {
			r := fresh(t, 41)
			r.all(accept(7, ballots()[0], small(7, 1)), prepare(7, promised))
			if e := r.do(prepare(7, b)); (e == api.OK) != (j > i+1) {
				t.Errorf("%v, then Prepare %v: %d", promised, b, e)
			}
			if e := r.do(accept(7, b, small(7, 2))); (e == api.OK) != (j >= i+1) {
				t.Errorf("%v, then Accept %v: %d", promised, b, e)
			}
		}
	}
}

// P12.1 (A2): what is done in an epoch changes no other one, not even one beside it.
func TestEpochsApart(t *testing.T) {
	r := fresh(t, 200)
	for i, epoch := range []uint64{1, 1048576, 2, 524288, 524287, 3, 1048575} {
		r.all(prepare(epoch, ballot(9-i, 1)), accept(epoch, ballot(9-i, 2), great(epoch)))
		for _, other := range []uint64{1, 2, 3, 4, 524287, 524288, 1048575, 1048576} {
			r.do(prepare(other, ballot(3, 0)))
		}
	}
	if l := r.x.Epochs(); !slices.Equal(l, []uint64{1, 2, 3, 4, 524287, 524288, 1048575, 1048576}) {
		t.Errorf("Epochs: %v", l)
	}
}

// P12.1 (A2): each kind of valid layout at the edges of epochs, with its acceptance once more and another layout with the same ballot.
func TestLayouts(t *testing.T) {
	for _, epoch := range []uint64{1, 2, 524288, 1048575, 1048576} {
		for _, l := range some(epoch) {
			r := fresh(t, 60)
			r.all(prepare(epoch, ballot(1, 1)), accept(epoch, ballot(1, 1), l), accept(epoch, ballot(1, 1), l))
			for _, other := range some(epoch) {
				r.all(accept(epoch, ballot(1, 1), other))
			}
			r.all(prepare(epoch, ballot(1, 2)))
		}
	}
}

// P12.1 (A3): an Accept that leaves the state as it is has a record, too; a call that is rejected has none, nor has Learn.
func TestRecordsOfCalls(t *testing.T) {
	r := fresh(t, 60)
	l := small(4, 1)
	for n := range 4 {
		r.all(accept(4, ballot(1, 1), l))
		if len(r.m.tape) != n+1 {
			t.Fatalf("%d records, want %d", len(r.m.tape), n+1)
		}
	}
	for _, c := range []act{prepare(4, ballot(1, 1)), prepare(4, ballot(1, 0)), accept(4, ballot(1, 0), l), accept(4, ballot(1, 2), lay(4, 0)), accept(4, ballot(1, 2), small(5, 1)), prepare(0, ballot(1, 1)), prepare(4, ballot(0, 0))} {
		if e := r.do(c); e == api.OK || len(r.m.tape) != 4 {
			t.Errorf("%s: %d, %d records", c.name(), e, len(r.m.tape))
		}
	}
	r.x.Learn(4)
	r.x.Learn(9)
	r.same("Learn")
}

// P12.1 (A2), rule 2: what is heard of an epoch first makes its state; a call that is wrong does not, nor does Learn.
func TestNothingHeard(t *testing.T) {
	r := fresh(t, 41)
	for _, epoch := range []uint64{1, 2, 1048576} {
		if s, e := r.x.Learn(epoch); e != api.OK || !alike(s, acceptor.State{}) {
			t.Errorf("Learn(%d): %v, %d", epoch, s, e)
		}
		r.do(prepare(epoch, ballot(0, 0)))
		r.do(accept(epoch, ballot(1, 0), lay(epoch, 0)))
		if l := r.x.Epochs(); len(l) != 0 {
			t.Errorf("Epochs: %v", l)
		}
	}
}

// Rule 4: a layout that was handed in, and the states that were handed out, change nothing when they are changed later, nor does a later call change them.
func TestApart(t *testing.T) {
	r := fresh(t, 60)
	l, other := some(5)[6], great(5)
	given := copyOf(l)
	told, _ := r.x.Accept(5, ballot(1, 1), given)
	r.x.Accept(5, ballot(1, 1), given)
	spoil(given)
	learnt, _ := r.x.Learn(5)
	again, _ := r.x.Learn(5)
	refused, e := r.x.Prepare(5, ballot(1, 0))
	promised, _ := r.x.Prepare(5, ballot(2, 0))
	rejected, _ := r.x.Accept(5, ballot(1, 3), given)
	spoil(learnt.Layout)
	if e != api.ErrBallot || !layout.Same(again.Layout, l) || !layout.Same(refused.Layout, l) || !layout.Same(told.Layout, l) {
		t.Errorf("%d, %v, %v, %v, want %v", e, again, refused, told, l)
	}
	spoil(refused.Layout)
	spoil(promised.Layout)
	spoil(rejected.Layout)
	if s, _ := r.x.Learn(5); !layout.Same(s.Layout, l) {
		t.Errorf("Learn: %v", s)
	}
	epochs := r.x.Epochs()
	kept := copyOf(other)
	r.x.Accept(5, ballot(3, 0), kept)
	r.x.Prepare(4, ballot(1, 1))
	if !layout.Same(again.Layout, l) || !layout.Same(told.Layout, l) || !slices.Equal(epochs, []uint64{5}) {
		t.Errorf("changed by later calls: %v, %v, %v", again, told, epochs)
	}
	spoil(told.Layout)
	spoil(again.Layout)
	epochs[0] = 77
	_ = append(epochs, 99)
	s, _ := r.x.Learn(5)
	if !layout.Same(s.Layout, other) || !layout.Same(kept, other) || !slices.Equal(r.x.Epochs(), []uint64{4, 5}) {
		t.Errorf("changed later: %v, %v, %v", s, kept, r.x.Epochs())
	}
}

// Rule 4: two acceptors that were opened from one disk, and one from what a crash left, share nothing that is kept or handed out.
func TestOpenedApart(t *testing.T) {
	l := great(5)
	d := laid(t, 41, accept(5, ballot(1, 1), l).bytes(), prepare(6, ballot(1, 1)).bytes())
	x, _ := acceptor.Open(d)
	y, _ := acceptor.Open(d)
	z, _ := acceptor.Open(d.Crash(nil))
	s, _ := x.Learn(5)
	spoil(s.Layout)
	x.Accept(5, ballot(2, 2), small(5, 1))
	x.Prepare(7, ballot(2, 2))
	for _, other := range []*acceptor.Acceptor{y, z} {
		got, e := other.Learn(5)
		if e != api.OK || !alike(got, acceptor.State{Promised: ballot(1, 1), Accepted: ballot(1, 1), Layout: l}) || !slices.Equal(other.Epochs(), []uint64{5, 6}) {
			t.Errorf("%v, %d, %v", got, e, other.Epochs())
		}
	}
	z.Prepare(5, ballot(9, 0))
	if got, _ := x.Learn(5); !alike(got, acceptor.State{Promised: ballot(2, 2), Accepted: ballot(2, 2), Layout: small(5, 1)}) {
		t.Errorf("%v", got)
	}
}

// P12.1, P1: any calls, one after the other, on disks on which all fits, and on such as are too small for it.
func TestAnyCalls(t *testing.T) {
	s := stir(120)
	for n := range 56 {
		r := fresh(t, []int{3, 4, 5, 7, 9, 15, 60}[n%7])
		for range 50 {
			r.do(s.act())
		}
	}
}

// P2: the same calls leave the same bytes and the same states among which a map might tell in any order.
func TestAlike(t *testing.T) {
	s := stir(121)
	var l []act
	for range 200 {
		l = append(l, s.act())
	}
	var first []byte
	for range 6 {
		d, _ := disk.New(15)
		x, _ := acceptor.Open(d)
		for _, c := range l {
			ask(x, c, c.layout)
		}
		if first == nil {
			first = image(d)
		}
		if !slices.Equal(image(d), first) {
			t.Fatal("the same calls left other bytes")
		}
	}
}
