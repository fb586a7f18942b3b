package proposer_test

import (
	"testing"

	"rotulet/api"
	"rotulet/layout"
)

// told is a reply of a server to client 1 with ID 7 in epoch 3, written out.
func told(of api.MessageKind, from, round int, e api.Errno, promised api.Ballot, l api.Layout) api.Message {
	return api.Message{Kind: api.Reply, Of: of, From: server(from), To: client(1), ID: 7, Epoch: 3, Error: e, Ballot: ballot(round, 1), Promised: promised, Layout: l}
}

// asks is a question of client 1 with ID 7 in epoch 3, written out.
func asks(kind api.MessageKind, to, round int, l api.Layout) api.Message {
	return api.Message{Kind: kind, From: client(1), To: server(to), ID: 7, Epoch: 3, Ballot: ballot(round, 1), Layout: l}
}

// three are the questions that go to all servers.
func three(kind api.MessageKind, round int, l api.Layout) []api.Message {
	return []api.Message{asks(kind, 0, round, l), asks(kind, 1, round, l), asks(kind, 2, round, l)}
}

// P13.1 (O1, O2): what the calls answer, from New to Decided, worked out by hand.
func TestByHand(t *testing.T) {
	none, wish, other, more := api.Layout{}, small(3, 5), some(3)[2], some(3)[3]
	r := fresh(t, 1, 7, wish)
	step := func(x api.Message, ok bool, b api.Ballot, want ...api.Message) {
		t.Helper()
		if r.hear(x) != ok || r.p.Ballot() != b {
			t.Fatalf("Hear %+v: not %v, or Ballot %v", x, ok, r.p.Ballot())
		}
		if l := r.out(); !alike(l, want) {
			t.Fatalf("Hear %+v: Out: %+v, want %+v", x, l, want)
		}
		if _, over := r.p.Decided(); over {
			t.Fatalf("Hear %+v: Decided", x)
		}
	}
	step(told(api.Prepare, 0, 1, api.OK, ballot(0, 0), none), false, ballot(0, 0))
	r.start()
	if l := r.out(); !alike(l, three(api.Prepare, 1, none)) {
		t.Fatalf("Out: %+v", l)
	}
	step(told(api.Prepare, 2, 1, api.ErrFull, ballot(0, 0), none), true, ballot(1, 1))
	step(told(api.Prepare, 2, 1, api.OK, ballot(0, 0), none), true, ballot(1, 1))
	step(told(api.Prepare, 2, 1, api.OK, ballot(0, 0), none), true, ballot(1, 1))
	step(told(api.Accept, 1, 1, api.OK, ballot(0, 0), none), false, ballot(1, 1))
	step(told(api.Prepare, 1, 1, api.OK, ballot(0, 3), other), true, ballot(1, 1), three(api.Accept, 1, other)...)
	step(told(api.Prepare, 0, 1, api.OK, ballot(0, 0), none), false, ballot(1, 1))
	step(told(api.Accept, 0, 1, api.ErrBallot, ballot(8, 2), none), true, ballot(1, 1))
	step(told(api.Accept, 1, 1, api.ErrBallot, ballot(6, 3), none), true, ballot(1, 1))
	r.ticks(5)
	step(told(api.Accept, 1, 1, api.OK, ballot(0, 0), none), true, ballot(1, 1))
	r.ticks(1)
	if l := r.out(); !alike(l, three(api.Prepare, 9, none)) || r.p.Ballot() != ballot(9, 1) {
		t.Fatalf("Out: %+v, Ballot: %v", l, r.p.Ballot())
	}
	step(told(api.Accept, 0, 1, api.OK, ballot(0, 0), none), false, ballot(9, 1))
	step(told(api.Prepare, 0, 1, api.OK, ballot(0, 0), none), false, ballot(9, 1))
	step(told(api.Prepare, 0, 9, api.OK, ballot(2, 1), other), true, ballot(9, 1))
	step(told(api.Prepare, 0, 9, api.OK, ballot(7, 1), wish), true, ballot(9, 1))
	step(told(api.Prepare, 1, 9, api.OK, ballot(2, 2), more), true, ballot(9, 1), three(api.Accept, 9, more)...)
	step(told(api.Accept, 0, 9, api.OK, ballot(0, 0), none), true, ballot(9, 1))
	step(told(api.Accept, 0, 9, api.OK, ballot(0, 0), none), true, ballot(9, 1))
	if !r.hear(told(api.Accept, 2, 9, api.OK, ballot(0, 0), none)) || len(r.out()) != 0 {
		t.Error("the second vote")
	}
	if l, over := r.p.Decided(); !over || !layout.Same(l, more) {
		t.Errorf("Decided: %v, %v", l, over)
	}
	if r.hear(told(api.Accept, 1, 9, api.OK, ballot(0, 0), none)) {
		t.Error("the third vote")
	}
	r.ticks(20)
	if l, over := r.p.Decided(); !over || !layout.Same(l, more) || r.p.Ballot() != ballot(9, 1) || len(r.out()) != 0 {
		t.Errorf("Decided: %v, %v", l, over)
	}
}

// P13.1 (O1): the clients and the IDs at the edges, and each kind of wish in each kind of epoch.
func TestNew(t *testing.T) {
	for _, epoch := range []uint64{1, 2, 524288, 1048575, 1048576} {
		for _, wish := range some(epoch) {
			for _, id := range []int{0, 1, 524288, 1048574, 1048575} {
				for c := range 4 {
					r := fresh(t, c, id, wish)
					if r.hear(r.answer(0, api.OK, ballot(0, 0), api.Layout{})) {
						t.Error("a reply ahead of Start")
					}
					r.start()
					r.votes(c%3, 2-c%3)
					if c%3 == 1 {
						r.votes(0)
					}
					r.out()
					r.votes(1, 2)
					if l, over := r.p.Decided(); !over || !layout.Same(l, wish) {
						t.Errorf("Decided: %v, %v, want %v", l, over, wish)
					}
				}
			}
		}
	}
}

// P13.1 (O1): Start once, whatever happened since.
func TestStartBehindStart(t *testing.T) {
	for what, reach := range at() {
		for _, way := range ways() {
			r := reach(t)
			if what == "not started" {
				r.ticks(7)
				r.out()
				if r.start() != api.OK {
					t.Error("Start")
				}
			}
			for range 2 {
				if e := r.start(); e != api.ErrState {
					t.Errorf("%s: Start: %d", what, e)
				}
			}
			way(r)
		}
	}
}

// P13.1 (O2): ticks ahead of Start do not count, five are too few, the sixth asks again; ticks count from the last question on, also from an Accept.
func TestTick(t *testing.T) {
	for early := range 8 {
		r := fresh(t, 1, 7, small(3, 5))
		r.ticks(early)
		if b := r.p.Ballot(); b != ballot(0, 0) || len(r.out()) != 0 {
			t.Fatalf("ahead of Start: %v", b)
		}
		r.start()
		for round := 1; round < 5; round++ {
			if l := r.out(); !alike(l, three(api.Prepare, round, api.Layout{})) {
				t.Fatalf("round %d: %v", round, l)
			}
			r.ticks(5)
			if b := r.p.Ballot(); b != ballot(round, 1) || len(r.out()) != 0 {
				t.Fatalf("round %d, five ticks: %v", round, b)
			}
			r.ticks(1)
		}
	}
	for before := range 6 {
		for between := range 6 {
			r := usual(t)
			r.ticks(before)
			r.votes(2)
			r.ticks(5 - before)
			r.votes(1) // asks to accept
			r.out()
			r.ticks(between)
			r.votes(2)
			r.ticks(5 - between)
			if b := r.p.Ballot(); b != ballot(1, 1) || len(r.out()) != 0 {
				t.Fatalf("%d and %d, ten ticks: %v", before, between, b)
			}
			r.ticks(1)
			if l := r.out(); !alike(l, three(api.Prepare, 2, api.Layout{})) {
				t.Fatalf("%d and %d, eleven ticks: %v", before, between, l)
			}
		}
	}
}

// P13.1 (O2): ticks behind a decision change nothing.
func TestTickBehindDecision(t *testing.T) {
	for n := range 14 {
		r := usual(t)
		r.votes(0, 1, 1)
		r.ticks(n % 6)
		r.votes(2)
		r.out()
		r.ticks(n)
		if l, over := r.p.Decided(); !over || !layout.Same(l, small(3, 5)) || r.p.Ballot() != ballot(1, 1) || len(r.out()) != 0 {
			t.Fatalf("%d ticks: %v, %v", n, l, over)
		}
	}
}

// P13.1 (O1, O2): votes of the phase before do not count for the next one, nor do those of a round that is given up.
func TestVotesAreAskedForAnew(t *testing.T) {
	r := usual(t)
	for range 3 {
		r.votes(1)
		r.ticks(6)
		r.votes(2)
		if l := r.out(); l[len(l)-1].Kind != api.Prepare {
			t.Fatalf("two votes of two rounds: %v", l)
		}
		r.votes(2, 0)
		for range 2 {
			r.votes(0, 0)
			if _, over := r.p.Decided(); over {
				t.Fatal("decided by one server")
			}
		}
		r.ticks(6)
	}
}

// P13.1 (O1): what answers to a Prepare say: nothing, a Layout without a ballot, a ballot without a Layout, both; any two of them, of any two servers, in either order.
func TestChoice(t *testing.T) {
	type vote struct {
		promised api.Ballot
		layout   api.Layout
	}
	var all []vote
	for _, b := range []api.Ballot{ballot(0, 0), ballot(0, 1), ballot(0, 3), ballot(1, 0), ballot(1, 3), ballot(2, 0), ballot(65535, 3)} {
		for _, l := range []api.Layout{{}, small(3, 8), small(3, 9)} {
			all = append(all, vote{b, l})
		}
	}
	for _, a := range all {
		for _, b := range all {
			for n := range 9 {
				if n/3 == n%3 {
					continue
				}
				r := usual(t)
				r.hear(r.answer(n/3, api.OK, a.promised, a.layout))
				r.hear(r.answer(n%3, api.OK, b.promised, b.layout))
				want := small(3, 5)
				switch one, two := len(a.layout.Segments) > 0 && a.promised != ballot(0, 0), len(b.layout.Segments) > 0 && b.promised != ballot(0, 0); {
				case one && (!two || rank(a.promised) >= rank(b.promised)):
					want = a.layout
				case two:
					want = b.layout
				}
				if l := r.out(); len(l) != 6 || !alike(l[3:], three(api.Accept, 1, want)) {
					t.Fatalf("%v, %v: %v", a, b, l)
				}
			}
		}
	}
}

// P13.1 (O1): what is accepted with the greatest ballot counts once more from the start when the proposer asks again.
func TestChoiceOfEachRound(t *testing.T) {
	r := usual(t)
	r.hear(r.answer(0, api.OK, ballot(0, 3), small(3, 8)))
	r.ticks(6)
	r.hear(r.answer(1, api.OK, ballot(0, 2), small(3, 9)))
	r.votes(2)
	r.ticks(6)
	r.votes(2)
	r.out()
	r.votes(0)
	if l := r.out(); !alike(l, three(api.Accept, 3, small(3, 5))) {
		t.Errorf("%v", l)
	}
}

// P13.1 (O1): a layout that a server tells of is asked for also if it is of another epoch; the chapter names no such check.
func TestLayoutOfAnotherEpoch(t *testing.T) {
	r := usual(t)
	r.hear(r.answer(0, api.OK, ballot(0, 3), small(4, 8)))
	r.votes(1)
	r.out()
	r.votes(1, 2)
	r.out()
}

// P13.1 (O1): the second answer of a server is taken in, but it is no vote, whatever it says; that an Accept is answered with a ballot and a layout means nothing.
func TestVoteOnce(t *testing.T) {
	for n := range 3 {
		r := usual(t)
		first, second := r.answer(n, api.OK, ballot(0, 1), small(3, 8)), r.answer(n, api.OK, ballot(0, 3), small(3, 9))
		for _, x := range []api.Message{first, second, first, second} {
			if !r.hear(x) {
				t.Errorf("%+v: not taken in", x)
			}
		}
		r.out()
		r.votes((n + 1) % 3)
		if l := r.out(); !alike(l, three(api.Accept, 1, small(3, 8))) {
			t.Errorf("Out: %v", l)
		}
		for range 3 {
			r.hear(r.answer(n, api.OK, ballot(9, 3), small(3, 9)))
		}
		if _, over := r.p.Decided(); over {
			t.Error("decided by one server")
		}
		r.hear(r.answer((n+2)%3, api.OK, ballot(9, 3), small(3, 9)))
		if l, over := r.p.Decided(); !over || !layout.Same(l, small(3, 8)) {
			t.Errorf("Decided: %v, %v", l, over)
		}
	}
}

// P13.1 (O1): any error but ErrBallot is taken in and has no effect; a server that told of an error may vote later, and one that voted may refuse later.
func TestErrors(t *testing.T) {
	for e := api.Errno(1); e <= 255; e++ {
		if e == api.ErrBallot {
			continue
		}
		for _, before := range [][]int{nil, {0}, {0, 1}, {0, 1, 0}} {
			for _, way := range ways() {
				r := usual(t)
				r.votes(before...)
				for n := range 3 {
					if !r.hear(r.answer(n, e, ballot(60, 2), small(3, 9))) {
						t.Errorf("%d: not taken in", e)
					}
				}
				way(r)
			}
		}
	}
	for _, e := range []api.Errno{api.ErrBallot, api.ErrFull} {
		r := usual(t)
		r.hear(r.answer(0, e, ballot(1, 2), api.Layout{}))
		r.votes(0)
		r.hear(r.answer(0, e, ballot(1, 2), api.Layout{}))
		r.votes(1)
		r.hear(r.answer(1, e, ballot(1, 2), api.Layout{}))
		r.votes(1)
		r.hear(r.answer(1, e, ballot(1, 2), api.Layout{}))
		r.votes(2)
		if l, over := r.p.Decided(); !over || !layout.Same(l, small(3, 5)) {
			t.Errorf("Decided: %v, %v", l, over)
		}
	}
}

// P13.1 (O1, O2): a Promised that is recorded, less than, equal to and greater than the own one, of any client, while preparing and while accepting; the next round is above all of them, and at most 65535.
func TestRounds(t *testing.T) {
	rounds := []int{0, 1, 2, 3, 4, 5, 6, 255, 256, 65533, 65534, 65535}
	for _, before := range rounds {
		for _, round := range rounds {
			for n := range 16 {
				r := usual(t)
				r.refused(0, ballot(before, n/4))
				r.ticks(6)
				b := min(max(before, 1)+1, 65535)
				if r.p.Ballot() != ballot(b, 1) {
					t.Fatalf("Ballot: %v, want round %d", r.p.Ballot(), b)
				}
				r.out()
				if n%2 == 0 {
					r.votes(2, 0) // it goes on to accept
				}
				r.refused(1, ballot(round, n%4))
				r.refused(0, ballot(3, n/4))
				r.ticks(6)
				b = min(max(b, round, 3)+1, 65535)
				if r.p.Ballot() != ballot(b, 1) {
					t.Fatalf("Ballot: %v, want round %d", r.p.Ballot(), b)
				}
				if l := r.out(); !alike(l[len(l)-3:], three(api.Prepare, b, api.Layout{})) {
					t.Fatalf("Out: %v", l)
				}
			}
		}
	}
}

// P13.1 (O1): of several that refuse, the greatest ballot counts, in whichever order they come.
func TestGreatestRefusal(t *testing.T) {
	l := []api.Ballot{ballot(4, 0), ballot(4, 3), ballot(9, 0), ballot(2, 3)}
	for i := range l {
		for j := range l {
			for k := range l {
				r := usual(t)
				r.refused(0, l[i])
				r.refused(0, l[j])
				r.refused(2, l[k])
				r.ticks(6)
				if want := max(l[i].Round, l[j].Round, l[k].Round) + 1; r.p.Ballot() != ballot(want, 1) {
					t.Errorf("%v, %v, %v: %v", l[i], l[j], l[k], r.p.Ballot())
				}
			}
		}
	}
}

// P13.1 (O1, O2): what was refused before a question is taken in only with the ballot of that question, so that it is not recorded when it comes late.
func TestLateRefusal(t *testing.T) {
	r := usual(t)
	late := r.answer(0, api.ErrBallot, ballot(50, 0), api.Layout{})
	r.ticks(6)
	if r.hear(late) {
		t.Error("taken in")
	}
	r.ticks(6)
	if r.p.Ballot() != ballot(3, 1) {
		t.Errorf("Ballot: %v", r.p.Ballot())
	}
	r.votes(0)
	late = r.answer(1, api.ErrBallot, ballot(50, 0), api.Layout{})
	r.votes(1)
	if r.hear(late) {
		t.Error("a refusal of a Prepare was taken in while accepting")
	}
	r.ticks(6)
	if r.p.Ballot() != ballot(4, 1) {
		t.Errorf("Ballot: %v", r.p.Ballot())
	}
}

// P13.1 (O2): a round of 65535 stays, and still nobody has voted when the proposer asks again.
func TestGreatestRound(t *testing.T) {
	r := usual(t)
	r.refused(1, ballot(65535, 3))
	r.ticks(6)
	r.out()
	for range 3 {
		r.votes(1)
		r.ticks(6)
		if l := r.out(); !alike(l, three(api.Prepare, 65535, api.Layout{})) {
			t.Fatalf("Out: %v", l)
		}
		r.votes(2)
		if l := r.out(); len(l) != 0 {
			t.Fatalf("Out: %v", l)
		}
		r.votes(0)
		if l := r.out(); !alike(l, three(api.Accept, 65535, small(3, 5))) {
			t.Fatalf("Out: %v", l)
		}
		r.votes(1)
		r.ticks(6)
		if l := r.out(); !alike(l, three(api.Prepare, 65535, api.Layout{})) {
			t.Fatalf("Out: %v", l)
		}
	}
	r.votes(1, 2, 2)
	if _, over := r.p.Decided(); over {
		t.Error("decided by one server")
	}
	r.votes(0)
	if _, over := r.p.Decided(); !over {
		t.Error("not decided")
	}
}

// P13.1 (O2): Out hands out a question once; what was asked and not taken stays, in order, also behind a decision.
func TestOut(t *testing.T) {
	wish := small(3, 5)
	r := usual(t)
	for range 3 {
		r.ticks(6)
	}
	r.votes(0, 1)
	r.ticks(6)
	r.votes(2, 1, 1, 2)
	var want []api.Message
	for round := 1; round <= 4; round++ {
		want = append(want, three(api.Prepare, round, api.Layout{})...)
	}
	want = append(want, three(api.Accept, 4, wish)...)
	want = append(want, three(api.Prepare, 5, api.Layout{})...)
	want = append(want, three(api.Accept, 5, wish)...)
	if _, over := r.p.Decided(); !over {
		t.Error("not decided")
	}
	if l := r.out(); !alike(l, want) {
		t.Errorf("Out: %v, want %v", l, want)
	}
	for range 3 {
		if l := r.out(); len(l) != 0 {
			t.Errorf("Out once more: %v", l)
		}
	}
}
