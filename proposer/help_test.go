package proposer_test

import (
	"slices"
	"testing"

	"rotulet/acceptor"
	"rotulet/api"
	"rotulet/disk"
	"rotulet/layout"
	"rotulet/message"
	"rotulet/proposer"
)

func ballot(round, client int) api.Ballot { return api.Ballot{Round: round, Client: client} }

func server(n int) api.Place { return api.Place{Role: api.Server, Number: n} }

func client(n int) api.Place { return api.Place{Role: api.Client, Number: n} }

func seg(from uint64, chains ...[]int) api.Segment { return api.Segment{From: from, Chains: chains} }

func lay(epoch uint64, sequencer int, segments ...api.Segment) api.Layout {
	return api.Layout{Epoch: epoch, Sequencer: sequencer, Segments: segments}
}

// small is a layout with one unit.
func small(epoch uint64, unit int) api.Layout { return lay(epoch, 0, seg(0, []int{unit})) }

// some are valid layouts of an epoch, no two of them alike.
func some(epoch uint64) []api.Layout {
	return []api.Layout{
		small(epoch, 4), lay(epoch, 31, seg(0, []int{4})), lay(epoch, 1, seg(0, []int{1, 2}, []int{3, 4})),
		lay(epoch, 0, seg(0, []int{1, 2}), seg(9, []int{5}, []int{1}), seg(api.MaxAddress-1, []int{0})),
	}
}

// wrong are layouts of an epoch that are not valid.
func wrong(epoch uint64) []api.Layout {
	one := []int{4}
	return []api.Layout{
		{}, lay(epoch, 0), lay(epoch, -1, seg(0, one)), lay(epoch, 32, seg(0, one)), lay(epoch, 0, seg(1, one)), lay(epoch, 0, seg(0)), lay(epoch, 0, seg(0, nil)),
		lay(epoch, 0, seg(0, one), seg(0, one)), lay(epoch, 0, seg(0, one), seg(9, one), seg(8, one)), lay(epoch, 0, seg(0, one), seg(api.MaxAddress, one)), lay(epoch, 0, seg(0, one), seg(api.None, one)),
		lay(epoch, 0, seg(0, one), seg(1, one), seg(2, one), seg(3, one), seg(4, one)), lay(epoch, 0, seg(0, one), seg(5)),
		lay(epoch, 0, seg(0, []int{1}, []int{2}, []int{3}, []int{4}, []int{5})), lay(epoch, 0, seg(0, []int{1, 2, 3, 4, 5})), lay(epoch, 0, seg(0, one, []int{})),
		small(epoch, -1), small(epoch, 32), lay(epoch, 0, seg(0, []int{4, 4})), lay(epoch, 0, seg(0, []int{4, 5}, []int{6, 4})),
	}
}

// noEpochs are numbers that no layout has for an epoch.
func noEpochs() []uint64 {
	return []uint64{0, 1048577, 2097151, 2097152, 2097155, 1<<32 + 3, 1 << 63, api.None}
}

// copyOf is a layout in memory of its own, with more memory behind the end of its lists.
func copyOf(l api.Layout) api.Layout {
	l.Segments = append(slices.Clone(l.Segments), seg(7, []int{7}))[:len(l.Segments)]
	for i, s := range l.Segments {
		chains := append(slices.Clone(s.Chains), []int{7})[:len(s.Chains)]
		for k, c := range chains {
			chains[k] = append(slices.Clone(c), 77)[:len(c)]
		}
		l.Segments[i].Chains = chains
	}
	return l
}

// untouched tells whether a copy that was handed in is still like the layout, and so is what lies behind the end of its lists.
func untouched(given, was api.Layout) bool {
	n := len(given.Segments)
	behind := given.Segments[:n+1][n]
	ok := layout.Same(given, was) && behind.From == 7 && len(behind.Chains) == 1
	for _, s := range given.Segments {
		k := len(s.Chains)
		ok = ok && slices.Equal(s.Chains[:k+1][k], []int{7})
		for _, c := range s.Chains {
			ok = ok && c[:len(c)+1][len(c)] == 77
		}
	}
	return ok
}

// spoil changes whatever a layout has in its lists.
func spoil(l api.Layout) {
	for i, s := range l.Segments {
		for k, c := range s.Chains {
			for j := range c {
				c[j] ^= 21
			}
			_ = append(c, 99)
			s.Chains[k] = nil
		}
		_ = append(s.Chains, nil)
		l.Segments[i] = seg(12345)
	}
	_ = append(l.Segments, seg(99))
}

// alike tells whether two lists of messages are the same.
func alike(a, b []api.Message) bool { return slices.EqualFunc(a, b, message.Same) }

// rig is a proposer and the reference, to both of which everything is done.
type rig struct {
	t *testing.T
	p *proposer.Proposer
	m *model
}

// fresh is a proposer that was not started.
func fresh(t *testing.T, client, id int, wish api.Layout) *rig {
	t.Helper()
	given := copyOf(wish)
	p, e := proposer.New(client, id, given)
	if p == nil || e != api.OK || !untouched(given, wish) {
		t.Fatalf("New(%d, %d): %p, %d", client, id, p, e)
	}
	spoil(given)
	r := &rig{t: t, p: p, m: &model{client: client, id: id, wish: wish}}
	r.same("New")
	return r
}

// begun is a proposer that was started, with its questions still there.
func begun(t *testing.T, client, id int, wish api.Layout) *rig {
	t.Helper()
	r := fresh(t, client, id, wish)
	r.start()
	return r
}

// usual is a proposer of client 1 in epoch 3 that was started.
func usual(t *testing.T) *rig {
	t.Helper()
	return begun(t, 1, 7, small(3, 5))
}

func (r *rig) start() api.Errno {
	r.t.Helper()
	e := r.p.Start()
	if want := r.m.start(); e != want {
		r.t.Fatalf("Start: %d, want %d", e, want)
	}
	r.same("Start")
	return e
}

func (r *rig) ticks(n int) {
	r.t.Helper()
	for range n {
		if e := r.p.Tick(); e != api.OK {
			r.t.Fatalf("Tick: %d", e)
		}
		r.m.tick()
		r.same("Tick")
	}
}

// hear hands a message in, the layout of which is spoilt as soon as the call is over.
func (r *rig) hear(x api.Message) bool {
	r.t.Helper()
	given := x
	given.Layout = copyOf(x.Layout)
	ok := r.p.Hear(given)
	if !untouched(given.Layout, x.Layout) {
		r.t.Fatalf("Hear %+v: the layout was changed", x)
	}
	spoil(given.Layout)
	if want := r.m.hear(x); ok != want {
		r.t.Fatalf("Hear %+v: %v, want %v", x, ok, want)
	}
	r.same("Hear")
	return ok
}

// out takes the questions, and spoils what it is handed.
func (r *rig) out() []api.Message {
	r.t.Helper()
	l, want := r.p.Out(), r.m.out()
	if !alike(l, want) {
		r.t.Fatalf("Out: %+v, want %+v", l, want)
	}
	for i, x := range l {
		spoil(x.Layout)
		if !alike(l[i+1:], want[i+1:]) {
			r.t.Fatalf("Out: question %d shares memory", i)
		}
	}
	r.same("Out")
	return want
}

// same holds what can be asked for against the reference.
func (r *rig) same(what string) {
	r.t.Helper()
	// Once more, as what the first call handed out is spoilt.
	for range 2 {
		if b := r.p.Ballot(); b != r.m.ballot() {
			r.t.Fatalf("%s: Ballot: %v, want %v", what, b, r.m.ballot())
		}
		l, ok := r.p.Decided()
		if want, is := r.m.decided(); ok != is || !layout.Same(l, want) {
			r.t.Fatalf("%s: Decided: %v, %v, want %v, %v", what, l, ok, want, is)
		}
		spoil(l)
	}
}

// answer is one to what is asked now.
func (r *rig) answer(from int, e api.Errno, promised api.Ballot, l api.Layout) api.Message {
	return api.Message{Kind: api.Reply, Of: r.m.last().kind, From: server(from), To: client(r.m.client), ID: r.m.id, Epoch: r.m.wish.Epoch, Error: e, Ballot: r.m.ballot(), Promised: promised, Layout: l}
}

// votes hands in votes of servers which tell of nothing.
func (r *rig) votes(from ...int) {
	r.t.Helper()
	for _, n := range from {
		if !r.hear(r.answer(n, api.OK, ballot(0, 0), api.Layout{})) {
			r.t.Fatalf("a vote of server %d was not taken in", n)
		}
	}
}

// refused hands in that a server refuses what is asked now.
func (r *rig) refused(from int, promised api.Ballot) {
	r.t.Helper()
	if !r.hear(r.answer(from, api.ErrBallot, promised, api.Layout{})) {
		r.t.Fatalf("what server %d refused was not taken in", from)
	}
}

// at makes proposers of client 1 in epoch 3 at different points, each time anew.
func at() map[string]func(t *testing.T) *rig {
	return map[string]func(t *testing.T) *rig{
		"not started": func(t *testing.T) *rig { return fresh(t, 1, 7, small(3, 5)) },
		"started":     usual,
		"one vote":    func(t *testing.T) *rig { r := usual(t); r.votes(2); return r },
		"refused":     func(t *testing.T) *rig { r := usual(t); r.refused(0, ballot(4, 2)); return r },
		"late":        func(t *testing.T) *rig { r := usual(t); r.ticks(5); return r },
		"again":       func(t *testing.T) *rig { r := usual(t); r.refused(1, ballot(6, 0)); r.ticks(8); r.votes(0); return r },
		"accepting":   func(t *testing.T) *rig { r := usual(t); r.votes(0, 2); return r },
		"one accepts": func(t *testing.T) *rig { r := usual(t); r.votes(0, 2, 2); r.ticks(3); return r },
		"other wish": func(t *testing.T) *rig {
			r := usual(t)
			r.hear(r.answer(0, api.OK, ballot(0, 3), small(3, 9)))
			r.votes(1, 1)
			return r
		},
		"decided": func(t *testing.T) *rig { r := usual(t); r.votes(0, 2, 2, 1); r.out(); return r },
	}
}

// ways are what may follow; between them they show all that a proposer has in mind.
func ways() []func(r *rig) {
	return []func(r *rig){
		func(r *rig) { r.out(); r.ticks(1); r.out(); r.ticks(6); r.out() },
		func(r *rig) { r.start(); r.ticks(13); r.out() },
		func(r *rig) { r.hear(r.answer(1, api.OK, ballot(0, 1), small(3, 8))); r.out(); r.ticks(12); r.out() },
		func(r *rig) {
			for _, n := range []int{0, 1, 2, 0, 1, 2} {
				r.hear(r.answer(n, api.OK, ballot(0, 2), small(3, 10+n)))
				r.out()
			}
		},
		func(r *rig) {
			r.hear(r.answer(2, api.ErrBallot, ballot(5, 1), api.Layout{}))
			r.ticks(6)
			r.hear(r.answer(2, api.OK, ballot(0, 0), api.Layout{}))
			r.hear(r.answer(2, api.OK, ballot(0, 0), api.Layout{}))
			r.out()
		},
	}
}

// opened is the acceptor on a disk.
func opened(t *testing.T, d *disk.Disk) *acceptor.Acceptor {
	t.Helper()
	x, e := acceptor.Open(d)
	if x == nil || e != api.OK {
		t.Fatalf("acceptor.Open: %p, %d", x, e)
	}
	return x
}

// empty is an acceptor on a new disk, and the disk.
func empty(t *testing.T, sectors int) (*acceptor.Acceptor, *disk.Disk) {
	t.Helper()
	d, e := disk.New(sectors)
	if e != api.OK {
		t.Fatalf("disk.New(%d): %d", sectors, e)
	}
	return opened(t, d), d
}

// stir is a row of numbers without a plain pattern, the same in each run.
type stir uint64

func (s *stir) next() uint64 {
	*s = *s*6364136223846793005 + 1442695040888963407
	x := uint64(*s)
	return x ^ x>>29 ^ x<<17
}

func (s *stir) below(n int) int { return int(s.next() >> 8 % uint64(n)) }
