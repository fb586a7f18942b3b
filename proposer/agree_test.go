package proposer_test

import (
	"slices"
	"testing"

	"rotulet/acceptor"
	"rotulet/api"
	"rotulet/disk"
	"rotulet/layout"
	"rotulet/proposer"
)

// want is a proposer with its wish.
type want struct {
	*proposer.Proposer
	client, id int
	wish       api.Layout
	decided    bool
}

// world is three acceptors, proposers, and the messages between them.
type world struct {
	t         *testing.T
	disks     []*disk.Disk
	servers   []*acceptor.Acceptor
	proposers []*want
	way       []api.Message
	decided   map[uint64]api.Layout
}

// newWorld has acceptors that have heard of nothing.
func newWorld(t *testing.T) *world {
	t.Helper()
	w := &world{t: t, decided: map[uint64]api.Layout{}}
	for range 3 {
		x, d := empty(t, 256)
		w.servers, w.disks = append(w.servers, x), append(w.disks, d)
	}
	return w
}

// add adds a proposer.
func (w *world) add(client, id int, wish api.Layout) *want {
	w.t.Helper()
	p, e := proposer.New(client, id, wish)
	if e != api.OK {
		w.t.Fatalf("New: %d", e)
	}
	x := &want{Proposer: p, client: client, id: id, wish: wish}
	w.proposers = append(w.proposers, x)
	return x
}

// wished tells whether a layout was a wish.
func (w *world) wished(l api.Layout) bool {
	return slices.ContainsFunc(w.proposers, func(p *want) bool { return layout.Same(p.wish, l) })
}

// agree collects the questions, and asks whether all that have decided have decided the same.
func (w *world) agree() {
	w.t.Helper()
	for i, p := range w.proposers {
		w.way = append(w.way, p.Out()...)
		l, over := p.Decided()
		if p.decided && !over {
			w.t.Fatalf("proposer %d: it had decided", i)
		}
		p.decided = over
		if !over {
			continue
		}
		first, there := w.decided[p.wish.Epoch]
		if !there {
			w.decided[p.wish.Epoch], first = l, l
		}
		if l.Epoch != p.wish.Epoch || !layout.Same(l, first) || !w.wished(l) {
			w.t.Fatalf("proposer %d of epoch %d: decided %v, and there is %v", i, p.wish.Epoch, l, first)
		}
	}
}

// give gives a message to whom it is for; what a server answers comes on its way.
func (w *world) give(m api.Message) {
	w.t.Helper()
	if m.To.Role == api.Server {
		a, ok := proposer.Serve(w.servers[m.To.Number], m)
		if !ok {
			w.t.Fatalf("not served: %+v", m)
		}
		w.way = append(w.way, a)
	} else {
		// Everybody hears it, so that nobody may take in what is for somebody else.
		for i, p := range w.proposers {
			if p.Hear(m) && (p.client != m.To.Number || p.id != m.ID || p.wish.Epoch != m.Epoch) {
				w.t.Fatalf("proposer %d has taken in %+v", i, m)
			}
		}
	}
	w.agree()
}

// take takes a message off its way.
func (w *world) take(i int) api.Message {
	m := w.way[i]
	w.way = slices.Delete(w.way, i, i+1)
	return m
}

// reopen opens an acceptor again, on its disk or on what a crash leaves of it.
func (w *world) reopen(n int, crash bool, keep []bool) {
	w.t.Helper()
	if crash {
		w.disks[n] = w.disks[n].Crash(keep)
	}
	w.servers[n] = opened(w.t, w.disks[n])
}

// exchange has a proposer ask one server, and hear its answer; everything else that is on its way stays there.
func (w *world) exchange(p *want, n int) {
	w.t.Helper()
	w.agree()
	for i := len(w.way) - 1; i >= 0; i-- {
		if m := w.way[i]; m.From == client(p.client) && m.ID == p.id && m.To == server(n) {
			w.give(w.take(i))
			w.give(w.take(len(w.way) - 1))
			return
		}
	}
	w.t.Fatal("there is no such question")
}

// wait lets ticks go by.
func (p *want) wait() {
	for range 6 {
		p.Tick()
	}
}

// chosen asks for what a proposer has decided.
func (w *world) chosen(p *want, l api.Layout) {
	w.t.Helper()
	if got, over := p.Decided(); !over || !layout.Same(got, l) {
		w.t.Errorf("Decided: %v, %v, want %v", got, over, l)
	}
}

// P13.2: a layout that one server has accepted and that is not decided gives way to another one; the proposer of the first one learns of it, late as its answers are.
func TestAgreeByHand(t *testing.T) {
	w := newWorld(t)
	p, q := w.add(1, 7, small(3, 5)), w.add(2, 9, small(3, 6))
	p.Start()
	w.exchange(p, 0)
	w.exchange(p, 1)
	w.exchange(p, 0) // accepted by server 0
	q.Start()
	w.exchange(q, 1)
	w.exchange(q, 2)
	w.exchange(p, 1) // refused, as server 1 has promised more
	w.reopen(1, true, nil)
	w.exchange(q, 1)
	w.exchange(q, 2)
	w.chosen(q, small(3, 6))
	if _, over := p.Decided(); over {
		t.Fatal("decided by one server")
	}
	p.wait()
	if p.Ballot() != ballot(2, 1) {
		t.Errorf("Ballot: %v", p.Ballot())
	}
	w.exchange(p, 0)
	w.exchange(p, 1)
	w.exchange(p, 0)
	w.exchange(p, 2)
	w.chosen(p, small(3, 6))
}

// P13.2: what one server has accepted is what the next proposer asks for if it hears of it, and what two have accepted, it hears of in any case.
func TestAgreeOnAccepted(t *testing.T) {
	for _, two := range [][]int{{0, 1}, {1, 0}, {1, 2}, {2, 0}} {
		for accepts := range 3 {
			w := newWorld(t)
			p, q := w.add(1, 7, small(3, 5)), w.add(0, 9, small(3, 6))
			p.Start()
			w.exchange(p, 0)
			w.exchange(p, 1)
			for n := range accepts {
				w.exchange(p, n)
			}
			q.Start()
			for n := range 3 {
				w.exchange(q, n) // servers 0 and 1 refuse
				w.reopen(n, n > 0, nil)
			}
			q.wait()
			if q.Ballot() != ballot(2, 0) {
				t.Fatalf("Ballot: %v", q.Ballot())
			}
			w.exchange(q, two[0])
			w.exchange(q, two[1])
			w.exchange(q, 2)
			w.exchange(q, 1)
			wish := small(3, 6)
			if accepts == 2 || accepts == 1 && (two[0] == 0 || two[1] == 0) {
				wish = small(3, 5)
			}
			w.chosen(q, wish)
			if accepts < 2 {
				p.wait()
				for _, n := range []int{1, 2, 0, 1} {
					w.exchange(p, n)
				}
			}
			w.chosen(p, wish)
		}
	}
}

// crowd are proposers of one or two epochs, at least two of each; some have the same client, or the same client and ID in the other epoch.
func (w *world) crowd(s *stir) {
	w.t.Helper()
	for n := range 2 + s.below(3) {
		w.add(n%3, 10+n, small(3, n))
	}
	if s.below(2) == 0 {
		w.add(0, 10, small(4, 20))
		w.add(1, 11, small(4, 21))
	}
	for _, p := range w.proposers {
		if s.below(3) > 0 {
			p.Start()
		}
	}
	w.agree()
}

// act does anything: most often a message arrives, or it is doubled, or lost, or somebody ticks, or is started, or an acceptor crashes.
func (w *world) act(s *stir) {
	w.t.Helper()
	n := len(w.way)
	switch x := s.below(100); {
	case x < 70 && n > 0:
		// Late as well as new messages: the last ones are the new ones.
		i := s.below(n)
		if s.below(2) == 0 {
			i = max(i, n-1-s.below(4))
		}
		w.give(w.take(i))
	case x < 76 && n > 0:
		w.way = append(w.way, w.way[s.below(n)])
	case x < 82 && n > 0:
		w.take(s.below(n))
	case x < 96:
		p := w.proposers[s.below(len(w.proposers))]
		p.Start()
		for range 1 + s.below(6) {
			p.Tick()
		}
		w.agree()
	default:
		w.reopen(s.below(3), s.below(3) > 0, []bool{s.below(2) == 0, true})
	}
}

// P13.2: whatever happens to messages, and whenever acceptors crash: who has decided in an epoch has decided the same, and it was a wish.
func TestAgree(t *testing.T) {
	s := stir(133)
	decided := 0
	for range 300 {
		w := newWorld(t)
		w.crowd(&s)
		for range 160 {
			w.act(&s)
		}
		for _, p := range w.proposers {
			if p.decided {
				decided++
			}
		}
	}
	if decided < 300 {
		t.Errorf("only %d have decided, too few to see anything", decided)
	}
}

// P13.2: two proposers of which each asks one server after the other, in any order, and gives up its ballot at any point: those that decide decide the same.
func TestAgreeInTurns(t *testing.T) {
	s := stir(134)
	for range 1500 {
		w := newWorld(t)
		p, q := w.add(1, 7, small(3, 5)), w.add(1+s.below(2), 9, small(3, 6))
		p.Start()
		q.Start()
		w.agree()
		for range 24 {
			x := []*want{p, q}[s.below(2)]
			if s.below(5) == 0 {
				x.wait()
			}
			if !x.decided {
				w.turn(&s, x)
			}
		}
	}
}

// turn has one server asked what a proposer asks now; what it asked before, and what is answered late, is there no more.
func (w *world) turn(s *stir, p *want) {
	w.t.Helper()
	w.agree()
	w.way = slices.DeleteFunc(w.way, func(m api.Message) bool {
		return m.From == client(p.client) && m.ID == p.id && m.Ballot != p.Ballot()
	})
	n := s.below(3)
	for _, m := range w.way {
		if m.From == client(p.client) && m.ID == p.id && m.To == server(n) {
			w.exchange(p, n)
			return
		}
	}
}
