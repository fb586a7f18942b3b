package proposer_test

import (
	"testing"

	"rotulet/acceptor"
	"rotulet/api"
	"rotulet/layout"
)

// orders are those in which three servers can be asked.
func orders() [][]int {
	return [][]int{{0, 1, 2}, {0, 2, 1}, {1, 0, 2}, {1, 2, 0}, {2, 0, 1}, {2, 1, 0}}
}

// settle has all messages arrive, those of each server in turn, but the messages of one server if there is such a one.
func (w *world) settle(order []int, but int, reopen bool) {
	w.t.Helper()
	for w.agree(); len(w.way) > 0; {
		for _, n := range order {
			for i := len(w.way) - 1; i >= 0; i-- {
				m := w.way[i]
				if m.To != server(n) && m.From != server(n) {
					continue
				}
				w.take(i)
				if n == but {
					continue
				}
				w.give(m)
				if reopen {
					w.reopen(n, i%2 == 0, nil)
				}
				break
			}
		}
	}
}

// P13.3: a proposer that is alone, with servers that have heard of nothing, decides its wish without a tick, in whichever order the messages arrive, also if one server hears nothing.
func TestAlone(t *testing.T) {
	for _, order := range orders() {
		for but := -1; but < 3; but++ {
			for _, reopen := range []bool{false, true} {
				for c := range 4 {
					w := newWorld(t)
					for _, wish := range []api.Layout{some(3)[c], small(1, c), small(1048576, 9)} {
						p := w.add(c, 7, wish)
						p.Start()
						w.settle(order, but, reopen)
						w.chosen(p, wish)
						if p.Ballot() != ballot(1, c) {
							t.Errorf("Ballot: %v", p.Ballot())
						}
					}
				}
			}
		}
	}
}

// before are what may have happened to a server; each answers the unit of the layout that it has accepted then, or 0.
func before() []func(x *acceptor.Acceptor) int {
	eight, nine := ballot(2, 3), ballot(4, 0)
	return []func(x *acceptor.Acceptor) int{
		func(x *acceptor.Acceptor) int { return 0 },
		func(x *acceptor.Acceptor) int { x.Prepare(3, ballot(1, 0)); return 0 },
		func(x *acceptor.Acceptor) int { x.Prepare(3, ballot(1, 1)); return 0 },
		func(x *acceptor.Acceptor) int { x.Prepare(3, ballot(5, 2)); return 0 },
		func(x *acceptor.Acceptor) int { x.Prepare(3, ballot(65534, 3)); return 0 },
		func(x *acceptor.Acceptor) int { x.Accept(3, eight, small(3, 8)); return 8 },
		func(x *acceptor.Acceptor) int { x.Accept(3, eight, small(3, 8)); x.Prepare(3, ballot(9, 0)); return 8 },
		func(x *acceptor.Acceptor) int { x.Accept(3, nine, small(3, 9)); return 9 },
	}
}

// P13.3: whatever servers have promised and accepted before, a proposer that is alone decides behind one wait at most: its wish if nothing was accepted, or what two servers have accepted.
func TestAloneAfterOthers(t *testing.T) {
	all := before()
	for n := range len(all) * len(all) * len(all) {
		for i, order := range orders() {
			w := newWorld(t)
			accepted := map[int]int{}
			for k, x := range w.servers {
				accepted[all[[]int{n, n / 8, n / 64}[k]%8](x)]++
			}
			but := i - 1
			if n%2 == 0 {
				but = -1
			}
			p := w.add(1, 7, small(3, 5))
			w.add(3, 8, small(3, 8))
			w.add(3, 9, small(3, 9))
			p.Start()
			w.settle(order, but, n%7 == 0)
			if !p.decided {
				p.wait()
				w.settle(order, but, false)
			}
			l, over := p.Decided()
			if !over {
				t.Fatalf("%d, %v: not decided", n, order)
			}
			unit := 0
			switch {
			case accepted[0] == 3:
				unit = 5
			case accepted[9] >= 2:
				unit = 9
			case accepted[8] >= 2 && accepted[9] == 0:
				unit = 8
			}
			if unit > 0 && !layout.Same(l, small(3, unit)) {
				t.Fatalf("%d, %v: decided %v, want unit %d", n, order, l, unit)
			}
		}
	}
}

// P13.3: proposers that follow each other: each of them decides, and what the first one has decided stays.
func TestOneBehindTheOther(t *testing.T) {
	w := newWorld(t)
	for n := range 12 {
		p := w.add(n%4, n, small(3, n))
		p.Start()
		for k := range 3 {
			w.settle(orders()[(n+k)%6], n%4-1, true)
			if p.decided {
				break
			}
			p.wait()
		}
		w.chosen(p, small(3, 0))
	}
}
