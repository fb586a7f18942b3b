package unit_test

import (
	"testing"

	"rotulet/api"
	"rotulet/unit"
)

// act is something that happens to a unit.
type act func(r *rig)

func asking(m api.Message) act { return func(r *rig) { r.serve(m) } }

// acts are those of the short scripts.
func acts() []act {
	l := []act{func(r *rig) { r.reopen(false) }, func(r *rig) { r.reopen(true) }}
	for _, m := range []api.Message{
		ask(api.Write, 1, 4, data("x", back(3, 2, 1))), ask(api.Write, 1, 4, junk()), ask(api.Write, 2, 4, empty()), ask(api.Write, 1, 7, junk()),
		ask(api.Copy, 1, 4, data("x", back(3, 2, 1))), ask(api.Copy, 1, 4, data("x")), ask(api.Copy, 1, 4, empty()),
		ask(api.Read, 1, 4, empty()), ask(api.Trim, 1, 4, empty()), ask(api.Trim, 1, 5, empty()), ask(api.TrimOne, 1, 4, empty()), ask(api.TrimOne, 1, 5, empty()),
		ask(api.Open, 1, 4, empty()), ask(api.Open, 2, 4, empty()), ask(api.Seal, 1, 4, empty()), ask(api.Seal, 2, 4, empty()), ask(api.Tail, 1, 4, empty()),
	} {
		l = append(l, asking(m))
	}
	return l
}

// P14.1: any row of three acts on a new unit, and what all kinds of messages find then.
func TestShortScripts(t *testing.T) {
	all := acts()
	for n := range len(all) * len(all) * len(all) {
		r := fresh(t, 9)
		for k := n; k > 0; k /= len(all) {
			all[k%len(all)](r)
		}
		r.all(ask(api.Read, 2, 4, empty()), ask(api.Tail, 2, 4, empty()), ask(api.Copy, 2, 4, data("x")), ask(api.Seal, 2, 4, empty()))
	}
}

// P14.1: long scripts of messages of all kinds, from any place, most of them with the epoch of the pages, with the disk opened again amid them.
func TestLongScripts(t *testing.T) {
	s := stir(141)
	for range 120 {
		r := roomy(t)
		for range 60 {
			switch s.below(12) {
			case 0:
				r.reopen(false)
			case 1:
				r.reopen(true)
			default:
				r.serve(s.message(r.m.epoch()))
			}
		}
	}
}

// P14.1: among them are messages that the unit does not answer, which change nothing.
func TestScriptsWithOthers(t *testing.T) {
	s := stir(142)
	for range 60 {
		r := roomy(t)
		for range 60 {
			m := s.message(r.m.epoch())
			switch s.below(12) {
			case 0:
				m.To.Number = s.below(32)
			case 1:
				m.To = place(api.Role(1+s.below(4)), 5)
			case 2:
				m.Kind = api.MessageKind(s.below(16))
			case 3:
				m.Of = api.MessageKind(s.below(14))
			case 4:
				m.Cell = api.Cell{Kind: api.CellKind(s.below(5)), Data: []byte("x")}
			case 5:
				m.Address, m.Epoch = m.Address+uint64(s.below(2))<<32, m.Epoch+uint64(s.below(2))<<32
			}
			r.serve(m)
		}
	}
}

// P2: what a unit answers hangs on its pages and on the messages alone: two units that are asked the same, one of which is made anew each time with the same pages, and one with each number.
func TestAlike(t *testing.T) {
	s := stir(143)
	for range 30 {
		x, y := roomy(t), roomy(t)
		for range 40 {
			m := s.message(x.m.epoch())
			want := x.serve(m)
			for n := range api.MaxUnits {
				u, e := unit.New(y.u.Pages(), n)
				if e != api.OK || u.Number() != n || u.Pages() != y.u.Pages() {
					t.Fatalf("New(%d): %d", n, e)
				}
				if got, ok := u.Serve(m); ok != (n == 5) || n == 5 && tell(got) != tell(want) {
					t.Fatalf("%d: %+v: %+v, %v, want %+v", n, m, got, ok, want)
				}
			}
		}
		if shot(x.u.Pages()) != shot(y.u.Pages()) {
			t.Fatalf("%s, and %s", shot(x.u.Pages()), shot(y.u.Pages()))
		}
	}
}
