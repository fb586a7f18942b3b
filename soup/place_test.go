package soup_test

import (
	"math"
	"testing"

	"rotulet/api"
	"rotulet/soup"
)

// P11.1: each place that there may be can be down, alone, and is up again.
func TestEachPlace(t *testing.T) {
	s, m := soup.New(), &model{}
	for _, p := range places() {
		m.both(t, s, up(p))
		for range 2 {
			m.both(t, s, down(p))
			m.holds(t, "down", s, nil)
			if !s.IsDown(p) {
				t.Errorf("%v is not down", p)
			}
		}
		for range 2 {
			m.both(t, s, up(p))
			m.holds(t, "up", s, nil)
			if s.IsDown(p) {
				t.Errorf("%v is down", p)
			}
		}
	}
	for i, p := range places() {
		m.both(t, s, down(p))
		if i%3 == 0 {
			m.both(t, s, up(places()[i/2]))
		}
		m.holds(t, "many are down", s, nil)
	}
}

// P11.1: whether the receiver is up is told as it is when the message is taken, and for no other place; the message is there no longer in any case, and isn't lost.
func TestReceiver(t *testing.T) {
	for _, to := range places() {
		for _, from := range []api.Place{unit(7), place(api.Sequencer, 7), place(api.Server, 1), client(1)} {
			if from == to {
				continue
			}
			x := api.Message{Kind: api.Tail, From: from, To: to, ID: 3}
			s := soup.New()
			takes := func(what string, want bool) {
				t.Helper()
				m, up, e := s.Take(0)
				if tell(m) != tell(x) || up != want || e != api.OK || s.Len() != 0 || s.Lost() != 0 {
					t.Fatalf("%v, %s: %s, %v, %d; Len %d, Lost %d", to, what, tell(m), up, e, s.Len(), s.Lost())
				}
				s.Put(x)
			}
			s.Put(x)
			takes("all are up", true)
			s.Down(from, true)
			takes("the sender is down", true)
			s.Down(to, true)
			takes("down since it was put", false)
			takes("down", false)
			s.Down(from, false)
			takes("the receiver alone is down", false)
			s.Down(to, false)
			takes("up since it was put", true)
			takes("up again", true)
		}
	}
}

// P11.1: a message to oneself.
func TestToOneself(t *testing.T) {
	x := api.Message{Kind: api.Tail, From: unit(4), To: unit(4)}
	s, m := filled(t, 3, x)
	m.both(t, s, take(0))
	m.both(t, s, down(unit(4)))
	m.both(t, s, take(0))
	m.both(t, s, up(unit(4)))
	m.both(t, s, take(0))
	m.holds(t, "to oneself", s, []api.Message{x})
}

// P11.1, wrong inputs: what is not a place can't be down; nothing changes.
func TestWrongPlaces(t *testing.T) {
	wrong := []api.Place{{}, place(0, 1), place(5, 0), place(-1, 0), place(9, 3), place(1<<32+1, 0), place(math.MinInt, 0), place(math.MaxInt, 0)}
	for role, count := range map[api.Role]int{api.Unit: 32, api.Sequencer: 32, api.Server: 3, api.Client: 4} {
		for _, n := range []int{-1, count, count + 1, 64, 256, 1<<32 + 1, math.MinInt, math.MaxInt} {
			wrong = append(wrong, place(role, n))
		}
	}
	s, m := filled(t, 20, some()...)
	m.both(t, s, down(unit(3)))
	m.both(t, s, down(client(0)))
	for _, p := range wrong {
		for _, is := range []bool{true, false, true} {
			if e := s.Down(p, is); e != api.ErrArg {
				t.Errorf("Down(%v, %v): %d", p, is, e)
			}
			if s.IsDown(p) {
				t.Errorf("IsDown(%v)", p)
			}
		}
		m.holds(t, tell(p), s, some())
	}
}
