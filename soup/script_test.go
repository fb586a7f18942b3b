package soup_test

import (
	"testing"

	"rotulet/api"
	"rotulet/soup"
)

// P11.1: every script of up to four acts.
func TestShortScripts(t *testing.T) {
	first, second := read(1), api.Message{Kind: api.Tail, From: client(1), To: place(api.Sequencer, 0)}
	asked := []api.Message{first, second, read(2)}
	acts := []act{
		put(first), put(second), take(0), take(1), twice(0), twice(1), lose(0), lose(1),
		down(unit(3)), up(unit(3)), down(place(api.Sequencer, 0)),
	}
	var each func(script []act)
	each = func(script []act) {
		s, m := soup.New(), &model{}
		for _, a := range script {
			m.both(t, s, a)
		}
		m.holds(t, tell(script), s, asked)
		if len(script) == 4 {
			return
		}
		for _, a := range acts {
			each(append(script[:len(script):len(script)], a))
		}
	}
	each(nil)
}

// any is any act, with a valid message or place.
func (s *stir) any(messages []api.Message, growth int) act {
	i := s.below(len(messages)+2) - 1
	p := places()[s.below(71)]
	if s.below(3) > 0 {
		p = messages[s.below(len(messages))].To
	}
	switch x := s.below(8 + growth); {
	case x == 0:
		return down(p)
	case x == 1:
		return up(p)
	case x < 4:
		return take(i)
	case x < 6:
		return lose(i)
	case x < 8:
		return twice(i)
	default:
		return put(messages[s.below(len(messages))])
	}
}

// P11.1: long scripts, with all that the soup tells asked behind each act; some of them fill it.
func TestLongScripts(t *testing.T) {
	all := some()
	for seed, growth := range []int{1, 2, 4, 30} {
		r, s, m := stir(seed+20), soup.New(), &model{}
		full := 0
		for range 800 {
			a := r.any(all, growth)
			m.both(t, s, a)
			m.holds(t, tell(a), s, all)
			if s.Len() == api.MaxSoup {
				full++
			}
		}
		if (full > 100) != (growth == 30) {
			t.Errorf("growth %d: full %d times", growth, full)
		}
	}
}

// tally counts, for each message, what the answers of a soup tell of it.
type tally struct {
	put, taken, lost map[string]int
}

// counted does an act, and counts what became of which message.
func (c tally) counted(s *soup.Soup, a act) {
	var kind string
	if l := s.Kinds(); a.i >= 0 && a.i < len(l) {
		kind = tell(l[a.i])
	}
	if a.what == "put" {
		kind = tell(a.message)
	}
	got := a.do(s)
	switch {
	case got.err == api.ErrArg:
	case got.err == api.ErrSoup:
		c.put[kind]++
		c.lost[kind]++
	case a.what == "put", a.what == "twice":
		c.put[kind]++
	case a.what == "take":
		c.taken[tell(got.message)]++
	case a.what == "lose":
		c.lost[kind]++
	}
}

// P11.2: what is taken was put; each message that was put or duplicated was taken or lost, or is still there.
func TestConservation(t *testing.T) {
	all := some()
	for seed := range 6 {
		r, s := stir(seed+40), soup.New()
		c := tally{put: map[string]int{}, taken: map[string]int{}, lost: map[string]int{}}
		growth := 40
		for n := range 1500 {
			if n%250 == 0 {
				growth = 42 - growth
			}
			c.counted(s, r.any(all, growth))
			lost, there := 0, 0
			for _, x := range all {
				k := tell(x)
				if c.put[k] != c.taken[k]+c.lost[k]+s.Times(x) {
					t.Fatalf("%s: put %d, taken %d, lost %d, there %d", k, c.put[k], c.taken[k], c.lost[k], s.Times(x))
				}
				lost += c.lost[k]
				there += s.Times(x)
			}
			if lost != s.Lost() || there != s.Len() || len(c.put) > len(all) || len(c.taken) > len(c.put) {
				t.Fatalf("lost %d, Lost %d; there %d, Len %d; put %d, taken %d", lost, s.Lost(), there, s.Len(), len(c.put), len(c.taken))
			}
		}
		for k, n := range c.taken {
			if n > c.put[k] {
				t.Errorf("%s was taken %d times, put %d times", k, n, c.put[k])
			}
		}
		if s.Lost() < 100 || len(c.taken) < len(all) {
			t.Errorf("Lost %d; %d kinds were taken", s.Lost(), len(c.taken))
		}
	}
}

// P11.2: nothing but acts makes messages come or go: not questions, not errors, nor that a place is down.
func TestStays(t *testing.T) {
	s, m := filled(t, 40, some()...)
	for range 50 {
		s.Kinds()
		s.Times(read(1))
		s.Times(api.Message{})
		s.Len()
		s.Lost()
		s.IsDown(unit(3))
		s.Put(api.Message{})
		s.Take(-1)
		s.Twice(40)
		s.Lose(40)
		s.Down(api.Place{}, true)
	}
	m.holds(t, "asked", s, some())
	for _, p := range places() {
		m.both(t, s, down(p))
	}
	m.holds(t, "all are down", s, some())
	for _, p := range places() {
		m.both(t, s, up(p))
	}
	m.holds(t, "all are up", s, some())
}

// P2: the same script has the same results, whatever other soups there are.
func TestSameAgain(t *testing.T) {
	r, all := stir(60), some()
	acts := []act{}
	for range 500 {
		acts = append(acts, r.any(all, 3))
	}
	run := func(others ...*soup.Soup) []string {
		s, l := soup.New(), []string{}
		for i, a := range acts {
			l = append(l, tell(a.do(s)), tell(s.Kinds()), tell(s.Len()), tell(s.Lost()))
			for _, x := range others {
				acts[(i*3+1)%len(acts)].do(x)
			}
		}
		return l
	}
	want := tell(run())
	if tell(run()) != want || tell(run(soup.New(), soup.New())) != want {
		t.Error("another result")
	}
}
