package soup_test

import (
	"math"
	"slices"
	"testing"

	"rotulet/api"
	"rotulet/soup"
)

// asks holds what a soup tells against what is worked out by hand: Len, Lost, and the addresses of its kinds.
func asks(t *testing.T, s *soup.Soup, length, lost int, addresses ...uint64) {
	t.Helper()
	got := []uint64{}
	for _, m := range s.Kinds() {
		got = append(got, m.Address)
	}
	if s.Len() != length || s.Lost() != lost || !slices.Equal(got, addresses) {
		t.Errorf("Len %d, Lost %d, Kinds %d, want %d, %d, %d", s.Len(), s.Lost(), got, length, lost, addresses)
	}
}

// P11.1: a script worked out by hand.
func TestByHand(t *testing.T) {
	s := soup.New()
	asks(t, s, 0, 0)
	for i, a := range []uint64{7, 4, 7, 9, 7} {
		if e := s.Put(read(a)); e != api.OK || s.Len() != i+1 {
			t.Errorf("Put of %d: %d, Len %d", a, e, s.Len())
		}
	}
	asks(t, s, 5, 0, 4, 7, 9)
	if s.Times(read(7)) != 3 || s.Times(read(4)) != 1 || s.Times(read(9)) != 1 || s.Times(read(8)) != 0 {
		t.Errorf("Times: %d, %d, %d, %d", s.Times(read(7)), s.Times(read(4)), s.Times(read(9)), s.Times(read(8)))
	}
	if m, up, e := s.Take(1); tell(m) != tell(read(7)) || !up || e != api.OK {
		t.Errorf("Take: %s, %v, %d", tell(m), up, e)
	}
	asks(t, s, 4, 0, 4, 7, 9)
	if e := s.Lose(0); e != api.OK {
		t.Errorf("Lose: %d", e)
	}
	asks(t, s, 3, 1, 7, 9)
	if e := s.Twice(1); e != api.OK || s.Times(read(9)) != 2 {
		t.Errorf("Twice: %d, %d times", e, s.Times(read(9)))
	}
	asks(t, s, 4, 1, 7, 9)
	if e := s.Down(unit(3), true); e != api.OK || !s.IsDown(unit(3)) || s.IsDown(unit(2)) || s.IsDown(client(3)) {
		t.Errorf("Down: %d, %v", e, s.IsDown(unit(3)))
	}
	if m, up, e := s.Take(1); tell(m) != tell(read(9)) || up || e != api.OK {
		t.Errorf("Take for one that is down: %s, %v, %d", tell(m), up, e)
	}
	asks(t, s, 3, 1, 7, 9)
	if e := s.Down(unit(3), false); e != api.OK || s.IsDown(unit(3)) {
		t.Errorf("Down, up again: %d, %v", e, s.IsDown(unit(3)))
	}
	if m, up, e := s.Take(1); tell(m) != tell(read(9)) || !up || e != api.OK {
		t.Errorf("Take for one that is up again: %s, %v, %d", tell(m), up, e)
	}
	asks(t, s, 2, 1, 7)
}

// P11.1: nothing is there, nothing was lost, and nobody is down; no kind can be taken, and nothing changes by that.
func TestEmpty(t *testing.T) {
	s, m := filled(t, 0)
	for _, i := range []int{0, 1, -1, 399, 400, math.MinInt, math.MaxInt} {
		for _, a := range []act{take(i), twice(i), lose(i)} {
			if got := a.do(s); tell(got) != tell(result{err: api.ErrArg}) {
				t.Errorf("%s %d: %s", a.what, i, tell(got))
			}
		}
	}
	m.holds(t, "empty", s, some())
}

// P11.1: the same message put again is one kind.
func TestAgain(t *testing.T) {
	for _, x := range some() {
		s, _ := filled(t, 3, x)
		if l := s.Kinds(); len(l) != 1 || tell(l[0]) != tell(x) || s.Times(x) != 3 || s.Len() != 3 {
			t.Errorf("%s: Kinds %s, %d times, Len %d", tell(x), tell(l), s.Times(x), s.Len())
		}
	}
}

// P11.1: with its last copy, taken or lost, a kind is gone, so that others move up; put again, it is back.
func TestLastCopy(t *testing.T) {
	for _, copies := range []int{1, 2, 5} {
		for _, end := range []act{take(1), lose(1)} {
			s, m := filled(t, 3*copies, read(1), read(2), read(3))
			for n := copies; n > 0; n-- {
				if s.Times(read(2)) != n || len(s.Kinds()) != 3 {
					t.Errorf("%s: %d times, Kinds %s", end.what, s.Times(read(2)), tell(s.Kinds()))
				}
				m.both(t, s, end)
			}
			if l := s.Kinds(); s.Times(read(2)) != 0 || tell(l) != tell([]api.Message{read(1), read(3)}) {
				t.Errorf("%s: %d times, Kinds %s", end.what, s.Times(read(2)), tell(l))
			}
			if got := twice(2).do(s); got.err != api.ErrArg {
				t.Errorf("%s: there still is a kind 2: %d", end.what, got.err)
			}
			m.both(t, s, put(read(2)))
			m.both(t, s, take(1))
			m.holds(t, end.what, s, []api.Message{read(1), read(2), read(3)})
		}
	}
}

// P11.1: the i of -1, 0, the last kind's, one more, and far ones; the number of kinds counts, not that of messages.
func TestIndex(t *testing.T) {
	for kinds := 1; kinds <= 12; kinds++ {
		for _, what := range []string{"take", "twice", "lose"} {
			for _, i := range []int{0, kinds - 1, kinds / 2, -1, kinds, kinds + 1, 3 * kinds, 3*kinds - 1, -kinds, math.MinInt, math.MaxInt, 1 << 32} {
				s, m := filled(t, 3*kinds, some()[:kinds]...)
				if i >= 0 && i < kinds {
					x := s.Kinds()[i]
					m.both(t, s, act{what: what, i: i})
					if want := map[string]int{"take": 2, "twice": 4, "lose": 2}[what]; s.Times(x) != want {
						t.Errorf("%s %d of %d: %s is there %d times", what, i, kinds, tell(x), s.Times(x))
					}
				} else if got := (act{what: what, i: i}).do(s); tell(got) != tell(result{err: api.ErrArg}) {
					t.Errorf("%s %d of %d: %s", what, i, kinds, tell(got))
				}
				m.holds(t, what, s, some())
			}
		}
	}
}

// P11.1: MaxSoup - 1 messages leave room for one, MaxSoup for none: what is put then is lost, whether it is there already or not.
func TestFullByPut(t *testing.T) {
	for kinds := 1; kinds <= len(some()); kinds++ {
		s, m := filled(t, api.MaxSoup-1, some()[:kinds]...)
		m.both(t, s, put(some()[0]))
		if s.Len() != 400 || s.Lost() != 0 {
			t.Fatalf("Len %d, Lost %d", s.Len(), s.Lost())
		}
		for i, x := range []api.Message{some()[0], some()[kinds-1], read(77)} {
			before := s.Times(x)
			if e := s.Put(x); e != api.ErrSoup || s.Len() != 400 || s.Lost() != i+1 || s.Times(x) != before {
				t.Errorf("Put of %s: %d, Len %d, Lost %d, %d times", tell(x), e, s.Len(), s.Lost(), s.Times(x))
			}
		}
		m.lost = 3
		m.holds(t, "full", s, append(some(), read(77)))
	}
}

// P11.1: by Twice as well; the copy is lost, and the message stays.
func TestFullByTwice(t *testing.T) {
	for kinds := 1; kinds <= len(some()); kinds++ {
		s, m := filled(t, api.MaxSoup-1, some()[:kinds]...)
		m.both(t, s, twice(kinds-1))
		if s.Len() != 400 || s.Lost() != 0 {
			t.Fatalf("Len %d, Lost %d", s.Len(), s.Lost())
		}
		for i := range kinds {
			if e := s.Twice(i); e != api.ErrSoup || s.Len() != 400 || s.Lost() != i+1 {
				t.Errorf("Twice of %d: %d, Len %d, Lost %d", i, e, s.Len(), s.Lost())
			}
		}
		m.lost = kinds
		m.holds(t, "full", s, some())
	}
}

// P11.1: MaxSoup messages, each another one; all can be taken, in any order, and none that was not put.
func TestFullOfKinds(t *testing.T) {
	many := []api.Message{}
	for a := range uint64(400) {
		many = append(many, read(a*a))
	}
	s, m := filled(t, 400, many...)
	m.both(t, s, put(read(2)))
	m.both(t, s, put(read(4)))
	m.both(t, s, twice(399))
	m.both(t, s, twice(400))
	m.holds(t, "full of kinds", s, append(many, read(2)))
	order := stir(7)
	for left := 400; left > 0; left-- {
		m.both(t, s, take(left))
		m.both(t, s, take(order.below(left)))
		if s.Len() != left-1 || len(s.Kinds()) != left-1 {
			t.Fatalf("Len %d, %d kinds, want %d", s.Len(), len(s.Kinds()), left-1)
		}
	}
	m.holds(t, "all taken", s, many)
}

// P11.1: as soon as one is taken or lost, there is room for one again.
func TestRoomAgain(t *testing.T) {
	for _, first := range []act{take(0), lose(0), take(2), lose(2)} {
		for _, then := range []act{put(read(5)), put(read(1)), twice(1)} {
			s, m := filled(t, 400, read(1), read(2), read(3))
			m.both(t, s, first)
			if got := then.do(s); got.err != api.OK || s.Len() != 400 {
				t.Errorf("%s, %s: %d, Len %d", first.what, then.what, got.err, s.Len())
			}
			if got := then.do(s); got.err != api.ErrSoup || s.Len() != 400 {
				t.Errorf("%s, %s twice: %d, Len %d", first.what, then.what, got.err, s.Len())
			}
		}
	}
}

// P11.1: messages that differ in one field only are kinds of their own.
func TestOneField(t *testing.T) {
	all := []api.Message{given()}
	for _, f := range []func(*api.Message){
		func(m *api.Message) { m.Kind, m.Of = api.Learn, 0 },
		func(m *api.Message) { m.Of = api.Begin },
		func(m *api.Message) { m.From.Role = api.Unit },
		func(m *api.Message) { m.From.Number = 22 },
		func(m *api.Message) { m.To.Role = api.Server },
		func(m *api.Message) { m.To.Number = 3 },
		func(m *api.Message) { m.ID++ },
		func(m *api.Message) { m.Epoch++ },
		func(m *api.Message) { m.Address++ },
		func(m *api.Message) { m.Error = api.OK },
		func(m *api.Message) { m.Cell = api.Cell{} },
		func(m *api.Message) { m.Cell = api.Cell{Kind: api.Junk} },
		func(m *api.Message) { m.Cell.Data = []byte("hex") },
		func(m *api.Message) { m.Cell.Data = []byte("hey\x00") },
		func(m *api.Message) { m.Cell.Backs = m.Cell.Backs[:1] },
		func(m *api.Message) { m.Cell.Backs[1].Stream++ },
		func(m *api.Message) { m.Cell.Backs[1].Last[1] = 0 },
		func(m *api.Message) { m.Streams = nil },
		func(m *api.Message) { m.Streams[1]++ },
		func(m *api.Message) { m.Streams = append(m.Streams, 5) },
		func(m *api.Message) { m.Backs = nil },
		func(m *api.Message) { m.Backs = m.Backs[1:] },
		func(m *api.Message) { m.Backs[0].Stream-- },
		func(m *api.Message) { m.Backs[0].Last[1] = 0 },
		func(m *api.Message) { m.Ballot.Round++ },
		func(m *api.Message) { m.Ballot.Client++ },
		func(m *api.Message) { m.Promised.Round-- },
		func(m *api.Message) { m.Promised.Client-- },
		func(m *api.Message) { m.Ballot, m.Promised = m.Promised, m.Ballot },
		func(m *api.Message) { m.Layout = api.Layout{} },
		func(m *api.Message) { m.Layout.Epoch++ },
		func(m *api.Message) { m.Layout.Sequencer++ },
		func(m *api.Message) { m.Layout.Segments = m.Layout.Segments[:1] },
		func(m *api.Message) { m.Layout.Segments[1].From++ },
		func(m *api.Message) { m.Layout.Segments[0].Chains[0][1] = 4 },
		func(m *api.Message) { m.Layout.Segments[1].Chains[0] = []int{5} },
	} {
		m := given()
		f(&m)
		all = append(all, m)
	}
	s, m := filled(t, len(all), all...)
	if l := s.Kinds(); len(l) != len(all) {
		t.Errorf("%d kinds of %d", len(l), len(all))
	}
	for i, x := range all {
		if s.Times(x) != 1 {
			t.Errorf("message %d is there %d times", i, s.Times(x))
		}
	}
	for i := range all {
		m.both(t, s, twice(len(all)-1-i))
		m.both(t, s, lose(i*7%len(all)))
		m.holds(t, "one field", s, all)
	}
}

// P11.1: messages that are alike but not the same value, as with a nil and an empty slice, are one kind.
func TestAlike(t *testing.T) {
	bare := []api.Message{
		read(5),
		{Kind: api.Write, From: client(0), To: unit(3), Cell: api.Cell{Kind: api.Data}},
		{Kind: api.Write, From: client(0), To: unit(3), Cell: api.Cell{Kind: api.Junk}},
	}
	for _, x := range bare {
		s := soup.New()
		empty := x
		empty.Streams, empty.Backs, empty.Cell.Data, empty.Cell.Backs = []int{}, []api.Back{}, []byte{}, []api.Back{}
		if x.Layout.Epoch == 0 {
			empty.Layout.Segments = []api.Segment{}
		}
		room := x
		room.Streams, room.Backs, room.Cell.Data, room.Cell.Backs = make([]int, 0, 4), make([]api.Back, 0, 4), make([]byte, 0, 9), make([]api.Back, 0, 2)
		for i, y := range []api.Message{x, empty, room, empty, x} {
			if e := s.Put(y); e != api.OK || len(s.Kinds()) != 1 || s.Len() != i+1 || s.Times(x) != i+1 || s.Times(empty) != i+1 || s.Times(room) != i+1 {
				t.Errorf("%s: %d, Kinds %s, Times %d, %d, %d", tell(y), e, tell(s.Kinds()), s.Times(x), s.Times(empty), s.Times(room))
			}
		}
		if y, _, _ := s.Take(0); tell(y) != tell(x) || s.Times(empty) != 4 || s.Len() != 4 {
			t.Errorf("taken: %s, want %s; %d left", tell(y), tell(x), s.Len())
		}
	}
}
