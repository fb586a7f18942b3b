package soup_test

import (
	"slices"
	"testing"

	"rotulet/api"
	"rotulet/soup"
)

// full are messages with lists of all kinds, alike but for one number.
func full() []api.Message {
	l := []api.Message{given(), given(), given()}
	for i := range l {
		l[i].Address = uint64(i)
	}
	return l
}

// room is a copy of a list, with something behind its end.
func room[T any](l []T, behind T) []T { return append(slices.Clone(l), behind, behind)[:len(l)] }

// lent is a copy of a message, with something behind the end of each list.
func lent(m api.Message) api.Message {
	m.Streams, m.Backs = room(m.Streams, 88), room(m.Backs, back(66, 67, 68))
	m.Cell.Data, m.Cell.Backs = room(m.Cell.Data, '?'), room(m.Cell.Backs, back(56, 57, 58))
	m.Layout.Segments = room(m.Layout.Segments, api.Segment{From: 33})
	for i, s := range m.Layout.Segments {
		chains := room(s.Chains, []int{44})
		for j, c := range chains {
			chains[j] = room(c, 45)
		}
		m.Layout.Segments[i].Chains = chains
	}
	return m
}

// behind tells a message, and all that is behind the ends of its lists.
func behind(m api.Message) string {
	text := tell(m) + tell(m.Streams[:cap(m.Streams)]) + tell(m.Backs[:cap(m.Backs)]) + tell(m.Cell.Data[:cap(m.Cell.Data)]) + tell(m.Cell.Backs[:cap(m.Cell.Backs)])
	for _, s := range m.Layout.Segments[:cap(m.Layout.Segments)] {
		text += tell(s)
		for _, c := range s.Chains[:cap(s.Chains)] {
			text += tell(c[:cap(c)])
		}
	}
	return text
}

// ruin writes over a list, and behind its end.
func ruin[T any](l []T, x T) {
	l = l[:cap(l)]
	for i := range l {
		l[i] = x
	}
}

// spoil writes over all lists of a message, and behind their ends.
func spoil(m api.Message) {
	ruin(m.Streams, 99)
	ruin(m.Backs, back(77, 78, 79))
	ruin(m.Cell.Data, '!')
	ruin(m.Cell.Backs, back(87, 88, 89))
	for _, s := range m.Layout.Segments[:cap(m.Layout.Segments)] {
		for _, c := range s.Chains[:cap(s.Chains)] {
			ruin(c, 97)
		}
		ruin(s.Chains, nil)
	}
	ruin(m.Layout.Segments, api.Segment{From: 98})
}

// Rule 4: no call changes a message that is handed in, nor what is behind the ends of its lists; when it is changed later, the soup does not change, nor does it change with the soup.
func TestHandedIn(t *testing.T) {
	s, m := soup.New(), &model{}
	for _, x := range slices.Concat(full(), some(), full()) {
		in, was := lent(x), behind(lent(x))
		m.both(t, s, put(in))
		m.there[len(m.there)-1] = told{x, tell(x)}
		s.Times(in)
		s.Twice(0)
		s.Lose(0)
		m.lost++
		if behind(in) != was {
			t.Fatalf("changed: %s, was %s", behind(in), was)
		}
		other := lent(x)
		spoil(in)
		in.ID++
		m.holds(t, "a message that was put is changed", s, append(full(), some()...))
		if s.Times(other) != m.times(x) || behind(other) != was {
			t.Fatalf("%d times, %s, was %s", s.Times(other), behind(other), was)
		}
	}
}

// Rule 4: a message or a list that is handed out is not changed by what is done with the soup later.
func TestHandedOutStays(t *testing.T) {
	s, _ := filled(t, 60, full()...)
	r := stir(80)
	var out [][]api.Message
	var was []string
	for range 150 {
		out = append(out, s.Kinds())
		if x, _, e := s.Take(r.below(3)); e == api.OK {
			out = append(out, []api.Message{x})
		}
		for len(was) < len(out) {
			was = append(was, tell(out[len(was)]))
		}
		r.any(append(full(), some()...), 4).do(s)
	}
	for i := range out {
		if tell(out[i]) != was[i] {
			t.Fatalf("changed: %s, was %s", tell(out[i]), was[i])
		}
	}
}

// Rule 4: what is handed out shares no memory with the soup, nor with anything else that it hands out: each may be changed alone.
func TestHandedOutIsApart(t *testing.T) {
	all := full()
	s, m := filled(t, 9, all...)
	first, second := s.Kinds(), s.Kinds()
	taken, _, _ := s.Take(1)
	again, _, _ := s.Take(1)
	m.take(all[1])
	m.take(all[1])
	lists := append(slices.Concat(first, second), taken, again)
	want := append(slices.Concat(all, all), all[1], all[1])
	for i, x := range lists {
		spoil(x)
		m.holds(t, "what was handed out is changed", s, all)
		for j := i + 1; j < len(lists); j++ {
			if tell(lists[j]) != tell(want[j]) {
				t.Fatalf("message %d changed with message %d: %s, was %s", j, i, tell(lists[j]), tell(want[j]))
			}
		}
	}
	ruin(first, api.Message{})
	m.holds(t, "the list is changed", s, all)
	for range 7 {
		m.both(t, s, take(0))
	}
	m.holds(t, "all taken", s, all)
}

// Rule 4: no two lists of a message that is handed out share memory.
func TestListsOfOneMessage(t *testing.T) {
	alike := given()
	alike.Backs, alike.Streams = slices.Clone(alike.Cell.Backs), []int{3}
	alike.Layout.Segments = []api.Segment{{Chains: [][]int{{3}, {4}}}, {From: 5, Chains: [][]int{{3}, {4}}}}
	s, _ := filled(t, 2, alike)
	taken, _, _ := s.Take(0)
	for _, m := range append(s.Kinds(), taken) {
		ruin(m.Backs, back(1, 2, 3))
		ruin(m.Streams, 77)
		for i, x := range m.Layout.Segments {
			for j, c := range x.Chains {
				ruin(c, 10*i+j)
			}
		}
		if tell(m.Cell) != tell(alike.Cell) || tell(m.Layout.Segments) != "[{From:0 Chains:[[0] [1]]} {From:5 Chains:[[10] [11]]}]" {
			t.Errorf("lists share memory: %s", tell(m))
		}
		ruin(m.Cell.Backs, back(4, 5, 6))
		if m.Backs[0] != back(1, 2, 3) || m.Streams[0] != 77 {
			t.Errorf("lists share memory: %s", tell(m))
		}
	}
}

// P2: what is done to a soup changes no other one.
func TestSoupsAreApart(t *testing.T) {
	a, m := filled(t, 30, some()...)
	b, n := filled(t, 50, full()...)
	m.both(t, a, down(unit(3)))
	n.both(t, b, down(client(2)))
	r := stir(90)
	for range 60 {
		m.both(t, a, r.any(some(), 4))
		n.holds(t, "the other one", b, full())
		n.both(t, b, r.any(full(), 4))
		m.holds(t, "the one", a, some())
	}
}
