package soup_test

import (
	"fmt"
	"slices"
	"testing"

	"rotulet/api"
	"rotulet/cell"
	"rotulet/layout"
	"rotulet/soup"
)

const none = uint64(api.None)

func place(r api.Role, n int) api.Place { return api.Place{Role: r, Number: n} }

func unit(n int) api.Place { return place(api.Unit, n) }

func client(n int) api.Place { return place(api.Client, n) }

func back(stream int, a, b uint64) api.Back {
	return api.Back{Stream: stream, Last: [2]uint64{a, b}}
}

// places are all that there may be.
func places() []api.Place {
	var l []api.Place
	for role, count := range []int{0, 32, 32, 3, 4} {
		for n := range count {
			l = append(l, place(api.Role(role), n))
		}
	}
	return l
}

// read is a message that reads an address.
func read(a uint64) api.Message {
	return api.Message{Kind: api.Read, From: client(0), To: unit(3), Address: a}
}

// given is a message with a bit of all, each number another one.
func given() api.Message {
	return api.Message{
		Kind: api.Reply, Of: api.Token, From: place(api.Sequencer, 21), To: client(2), ID: 70000, Epoch: 80001, Address: 90002, Error: 84,
		Cell:    api.Cell{Kind: api.Data, Data: []byte("hey"), Backs: []api.Back{back(3, 7, 2), back(5, 6, none)}},
		Streams: []int{1, 4}, Backs: []api.Back{back(4, 8, none), back(9, 600, 5)},
		Ballot: api.Ballot{Round: 6000, Client: 1}, Promised: api.Ballot{Round: 7000, Client: 3},
		Layout: api.Layout{Epoch: 4, Sequencer: 2, Segments: []api.Segment{{Chains: [][]int{{1, 2}, {3}}}, {From: 10, Chains: [][]int{{5, 1}}}}},
	}
}

// some are messages of which no two are alike, with receivers of all roles.
func some() []api.Message {
	l := []api.Message{read(0), read(1), read(256), given()}
	for i, to := range []api.Place{unit(0), unit(31), place(api.Sequencer, 2), place(api.Server, 2), client(3)} {
		l = append(l, api.Message{Kind: api.MessageKind(5 + i), From: client(i % 4), To: to, ID: 9 - i})
	}
	for _, text := range []string{"", "\x00", "\x01", "\x00\x00"} {
		m := api.Message{Kind: api.Write, From: client(1), To: unit(3), Address: 5, Cell: api.Cell{Kind: api.Data, Data: []byte(text)}}
		l = append(l, m)
	}
	m := read(0)
	m.Streams, m.Layout = []int{3}, given().Layout
	return append(l, m)
}

// tell writes anything as a text that is the same for nil and empty slices, and for nothing else that is different.
func tell(x any) string { return fmt.Sprintf("%+v", x) }

// numbers are what a valid message's encoding tells, one number after the other (chapter 10). Each of them has always as many bits as the same number of another message that begins alike, so that the order of these lists is the order of the encodings.
func numbers(m api.Message) []uint64 {
	var l []uint64
	add := func(all ...int) {
		for _, n := range all {
			l = append(l, uint64(n))
		}
	}
	list := func(b []byte, _ api.Errno) {
		add(len(b))
		for _, x := range b {
			add(int(x))
		}
	}
	add(int(m.Kind), int(m.Of), int(m.From.Role), m.From.Number, int(m.To.Role), m.To.Number, m.ID, int(m.Epoch), int(m.Address), int(m.Error))
	add(m.Ballot.Round, m.Ballot.Client, m.Promised.Round, m.Promised.Client)
	add(len(m.Streams))
	add(m.Streams...)
	add(len(m.Backs))
	for _, b := range m.Backs {
		add(b.Stream)
		for _, a := range b.Last {
			if a == none {
				a = 1048576
			}
			add(int(a))
		}
	}
	list(cell.Encode(m.Cell))
	list(layout.Encode(m.Layout))
	return l
}

// order compares two messages.
func order(a, b api.Message) int { return slices.Compare(numbers(a), numbers(b)) }

// model is the reference. It has the messages that are there in a list, one copy after the other, and all that was said of places.
type model struct {
	there []told
	marks []mark
	lost  int
}

// told is a message and what tell makes of it.
type told struct {
	message api.Message
	text    string
}

// mark is what was said of a place.
type mark struct {
	place api.Place
	down  bool
}

// kinds are the different messages, in order.
func (m *model) kinds() []api.Message {
	var l []api.Message
	for i, x := range m.there {
		if m.index(x.text) == i {
			l = append(l, x.message)
		}
	}
	slices.SortFunc(l, order)
	return l
}

// index is where the first copy of a message is, -1 if there is none.
func (m *model) index(text string) int {
	return slices.IndexFunc(m.there, func(x told) bool { return x.text == text })
}

func (m *model) times(x api.Message) int {
	n, text := 0, tell(x)
	for _, y := range m.there {
		if y.text == text {
			n++
		}
	}
	return n
}

func (m *model) isDown(p api.Place) bool {
	for _, x := range slices.Backward(m.marks) {
		if x.place == p {
			return x.down
		}
	}
	return false
}

// put puts in one that is valid.
func (m *model) put(x api.Message) api.Errno {
	if len(m.there) == 400 {
		m.lost++
		return api.ErrSoup
	}
	m.there = append(m.there, told{x, tell(x)})
	return api.OK
}

// take takes out one copy.
func (m *model) take(x api.Message) {
	i := m.index(tell(x))
	m.there = slices.Delete(m.there, i, i+1)
}

// act is a call that changes something.
type act struct {
	what    string
	i       int
	message api.Message
	place   api.Place
}

func put(m api.Message) act { return act{what: "put", message: m} }

func take(i int) act { return act{what: "take", i: i} }

func twice(i int) act { return act{what: "twice", i: i} }

func lose(i int) act { return act{what: "lose", i: i} }

func down(p api.Place) act { return act{what: "down", place: p} }

func up(p api.Place) act { return act{what: "up", place: p} }

// result is what Take answers; of other calls, the error alone.
type result struct {
	message api.Message
	up      bool
	err     api.Errno
}

// do makes the call.
func (a act) do(s *soup.Soup) result {
	switch a.what {
	case "put":
		return result{err: s.Put(a.message)}
	case "take":
		m, up, e := s.Take(a.i)
		return result{m, up, e}
	case "twice":
		return result{err: s.Twice(a.i)}
	case "lose":
		return result{err: s.Lose(a.i)}
	default:
		return result{err: s.Down(a.place, a.what == "down")}
	}
}

// try is what the call is to answer, for messages and places that are valid.
func (a act) try(m *model) result {
	switch a.what {
	case "put":
		return result{err: m.put(a.message)}
	case "down", "up":
		m.marks = append(m.marks, mark{a.place, a.what == "down"})
		return result{}
	}
	l := m.kinds()
	if a.i < 0 || a.i >= len(l) {
		return result{err: api.ErrArg}
	}
	x := l[a.i]
	switch a.what {
	case "twice":
		return result{err: m.put(x)}
	case "lose":
		m.take(x)
		m.lost++
		return result{}
	default:
		m.take(x)
		return result{message: x, up: !m.isDown(x.To)}
	}
}

// holds holds all that a soup tells against the model; of these messages it asks how many times they are there.
func (m *model) holds(t *testing.T, what string, s *soup.Soup, asked []api.Message) {
	t.Helper()
	if got, want := s.Kinds(), m.kinds(); tell(got) != tell(want) {
		t.Fatalf("%s: Kinds: %s, want %s", what, tell(got), tell(want))
	}
	if s.Len() != len(m.there) || s.Lost() != m.lost {
		t.Fatalf("%s: Len %d, Lost %d, want %d and %d", what, s.Len(), s.Lost(), len(m.there), m.lost)
	}
	for _, x := range asked {
		if got, want := s.Times(x), m.times(x); got != want {
			t.Fatalf("%s: Times(%s): %d, want %d", what, tell(x), got, want)
		}
	}
	for _, p := range places() {
		if got, want := s.IsDown(p), m.isDown(p); got != want {
			t.Fatalf("%s: IsDown(%v): %v, want %v", what, p, got, want)
		}
	}
}

// both has an act done, and holds its result against the model's.
func (m *model) both(t *testing.T, s *soup.Soup, a act) {
	t.Helper()
	if got, want := a.do(s), a.try(m); tell(got) != tell(want) {
		t.Fatalf("%+v: %s, want %s", a, tell(got), tell(want))
	}
}

// filled is a soup with so many copies of messages, and its model.
func filled(t *testing.T, n int, messages ...api.Message) (*soup.Soup, *model) {
	t.Helper()
	s, m := soup.New(), &model{}
	for i := range n {
		m.both(t, s, put(messages[i%len(messages)]))
	}
	m.holds(t, "filled", s, messages)
	return s, m
}

// stir is a row of numbers without a plain pattern, the same in each run.
type stir uint64

func (s *stir) below(n int) int {
	*s = *s*6364136223846793005 + 1442695040888963407
	x := uint64(*s)
	return int((x ^ x>>29 ^ x<<17) >> 8 % uint64(n))
}
