package soup_test

import (
	"bytes"
	"slices"
	"testing"

	"rotulet/api"
	"rotulet/message"
	"rotulet/soup"
)

// P11.1: the order of the kinds, worked out by hand from the fields as chapter 10 lays them: the first one that differs tells.
func TestOrderByHand(t *testing.T) {
	write := func(text string, backs ...api.Back) api.Message {
		return api.Message{Kind: api.Write, From: client(0), To: client(0), Cell: api.Cell{Kind: api.Data, Data: []byte(text), Backs: backs}}
	}
	of := func(f func(*api.Message)) api.Message {
		m := write("")
		f(&m)
		return m
	}
	want := []api.Message{
		of(func(m *api.Message) { m.From, m.To, m.ID = unit(31), client(3), 1<<20-1 }),
		of(func(m *api.Message) { m.From, m.To = client(0), unit(31) }),
		of(func(m *api.Message) { m.Cell = api.Cell{} }),
		of(func(m *api.Message) { m.Cell = api.Cell{Kind: api.Junk} }),
		write(""), write("\x00"), write("\x01"), write("\xff"), write("\x00\x00"), write("z", back(0, 5, none)),
		of(func(m *api.Message) { m.Backs = []api.Back{back(1, 0, none)} }),
		of(func(m *api.Message) { m.Backs = []api.Back{back(1, 900, 0)} }),
		of(func(m *api.Message) { m.Backs = []api.Back{back(1, none, none)} }),
		of(func(m *api.Message) { m.Backs = []api.Back{back(0, 5, 4), back(1, 5, 4)} }),
		of(func(m *api.Message) { m.Streams = []int{15} }),
		of(func(m *api.Message) { m.Streams = []int{0, 1} }),
		of(func(m *api.Message) { m.Promised.Client = 3 }),
		of(func(m *api.Message) { m.Promised.Round = 1 }),
		of(func(m *api.Message) { m.Ballot.Client = 1 }),
		of(func(m *api.Message) { m.Error = 255 }),
		of(func(m *api.Message) { m.Address = 255 }),
		of(func(m *api.Message) { m.Address = 256 }),
		of(func(m *api.Message) { m.Epoch = 1 }),
		of(func(m *api.Message) { m.ID = 2 }),
		of(func(m *api.Message) { m.ID = 10 }),
		of(func(m *api.Message) { m.To.Number = 1 }),
		of(func(m *api.Message) { m.From.Number = 1 }),
		of(func(m *api.Message) { m.Kind = api.Read }),
		of(func(m *api.Message) { m.Kind, m.Of = api.Reply, api.Write }),
		of(func(m *api.Message) { m.Kind, m.Of = api.Reply, api.Learn }),
	}
	for turn := range len(want) {
		s := soup.New()
		for i := range want {
			s.Put(want[(i*7+turn)%len(want)])
		}
		l := s.Kinds()
		if len(l) != len(want) {
			t.Fatalf("%d kinds of %d", len(l), len(want))
		}
		for i := range want {
			if tell(l[i]) != tell(want[i]) {
				t.Errorf("kind %d: %s, want %s", i, tell(l[i]), tell(want[i]))
			}
		}
		for i, x := range want {
			if m, _, e := s.Take(0); tell(m) != tell(x) || e != api.OK {
				t.Errorf("taken, %d: %s, %d, want %s", i, tell(m), e, tell(x))
			}
		}
	}
}

// message is any valid one, of few fields that differ.
func (s *stir) message() api.Message {
	m := read(uint64(s.below(3)))
	if s.below(3) == 0 {
		m.Kind, m.Of = api.Reply, api.Read
	}
	for stream := range s.below(5) {
		m.Streams = append(m.Streams, stream)
	}
	for stream := range s.below(4) {
		m.Backs = append(m.Backs, back(stream, uint64(s.below(2)), none))
	}
	if s.below(2) == 0 {
		m.Cell = api.Cell{Kind: api.Data, Data: make([]byte, s.below(9)), Backs: slices.Clone(m.Backs)}
	}
	if s.below(2) == 0 {
		m.Layout = given().Layout
		m.Layout.Segments = m.Layout.Segments[:1+s.below(2)]
	}
	return m
}

// P11.1: the kinds are in the order of their encodings. No encoding is a proper prefix of another one: its counts tell where it ends.
func TestOrderOfEncodings(t *testing.T) {
	s, all := stir(3), some()
	for range 600 {
		all = append(all, s.message())
	}
	for _, x := range all {
		for _, y := range all {
			a, _ := message.Encode(x)
			b, _ := message.Encode(y)
			if len(a) < len(b) && bytes.HasPrefix(b, a) {
				t.Fatalf("%x begins with %x", b, a)
			}
		}
	}
	for range 30 {
		x, m := soup.New(), &model{}
		for range 1 + s.below(400) {
			m.both(t, x, put(all[s.below(len(all))]))
		}
		m.holds(t, "any messages", x, nil)
		l := x.Kinds()
		for i := range l[1:] {
			a, _ := message.Encode(l[i])
			b, _ := message.Encode(l[i+1])
			if bytes.Compare(a, b) >= 0 {
				t.Fatalf("%x is ahead of %x", a, b)
			}
		}
	}
}
