package sequencer_test

import (
	"fmt"
	"slices"
	"testing"

	"rotulet/api"
	"rotulet/message"
	"rotulet/sequencer"
)

const (
	none = uint64(api.None)
	most = uint64(1048576) // MaxAddress, and MaxEpoch
)

func place(r api.Role, n int) api.Place { return api.Place{Role: r, Number: n} }

func client(n int) api.Place { return place(api.Client, n) }

func pair(a, b uint64) [2]uint64 { return [2]uint64{a, b} }

func back(stream int, a, b uint64) api.Back {
	return api.Back{Stream: stream, Last: pair(a, b)}
}

// ask is a message from client 2 to sequencer 5.
func ask(kind api.MessageKind, epoch uint64) api.Message {
	return api.Message{Kind: kind, From: client(2), To: place(api.Sequencer, 5), ID: 70000, Epoch: epoch}
}

func begin(epoch, a uint64, backs ...api.Back) api.Message {
	m := ask(api.Begin, epoch)
	m.Address, m.Backs = a, backs
	return m
}

func token(epoch uint64, streams ...int) api.Message {
	m := ask(api.Token, epoch)
	m.Streams = streams
	return m
}

func tail(epoch uint64) api.Message { return ask(api.Tail, epoch) }

// reply is an answer to such a message, written out.
func reply(of api.MessageKind, epoch, a uint64, e api.Errno) api.Message {
	return api.Message{Kind: api.Reply, Of: of, From: place(api.Sequencer, 5), To: client(2), ID: 70000, Epoch: epoch, Address: a, Error: e}
}

// given is the answer to a Token for which an address was given out.
func given(epoch, a uint64, backs ...api.Back) api.Message {
	m := reply(api.Token, epoch, a, api.OK)
	for _, b := range backs {
		m.Streams = append(m.Streams, b.Stream)
	}
	m.Backs = backs
	return m
}

// tell writes a message as a text that is the same for nil and empty slices, and for nothing else.
func tell(m api.Message) string { return fmt.Sprintf("%+v", m) }

// lent is a copy of a message, with memory behind the end of its lists.
func lent(m api.Message) api.Message {
	m.Streams = append(slices.Clone(m.Streams), 77)[:len(m.Streams)]
	m.Backs = append(slices.Clone(m.Backs), back(7, 7, 7))[:len(m.Backs)]
	return m
}

// untouched tells whether a lent message is still like the message, and so is what lies behind the end of its lists.
func untouched(lent, was api.Message) bool {
	n, k := len(lent.Streams), len(lent.Backs)
	return message.Same(lent, was) && lent.Streams[:n+1][n] == 77 && lent.Backs[:k+1][k] == back(7, 7, 7)
}

// spoil changes whatever a message has in its Streams and Backs, and behind their ends.
func spoil(m api.Message) {
	for i := range m.Streams {
		m.Streams[i] = 99
	}
	spoilBacks(m.Backs)
	_ = append(m.Streams, 98)
}

func spoilBacks(l []api.Back) {
	for i := range l {
		l[i] = back(97, 96, 95)
	}
	_ = append(l, back(94, 93, 92))
}

// fresh is a new sequencer 5.
func fresh(t *testing.T) *sequencer.Sequencer {
	t.Helper()
	s, e := sequencer.New(5)
	if s == nil || e != api.OK {
		t.Fatalf("New: %p, %d", s, e)
	}
	return s
}

// shot writes all that a sequencer tells as a text, of streams that there are and of some others.
func shot(s *sequencer.Sequencer) string {
	text := fmt.Sprint(s.Epoch(), s.Tail())
	for n := -2; n < 19; n++ {
		text += fmt.Sprint(" ", s.Last(n))
	}
	return text
}

// serve asks a sequencer, with lists that are spoilt as soon as the call is over.
func serve(t *testing.T, s *sequencer.Sequencer, m api.Message) (api.Message, bool) {
	t.Helper()
	x := lent(m)
	a, ok := s.Serve(x)
	if !untouched(x, m) {
		t.Fatalf("Serve %+v: the message was changed", m)
	}
	spoil(x)
	return a, ok
}

// rig is sequencer 5 and the reference, both of which are asked everything.
type rig struct {
	t *testing.T
	s *sequencer.Sequencer
	m *model
}

func newRig(t *testing.T) *rig {
	t.Helper()
	r := &rig{t: t, s: fresh(t), m: &model{}}
	r.same("new")
	return r
}

// serve asks both, spoils what the answer has, and looks at the sequencer.
func (r *rig) serve(m api.Message) api.Message {
	r.t.Helper()
	a, ok := serve(r.t, r.s, m)
	want, answered := r.m.tell(m)
	if ok != answered || !message.Same(a, want) || ok != message.Right(a) {
		r.t.Fatalf("%+v: %+v, %v, want %+v, %v", m, a, ok, want, answered)
	}
	spoil(a)
	r.same(tell(m))
	return want
}

// all asks one thing after the other.
func (r *rig) all(l ...api.Message) {
	r.t.Helper()
	for _, m := range l {
		r.serve(m)
	}
}

// same holds what the sequencer tells against the reference.
func (r *rig) same(what string) {
	r.t.Helper()
	if got, want := r.s.Epoch(), r.m.epoch(); got != want {
		r.t.Fatalf("%s: Epoch: %d, want %d", what, got, want)
	}
	if got, want := r.s.Tail(), r.m.tail(); got != want {
		r.t.Fatalf("%s: Tail: %d, want %d", what, got, want)
	}
	for n := -2; n < 19; n++ {
		if got, want := r.s.Last(n), r.m.last(n); got != want {
			r.t.Fatalf("%s: Last(%d): %d, want %d", what, n, got, want)
		}
	}
}

// stir is a row of numbers without a plain pattern, the same in each run.
type stir uint64

func (s *stir) next() uint64 {
	*s = *s*6364136223846793005 + 1442695040888963407
	x := uint64(*s)
	return x ^ x>>29 ^ x<<17
}

func (s *stir) below(n int) int { return int(s.next() >> 8 % uint64(n)) }

// streams are up to n of all streams, in order.
func (s *stir) streams(n int) []int {
	var l []int
	for range s.below(n + 1) {
		l = append(l, s.below(16))
	}
	slices.Sort(l)
	return slices.Compact(l)
}

// backs are valid Backs of up to n streams, with addresses that are less than a, most of them near to it.
func (s *stir) backs(n int, a uint64) []api.Back {
	var l []api.Back
	for _, stream := range s.streams(n) {
		first := none
		if a > 0 && s.below(5) > 0 {
			first = a - 1 - min(a-1, uint64(s.below(4)))
		}
		second := none
		if first != none && first > 0 && s.below(4) > 0 {
			second = first - 1 - min(first-1, uint64(s.below(4)))
		}
		l = append(l, back(stream, first, second))
	}
	return l
}

// address is one of a few low and high ones, or MaxAddress.
func (s *stir) address() uint64 {
	if s.below(4) == 0 {
		return most - uint64(s.below(4))
	}
	return uint64(s.below(12))
}

// message is any message that a sequencer answers, most often one that asks for an address, with an epoch near to one.
func (s *stir) message(epoch uint64) api.Message {
	m := token(epoch, s.streams(4)...)
	switch s.below(8) {
	case 0:
		m = tail(epoch)
	case 1:
		a := s.address()
		// Some Lasts are not less than the address.
		m = begin(epoch+1, a, s.backs(16, min(most, a+uint64(s.below(2))))...)
	}
	m.ID, m.From = s.below(1<<20), place(api.Role(1+s.below(4)), s.below(3))
	if s.below(6) == 0 {
		m.Epoch += uint64(s.below(3))
	}
	if s.below(6) == 0 {
		m.Epoch -= min(m.Epoch, uint64(s.below(3)))
	}
	m.Epoch = min(m.Epoch, most)
	return m
}
