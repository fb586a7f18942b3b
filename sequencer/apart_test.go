package sequencer_test

import (
	"slices"
	"testing"

	"rotulet/api"
	"rotulet/message"
	"rotulet/sequencer"
)

// hands asks a sequencer without spoiling anything.
func hands(t *testing.T, s *sequencer.Sequencer, m api.Message) api.Message {
	t.Helper()
	a, ok := s.Serve(m)
	if !ok || a.Error != api.OK {
		t.Fatalf("%+v: %+v, %v", m, a, ok)
	}
	return a
}

// Rule 4: messages that are handed in are neither changed nor kept: when they are changed, the sequencer and its answers do not change.
func TestHandedIn(t *testing.T) {
	s := fresh(t)
	b := lent(begin(1, 9, back(3, 8, 7), back(5, 4, none)))
	hands(t, s, b)
	tk := lent(token(1, 3, 5))
	a := hands(t, s, tk)
	was := shot(s)
	if !untouched(b, begin(1, 9, back(3, 8, 7), back(5, 4, none))) || !untouched(tk, token(1, 3, 5)) {
		t.Errorf("changed: %+v, %+v", b, tk)
	}
	spoil(b)
	spoil(tk)
	if shot(s) != was || !message.Same(a, given(1, 9, back(3, 8, 7), back(5, 4, none))) {
		t.Errorf("%s, and it was %s; %+v", shot(s), was, a)
	}
	exchanges(t, s, []exchange{{token(1, 3, 5), given(1, 10, back(3, 9, 8), back(5, 9, 4))}})
}

// Rule 4: answers share nothing with each other, with the messages that they answer, or with the sequencer.
func TestHandedOut(t *testing.T) {
	s := fresh(t)
	b, tk := begin(1, 9, back(3, 8, 7)), token(1, 3, 5)
	hands(t, s, b)
	one, two := hands(t, s, tk), hands(t, s, tk)
	was := shot(s)
	spoil(one)
	if !message.Same(two, given(1, 10, back(3, 9, 8), back(5, 9, none))) || !message.Same(tk, token(1, 3, 5)) || !message.Same(b, begin(1, 9, back(3, 8, 7))) || shot(s) != was {
		t.Errorf("%+v, %+v, %+v, %s", two, tk, b, shot(s))
	}
	exchanges(t, s, []exchange{{token(1, 3, 5), given(1, 11, back(3, 10, 9), back(5, 10, 9))}})
}

// Rule 4: what was handed in and out stays as it is when the sequencer goes on, or another one with the same messages.
func TestSequencerGoesOn(t *testing.T) {
	x, y := fresh(t), fresh(t)
	b, tk := begin(1, 9, back(3, 8, 7)), token(1, 3, 5)
	hands(t, x, b)
	hands(t, y, b)
	a := hands(t, x, tk)
	was := tell(b) + tell(tk) + tell(a)
	other := shot(y)
	for _, m := range []api.Message{token(1, 3), token(1, 5), token(1, 3, 5), begin(2, 40, back(3, 39, 1)), token(2, 3, 5), begin(3, 0), token(3, 3)} {
		hands(t, x, m)
		if tell(b)+tell(tk)+tell(a) != was || shot(y) != other {
			t.Errorf("%+v: %+v, %+v, %+v, %s", m, b, tk, a, shot(y))
		}
	}
	exchanges(t, y, []exchange{{tk, given(1, 9, back(3, 8, 7), back(5, none, none))}})
}

// Rule 4: a Last that was handed out is the caller's own.
func TestLastIsACopy(t *testing.T) {
	s := fresh(t)
	hands(t, s, begin(1, 9, back(3, 8, 7)))
	l := s.Last(3)
	l[0], l[1] = 1, 0
	if got := s.Last(3); got != pair(8, 7) {
		t.Errorf("%d", got)
	}
	had := s.Last(3)
	hands(t, s, token(1, 3))
	if had != pair(8, 7) {
		t.Errorf("%d", had)
	}
}

// Rule 4: Gather changes no entry, and nothing behind their end; what it hands out is new.
func TestGatherApart(t *testing.T) {
	make3 := func() []sequencer.Entry {
		return append([]sequencer.Entry{entry(9, data(3, 5)), entry(4, data(3)), entry(7, data(5, 6))}, entry(1, data(1)))[:3]
	}
	l := make3()
	for i := range l {
		l[i].Cell.Backs = append(l[i].Cell.Backs, back(8, 7, 6))[:len(l[i].Cell.Backs)]
	}
	want := []api.Back{back(3, 9, 4), back(5, 9, 7), back(6, 7, none)}
	one, two := sequencer.Gather(l), sequencer.Gather(l)
	spoilBacks(one)
	if !slices.Equal(two, want) {
		t.Errorf("%v, want %v", two, want)
	}
	for i, x := range make3()[:4] {
		got := l[:4][i]
		if got.Address != x.Address || !slices.Equal(got.Cell.Backs, x.Cell.Backs) || string(got.Cell.Data) != "x" {
			t.Errorf("%d: %+v, and it was %+v", i, got, x)
		}
		if n := len(x.Cell.Backs); i < 3 && got.Cell.Backs[:n+1][n] != back(8, 7, 6) {
			t.Errorf("%d: changed behind the end", i)
		}
	}
	for i := range l {
		l[i].Address = 77
		spoilBacks(l[i].Cell.Backs)
	}
	if !slices.Equal(two, want) {
		t.Errorf("%v, want %v", two, want)
	}
}
