package message_test

import (
	"math"
	"testing"

	"rotulet/api"
	"rotulet/message"
)

// P10.1: answers worked out by hand.
func TestAnswerByHand(t *testing.T) {
	m := api.Message{
		Kind: api.Prepare, From: client(2), To: place(api.Server, 1), ID: 9, Epoch: 3, Address: 77, Error: 5, Cell: data("hey", back(1, 2, none)),
		Streams: []int{1, 4}, Backs: backs(2, 5), Ballot: ballot(6, 2), Promised: ballot(5, 1), Layout: someLayout(),
	}
	for e, want := range map[api.Errno]api.Message{
		api.OK:        {Kind: api.Reply, Of: api.Prepare, From: place(api.Server, 1), To: client(2), ID: 9, Epoch: 3, Address: 77},
		api.ErrBallot: {Kind: api.Reply, Of: api.Prepare, From: place(api.Server, 1), To: client(2), ID: 9, Epoch: 3, Address: 77, Error: 121},
		255:           {Kind: api.Reply, Of: api.Prepare, From: place(api.Server, 1), To: client(2), ID: 9, Epoch: 3, Address: 77, Error: 255},
	} {
		if a := message.Answer(m, e); !alike(a, want) || !message.Right(a) {
			t.Errorf("Answer(%s, %d): %s, want %s", tell(m), e, tell(a), tell(want))
		}
	}
	if a := message.Answer(least(), api.OK); !alike(a, api.Message{Kind: api.Reply, Of: api.Write, From: unit(0), To: unit(0)}) {
		t.Errorf("Answer of the least: %s", tell(a))
	}
}

// replies holds an answer against the chapter's words, field by field.
func replies(t *testing.T, m api.Message, e api.Errno) {
	t.Helper()
	a := message.Answer(m, e)
	if a.Kind != 14 || a.Of != m.Kind || a.From != m.To || a.To != m.From || a.ID != m.ID || a.Epoch != m.Epoch || a.Address != m.Address || a.Error != e {
		t.Errorf("Answer(%s, %d): %s", tell(m), e, tell(a))
	}
	var rest api.Message
	rest.Kind, rest.Of, rest.From, rest.To, rest.ID, rest.Epoch, rest.Address, rest.Error = a.Kind, a.Of, a.From, a.To, a.ID, a.Epoch, a.Address, a.Error
	if !alike(a, rest) {
		t.Errorf("Answer(%s, %d): %s: something isn't zero", tell(m), e, tell(a))
	}
}

// P10.1: answers to messages of each Kind, with any error: to valid requests and valid errors they are valid.
func TestAnswerToEachKind(t *testing.T) {
	s := stir(105)
	for kind := api.Write; kind <= api.Learn; kind++ {
		for range 50 {
			m := s.message()
			m.Kind, m.Of = kind, 0
			e := api.Errno(s.below(256))
			replies(t, m, e)
			holds(t, "an answer", message.Answer(m, e))
			if !message.Right(message.Answer(m, e)) {
				t.Errorf("Answer(%s, %d) is not valid", tell(m), e)
			}
			for _, e := range []api.Errno{-1, 256, math.MinInt, math.MaxInt} {
				replies(t, m, e)
				if message.Right(message.Answer(m, e)) {
					t.Errorf("Answer(%s, %d) is valid", tell(m), e)
				}
			}
		}
	}
}

// P10.1, P1: answers to what is not valid, and to a Reply, say the same fields; they are not valid.
func TestAnswerToWhatIsWrong(t *testing.T) {
	for _, m := range []api.Message{
		{}, given(), {Kind: 15, From: unit(99), To: place(77, -5), ID: -1, Epoch: none, Address: none},
		{Kind: math.MinInt, From: unit(math.MaxInt), To: unit(math.MinInt), ID: math.MaxInt}, message.Answer(least(), api.OK), message.Answer(api.Message{}, -1),
	} {
		replies(t, m, api.ErrArg)
		if a := message.Answer(m, api.ErrArg); message.Right(a) {
			t.Errorf("Answer(%s) is valid: %s", tell(m), tell(a))
		}
	}
}

// P2, rule 4: an answer changes no message, nor what is behind the ends of its lists, and doesn't change with it.
func TestAnswerIsApart(t *testing.T) {
	for _, m := range some() {
		x := lent(m)
		a := message.Answer(x, api.ErrSealed)
		was := tell(a)
		kept(t, "Answer", x, m)
		spoil(a)
		kept(t, "Answer, changed", x, m)
		spoil(x)
		x.ID++
		if tell(a) != was {
			t.Errorf("the answer changed: %s, was %s", tell(a), was)
		}
	}
}
