package sequencer_test

import (
	"testing"

	"rotulet/api"
	"rotulet/sequencer"
)

// record is what was given out in each epoch, in order.
type record map[uint64][]uint64

// note takes an answer in, and tells what is wrong with the address that it gives out.
func (r record) note(a api.Message) string {
	if a.Of != api.Token || a.Error != api.OK {
		return ""
	}
	l := r[a.Epoch]
	for _, x := range l {
		if x == a.Address {
			return "given out twice"
		}
	}
	if n := len(l); n > 0 && a.Address != l[n-1]+1 {
		return "not one more than the last one"
	}
	if a.Address >= most {
		return "no address"
	}
	r[a.Epoch] = append(l, a.Address)
	return ""
}

// P15.2: in any scripts, with each message now and then once more, no address is given out twice in an epoch, and each is one more than the last one.
func TestUnique(t *testing.T) {
	stirred := stir(159)
	given := 0
	for range 300 {
		s, r := fresh(t), record{}
		var had []api.Message
		for range 120 {
			m := stirred.message(s.Epoch())
			if len(had) > 0 && stirred.below(3) == 0 {
				m = had[stirred.below(len(had))]
			}
			had = append(had, m)
			a, ok := serve(t, s, m)
			if wrong := r.note(a); !ok || wrong != "" {
				t.Fatalf("%+v: %+v: %s; %v", m, a, wrong, r)
			}
		}
		for _, l := range r {
			given += len(l)
		}
	}
	if given < 3000 {
		t.Errorf("just %d addresses", given)
	}
}

// P15.2: a Begin that comes once more, or of the same epoch with another address, takes the tail back in no way.
func TestUniqueBehindBegins(t *testing.T) {
	for _, again := range []api.Message{begin(4, 9), begin(4, 0), begin(4, 11), begin(4, most), begin(3, 9), begin(0, 9), begin(5, 9, back(3, 9, none)), begin(5, 0, back(3, 0, none))} {
		s, r := fresh(t), record{}
		serve(t, s, begin(4, 9))
		for n := range uint64(30) {
			before := s.Tail()
			serve(t, s, again)
			a, ok := serve(t, s, token(4, 3))
			if wrong := r.note(a); !ok || a.Error != api.OK || a.Address != 9+n || before != 9+n || wrong != "" {
				t.Fatalf("%+v: %+v: %s", again, a, wrong)
			}
		}
	}
}

// P15.2: a Token that comes twice is given two addresses.
func TestTokenTwice(t *testing.T) {
	s := fresh(t)
	exchanges(t, s, []exchange{
		{begin(1, 7), reply(api.Begin, 1, 7, api.OK)},
		{token(1, 3), given(1, 7, back(3, none, none))},
		{token(1, 3), given(1, 8, back(3, 7, none))},
		{token(1, 3), given(1, 9, back(3, 8, 7))},
	})
}

// P15.2: all addresses from one on, one by one, up to the last one; behind it none is given out, however often one is asked for.
func TestAllAddresses(t *testing.T) {
	for _, first := range []uint64{0, 1, most - 70000} {
		s := fresh(t)
		serve(t, s, begin(1, first, back(0, first-1, none))) // for 0, this is None
		for a := first; a < most; a++ {
			m, ok := s.Serve(token(1, int(a%16)))
			if !ok || m.Error != api.OK || m.Address != a || s.Tail() != a+1 {
				t.Fatalf("%d: %+v, %v", a, m, ok)
			}
		}
		was := shot(s)
		for range 20 {
			if m, ok := s.Serve(token(1, 3)); !ok || m.Error != api.ErrSpace || m.Address != 0 || shot(s) != was {
				t.Fatalf("behind the last one: %+v, %v", m, ok)
			}
		}
	}
}

// P15.2: two sequencers know nothing of each other.
func TestTwoSequencers(t *testing.T) {
	x, _ := sequencer.New(5)
	y, _ := sequencer.New(5)
	exchanges(t, x, []exchange{{begin(1, 7), reply(api.Begin, 1, 7, api.OK)}, {token(1, 3), given(1, 7, back(3, none, none))}})
	exchanges(t, y, []exchange{{token(1, 3), reply(api.Token, 0, 0, api.ErrSealed)}, {begin(1, 4), reply(api.Begin, 1, 4, api.OK)}, {token(1, 3), given(1, 4, back(3, none, none))}})
	exchanges(t, x, []exchange{{token(1, 3), given(1, 8, back(3, 7, none))}})
}
