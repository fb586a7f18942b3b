package soup_test

import (
	"math"
	"slices"
	"testing"

	"rotulet/api"
	"rotulet/soup"
)

// wrong are messages that are not valid, in each of the ways that chapter 10 names.
func wrong() map[string]api.Message {
	l := map[string]api.Message{"nothing": {}}
	for what, f := range map[string]func(*api.Message){
		"kind 0":                  func(m *api.Message) { m.Kind = 0 },
		"kind 15":                 func(m *api.Message) { m.Kind = 15 },
		"kind -1":                 func(m *api.Message) { m.Kind = -1 },
		"a reply of 0":            func(m *api.Message) { m.Of = 0 },
		"a reply of 14":           func(m *api.Message) { m.Of = 14 },
		"a reply of -1":           func(m *api.Message) { m.Of = -1 },
		"a read of 1":             func(m *api.Message) { m.Kind, m.Of = api.Read, 1 },
		"from nowhere":            func(m *api.Message) { m.From = api.Place{} },
		"to nowhere":              func(m *api.Message) { m.To = api.Place{} },
		"from role 5":             func(m *api.Message) { m.From.Role = 5 },
		"to role 5":               func(m *api.Message) { m.To.Role = 5 },
		"from unit 32":            func(m *api.Message) { m.From = unit(32) },
		"to unit -1":              func(m *api.Message) { m.To = unit(-1) },
		"from sequencer 32":       func(m *api.Message) { m.From = place(api.Sequencer, 32) },
		"to server 3":             func(m *api.Message) { m.To = place(api.Server, 3) },
		"to client 4":             func(m *api.Message) { m.To = client(4) },
		"ID -1":                   func(m *api.Message) { m.ID = -1 },
		"ID 2^20":                 func(m *api.Message) { m.ID = 1 << 20 },
		"epoch above":             func(m *api.Message) { m.Epoch = api.MaxEpoch + 1 },
		"address above":           func(m *api.Message) { m.Address = api.MaxAddress + 1 },
		"address None":            func(m *api.Message) { m.Address = none },
		"error -1":                func(m *api.Message) { m.Error = -1 },
		"error 256":               func(m *api.Message) { m.Error = 256 },
		"cell 3":                  func(m *api.Message) { m.Cell.Kind = 3 },
		"no kind, but data":       func(m *api.Message) { m.Cell.Kind = 0 },
		"junk with data":          func(m *api.Message) { m.Cell.Kind = api.Junk },
		"a cell of 101 bytes":     func(m *api.Message) { m.Cell.Data = make([]byte, 101) },
		"a cell's Backs turned":   func(m *api.Message) { slices.Reverse(m.Cell.Backs) },
		"a cell's five Backs":     func(m *api.Message) { m.Cell.Backs = manyBacks(5) },
		"five streams":            func(m *api.Message) { m.Streams = []int{0, 1, 2, 3, 4} },
		"stream 16":               func(m *api.Message) { m.Streams = []int{16} },
		"stream -1":               func(m *api.Message) { m.Streams = []int{-1, 2} },
		"streams alike":           func(m *api.Message) { m.Streams = []int{4, 4} },
		"streams that decrease":   func(m *api.Message) { m.Streams = []int{4, 1} },
		"17 Backs":                func(m *api.Message) { m.Backs = manyBacks(17) },
		"a Back of 16":            func(m *api.Message) { m.Backs = []api.Back{back(16, 5, 4)} },
		"Backs turned":            func(m *api.Message) { slices.Reverse(m.Backs) },
		"Lasts that increase":     func(m *api.Message) { m.Backs[1].Last = [2]uint64{5, 600} },
		"a Last behind None":      func(m *api.Message) { m.Backs[1].Last = [2]uint64{none, 5} },
		"a Last above":            func(m *api.Message) { m.Backs[1].Last[0] = api.MaxAddress },
		"round -1":                func(m *api.Message) { m.Ballot.Round = -1 },
		"round 65536":             func(m *api.Message) { m.Ballot.Round = 65536 },
		"a ballot's client 4":     func(m *api.Message) { m.Ballot.Client = 4 },
		"promised -1":             func(m *api.Message) { m.Promised.Round = -1 },
		"promised, client -1":     func(m *api.Message) { m.Promised.Client = -1 },
		"a layout of epoch 0":     func(m *api.Message) { m.Layout.Epoch = 0 },
		"a layout, no segments":   func(m *api.Message) { m.Layout.Segments = nil },
		"a layout from 1":         func(m *api.Message) { m.Layout.Segments[0].From = 1 },
		"a layout with unit 32":   func(m *api.Message) { m.Layout.Segments[0].Chains[0][0] = 32 },
		"a layout, unit twice":    func(m *api.Message) { m.Layout.Segments[0].Chains[0][0] = 2 },
		"empty, but a sequencer":  func(m *api.Message) { m.Layout = api.Layout{Sequencer: 1} },
		"all numbers are extreme": func(m *api.Message) { m.ID, m.Error, m.Epoch = math.MinInt, math.MaxInt, math.MaxUint64 },
	} {
		m := given()
		f(&m)
		l[what] = m
	}
	return l
}

// manyBacks are so many, of the streams from 0 on.
func manyBacks(n int) []api.Back {
	var l []api.Back
	for stream := range n {
		l = append(l, back(stream, 5, 4))
	}
	return l
}

// P11.1, wrong inputs: a message that is not valid isn't put in, is there no times, and isn't lost.
func TestWrongMessages(t *testing.T) {
	s, m := filled(t, 30, some()...)
	for what, x := range wrong() {
		if e := s.Put(x); e != api.ErrMessage {
			t.Errorf("%s: Put: %d", what, e)
		}
		if n := s.Times(x); n != 0 {
			t.Errorf("%s: Times: %d", what, n)
		}
		m.holds(t, what, s, some())
	}
}

// P11.1, rule 1: of two errors the first one counts: a message that is not valid isn't lost in a full soup, nor is anything where there is no i-th kind.
func TestFirstError(t *testing.T) {
	s, m := filled(t, api.MaxSoup, some()...)
	for what, x := range wrong() {
		if e := s.Put(x); e != api.ErrMessage || s.Lost() != 0 {
			t.Errorf("%s: Put into a full soup: %d, Lost %d", what, e, s.Lost())
		}
	}
	kinds := len(some())
	for _, i := range []int{-1, kinds, kinds + 1, 399, 400, math.MinInt, math.MaxInt} {
		for _, a := range []act{twice(i), take(i), lose(i)} {
			if got := a.do(s); tell(got) != tell(result{err: api.ErrArg}) || s.Lost() != 0 {
				t.Errorf("%s %d of a full soup: %s, Lost %d", a.what, i, tell(got), s.Lost())
			}
		}
	}
	m.holds(t, "full", s, some())
	if e := s.Put(given()); e != api.ErrSoup || s.Lost() != 1 {
		t.Errorf("Put into a full soup: %d, Lost %d", e, s.Lost())
	}
}

// P1, P11.1: no soup at all: ErrArg ahead of all other errors, and zero values.
func TestNil(t *testing.T) {
	var s *soup.Soup
	for range 2 {
		for _, x := range append(some(), api.Message{}) {
			if e := s.Put(x); e != api.ErrArg {
				t.Errorf("Put: %d", e)
			}
			if n := s.Times(x); n != 0 {
				t.Errorf("Times: %d", n)
			}
		}
		for _, p := range append(places(), api.Place{}, unit(-1)) {
			if on, off := s.Down(p, true), s.Down(p, false); on != api.ErrArg || off != api.ErrArg || s.IsDown(p) {
				t.Errorf("Down: %d, %d, IsDown %v", on, off, s.IsDown(p))
			}
		}
		for _, i := range []int{0, 1, -1, 400, math.MinInt, math.MaxInt} {
			for _, a := range []act{take(i), twice(i), lose(i)} {
				if got := a.do(s); tell(got) != tell(result{err: api.ErrArg}) {
					t.Errorf("%s: %s", a.what, tell(got))
				}
			}
		}
		if l := s.Kinds(); len(l) != 0 || s.Len() != 0 || s.Lost() != 0 {
			t.Errorf("Kinds %s, Len %d, Lost %d", tell(l), s.Len(), s.Lost())
		}
	}
}
