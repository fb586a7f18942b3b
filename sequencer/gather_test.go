package sequencer_test

import (
	"slices"
	"testing"

	"rotulet/api"
	"rotulet/sequencer"
)

// data is a valid cell of streams.
func data(streams ...int) api.Cell {
	c := api.Cell{Kind: api.Data, Data: []byte("x")}
	for _, n := range streams {
		c.Backs = append(c.Backs, back(n, none, none))
	}
	return c
}

func junk() api.Cell { return api.Cell{Kind: api.Junk} }

func entry(a uint64, c api.Cell) sequencer.Entry { return sequencer.Entry{Address: a, Cell: c} }

// P15.1 (Q2): what Push makes of none, one and two addresses, and of any numbers.
func TestPush(t *testing.T) {
	for _, x := range []struct {
		l    [2]uint64
		a    uint64
		want [2]uint64
	}{
		{pair(none, none), 9, pair(9, none)}, {pair(4, none), 9, pair(9, 4)}, {pair(4, 3), 9, pair(9, 4)}, {pair(none, none), 0, pair(0, none)}, {pair(0, none), 1, pair(1, 0)},
		{pair(4, 3), 4, pair(4, 4)}, {pair(4, 3), 1, pair(1, 4)}, {pair(4, 3), none, pair(none, 4)}, {pair(0, 0), 0, pair(0, 0)}, {pair(none, 7), 3, pair(3, none)},
		{pair(most, most-1), most + 1, pair(most+1, most)}, {pair(1<<63, 5), 1<<64 - 2, pair(1<<64-2, 1<<63)},
	} {
		was := x.l
		if got := sequencer.Push(x.l, x.a); got != x.want || x.l != was {
			t.Errorf("Push(%d, %d): %d, want %d", was, x.a, got, x.want)
		}
	}
}

// P15.1 (Q2): any numbers that are pushed one behind the other.
func TestPushes(t *testing.T) {
	s := stir(151)
	l := pair(none, none)
	all := []uint64{none, none}
	for range 2000 {
		all = append(all, s.next())
		l = sequencer.Push(l, all[len(all)-1])
		if n := len(all); l != pair(all[n-1], all[n-2]) {
			t.Fatalf("%d, want %d", l, all[n-2:])
		}
	}
}

// P15.1 (Q2): what is gathered, worked out by hand.
func TestGatherByHand(t *testing.T) {
	odd := api.Cell{Kind: api.Junk, Backs: []api.Back{back(3, none, none)}}
	for what, x := range map[string]struct {
		l    []sequencer.Entry
		want []api.Back
	}{
		"nothing":               {nil, nil},
		"an empty list":         {[]sequencer.Entry{}, nil},
		"cells without streams": {[]sequencer.Entry{entry(4, data()), entry(5, junk()), entry(6, api.Cell{})}, nil},
		"one":                   {[]sequencer.Entry{entry(4, data(3))}, []api.Back{back(3, 4, none)}},
		"two":                   {[]sequencer.Entry{entry(4, data(3)), entry(9, data(3))}, []api.Back{back(3, 9, 4)}},
		"two the other way":     {[]sequencer.Entry{entry(9, data(3)), entry(4, data(3))}, []api.Back{back(3, 9, 4)}},
		"more than two":         {[]sequencer.Entry{entry(4, data(3)), entry(9, data(3)), entry(2, data(3)), entry(7, data(3))}, []api.Back{back(3, 9, 7)}},
		"streams in order":      {[]sequencer.Entry{entry(4, data(15)), entry(5, data(0, 7)), entry(6, data(7))}, []api.Back{back(0, 5, none), back(7, 6, 5), back(15, 4, none)}},
		"an address twice":      {[]sequencer.Entry{entry(4, data(3)), entry(4, data(3))}, []api.Back{back(3, 4, none)}},
		"an address thrice":     {[]sequencer.Entry{entry(4, data(3)), entry(2, data(3)), entry(4, data(3)), entry(4, data(3))}, []api.Back{back(3, 4, 2)}},
		"twice, and less":       {[]sequencer.Entry{entry(9, data(3)), entry(9, data(3)), entry(4, data(3)), entry(4, data(3))}, []api.Back{back(3, 9, 4)}},
		"two cells, one place":  {[]sequencer.Entry{entry(4, data(3)), entry(4, data(5)), entry(4, junk()), entry(4, data(3, 5))}, []api.Back{back(3, 4, none), back(5, 4, none)}},
		"the ends":              {[]sequencer.Entry{entry(0, data(3)), entry(most-1, data(3, 4))}, []api.Back{back(3, most-1, 0), back(4, most-1, none)}},
		"no addresses":          {[]sequencer.Entry{entry(most, data(3)), entry(none, data(3)), entry(most+1, data(3)), entry(1<<32, data(3)), entry(none-1, data(4))}, nil},
		"some no addresses":     {[]sequencer.Entry{entry(most, data(3)), entry(7, data(3)), entry(none, data(3)), entry(1<<32+9, data(3))}, []api.Back{back(3, 7, none)}},
		"junk amid":             {[]sequencer.Entry{entry(4, data(3)), entry(5, junk()), entry(6, odd), entry(7, api.Cell{Backs: odd.Backs}), entry(8, api.Cell{Kind: 3, Backs: odd.Backs}), entry(2, data(3))}, []api.Back{back(3, 4, 2)}},
		"Lasts do not matter":   {[]sequencer.Entry{entry(4, api.Cell{Kind: api.Data, Backs: []api.Back{back(3, 900, 800)}})}, []api.Back{back(3, 4, none)}},
		"no streams":            {[]sequencer.Entry{entry(4, data(-1)), entry(5, data(16)), entry(6, data(-16, 99, 1<<32, -1<<63)), entry(7, data(1<<63-1))}, nil},
		"a stream twice":        {[]sequencer.Entry{entry(4, data(3, 3)), entry(5, data(7, 3, 7, 20))}, []api.Back{back(3, 5, 4), back(7, 5, none)}},
	} {
		if got := sequencer.Gather(x.l); !slices.Equal(got, x.want) {
			t.Errorf("%s: %v, want %v", what, got, x.want)
		}
	}
}

// entries are a few of addresses and cells, some of which are no addresses, and some not valid.
func (s *stir) entries(n int) []sequencer.Entry {
	var l []sequencer.Entry
	for range s.below(n + 1) {
		c := data(s.streams(4)...)
		switch s.below(8) {
		case 0:
			c.Kind = api.CellKind(s.below(4))
		case 1:
			c = junk()
		case 2:
			c.Backs = append(c.Backs, back(s.below(20)-2, 1, 2))
		}
		a := s.address()
		if s.below(10) == 0 {
			a = s.next()
		}
		l = append(l, entry(a, c))
	}
	return l
}

// P15.1 (Q2): any entries, in any order: what is gathered hangs on what they are alone.
func TestGather(t *testing.T) {
	s := stir(152)
	for range 4000 {
		l := s.entries(30)
		want := gathered(l)
		for range 3 {
			if got := sequencer.Gather(l); !slices.Equal(got, want) {
				t.Fatalf("%+v: %v, want %v", l, got, want)
			}
			for i := range l {
				k := s.below(i + 1)
				l[i], l[k] = l[k], l[i]
			}
		}
	}
}

// P15.1 (Q2): entries with less and less addresses, in each order of six.
func TestGatherOrders(t *testing.T) {
	l := []sequencer.Entry{entry(2, data(3)), entry(4, data(3, 5)), entry(4, data(3)), entry(7, data(3)), entry(8, data(5)), entry(9, junk())}
	var orders func(rest, row []sequencer.Entry)
	orders = func(rest, row []sequencer.Entry) {
		if len(rest) == 0 {
			if got := sequencer.Gather(row); !slices.Equal(got, []api.Back{back(3, 7, 4), back(5, 8, 4)}) {
				t.Errorf("%v: %v", row, got)
			}
		}
		for i, x := range rest {
			orders(slices.Concat(rest[:i], rest[i+1:]), append(slices.Clone(row), x))
		}
	}
	orders(l, nil)
}

// P15.1 (Q2): many more addresses of a stream than a Back holds, up to the last one.
func TestGatherMany(t *testing.T) {
	var l []sequencer.Entry
	for a := range uint64(3000) {
		l = append(l, entry((a*1237)%3000+most-3000, data(int(a*1237%3000%4))))
	}
	want := []api.Back{back(0, most-4, most-8), back(1, most-3, most-7), back(2, most-2, most-6), back(3, most-1, most-5)}
	if got := sequencer.Gather(l); !slices.Equal(got, want) {
		t.Errorf("%v, want %v", got, want)
	}
}

// P15.1 (Q2): what is gathered from all cells that a sequencer gave addresses to are its last addresses, with which another one can go on.
func TestGatherAllThatWasGiven(t *testing.T) {
	s := stir(153)
	for range 60 {
		x := fresh(t)
		start := uint64(s.below(50))
		serve(t, x, begin(1, start))
		var l []sequencer.Entry
		for n := range 60 {
			a, _ := serve(t, x, token(1, s.streams(4)...))
			l = append(l, entry(a.Address, api.Cell{Kind: api.Data, Backs: a.Backs}))
			if s.below(4) == 0 {
				l = append(l, l[s.below(len(l))], entry(uint64(s.below(int(start)+n+1)), junk()))
			}
			y := fresh(t)
			serve(t, y, begin(1, x.Tail(), sequencer.Gather(l)...))
			if shot(x) != shot(y) {
				t.Fatalf("%s, want %s", shot(y), shot(x))
			}
		}
	}
}
