package layout_test

import (
	"slices"
	"testing"

	"rotulet/api"
	"rotulet/layout"
)

// place is where an address lies, as it was worked out by hand.
type place struct {
	a       uint64
	segment int
	chain   []int
}

// P9.1: where addresses lie, worked out by hand: in each segment, of each remainder, one below a From, at it and behind it, and at both ends of all addresses.
func TestChainByHand(t *testing.T) {
	three := lay(1, 0, seg(0, on(1), on(2), on(3)))
	many := lay(8, 5, seg(0, on(1, 2), on(3)), seg(5, on(4), on(5), on(6, 7)), seg(11, on(9)), seg(api.MaxAddress-2, on(10), on(11), on(12), on(13)))
	one := lay(1, 0, seg(0, on(7, 3, 5)))
	last := lay(1, 0, seg(0, on(1)), seg(api.MaxAddress-1, on(2)))
	for _, x := range []struct {
		l     api.Layout
		where []place
	}{
		{given(), []place{{0, 0, on(1, 2)}, {1, 0, on(3)}, {2, 0, on(1, 2)}, {8, 0, on(1, 2)}, {9, 0, on(3)}, {10, 1, on(5, 1)}, {11, 1, on(5, 1)}, {999, 1, on(5, 1)}, {api.MaxAddress - 1, 1, on(5, 1)}, {api.MaxAddress, -1, nil}}},
		// 2^20 - 1 is a multiple of 3.
		{three, []place{{0, 0, on(1)}, {1, 0, on(2)}, {2, 0, on(3)}, {3, 0, on(1)}, {8, 0, on(3)}, {api.MaxAddress - 2, 0, on(3)}, {api.MaxAddress - 1, 0, on(1)}, {api.MaxAddress, -1, nil}}},
		// The remainder is that of the distance from the From, not of the address.
		{many, []place{
			{0, 0, on(1, 2)}, {1, 0, on(3)}, {2, 0, on(1, 2)}, {3, 0, on(3)}, {4, 0, on(1, 2)},
			{5, 1, on(4)}, {6, 1, on(5)}, {7, 1, on(6, 7)}, {8, 1, on(4)}, {9, 1, on(5)}, {10, 1, on(6, 7)},
			{11, 2, on(9)}, {12, 2, on(9)}, {api.MaxAddress - 3, 2, on(9)},
			{api.MaxAddress - 2, 3, on(10)}, {api.MaxAddress - 1, 3, on(11)}, {api.MaxAddress, -1, nil},
		}},
		{one, []place{{0, 0, on(7, 3, 5)}, {1, 0, on(7, 3, 5)}, {api.MaxAddress - 1, 0, on(7, 3, 5)}, {api.MaxAddress, -1, nil}, {api.MaxAddress + 1, -1, nil}, {1 << 32, -1, nil}, {api.None - 1, -1, nil}, {api.None, -1, nil}}},
		{last, []place{{0, 0, on(1)}, {api.MaxAddress - 2, 0, on(1)}, {api.MaxAddress - 1, 1, on(2)}, {api.MaxAddress, -1, nil}}},
	} {
		for _, w := range x.where {
			if c := layout.Chain(x.l, w.a); !slices.Equal(c, w.chain) || (c == nil) != (w.chain == nil) {
				t.Errorf("%s: Chain(%d): %v, want %v", tell(x.l), w.a, c, w.chain)
			}
			if i := layout.Segment(x.l, w.a); i != w.segment {
				t.Errorf("%s: Segment(%d): %d, want %d", tell(x.l), w.a, i, w.segment)
			}
		}
	}
}

// P9.1: the first addresses, and those at each From and at the end, of any valid layout, against the reference.
func TestChainAny(t *testing.T) {
	s := stir(95)
	for range 300 {
		l := s.layout()
		list := addresses(l)
		for a := range uint64(40) {
			list = append(list, a)
		}
		for _, a := range list {
			chain, segment := stored(l, a)
			if c := layout.Chain(l, a); !slices.Equal(c, chain) || (c == nil) != (chain == nil) {
				t.Fatalf("%s: Chain(%d): %v, want %v", tell(l), a, c, chain)
			}
			if i := layout.Segment(l, a); i != segment {
				t.Fatalf("%s: Segment(%d): %d, want %d", tell(l), a, i, segment)
			}
		}
	}
}

// P9.1: all units in order, each once, worked out by hand.
func TestUnitsByHand(t *testing.T) {
	for _, x := range []struct {
		l    api.Layout
		want []int
	}{
		{given(), on(1, 2, 3, 5)},
		{lay(1, 9, seg(0, on(0))), on(0)},
		{lay(1, 9, seg(0, on(31))), on(31)},
		{lay(1, 9, seg(0, on(31, 0, 7))), on(0, 7, 31)},
		{lay(1, 9, seg(0, on(1)), seg(1, on(1)), seg(2, on(1)), seg(3, on(1))), on(1)},
		{lay(1, 9, seg(0, on(4), on(2)), seg(1, on(2, 4)), seg(2, on(3, 2, 30), on(1, 4))), on(1, 2, 3, 4, 30)},
		{lay(1, 9, seg(0, on(10, 9)), seg(1, on(2, 1))), on(1, 2, 9, 10)},
		{api.Layout{}, nil},
		{lay(1, 9, seg(0, on(2, 2))), nil},
		{lay(1, 32, seg(0, on(2))), nil},
		{lay(0, 9, seg(0, on(2))), nil},
	} {
		if u := layout.Units(x.l); !slices.Equal(u, x.want) || (u == nil) != (x.want == nil) {
			t.Errorf("Units(%s): %v, want %v", tell(x.l), u, x.want)
		}
	}
	all := []int{}
	for u := range 32 {
		all = append(all, u)
	}
	full := lay(1, 0, seg(0, all[28:32], all[24:28], all[20:24], all[16:20]), seg(1, all[12:16], all[8:12], all[4:8], all[0:4]))
	if u := layout.Units(full); !slices.Equal(u, all) {
		t.Errorf("all units: %v", u)
	}
}

// P9.1: the units of any valid layout are those that one of its chains has.
func TestUnitsAny(t *testing.T) {
	s := stir(96)
	for range 3000 {
		l := s.layout()
		want := []int{}
		for u := range 32 {
			if slices.ContainsFunc(l.Segments, func(s api.Segment) bool {
				return slices.ContainsFunc(s.Chains, func(c []int) bool { return slices.Contains(c, u) })
			}) {
				want = append(want, u)
			}
		}
		if u := layout.Units(l); !slices.Equal(u, want) {
			t.Fatalf("Units(%s): %v, want %v", tell(l), u, want)
		}
	}
}

// P2, rule 4: Chain, Segment and Units change no layout; what they answered doesn't change with the layout, nor the layout with it; the same layout has the same answers again.
func TestChainAndUnitsAreApart(t *testing.T) {
	for _, l := range some() {
		for _, a := range addresses(l) {
			want, at := stored(l, a)
			x := lent(l)
			first, second := layout.Chain(x, a), layout.Chain(x, a)
			spoilUnits(second)
			if i, j := layout.Segment(x, a), layout.Segment(x, a); i != at || j != at {
				t.Errorf("%s: Segment(%d): %d, then %d", tell(l), a, i, j)
			}
			kept(t, "Chain", x, l)
			spoil(x)
			if !slices.Equal(first, want) {
				t.Errorf("%s: Chain(%d) changed: %v, want %v", tell(l), a, first, want)
			}
		}
		x := lent(l)
		want := slices.Clone(layout.Units(x))
		first, second := layout.Units(x), layout.Units(x)
		spoilUnits(second)
		kept(t, "Units", x, l)
		spoil(x)
		if !slices.Equal(first, want) {
			t.Errorf("%s: Units changed: %v, want %v", tell(l), first, want)
		}
	}
}
