package copies_test

import (
	"testing"

	"rotulet/api"
	"rotulet/cell"
	"rotulet/copies"
	"rotulet/layout"
)

// great is a layout whose lists have memory behind their ends.
func great() api.Layout {
	chain := func(units ...int) []int { return append(units, 77)[:len(units)] }
	return api.Layout{Epoch: 4, Sequencer: 2, Segments: append([]api.Segment{
		{From: 0, Chains: append([][]int{chain(1, 2), chain(3)}, chain(77))[:2]}, {From: 10, Chains: [][]int{chain(5, 1)}},
	}, api.Segment{From: 99})[:2]}
}

// spoil changes whatever a layout has in its lists, and what lies behind their ends.
func spoil(l api.Layout) {
	for i, s := range l.Segments {
		for k, c := range s.Chains {
			c[0]++
			_ = append(c, 98)
			s.Chains[k] = nil
		}
		_ = append(s.Chains, []int{98})
		l.Segments[i] = api.Segment{From: 98}
	}
	_ = append(l.Segments, api.Segment{From: 98})
}

// Rule 4: a copy of a layout is like it, and neither changes when the other one does.
func TestLayout(t *testing.T) {
	l := great()
	spoil(copies.Layout(l))
	if !layout.Same(l, great()) || l.Segments[:3][2].From != 99 || l.Segments[0].Chains[:3][2][0] != 77 || l.Segments[0].Chains[0][:3][2] != 77 {
		t.Errorf("the copy was changed, and so was %v", l)
	}
	c := copies.Layout(l)
	spoil(l)
	if !layout.Same(c, great()) {
		t.Errorf("changed, and so was the copy %v", c)
	}
	for _, x := range []api.Layout{{}, {Epoch: 3}, {Segments: []api.Segment{{}}}, {Segments: []api.Segment{{Chains: [][]int{nil}}}}} {
		if c := copies.Layout(x); !layout.Same(c, x) {
			t.Errorf("%v: %v", x, c)
		}
	}
}

// Rule 4: a copy of a cell is like it, and neither changes when the other one does.
func TestCell(t *testing.T) {
	given := func() api.Cell {
		return api.Cell{Kind: api.Data, Data: []byte("heya")[:3], Backs: []api.Back{{Stream: 3, Last: [2]uint64{7, 2}}, {Stream: 9}}[:1]}
	}
	a := given()
	b := copies.Cell(a)
	c := copies.Cell(b)
	b.Data[0], b.Backs[0].Last[1] = 'x', 9
	_ = append(b.Data, 'z')
	_ = append(b.Backs, api.Back{Stream: 5})
	if !cell.Same(a, given()) || !cell.Same(c, given()) || a.Data[:4][3] != 'a' || a.Backs[:2][1].Stream != 9 {
		t.Errorf("%v, %v", a, c)
	}
	for _, x := range []api.Cell{{}, {Kind: api.Junk}, {Kind: 9, Data: []byte{}}} {
		if c := copies.Cell(x); !cell.Same(c, x) {
			t.Errorf("%v: %v", x, c)
		}
	}
}
