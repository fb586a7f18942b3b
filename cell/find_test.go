package cell_test

import (
	"math"
	"slices"
	"testing"

	"rotulet/api"
	"rotulet/cell"
)

// P7.1: the Last of a stream that has a Back, and None for each of one that has none.
func TestFind(t *testing.T) {
	neither := [2]uint64{none, none}
	c := data("hey", back(0, 9, 4), back(3, 7, none), back(9, none, none), back(15, api.MaxAddress-1, 0))
	for _, x := range []struct {
		stream int
		want   [2]uint64
		is     bool
	}{
		{0, [2]uint64{9, 4}, true}, {3, [2]uint64{7, none}, true}, {9, neither, true}, {15, [2]uint64{api.MaxAddress - 1, 0}, true},
		{1, neither, false}, {2, neither, false}, {4, neither, false}, {8, neither, false}, {10, neither, false}, {14, neither, false},
		{-1, neither, false}, {16, neither, false}, {19, neither, false}, {1<<32 + 3, neither, false}, {math.MinInt, neither, false}, {math.MaxInt, neither, false},
	} {
		if got, is := cell.Find(c, x.stream); got != x.want || is != x.is {
			t.Errorf("Find(%d): %v, %v, want %v, %v", x.stream, got, is, x.want, x.is)
		}
	}
	for _, c := range []api.Cell{{}, junk(), data(""), data("hey"), {Kind: api.Data, Backs: []api.Back{}}} {
		for _, stream := range streams() {
			if got, is := cell.Find(c, stream); got != neither || is {
				t.Errorf("Find(%v, %d): %v, %v", c, stream, got, is)
			}
		}
	}
}

// P7.1: any cell and any stream.
func TestFindAny(t *testing.T) {
	s := stir(72)
	for range 3000 {
		c := s.cell()
		was := copyOf(c)
		for _, stream := range streams() {
			want, found := [2]uint64{none, none}, false
			for _, b := range slices.Backward(c.Backs) {
				if b.Stream == stream {
					want, found = b.Last, true
				}
			}
			got, is := cell.Find(c, stream)
			if got != want || is != found {
				t.Fatalf("Find(%v, %d): %v, %v, want %v, %v", c, stream, got, is, want, found)
			}
			got[0]++
			if !alike(c, was) {
				t.Fatalf("Find(%v, %d) changed it: %v", was, stream, c)
			}
		}
	}
}

// P7.1, P1: of cells that are not valid, Find and Before ask nothing but the Backs: the first one of a stream, and all that is not None.
func TestFindAndBeforeOfNotValid(t *testing.T) {
	c := api.Cell{Kind: api.Junk, Backs: []api.Back{back(5, 2, 3), back(20, none, 4), back(5, 1, 0)}}
	for stream, want := range map[int][2]uint64{5: {2, 3}, 20: {none, 4}} {
		if got, is := cell.Find(c, stream); got != want || !is {
			t.Errorf("Find(%v, %d): %v, %v", c, stream, got, is)
		}
	}
	if cell.Before(c, 4) || !cell.Before(c, 5) {
		t.Errorf("Before(%v)", c)
	}
	c.Backs = append(c.Backs, back(7, 0, none-1))
	if cell.Before(c, none-1) || !cell.Before(c, none) {
		t.Errorf("Before(%v)", c)
	}
}

// P7.1: Before, worked out by hand: with none of the addresses, less than, equal to and above each of them.
func TestBefore(t *testing.T) {
	most := uint64(api.MaxAddress)
	for _, x := range []struct {
		c    api.Cell
		a    uint64
		want bool
	}{
		{junk(), 0, true}, {data("hey"), 0, true}, {api.Cell{}, 0, true}, {junk(), none, true}, {data(""), 5, true},
		{data("", back(1, none, none)), 0, true}, {data("", back(1, none, none)), 1, true}, {data("", back(1, none, none)), none, true},
		{data("", back(1, 0, none)), 0, false}, {data("", back(1, 0, none)), 1, true},
		{data("", back(1, 7, 2)), 0, false}, {data("", back(1, 7, 2)), 2, false}, {data("", back(1, 7, 2)), 3, false},
		{data("", back(1, 7, 2)), 6, false}, {data("", back(1, 7, 2)), 7, false}, {data("", back(1, 7, 2)), 8, true}, {data("", back(1, 7, 2)), none, true},
		{data("", back(1, 7, none)), 7, false}, {data("", back(1, 7, none)), 8, true},
		{data("", back(1, most-1, 0)), most - 1, false}, {data("", back(1, most-1, 0)), most, true}, {data("", back(1, most-1, 0)), none - 1, true},
		{data("", back(1, 7, 2), back(2, 9, 8)), 8, false}, {data("", back(1, 7, 2), back(2, 9, 8)), 9, false}, {data("", back(1, 7, 2), back(2, 9, 8)), 10, true},
		{data("", back(1, 9, 8), back(2, 7, 2)), 8, false}, {data("", back(1, 9, 8), back(2, 7, 2)), 9, false}, {data("", back(1, 9, 8), back(2, 7, 2)), 10, true},
		{data("", back(1, none, none), back(2, 5, none), back(3, none, none)), 5, false},
		{data("", back(1, none, none), back(2, 5, none), back(3, none, none)), 6, true},
	} {
		was := copyOf(x.c)
		if got := cell.Before(x.c, x.a); got != x.want {
			t.Errorf("Before(%v, %d): %v", x.c, x.a, got)
		}
		if !alike(x.c, was) {
			t.Errorf("Before(%v, %d) changed it: %v", was, x.a, x.c)
		}
	}
}

// P7.1: Before holds from one number on, the one behind the greatest address.
func TestBeforeAny(t *testing.T) {
	s := stir(73)
	for range 3000 {
		c := s.cell()
		least := uint64(0)
		for _, b := range c.Backs {
			for _, a := range b.Last {
				if a != none && a+1 > least {
					least = a + 1
				}
			}
		}
		for _, a := range append(edges(), least, least+1, least/2) {
			if got := cell.Before(c, a); got != (a >= least) {
				t.Fatalf("Before(%v, %d): %v", c, a, got)
			}
		}
		if least > 0 && cell.Before(c, least-1) {
			t.Fatalf("Before(%v, %d)", c, least-1)
		}
	}
}

// P7.1: cells are the same if kinds, Data and Backs are, whether they are valid or not.
func TestSame(t *testing.T) {
	l := some()
	for i, a := range l {
		for j, b := range l {
			if got := cell.Same(a, copyOf(b)); got != (i == j) {
				t.Errorf("Same(%v, %v): %v", a, b, got)
			}
		}
	}
	for _, kind := range []api.CellKind{0, 1, 2, 3} {
		a := api.Cell{Kind: kind}
		b := api.Cell{Kind: kind, Data: []byte{}, Backs: []api.Back{}}
		c := api.Cell{Kind: kind, Data: []byte{}}
		if !cell.Same(a, b) || !cell.Same(b, a) || !cell.Same(a, c) || !cell.Same(c, b) || !cell.Same(a, a) || !cell.Same(b, b) {
			t.Errorf("kind %d: nil and empty", kind)
		}
	}
}

// P7.1: cells that differ in one thing are not the same, whichever comes first.
func TestSameByOneThing(t *testing.T) {
	a := data("hey", back(1, 9, 4), back(3, 7, none))
	for what, change := range map[string]func(*api.Cell){
		"kind":                  func(c *api.Cell) { c.Kind = api.Junk },
		"first byte":            func(c *api.Cell) { c.Data[0]++ },
		"last byte":             func(c *api.Cell) { c.Data[2]++ },
		"a byte more":           func(c *api.Cell) { c.Data = append(c.Data, 0) },
		"a byte less":           func(c *api.Cell) { c.Data = c.Data[:2] },
		"no Data":               func(c *api.Cell) { c.Data = nil },
		"first stream":          func(c *api.Cell) { c.Backs[0].Stream++ },
		"last stream":           func(c *api.Cell) { c.Backs[1].Stream++ },
		"first address":         func(c *api.Cell) { c.Backs[0].Last[0]++ },
		"second address":        func(c *api.Cell) { c.Backs[0].Last[1]++ },
		"last Back's address":   func(c *api.Cell) { c.Backs[1].Last[0]++ },
		"None becomes 0":        func(c *api.Cell) { c.Backs[1].Last[1]++ },
		"the mark for None":     func(c *api.Cell) { c.Backs[1].Last[1] = api.MaxAddress },
		"a Back more":           func(c *api.Cell) { c.Backs = append(c.Backs, back(9, none, none)) },
		"a Back less":           func(c *api.Cell) { c.Backs = c.Backs[:1] },
		"no Backs":              func(c *api.Cell) { c.Backs = nil },
		"Backs in other order":  func(c *api.Cell) { c.Backs[0], c.Backs[1] = c.Backs[1], c.Backs[0] },
		"the same, but of none": func(c *api.Cell) { *c = api.Cell{} },
	} {
		b := copyOf(a)
		change(&b)
		if cell.Same(a, b) || cell.Same(b, a) {
			t.Errorf("%s: %v and %v are the same", what, a, b)
		}
		if !cell.Same(b, copyOf(b)) {
			t.Errorf("%s: %v is not the same as its copy", what, b)
		}
	}
	if !alike(a, data("hey", back(1, 9, 4), back(3, 7, none))) {
		t.Errorf("changed: %v", a)
	}
}
