package layout_test

import (
	"math"
	"slices"
	"testing"

	"rotulet/api"
	"rotulet/layout"
)

// P9.1: layouts that are valid, with the least and the most of everything.
func TestValid(t *testing.T) {
	for what, l := range map[string]api.Layout{
		"the least":                 lay(1, 0, seg(0, on(0))),
		"the widest":                widest(),
		"MaxEpoch":                  lay(api.MaxEpoch, 0, seg(0, on(0))),
		"sequencer 31":              lay(1, 31, seg(0, on(0))),
		"unit 31":                   lay(1, 0, seg(0, on(31))),
		"four segments":             lay(1, 0, seg(0, on(0)), seg(1, on(0)), seg(2, on(0)), seg(3, on(0))),
		"four chains":               lay(1, 0, seg(0, on(0), on(1), on(2), on(3))),
		"four units":                lay(1, 0, seg(0, on(3, 2, 1, 0))),
		"four chains of four":       lay(1, 0, seg(0, on(0, 31, 1, 30), on(2, 29, 3, 28), on(4, 27, 5, 26), on(6, 25, 7, 24))),
		"chains of other lengths":   lay(1, 0, seg(0, on(1), on(2, 3), on(4, 5, 6), on(7, 8, 9, 10))),
		"a From of MaxAddress - 1":  lay(1, 0, seg(0, on(0)), seg(api.MaxAddress-1, on(1))),
		"Froms in a row at the end": lay(1, 0, seg(0, on(0)), seg(api.MaxAddress-3, on(1)), seg(api.MaxAddress-2, on(1)), seg(api.MaxAddress-1, on(1))),
		"equal chains in segments":  lay(1, 0, seg(0, on(1, 2)), seg(1, on(1, 2)), seg(9, on(3), on(1, 2))),
		"a unit in each segment":    lay(1, 0, seg(0, on(1, 2)), seg(1, on(2, 3), on(1))),
		"the sequencer's number":    lay(1, 5, seg(0, on(5))),
	} {
		if !layout.Right(l) {
			t.Errorf("%s: Right: false", what)
		}
		holds(t, what, l)
	}
}

// P9.1, wrong inputs: each function refuses layouts that are not valid, in each of the ways that the chapter's words name.
func TestNotValid(t *testing.T) {
	for what, l := range wrong() {
		if layout.Right(l) {
			t.Errorf("%s: Right: true", what)
		}
		holds(t, what, l)
		if b, e := layout.Encode(l); len(b) != 0 || e != api.ErrLayout {
			t.Errorf("%s: Encode: %x, %d", what, b, e)
		}
		for _, a := range addresses(l) {
			if c := layout.Chain(l, a); c != nil {
				t.Errorf("%s: Chain(%d): %v", what, a, c)
			}
			if i := layout.Segment(l, a); i != -1 {
				t.Errorf("%s: Segment(%d): %d", what, a, i)
			}
		}
		if u := layout.Units(l); u != nil {
			t.Errorf("%s: Units: %v", what, u)
		}
		if x, e := layout.Next(l, nil, nil, 1); e != api.ErrLayout || !alike(x, api.Layout{}) {
			t.Errorf("%s: Next: %s, %d", what, tell(x), e)
		}
		if x, e := layout.Next(l, on(0, 1, 2, 3, 4, 5), nil, 1); e != api.ErrLayout || !alike(x, api.Layout{}) {
			t.Errorf("%s: Next, no unit left: %s, %d", what, tell(x), e)
		}
		for _, from := range []uint64{0, 1, 900} {
			if x, e := layout.Extend(l, from, [][]int{{1}, {2}}); e != api.ErrLayout || !alike(x, api.Layout{}) {
				t.Errorf("%s: Extend(%d): %s, %d", what, from, tell(x), e)
			}
		}
	}
}

// P9.1: any number as a unit, at any place, as a sequencer, as an epoch and as a From.
func TestEveryNumber(t *testing.T) {
	for _, n := range numbers() {
		for i := range given().Segments {
			for j := range given().Segments[i].Chains {
				for k := range given().Segments[i].Chains[j] {
					l := given()
					l.Segments[i].Chains[j][k] = n
					holds(t, "a unit", l)
				}
			}
		}
		l := given()
		l.Sequencer = n
		holds(t, "a sequencer", l)
	}
	for _, a := range addresses(given()) {
		for _, b := range addresses(lay(0, 0, seg(api.MaxEpoch))) {
			holds(t, "a From", lay(4, 2, seg(a, on(1))))
			holds(t, "two Froms", lay(4, 2, seg(a, on(1)), seg(b, on(1))))
			holds(t, "three Froms", lay(4, 2, seg(0, on(1)), seg(a, on(1)), seg(b, on(1))))
			holds(t, "an epoch", lay(b, 2, seg(0, on(1))))
		}
	}
}

// P9.1: any number of segments, chains and units.
func TestEveryCount(t *testing.T) {
	for segments := range 8 {
		for chains := range 8 {
			for size := range 8 {
				l := lay(1, 1)
				for i := range segments {
					s := seg(uint64(i))
					for j := range chains {
						c := on()
						for k := range size {
							c = append(c, (size*j+k)%32)
						}
						s.Chains = append(s.Chains, c)
					}
					l.Segments = append(l.Segments, s)
				}
				holds(t, "counts", l)
			}
		}
	}
}

// P9.1: any valid layout of which one number is another one, or one list is longer or shorter.
func TestNearlyValid(t *testing.T) {
	s := stir(90)
	refused := 0
	for range 40000 {
		l := s.layout()
		i := s.below(len(l.Segments))
		j := s.below(len(l.Segments[i].Chains))
		c := l.Segments[i].Chains[j]
		switch s.below(7) {
		case 0:
			c[s.below(len(c))] = s.below(34) - 1
		case 1:
			l.Segments[i].Chains[j] = append(c, s.below(32))
		case 2:
			l.Segments[i].Chains[j] = c[1:]
		case 3:
			l.Segments[i].Chains = append(l.Segments[i].Chains, on(s.below(32)))
		case 4:
			l.Segments[i].Chains = l.Segments[i].Chains[1:]
		case 5:
			l.Segments[i].From = uint64(s.below(30))
		case 6:
			l.Segments = append(l.Segments, seg(l.Segments[i].From+uint64(s.below(3)), c))
		}
		holds(t, "nearly valid", l)
		if !valid(l) {
			refused++
		}
	}
	if refused < 4000 || refused > 36000 {
		t.Errorf("%d of 40000 were not valid", refused)
	}
}

// P9.1: layouts are the same if all their fields are, whether they are valid or not.
func TestSame(t *testing.T) {
	all := some()
	for what, l := range wrong() {
		if !layout.Same(l, lent(l)) {
			t.Errorf("%s: not the same as its copy", what)
		}
		if what != "empty slices" && what != "no chains, an empty slice" && what != "an empty chain" {
			all = append(all, l)
		}
	}
	for i, a := range all {
		for j, b := range all {
			if got := layout.Same(a, lent(b)); got != (i == j) {
				t.Errorf("Same(%s, %s): %v", tell(a), tell(b), got)
			}
		}
	}
}

// P9.1: nil and empty slices are equal, at each of the three levels.
func TestSameOfNothing(t *testing.T) {
	for what, x := range map[string][2]api.Layout{
		"segments":             {{Epoch: 3}, {Epoch: 3, Segments: []api.Segment{}}},
		"chains":               {lay(3, 1, api.Segment{From: 1}), lay(3, 1, api.Segment{From: 1, Chains: [][]int{}})},
		"chains, behind":       {lay(3, 1, seg(0, on(1)), api.Segment{From: 1}), lay(3, 1, seg(0, on(1)), api.Segment{From: 1, Chains: [][]int{}})},
		"units":                {lay(3, 1, seg(0, nil)), lay(3, 1, seg(0, []int{}))},
		"units, behind others": {lay(3, 1, seg(0, on(1), nil)), lay(3, 1, seg(0, on(1), []int{}))},
	} {
		a, b := x[0], x[1]
		if !layout.Same(a, b) || !layout.Same(b, a) || !layout.Same(a, a) || !layout.Same(b, b) {
			t.Errorf("%s: nil and empty are not the same", what)
		}
	}
	if layout.Same(lay(3, 1), lay(3, 1, seg(0))) || layout.Same(lay(3, 1, seg(0)), lay(3, 1, seg(0, nil))) || layout.Same(lay(3, 1, seg(0, nil)), lay(3, 1, seg(0, nil, nil))) {
		t.Error("nothing, and one that has nothing in it")
	}
}

// P9.1: layouts that differ in one thing are not the same, whichever comes first.
func TestSameByOneThing(t *testing.T) {
	for what, change := range map[string]func(*api.Layout){
		"epoch":                     func(l *api.Layout) { l.Epoch++ },
		"epoch by 2^32":             func(l *api.Layout) { l.Epoch += 1 << 32 },
		"sequencer":                 func(l *api.Layout) { l.Sequencer++ },
		"sequencer by 2^32":         func(l *api.Layout) { l.Sequencer += 1 << 32 },
		"the first From":            func(l *api.Layout) { l.Segments[0].From++ },
		"the last From":             func(l *api.Layout) { l.Segments[1].From-- },
		"the first unit":            func(l *api.Layout) { l.Segments[0].Chains[0][0] = 9 },
		"the last unit":             func(l *api.Layout) { l.Segments[1].Chains[0][1] = 9 },
		"a unit more":               func(l *api.Layout) { l.Segments[0].Chains[1] = on(3, 0) },
		"a unit less":               func(l *api.Layout) { l.Segments[0].Chains[0] = on(1) },
		"units in other order":      func(l *api.Layout) { slices.Reverse(l.Segments[0].Chains[0]) },
		"a chain more":              func(l *api.Layout) { l.Segments[1].Chains = append(l.Segments[1].Chains, on(0)) },
		"an empty chain more":       func(l *api.Layout) { l.Segments[1].Chains = append(l.Segments[1].Chains, nil) },
		"a chain less":              func(l *api.Layout) { l.Segments[0].Chains = l.Segments[0].Chains[:1] },
		"chains in other order":     func(l *api.Layout) { slices.Reverse(l.Segments[0].Chains) },
		"cut elsewhere":             func(l *api.Layout) { l.Segments[0].Chains = [][]int{{1}, {2, 3}} },
		"a segment more":            func(l *api.Layout) { l.Segments = append(l.Segments, seg(11, on(1))) },
		"an empty segment more":     func(l *api.Layout) { l.Segments = append(l.Segments, seg(0)) },
		"a segment less":            func(l *api.Layout) { l.Segments = l.Segments[:1] },
		"segments in other order":   func(l *api.Layout) { slices.Reverse(l.Segments) },
		"no segments":               func(l *api.Layout) { l.Segments = nil },
		"chains of the other":       func(l *api.Layout) { l.Segments[1].Chains = l.Segments[0].Chains },
		"nothing":                   func(l *api.Layout) { *l = api.Layout{} },
		"the greatest unit":         func(l *api.Layout) { l.Segments[0].Chains[0][0] = math.MaxInt },
		"a unit by 2^32":            func(l *api.Layout) { l.Segments[0].Chains[0][0] += 1 << 32 },
		"the greatest of all Froms": func(l *api.Layout) { l.Segments[1].From = math.MaxUint64 },
	} {
		a, b := given(), given()
		change(&b)
		if layout.Same(a, b) || layout.Same(b, a) {
			t.Errorf("%s: %s and %s are the same", what, tell(a), tell(b))
		}
		if !layout.Same(b, lent(b)) {
			t.Errorf("%s: %s is not the same as its copy", what, tell(b))
		}
	}
}

// P2, rule 4: neither Right nor Same changes a layout, or what is behind the ends of its lists.
func TestRightAndSameKeepLayouts(t *testing.T) {
	all := slices.Collect(func(yield func(api.Layout) bool) {
		for _, l := range wrong() {
			if !yield(l) {
				return
			}
		}
	})
	for _, l := range append(all, some()...) {
		x, y := lent(l), lent(l)
		first, second := layout.Right(x), layout.Right(x)
		kept(t, "Right", x, l)
		if first != second || !layout.Same(x, y) {
			t.Errorf("%s: Right: %v, then %v, or not the same", tell(l), first, second)
		}
		kept(t, "Same", x, l)
		kept(t, "Same", y, l)
	}
}
