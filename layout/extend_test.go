package layout_test

import (
	"math"
	"slices"
	"testing"

	"rotulet/api"
	"rotulet/layout"
)

// longer is what Extend is to answer.
func longer(l api.Layout, from uint64, chains [][]int) (api.Layout, api.Errno) {
	next := lay(l.Epoch+1, l.Sequencer, l.Segments...)
	for n := len(next.Segments); n > 0 && next.Segments[n-1].From >= from; n-- {
		next.Segments = next.Segments[:n-1]
	}
	next.Segments = append(slices.Clone(next.Segments), seg(from, chains...))
	if !valid(l) || !valid(next) {
		return api.Layout{}, api.ErrLayout
	}
	return next, api.OK
}

// extends has Extend called, holds what it answers against the reference, and all that went in against what it was.
func extends(t *testing.T, what string, l api.Layout, from uint64, chains [][]int) (api.Layout, api.Errno) {
	t.Helper()
	x, c := lent(l), lentChains(chains)
	got, e := layout.Extend(x, from, c)
	want, w := longer(l, from, chains)
	if e != w || !alike(got, want) {
		t.Fatalf("%s: Extend(%s, %d, %v): %s, %d, want %s, %d", what, tell(l), from, chains, tell(got), e, tell(want), w)
	}
	apart(t, what, got)
	kept(t, what, x, l)
	keptChains(t, what, c, chains)
	if e == api.OK {
		moved(t, what, l, got, from, chains)
	}
	return got, e
}

// moved holds that addresses below the new segment stay where they were, and that all others lie on its chains in turn.
func moved(t *testing.T, what string, l, next api.Layout, from uint64, chains [][]int) {
	t.Helper()
	for _, a := range append(addresses(l), addresses(next)...) {
		want := layout.Chain(l, a)
		if a >= from && a < api.MaxAddress {
			want = chains[(a-from)%uint64(len(chains))]
		}
		if c := layout.Chain(next, a); !slices.Equal(c, want) {
			t.Fatalf("%s: %d lies on %v, want %v: %s, then %s", what, a, c, want, tell(l), tell(next))
		}
	}
}

// P9.1: extended layouts that were worked out by hand: behind the last segment, at the From of each, and amid them.
func TestExtendByHand(t *testing.T) {
	l := lay(6, 4, seg(0, on(1, 2)), seg(5, on(3), on(1)), seg(20, on(6)))
	first, second, third := seg(0, on(1, 2)), seg(5, on(3), on(1)), seg(20, on(6))
	for what, x := range map[string]struct {
		from   uint64
		chains [][]int
		want   api.Layout
	}{
		"behind the last":          {30, [][]int{{8}, {9}}, lay(7, 4, first, second, third, seg(30, on(8), on(9)))},
		"just behind the last":     {21, [][]int{{6}}, lay(7, 4, first, second, third, seg(21, on(6)))},
		"at the last":              {20, [][]int{{8, 9}}, lay(7, 4, first, second, seg(20, on(8, 9)))},
		"one below the last":       {19, [][]int{{8, 9}}, lay(7, 4, first, second, seg(19, on(8, 9)))},
		"just behind the second":   {6, [][]int{{8}, {9, 10, 11, 12}}, lay(7, 4, first, second, seg(6, on(8), on(9, 10, 11, 12)))},
		"at the second":            {5, [][]int{{0}, {31}, {1}, {30}}, lay(7, 4, first, seg(5, on(0), on(31), on(1), on(30)))},
		"one below the second":     {4, [][]int{{1, 2}}, lay(7, 4, first, seg(4, on(1, 2)))},
		"at 1":                     {1, [][]int{{1, 2}}, lay(7, 4, first, seg(1, on(1, 2)))},
		"at 0":                     {0, [][]int{{1}, {2}}, lay(7, 4, seg(0, on(1), on(2)))},
		"at the last address":      {api.MaxAddress - 1, [][]int{{9}}, lay(7, 4, first, second, third, seg(api.MaxAddress-1, on(9)))},
		"the widest":               {9, [][]int{{0, 1, 2, 3}, {4, 5, 6, 7}, {8, 9, 10, 11}, {12, 13, 14, 15}}, lay(7, 4, first, second, seg(9, on(0, 1, 2, 3), on(4, 5, 6, 7), on(8, 9, 10, 11), on(12, 13, 14, 15)))},
		"the chains of the second": {40, second.Chains, lay(7, 4, first, second, third, seg(40, on(3), on(1)))},
	} {
		got, e := extends(t, what, l, x.from, x.chains)
		if e != api.OK || !alike(got, x.want) {
			t.Errorf("%s: %s, %d, want %s", what, tell(got), e, tell(x.want))
		}
	}
}

// P9.1: how many segments there may be, and which epochs.
func TestExtendAtTheEdges(t *testing.T) {
	four := lay(1, 31, seg(0, on(1)), seg(2, on(2)), seg(4, on(3)), seg(6, on(4)))
	for from, segments := range map[uint64]int{0: 1, 1: 2, 2: 2, 3: 3, 4: 3, 5: 4, 6: 4} {
		got, e := extends(t, "four", four, from, [][]int{{9}})
		if e != api.OK || len(got.Segments) != segments || got.Epoch != 2 || got.Sequencer != 31 {
			t.Errorf("%d: %s, %d", from, tell(got), e)
		}
	}
	for _, from := range []uint64{7, 8, api.MaxAddress - 1} {
		if got, e := extends(t, "a fifth", four, from, [][]int{{9}}); e != api.ErrLayout || !alike(got, api.Layout{}) {
			t.Errorf("%d: %s, %d", from, tell(got), e)
		}
	}
	four.Epoch = api.MaxEpoch - 1
	if got, e := extends(t, "to MaxEpoch", four, 3, [][]int{{9}}); e != api.OK || got.Epoch != api.MaxEpoch {
		t.Errorf("%s, %d", tell(got), e)
	}
	four.Epoch = api.MaxEpoch
	if got, e := extends(t, "of MaxEpoch", four, 3, [][]int{{9}}); e != api.ErrLayout {
		t.Errorf("%s, %d", tell(got), e)
	}
}

// P9.1, wrong inputs: chains that no segment may have, and addresses that no segment may begin at.
func TestExtendRefuses(t *testing.T) {
	for what, chains := range map[string][][]int{
		"none":                    nil,
		"none, empty":             {},
		"five":                    {{1}, {2}, {3}, {4}, {5}},
		"a nil chain":             {nil},
		"an empty chain":          {{}},
		"an empty chain behind":   {{1}, {}},
		"five units":              {{1, 2, 3, 4, 5}},
		"unit -1":                 {{1}, {-1}},
		"unit 32":                 {{32}},
		"the greatest unit":       {{math.MaxInt}},
		"a unit twice":            {{1, 1}},
		"a unit in two chains":    {{1, 2}, {3, 2}},
		"the same chain twice":    {{1, 2}, {1, 2}},
		"very many chains":        make([][]int, 1<<16),
		"a chain of many units":   {make([]int, 1<<16)},
		"nothing but empty ones":  {{}, {}, {}, {}},
		"the last of four is bad": {{1}, {2}, {3}, {1}},
	} {
		for _, l := range some() {
			for _, from := range []uint64{0, 1, 5, 10, 11, api.MaxAddress - 1, api.MaxAddress} {
				if got, e := extends(t, what, l, from, chains); e != api.ErrLayout || !alike(got, api.Layout{}) {
					t.Errorf("%s: %d: %s, %d", what, from, tell(got), e)
				}
			}
		}
	}
	for _, from := range []uint64{api.MaxAddress, api.MaxAddress + 1, 1 << 21, 1 << 32, 1<<32 + 5, math.MaxUint64 - 1, math.MaxUint64} {
		if got, e := extends(t, "no address", given(), from, [][]int{{1}}); e != api.ErrLayout || !alike(got, api.Layout{}) {
			t.Errorf("%d: %s, %d", from, tell(got), e)
		}
	}
}

// P9.1: layouts that are not valid are refused, also if the segments that are wrong would go away.
func TestExtendOfNotValid(t *testing.T) {
	for what, l := range wrong() {
		for _, from := range addresses(l) {
			if got, e := extends(t, what, l, from, [][]int{{1}, {2}}); e != api.ErrLayout || !alike(got, api.Layout{}) {
				t.Errorf("%s: %d: %s, %d", what, from, tell(got), e)
			}
		}
	}
}

// P9.1: any valid layout, extended at the edges of its segments, by any chains.
func TestExtendAny(t *testing.T) {
	s := stir(98)
	refused := 0
	for range 400 {
		l := s.layout()
		for _, from := range addresses(l) {
			chains := s.chains()
			if s.below(4) == 0 {
				chains[0][0] = s.below(34) - 1
			}
			if _, e := extends(t, "any", l, from, chains); e != api.OK {
				refused++
			}
		}
	}
	if refused < 1000 {
		t.Errorf("only %d were refused", refused)
	}
}

// P2, rule 4: the extended layout doesn't change with what went in, nor that with the extended layout; the same arguments have the same answer again.
func TestExtendIsApart(t *testing.T) {
	for _, l := range some() {
		for _, from := range []uint64{0, 1, 7, 11, 2000} {
			chains := [][]int{{8, 9}, {7}}
			want, w := longer(l, from, chains)
			x, c := lent(l), lentChains(chains)
			first, e := layout.Extend(x, from, c)
			second, again := layout.Extend(x, from, c)
			if e != w || again != w || !alike(second, want) {
				t.Fatalf("%s: %s, %d, then %s, %d", tell(l), tell(first), e, tell(second), again)
			}
			spoil(second)
			kept(t, "Extend", x, l)
			keptChains(t, "Extend", c, chains)
			spoil(x)
			spoil(lay(1, 1, api.Segment{Chains: c}))
			if !alike(first, want) {
				t.Errorf("%s: the extended layout changed: %s, want %s", tell(l), tell(first), tell(want))
			}
		}
	}
}
