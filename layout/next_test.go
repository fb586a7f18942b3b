package layout_test

import (
	"math"
	"slices"
	"testing"

	"rotulet/api"
	"rotulet/layout"
)

// follows is what Next is to answer: the kinds of chains are numbered as they come first, and each begins with its fresh units behind all that the ones ahead of it lose.
func follows(l api.Layout, drop, fresh []int, sequencer int) (api.Layout, api.Errno) {
	if !valid(l) {
		return api.Layout{}, api.ErrLayout
	}
	var names []string
	for _, s := range l.Segments {
		for _, c := range s.Chains {
			if !slices.Contains(names, units(c)) {
				names = append(names, units(c))
			}
		}
	}
	made := map[string][]int{}
	used := 0
	for _, name := range names {
		old := named(l, name)
		for _, u := range old {
			if !slices.Contains(drop, u) {
				made[name] = append(made[name], u)
			}
		}
		if len(made[name]) == 0 {
			return api.Layout{}, api.ErrChain
		}
		for len(made[name]) < len(old) {
			if used == len(fresh) {
				return api.Layout{}, api.ErrArg
			}
			made[name] = append(made[name], fresh[used])
			used++
		}
	}
	next := lay(l.Epoch+1, sequencer)
	for _, s := range l.Segments {
		x := seg(s.From)
		for _, c := range s.Chains {
			x.Chains = append(x.Chains, slices.Clone(made[units(c)]))
		}
		next.Segments = append(next.Segments, x)
	}
	if !valid(next) {
		return api.Layout{}, api.ErrLayout
	}
	return next, api.OK
}

// named is a chain that is written so.
func named(l api.Layout, name string) []int {
	for _, s := range l.Segments {
		for _, c := range s.Chains {
			if units(c) == name {
				return c
			}
		}
	}
	return nil
}

// nexts has Next called, holds what it answers against the reference, and all that went in against what it was.
func nexts(t *testing.T, what string, l api.Layout, drop, fresh []int, sequencer int) (api.Layout, api.Errno) {
	t.Helper()
	x, d, f := lent(l), lentUnits(drop), lentUnits(fresh)
	got, e := layout.Next(x, d, f, sequencer)
	want, w := follows(l, drop, fresh, sequencer)
	if e != w || !alike(got, want) {
		t.Fatalf("%s: Next(%s, %v, %v, %d): %s, %d, want %s, %d", what, tell(l), drop, fresh, sequencer, tell(got), e, tell(want), w)
	}
	apart(t, what, got)
	kept(t, what, x, l)
	keptUnits(t, what, d, drop)
	keptUnits(t, what, f, fresh)
	if e == api.OK {
		survive(t, what, l, got, drop)
	}
	return got, e
}

// survive holds P9.3: each address has a chain that begins with the units that were not dropped, and is as long as before.
func survive(t *testing.T, what string, l, next api.Layout, drop []int) {
	t.Helper()
	for _, a := range addresses(l) {
		old, now := layout.Chain(l, a), layout.Chain(next, a)
		left := []int{}
		for _, u := range old {
			if !slices.Contains(drop, u) {
				left = append(left, u)
			}
		}
		if len(now) != len(old) || a < api.MaxAddress && (len(left) == 0 || !slices.Equal(now[:len(left)], left)) {
			t.Fatalf("%s: %d: the chain %v of %s became %v, %v was dropped", what, a, old, tell(l), now, drop)
		}
	}
}

// P9.1, P9.3: following layouts that were worked out by hand.
func TestNextByHand(t *testing.T) {
	shared := lay(7, 3, seg(0, on(1, 2), on(3, 4)), seg(6, on(3, 4), on(1, 2), on(5)), seg(1000, on(2, 1)))
	for what, x := range map[string]struct {
		l           api.Layout
		drop, fresh []int
		sequencer   int
		want        api.Layout
	}{
		"nothing":                            {given(), nil, nil, 2, lay(5, 2, seg(0, on(1, 2), on(3)), seg(10, on(5, 1)))},
		"nothing, empty":                     {given(), on(), on(), 0, lay(5, 0, seg(0, on(1, 2), on(3)), seg(10, on(5, 1)))},
		"nothing, fresh ones are left":       {given(), nil, on(9, 10), 31, lay(5, 31, seg(0, on(1, 2), on(3)), seg(10, on(5, 1)))},
		"a unit of no chain":                 {given(), on(4, 30, -1, 99), nil, 2, lay(5, 2, seg(0, on(1, 2), on(3)), seg(10, on(5, 1)))},
		"the first of one chain":             {given(), on(5), on(9), 2, lay(5, 2, seg(0, on(1, 2), on(3)), seg(10, on(1, 9)))},
		"the last of one chain":              {given(), on(2), on(9), 2, lay(5, 2, seg(0, on(1, 9), on(3)), seg(10, on(5, 1)))},
		"of two chains":                      {given(), on(1), on(7, 8, 9), 0, lay(5, 0, seg(0, on(2, 7), on(3)), seg(10, on(5, 8)))},
		"just as many":                       {given(), on(1), on(7, 8), 0, lay(5, 0, seg(0, on(2, 7), on(3)), seg(10, on(5, 8)))},
		"named twice":                        {given(), on(1, 1, 1), on(7, 8), 0, lay(5, 0, seg(0, on(2, 7), on(3)), seg(10, on(5, 8)))},
		"one for each, in another segment":   {given(), on(1), on(7, 7), 0, lay(5, 0, seg(0, on(2, 7), on(3)), seg(10, on(5, 7)))},
		"a fresh one of another segment":     {given(), on(1), on(5, 2), 0, lay(5, 0, seg(0, on(2, 5), on(3)), seg(10, on(5, 2)))},
		"a fresh one that is dropped":        {given(), on(1), on(1, 9), 0, lay(5, 0, seg(0, on(2, 1), on(3)), seg(10, on(5, 9)))},
		"a fresh one that is dropped, again": {given(), on(1), on(1, 1), 0, lay(5, 0, seg(0, on(2, 1), on(3)), seg(10, on(5, 1)))},
		"a fresh one that nobody takes":      {given(), on(2), on(9, 9, -1, 40), 0, lay(5, 0, seg(0, on(1, 9), on(3)), seg(10, on(5, 1)))},
		"three of four":                      {lay(1, 0, seg(0, on(6, 7, 8, 9))), on(9, 6, 7), on(1, 2, 3), 0, lay(2, 0, seg(0, on(8, 1, 2, 3)))},
		"the order stays":                    {lay(1, 0, seg(0, on(9, 6, 8, 7))), on(6), on(1), 0, lay(2, 0, seg(0, on(9, 8, 7, 1)))},
		"fresh ones in their order":          {lay(1, 0, seg(0, on(9, 6), on(8, 7))), on(7, 9), on(30, 2), 0, lay(2, 0, seg(0, on(6, 30), on(8, 2)))},
		"two of one, one of the next":        {lay(1, 0, seg(0, on(9, 6, 5), on(8, 7))), on(7, 9, 6), on(30, 2, 0), 0, lay(2, 0, seg(0, on(5, 30, 2), on(8, 0)))},
		"equal chains":                       {shared, on(4), on(9), 3, lay(8, 3, seg(0, on(1, 2), on(3, 9)), seg(6, on(3, 9), on(1, 2), on(5)), seg(1000, on(2, 1)))},
		"equal ones, one in other order":     {shared, on(1), on(9, 10), 3, lay(8, 3, seg(0, on(2, 9), on(3, 4)), seg(6, on(3, 4), on(2, 9), on(5)), seg(1000, on(2, 10)))},
		"two kinds of equal chains":          {shared, on(1, 3), on(9, 10, 11), 3, lay(8, 3, seg(0, on(2, 9), on(4, 10)), seg(6, on(4, 10), on(2, 9), on(5)), seg(1000, on(2, 11)))},
		"equal chains in all segments": {
			lay(1, 0, seg(0, on(1, 2)), seg(1, on(1, 2)), seg(2, on(1, 2)), seg(3, on(1, 2))), on(2), on(3), 0,
			lay(2, 0, seg(0, on(1, 3)), seg(1, on(1, 3)), seg(2, on(1, 3)), seg(3, on(1, 3))),
		},
		"one that begins like another": {
			lay(1, 0, seg(0, on(1, 2)), seg(1, on(1, 2, 0)), seg(2, on(1, 2, 3))), on(2), on(4, 5, 6), 0,
			lay(2, 0, seg(0, on(1, 4)), seg(1, on(1, 0, 5)), seg(2, on(1, 3, 6))),
		},
		"chains that become equal": {
			lay(1, 0, seg(0, on(1, 2)), seg(1, on(1, 3))), on(2, 3), on(4, 4), 0,
			lay(2, 0, seg(0, on(1, 4)), seg(1, on(1, 4))),
		},
		"one that is what another becomes": {
			lay(1, 0, seg(0, on(1, 2)), seg(1, on(1, 4))), on(2), on(4), 0,
			lay(2, 0, seg(0, on(1, 4)), seg(1, on(1, 4))),
		},
		"and that is dropped": {
			lay(1, 0, seg(0, on(1, 2)), seg(1, on(1, 4))), on(2, 4), on(4, 5), 0,
			lay(2, 0, seg(0, on(1, 4)), seg(1, on(1, 5))),
		},
		"to MaxEpoch":    {lay(api.MaxEpoch-1, 0, seg(0, on(1, 2))), on(2), on(3), 0, lay(api.MaxEpoch, 0, seg(0, on(1, 3)))},
		"units 0 and 31": {lay(1, 0, seg(0, on(0, 31), on(30, 1))), on(31, 30), on(2, 31), 31, lay(2, 31, seg(0, on(0, 2), on(1, 31)))},
	} {
		got, e := nexts(t, what, x.l, x.drop, x.fresh, x.sequencer)
		if e != api.OK || !alike(got, x.want) {
			t.Errorf("%s: %s, %d, want %s", what, tell(got), e, tell(x.want))
		}
	}
}

// P9.1, wrong inputs: one error at a time, worked out by hand, and several, of which the one that comes first is answered.
func TestNextRefuses(t *testing.T) {
	bad := lay(4, 2, seg(0, on(1, 2), on(3, 1)))
	last := given()
	last.Epoch = api.MaxEpoch
	pairs := lay(4, 2, seg(0, on(1, 2), on(3, 4)), seg(9, on(5, 6)))
	for what, x := range map[string]struct {
		l           api.Layout
		drop, fresh []int
		sequencer   int
		want        api.Errno
	}{
		"not valid":                               {bad, nil, nil, 2, api.ErrLayout},
		"not valid, no unit left":                 {bad, on(1, 2, 3), nil, 2, api.ErrLayout},
		"not valid, too few":                      {bad, on(1), nil, 2, api.ErrLayout},
		"not valid, nor the next one":             {bad, on(1), on(3, 2), 40, api.ErrLayout},
		"no unit left":                            {given(), on(3), on(7), 0, api.ErrChain},
		"no unit left, of two":                    {given(), on(1, 2), on(7, 8, 9), 0, api.ErrChain},
		"no unit left in the last chain":          {pairs, on(6, 5), on(7, 8, 9), 0, api.ErrChain},
		"no unit left, nothing fresh":             {given(), on(3), nil, 0, api.ErrChain},
		"no unit left, one fresh too few":         {given(), on(2, 1), on(7), 0, api.ErrChain},
		"too few":                                 {given(), on(1), on(7), 0, api.ErrArg},
		"nothing fresh":                           {given(), on(1), nil, 0, api.ErrArg},
		"nothing fresh, empty":                    {given(), on(5), on(), 0, api.ErrArg},
		"too few for the last chain":              {pairs, on(1, 3, 5), on(7, 8), 0, api.ErrArg},
		"too few for one":                         {lay(1, 0, seg(0, on(1, 2, 3))), on(1, 2), on(7), 0, api.ErrArg},
		"too few, and then no unit left":          {pairs, on(1, 3, 4), nil, 0, api.ErrArg},
		"too few in the second, none in the last": {pairs, on(1, 3, 5, 6), on(7), 0, api.ErrArg},
		"no unit left, and then too few":          {pairs, on(1, 2, 3), nil, 0, api.ErrChain},
		"none in the second, too few in the last": {pairs, on(3, 4, 5), nil, 0, api.ErrChain},
		"too few, and not valid":                  {pairs, on(1, 3), on(2), 40, api.ErrArg},
		"no unit left, and not valid":             {pairs, on(1, 3, 4), on(3), -1, api.ErrChain},
		"no unit left, of MaxEpoch":               {last, on(3), nil, 0, api.ErrChain},
		"too few, of MaxEpoch":                    {last, on(1), nil, 0, api.ErrArg},
		"MaxEpoch":                                {last, nil, nil, 0, api.ErrLayout},
		"sequencer -1":                            {given(), nil, nil, -1, api.ErrLayout},
		"sequencer 32":                            {given(), nil, nil, 32, api.ErrLayout},
		"the greatest sequencer":                  {given(), nil, nil, math.MaxInt, api.ErrLayout},
		"fresh unit -1":                           {given(), on(2), on(-1), 0, api.ErrLayout},
		"fresh unit 32":                           {given(), on(5), on(32), 0, api.ErrLayout},
		"fresh unit 2^32":                         {given(), on(5), on(1 << 32), 0, api.ErrLayout},
		"the least fresh unit":                    {given(), on(5), on(math.MinInt), 0, api.ErrLayout},
		"a fresh one of the chain":                {given(), on(2), on(1), 0, api.ErrLayout},
		"a fresh one of the segment":              {given(), on(1), on(3, 8), 0, api.ErrLayout},
		"a fresh one of a chain behind":           {pairs, on(2), on(3), 0, api.ErrLayout},
		"a fresh one of a chain ahead":            {pairs, on(4), on(1), 0, api.ErrLayout},
		"a fresh one twice in a chain":            {lay(1, 0, seg(0, on(1, 2, 3))), on(1, 2), on(7, 7), 0, api.ErrLayout},
		"a fresh one twice in a segment":          {pairs, on(1, 3), on(7, 7), 0, api.ErrLayout},
		"a dropped one twice in a segment":        {pairs, on(1, 3), on(1, 1), 0, api.ErrLayout},
	} {
		got, e := nexts(t, what, x.l, x.drop, x.fresh, x.sequencer)
		if e != x.want || !alike(got, api.Layout{}) {
			t.Errorf("%s: %s, %d, want %d", what, tell(got), e, x.want)
		}
	}
}

// P9.1, P9.3: each layout of some, any one or two units of which are dropped, with any number of fresh units.
func TestNextOfSome(t *testing.T) {
	for _, l := range some() {
		all := layout.Units(l)
		for i, u := range all {
			for _, v := range all[i:] {
				for n := range 9 {
					nexts(t, "other ones", l, on(u, v), []int{20, 21, 22, 23, 24, 25, 26, 27}[:n], n)
					nexts(t, "those of the layout", l, on(v, u), slices.Concat(all, all)[:min(n, 2*len(all))], n)
				}
			}
		}
		for _, n := range numbers() {
			nexts(t, "any sequencer", l, nil, nil, n)
			nexts(t, "any unit dropped", l, on(n), on(19, 18, 17, 16), 3)
			nexts(t, "any fresh unit", l, all[:1], on(n, 29, 28, 27), 3)
		}
	}
}

// P9.1, P9.3: any valid layout, of which some units are dropped, also most of them, and with enough fresh units or some too few.
func TestNextAny(t *testing.T) {
	s := stir(97)
	times := map[api.Errno]int{}
	for range 40000 {
		l := s.layout()
		all := layout.Units(l)
		drop := on()
		for range s.below(1 + s.below(6)) {
			drop = append(drop, all[s.below(len(all))])
		}
		fresh := s.units(s.below(20))
		if s.below(2) == 0 {
			fresh = slices.DeleteFunc(s.units(32), func(u int) bool { return slices.Contains(all, u) })
		}
		_, e := nexts(t, "any", l, drop, fresh, s.below(32))
		times[e]++
	}
	for _, e := range []api.Errno{api.OK, api.ErrChain, api.ErrArg, api.ErrLayout} {
		if times[e] < 500 {
			t.Errorf("%d: only %d times", e, times[e])
		}
	}
}

// P9.1: layouts that follow each other, till there is no room for another epoch.
func TestNextAgain(t *testing.T) {
	l := lay(api.MaxEpoch-40, 0, seg(0, on(0, 1, 2), on(3, 4)), seg(5, on(0, 1, 2), on(8)))
	for i := range 40 {
		oldest := l.Segments[0].Chains[0][0]
		next, e := nexts(t, "again", l, on(oldest), on(10+i%20), i%32)
		if e != api.OK || next.Epoch != l.Epoch+1 || next.Sequencer != i%32 || next.Segments[0].Chains[0][2] != 10+i%20 {
			t.Fatalf("%d: %s, %d", i, tell(next), e)
		}
		l = next
	}
	if next, e := layout.Next(l, nil, nil, 0); l.Epoch != api.MaxEpoch || e != api.ErrLayout {
		t.Errorf("%s: %s, %d", tell(l), tell(next), e)
	}
}

// P1: very long lists of units that are dropped, and of fresh ones.
func TestNextOfMany(t *testing.T) {
	long := make([]int, 1<<16)
	for i := range long {
		long[i] = 100 + i
	}
	long[len(long)-1] = 5
	next, e := layout.Next(given(), long, append(on(9), long...), 2)
	if want := lay(5, 2, seg(0, on(1, 2), on(3)), seg(10, on(1, 9))); e != api.OK || !alike(next, want) {
		t.Errorf("%s, %d", tell(next), e)
	}
}

// P2, rule 4: the following layout doesn't change with what went in, nor that with the following layout; the same arguments have the same answer again.
func TestNextIsApart(t *testing.T) {
	for _, l := range some() {
		for _, drop := range [][]int{nil, layout.Units(l)[:1], on(2)} {
			fresh := on(18, 17, 19, 16)
			want, w := follows(l, drop, fresh, 6)
			x, d, f := lent(l), lentUnits(drop), lentUnits(fresh)
			first, e := layout.Next(x, d, f, 6)
			second, again := layout.Next(x, d, f, 6)
			if e != w || again != w || !alike(second, want) {
				t.Fatalf("%s: %s, %d, then %s, %d", tell(l), tell(first), e, tell(second), again)
			}
			spoil(second)
			kept(t, "Next", x, l)
			keptUnits(t, "Next", d, drop)
			keptUnits(t, "Next", f, fresh)
			spoil(x)
			spoilUnits(d)
			spoilUnits(f)
			if !alike(first, want) {
				t.Errorf("%s: the following layout changed: %s, want %s", tell(l), tell(first), tell(want))
			}
		}
	}
}
