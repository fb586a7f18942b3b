package runs_test

import (
	"slices"
	"testing"

	"rotulet/runs"
)

// P5.3: sets that share no number, some, and all, worked out by hand.
func TestMeetJoinByHand(t *testing.T) {
	for _, x := range []struct {
		what             string
		a, b, meet, join []runs.Run
	}{
		{"none at all", nil, nil, nil, nil},
		{"one is empty", []runs.Run{{3, 5}}, nil, nil, []runs.Run{{3, 5}}},
		{"apart", []runs.Run{{1, 3}, {20, 22}}, []runs.Run{{5, 8}, {30, 31}}, nil, []runs.Run{{1, 3}, {5, 8}, {20, 22}, {30, 31}}},
		{"one number between", []runs.Run{{1, 3}}, []runs.Run{{4, 8}}, nil, []runs.Run{{1, 3}, {4, 8}}},
		{"touching", []runs.Run{{1, 3}, {8, 9}}, []runs.Run{{3, 8}}, nil, []runs.Run{{1, 9}}},
		{"some", []runs.Run{{1, 10}, {20, 30}}, []runs.Run{{5, 25}}, []runs.Run{{5, 10}, {20, 25}}, []runs.Run{{1, 30}}},
		{"one within", []runs.Run{{1, 10}}, []runs.Run{{2, 3}, {5, 6}, {9, 10}}, []runs.Run{{2, 3}, {5, 6}, {9, 10}}, []runs.Run{{1, 10}}},
		{"all", []runs.Run{{1, 4}, {6, 8}}, []runs.Run{{1, 4}, {6, 8}}, []runs.Run{{1, 4}, {6, 8}}, []runs.Run{{1, 4}, {6, 8}}},
		{"chained", []runs.Run{{0, 4}, {8, 12}, {16, 20}}, []runs.Run{{3, 9}, {11, 17}}, []runs.Run{{3, 4}, {8, 9}, {11, 12}, {16, 17}}, []runs.Run{{0, 20}}},
		{"all numbers", []runs.Run{{0, most}}, []runs.Run{{0, 1}, {most - 1, most}}, []runs.Run{{0, 1}, {most - 1, most}}, []runs.Run{{0, most}}},
		{"both halves", []runs.Run{{0, 1 << 63}}, []runs.Run{{1 << 63, most}}, nil, []runs.Run{{0, most}}},
	} {
		a, b := of(t, x.a...), of(t, x.b...)
		has(t, x.what+": Meet", runs.Meet(a, b), x.meet...)
		has(t, x.what+": Meet, turned round", runs.Meet(b, a), x.meet...)
		has(t, x.what+": Join", runs.Join(a, b), x.join...)
		has(t, x.what+": Join, turned round", runs.Join(b, a), x.join...)
		has(t, x.what+": the first argument", a, x.a...)
		has(t, x.what+": the second argument", b, x.b...)
	}
}

// P5.2, P5.3: all pairs of sets of a few numbers at both ends and amid all numbers.
func TestMeetJoinEveryPair(t *testing.T) {
	for _, cuts := range places(4) {
		all := 1 << (len(cuts) - 1)
		for x := range all {
			for y := range all {
				a, b := chosen(cuts, x), chosen(cuts, y)
				s, o := a.made(), b.made()
				chosen(cuts, x&y).same(t, "Meet", runs.Meet(s, o))
				chosen(cuts, x|y).same(t, "Join", runs.Join(s, o))
				a.same(t, "the first argument", s)
				b.same(t, "the second argument", o)
			}
		}
	}
}

// P5.3: sets of many runs.
func TestMeetJoinMany(t *testing.T) {
	cuts := append(from(0, 400), most)
	for seed := range 20 {
		r := stir(70 + seed)
		a, b, meet, join := lineOf(cuts), lineOf(cuts), lineOf(cuts), lineOf(cuts)
		for i := range a.in {
			a.in[i], b.in[i] = r.below(3) > 0, r.below(seed%4+2) > 0
			meet.in[i], join.in[i] = a.in[i] && b.in[i], a.in[i] || b.in[i]
		}
		s, o := a.made(), b.made()
		meet.same(t, "Meet", runs.Meet(s, o))
		join.same(t, "Join", runs.Join(s, o))
	}
}

// P5.1 (S2): a nil set counts as empty, on either side and on both; the answer is a set of its own.
func TestMeetJoinNil(t *testing.T) {
	l := []runs.Run{{2, 4}, {7, 9}}
	s := of(t, l...)
	for what, x := range map[string]struct {
		got  *runs.Set
		want []runs.Run
	}{
		"Meet(s, nil)":   {runs.Meet(s, nil), nil},
		"Meet(nil, s)":   {runs.Meet(nil, s), nil},
		"Meet(nil, nil)": {runs.Meet(nil, nil), nil},
		"Join(s, nil)":   {runs.Join(s, nil), l},
		"Join(nil, s)":   {runs.Join(nil, s), l},
		"Join(nil, nil)": {runs.Join(nil, nil), nil},
	} {
		if x.got == nil {
			t.Fatalf("%s is nil", what)
		}
		has(t, what, x.got, x.want...)
		if n := x.got.Add(runs.Run{From: 50, To: 60}); n != 10 {
			t.Errorf("%s: Add: %d", what, n)
		}
		has(t, what+": its argument", s, l...)
	}
}

// P5.3: a set and itself; neither the answer nor the arguments change each other later.
func TestMeetJoinApart(t *testing.T) {
	l := []runs.Run{{2, 4}, {7, 9}, {11, 15}}
	for _, both := range []func(a, b *runs.Set) *runs.Set{runs.Meet, runs.Join} {
		s := of(t, l...)
		x := both(s, s)
		has(t, "with itself", x, l...)
		if x == s {
			t.Error("the answer is the argument")
		}
		x.Drop(runs.Run{From: 7, To: 9})
		x.Add(runs.Run{From: 0, To: 1})
		has(t, "the answer changed", s, l...)
		s.Drop(runs.Run{From: 0, To: 100})
		has(t, "the argument changed", x, runs.Run{From: 0, To: 1}, l[0], l[2])

		a, b := of(t, l...), of(t, l...)
		y := both(a, b)
		a.Drop(runs.Run{From: 3, To: 12})
		b.Add(runs.Run{From: 3, To: 12})
		has(t, "both arguments changed", y, l...)
		has(t, "the first one", a, runs.Run{From: 2, To: 3}, runs.Run{From: 12, To: 15})
		has(t, "the second one", b, runs.Run{From: 2, To: 15})
	}
}

// P5.1: a copy has the same numbers, and neither set changes the other one later.
func TestCopy(t *testing.T) {
	for bits := range 1 << 6 {
		l := chosen(append(from(0, 5), most), bits)
		s := l.made()
		c := s.Copy()
		if c == nil || c == s {
			t.Fatalf("Copy: %p of %p", c, s)
		}
		l.same(t, "the copy", c)
		other := l.copy()
		for i := range 5 {
			l.act(t, "the set", s, i, i+1, bits>>i&1 == 0)
			other.same(t, "the copy, when the set changed", c)
			other.act(t, "the copy", c, 4-i, 6-i, bits>>i&1 == 1)
			l.same(t, "the set, when the copy changed", s)
		}
	}
}

// P5.1: the list that Runs returns, and the one that Of was given, and the set do not change one another later (rule 4).
func TestListsApart(t *testing.T) {
	whole := []runs.Run{{2, 4}, {7, 9}, {11, 15}, {20, 21}}
	given := slices.Clone(whole)
	s := of(t, given[:3]...)
	has(t, "what lies behind the length", s, whole[:3]...)
	given[1] = runs.Run{From: 0, To: most}
	has(t, "the given list changed", s, whole[:3]...)
	told := s.Runs()
	told[0].To = 100
	told = append(told[:1], runs.Run{From: 50, To: 51})
	has(t, "the told list changed", s, whole[:3]...)

	told = s.Runs()
	given = slices.Clone(whole)
	s = of(t, given...)
	s.Add(runs.Run{From: 4, To: 7})
	s.Drop(runs.Run{From: 12, To: 13})
	s.Add(runs.Run{From: 100, To: 101})
	if !slices.Equal(told, whole[:3]) || !slices.Equal(given, whole) {
		t.Errorf("the set changed: told %v, given %v", told, given)
	}
	given = append(slices.Clone(whole), whole...)
	s, _ = runs.Of(given[:4])
	s.Add(runs.Run{From: 90, To: 91})
	if !slices.Equal(given, append(slices.Clone(whole), whole...)) {
		t.Errorf("the set grew: given %v", given)
	}
}

// P5.1: the lists that Runs returns twice share nothing (rule 4).
func TestRunsTwice(t *testing.T) {
	s := of(t, runs.Run{From: 1, To: 2}, runs.Run{From: 3, To: 4})
	a, b := s.Runs(), s.Runs()
	a[0], a[1] = a[1], a[0]
	if !slices.Equal(b, []runs.Run{{1, 2}, {3, 4}}) {
		t.Errorf("the second list: %v", b)
	}
}
