package runs_test

import (
	"slices"
	"testing"

	"rotulet/runs"
)

// P5.1, P5.3: a script that was worked out by hand: behind each act the runs, how many numbers there are, and what is told of some of them.
func TestByHand(t *testing.T) {
	s := runs.New()
	for _, x := range []struct {
		what     string
		drop     bool
		from, to uint64
		changed  uint64
		runs     []runs.Run
		count    uint64
	}{
		{"the first one", false, 10, 20, 10, []runs.Run{{10, 20}}, 10},
		{"twice", false, 10, 20, 0, []runs.Run{{10, 20}}, 10},
		{"within it", false, 12, 15, 0, []runs.Run{{10, 20}}, 10},
		{"one number left between", false, 21, 23, 2, []runs.Run{{10, 20}, {21, 23}}, 12},
		{"one number left between, below", false, 5, 9, 4, []runs.Run{{5, 9}, {10, 20}, {21, 23}}, 16},
		{"that number", false, 20, 21, 1, []runs.Run{{5, 9}, {10, 23}}, 17},
		{"touching from above", false, 23, 25, 2, []runs.Run{{5, 9}, {10, 25}}, 19},
		{"touching from below", false, 3, 5, 2, []runs.Run{{3, 9}, {10, 25}}, 21},
		{"overlapping above", false, 24, 30, 5, []runs.Run{{3, 9}, {10, 30}}, 26},
		{"overlapping below", false, 1, 4, 2, []runs.Run{{1, 9}, {10, 30}}, 28},
		{"out of the middle", true, 14, 16, 2, []runs.Run{{1, 9}, {10, 14}, {16, 30}}, 26},
		{"out once more", true, 14, 16, 0, []runs.Run{{1, 9}, {10, 14}, {16, 30}}, 26},
		{"one number out", true, 20, 21, 1, []runs.Run{{1, 9}, {10, 14}, {16, 20}, {21, 30}}, 25},
		{"the end of one, and the beginning of another", true, 13, 17, 2, []runs.Run{{1, 9}, {10, 13}, {17, 20}, {21, 30}}, 23},
		{"a whole one, and nothing beside", true, 9, 17, 3, []runs.Run{{1, 9}, {17, 20}, {21, 30}}, 20},
		{"its To is its From, in", false, 12, 12, 0, []runs.Run{{1, 9}, {17, 20}, {21, 30}}, 20},
		{"its To is its From, out", true, 18, 18, 0, []runs.Run{{1, 9}, {17, 20}, {21, 30}}, 20},
		{"its To is less, in", false, 16, 9, 0, []runs.Run{{1, 9}, {17, 20}, {21, 30}}, 20},
		{"its To is less, out", true, 25, 5, 0, []runs.Run{{1, 9}, {17, 20}, {21, 30}}, 20},
		{"over several", false, 5, 25, 9, []runs.Run{{1, 30}}, 29},
		{"more than there is, out", true, 0, 100, 29, nil, 0},
	} {
		r := runs.Run{From: x.from, To: x.to}
		act := s.Add
		if x.drop {
			act = s.Drop
		}
		if n := act(r); n != x.changed {
			t.Errorf("%s: %d, want %d", x.what, n, x.changed)
		}
		has(t, x.what, s, x.runs...)
		if n := s.Count(); n != x.count {
			t.Errorf("%s: Count: %d, want %d", x.what, n, x.count)
		}
	}
}

// P5.1: numbers in a run, at its edges, below all runs, between two and above all.
func TestAskedByHand(t *testing.T) {
	s := of(t, runs.Run{From: 4, To: 6}, runs.Run{From: 7, To: 8}, runs.Run{From: 100, To: 200})
	for _, x := range []struct {
		n    uint64
		in   bool
		next uint64
		is   bool
		gap  uint64
	}{
		{0, false, 4, true, 0}, {3, false, 4, true, 3}, {4, true, 4, true, 6}, {5, true, 5, true, 6}, {6, false, 7, true, 6}, {7, true, 7, true, 8},
		{8, false, 100, true, 8}, {50, false, 100, true, 50}, {99, false, 100, true, 99}, {100, true, 100, true, 200}, {150, true, 150, true, 200},
		{199, true, 199, true, 200}, {200, false, 0, false, 200}, {most - 1, false, 0, false, most - 1}, {most, false, 0, false, most},
	} {
		if in := s.Has(x.n); in != x.in {
			t.Errorf("Has(%d): %v", x.n, in)
		}
		if next, is := s.Next(x.n); next != x.next || is != x.is {
			t.Errorf("Next(%d): %d, %v, want %d, %v", x.n, next, is, x.next, x.is)
		}
		if gap := s.Gap(x.n); gap != x.gap {
			t.Errorf("Gap(%d): %d, want %d", x.n, gap, x.gap)
		}
	}
}

// P5.1: the least number of a set, the greatest one, and the one above it, which is in none, and at which a run may end.
func TestEnds(t *testing.T) {
	s := runs.New()
	if n := s.Add(runs.Run{From: 0, To: 1}); n != 1 {
		t.Errorf("Add of 0: %d", n)
	}
	if n := s.Add(runs.Run{From: most - 1, To: most}); n != 1 {
		t.Errorf("Add of the greatest number: %d", n)
	}
	if n := s.Add(runs.Run{From: most, To: most}) + s.Add(runs.Run{From: most, To: 0}); n != 0 {
		t.Errorf("Add of runs from the end on: %d", n)
	}
	has(t, "both ends", s, runs.Run{From: 0, To: 1}, runs.Run{From: most - 1, To: most})
	if s.Count() != 2 || !s.Has(0) || s.Has(1) || s.Has(most-2) || !s.Has(most-1) || s.Has(most) {
		t.Errorf("both ends: Count: %d, or Has", s.Count())
	}
	if n, is := s.Next(1); n != most-1 || !is {
		t.Errorf("Next(1): %d, %v", n, is)
	}
	if n, is := s.Next(most); n != 0 || is {
		t.Errorf("Next at the end: %d, %v", n, is)
	}
	if s.Gap(0) != 1 || s.Gap(most-1) != most || s.Gap(most) != most {
		t.Errorf("Gap: %d, %d, %d", s.Gap(0), s.Gap(most-1), s.Gap(most))
	}
	if n := s.Drop(runs.Run{From: most - 1, To: most}) + s.Drop(runs.Run{From: 0, To: 1}); n != 2 || s.Count() != 0 {
		t.Errorf("Drop of both ends: %d, left: %d", n, s.Count())
	}
}

// P5.1: the set of all numbers: what it tells, and what is taken out of it.
func TestAllNumbers(t *testing.T) {
	all := runs.Run{From: 0, To: most}
	s := runs.New()
	if n := s.Add(all); n != most {
		t.Errorf("Add of all: %d", n)
	}
	if n := s.Add(all); n != 0 {
		t.Errorf("Add of all, twice: %d", n)
	}
	if s.Count() != most || s.Has(most) {
		t.Errorf("Count: %d, Has at the end: %v", s.Count(), s.Has(most))
	}
	for _, n := range []uint64{0, 1, 1 << 63, most - 1} {
		next, is := s.Next(n)
		if !s.Has(n) || next != n || !is || s.Gap(n) != most {
			t.Errorf("%d: Has: %v, Next: %d, %v, Gap: %d", n, s.Has(n), next, is, s.Gap(n))
		}
	}
	if n := s.Drop(runs.Run{From: 1 << 63, To: 1<<63 + 1}); n != 1 || s.Count() != most-1 {
		t.Errorf("Drop of one: %d, left: %d", n, s.Count())
	}
	has(t, "all but one", s, runs.Run{From: 0, To: 1 << 63}, runs.Run{From: 1<<63 + 1, To: most})
	if n := s.Add(all); n != 1 {
		t.Errorf("Add of the missing one: %d", n)
	}
	has(t, "all again", s, all)
	if n := s.Drop(all); n != most || s.Count() != 0 {
		t.Errorf("Drop of all: %d, left: %d", n, s.Count())
	}
}

// P5.1, P5.2, P5.3: every set of a few numbers at both ends and amid all numbers, and every run there put in and taken out: runs that touch, overlap, lie in one another, are empty, or end before they begin.
func TestEverySmallSet(t *testing.T) {
	for _, cuts := range places(5) {
		for bits := range 1 << (len(cuts) - 1) {
			for from := range cuts {
				for to := range cuts {
					l := chosen(cuts, bits)
					l.act(t, "Add", l.made(), from, to, true)
					l = chosen(cuts, bits)
					l.act(t, "Drop", l.made(), from, to, false)
				}
			}
		}
	}
}

// P5.1, P5.2, P5.3: scripts of runs that are put in and taken out, anywhere.
func TestScripts(t *testing.T) {
	for seed := range 50 {
		r := stir(300 + seed)
		cuts := wide()
		if seed%3 == 0 {
			cuts = append(from(0, 60), most)
		}
		l, s := lineOf(cuts), runs.New()
		for range 80 {
			at := r.below(len(cuts))
			to := min(at+r.below(7), len(cuts)-1)
			if r.below(8) == 0 {
				to = r.below(len(cuts))
			}
			l.act(t, "script", s, at, to, r.below(2) == 0)
		}
	}
}

// P5.2: Of the runs of a set is the set.
func TestOfItsRuns(t *testing.T) {
	for _, cuts := range places(6) {
		for bits := range 1 << (len(cuts) - 1) {
			l := chosen(cuts, bits)
			l.same(t, "Of", of(t, l.made().Runs()...))
		}
	}
}

// P5.1, P5.2: a list of runs that begin and end at cuts is taken exactly if it is in order, and nothing in it is empty, or touches.
func TestOfEveryList(t *testing.T) {
	cuts := slices.Concat(from(0, 2), from(most-2, 2))
	for a := range cuts {
		for b := range cuts {
			for c := range cuts {
				for d := range cuts {
					l := []runs.Run{{From: cuts[a], To: cuts[b]}, {From: cuts[c], To: cuts[d]}}
					s, ok := runs.Of(l)
					if want := a < b && b < c && c < d; ok != want || (s != nil) != want {
						t.Fatalf("Of(%v): %v, %v", l, s, ok)
					} else if want {
						has(t, "Of", s, l...)
					}
				}
			}
		}
	}
}

// P5.1: lists that Of takes: none, one run, and several, with one number between.
func TestOf(t *testing.T) {
	for _, l := range [][]runs.Run{nil, {}, {{0, 1}}, {{0, most}}, {{most - 1, most}}, {{1, 3}, {4, 5}}, {{0, 1}, {2, 3}, {4, 5}, {most - 1, most}}} {
		has(t, "Of", of(t, l...), l...)
	}
}

// P5.1, wrong inputs: lists that are not the runs of a set.
func TestOfRefuses(t *testing.T) {
	for what, l := range map[string][]runs.Run{
		"empty":                 {{2, 2}},
		"empty, 0":              {{0, 0}},
		"empty, at the end":     {{most, most}},
		"ends before it begins": {{3, 2}},
		"empty behind others":   {{1, 2}, {4, 6}, {8, 8}},
		"empty ahead":           {{0, 0}, {4, 6}},
		"empty between":         {{1, 2}, {4, 4}, {8, 9}},
		"turned round, between": {{1, 2}, {5, 4}, {8, 9}},
		"touching":              {{1, 3}, {3, 4}},
		"touching at the end":   {{1, 3}, {6, most - 1}, {most - 1, most}},
		"overlapping":           {{1, 4}, {3, 6}},
		"in one another":        {{1, 9}, {3, 6}},
		"twice":                 {{1, 2}, {1, 2}},
		"out of order":          {{5, 6}, {1, 2}},
		"out of order, later":   {{1, 2}, {7, 8}, {4, 5}},
		"the same From":         {{1, 2}, {1, 4}},
	} {
		if s, ok := runs.Of(l); s != nil || ok {
			t.Errorf("%s: Of(%v): %v, %v", what, l, s, ok)
		}
	}
}

// P5.1: what a new set tells; what is put into one new set is not in another one; a Set that was never made is as good as a new one.
func TestNew(t *testing.T) {
	one, other := runs.New(), runs.New()
	one.Add(runs.Run{From: 3, To: 5})
	empty := lineOf([]uint64{0, 1, 3, 5, most - 1, most})
	empty.same(t, "New", other)
	empty.same(t, "a zero Set", &runs.Set{})
	has(t, "put in", one, runs.Run{From: 3, To: 5})
	if n := other.Drop(runs.Run{From: 0, To: most}); n != 0 {
		t.Errorf("Drop out of the empty set: %d", n)
	}
}

// P2: the same acts on two sets, whatever is done to a third one, tell the same, and so does a call that is made again.
func TestSameCalls(t *testing.T) {
	a, b, third := runs.New(), runs.New(), runs.New()
	r := stir(9)
	for range 500 {
		x := runs.Run{From: uint64(r.below(100)), To: uint64(r.below(100))}
		act := (*runs.Set).Add
		if r.below(2) == 0 {
			act = (*runs.Set).Drop
		}
		if n, m := act(a, x), act(b, x); n != m {
			t.Fatalf("%v: %d, %d", x, n, m)
		}
		act(third, runs.Run{From: x.From / 2, To: x.To})
		if !slices.Equal(a.Runs(), b.Runs()) || !slices.Equal(a.Runs(), a.Runs()) || a.Count() != b.Count() {
			t.Fatalf("%v, %v", a.Runs(), b.Runs())
		}
	}
}

// P5.1 (S2), P1: a nil set.
func TestNilSet(t *testing.T) {
	var s *runs.Set
	for _, r := range []runs.Run{{}, {0, 1}, {5, 3}, {0, most}, {most, most}} {
		if n, m := s.Add(r), s.Drop(r); n != 0 || m != 0 {
			t.Errorf("Add(%v): %d, Drop: %d", r, n, m)
		}
	}
	for _, n := range []uint64{0, 1, 1 << 63, most - 1, most} {
		next, is := s.Next(n)
		if s.Has(n) || next != 0 || is || s.Gap(n) != n {
			t.Errorf("%d: Has: %v, Next: %d, %v, Gap: %d", n, s.Has(n), next, is, s.Gap(n))
		}
	}
	if len(s.Runs()) != 0 || s.Count() != 0 || s.Copy() != nil {
		t.Errorf("Runs: %v, Count: %d, Copy: %v", s.Runs(), s.Count(), s.Copy())
	}
}
