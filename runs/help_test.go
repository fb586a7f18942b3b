package runs_test

import (
	"slices"
	"testing"

	"rotulet/runs"
)

// most is the number that is in no set.
const most = uint64(1<<64 - 1)

// line is the reference: the numbers are divided at fixed cuts, and what lies between a cut and the next one is in as a whole, or not. It knows of no run till it is asked.
type line struct {
	cuts []uint64
	in   []bool
}

// lineOf has these cuts, and nothing is in.
func lineOf(cuts []uint64) *line { return &line{cuts: cuts, in: make([]bool, len(cuts)-1)} }

func (l *line) copy() *line { return &line{cuts: l.cuts, in: slices.Clone(l.in)} }

// set puts in, or takes out, all from one cut to another one, and is how many numbers that changed.
func (l *line) set(from, to int, in bool) uint64 {
	var changed uint64
	for i := from; i < to; i++ {
		if l.in[i] != in {
			l.in[i] = in
			changed += l.cuts[i+1] - l.cuts[i]
		}
	}
	return changed
}

func (l *line) runs() []runs.Run {
	var found []runs.Run
	for i, in := range l.in {
		switch {
		case !in:
		case i > 0 && l.in[i-1]:
			found[len(found)-1].To = l.cuts[i+1]
		default:
			found = append(found, runs.Run{From: l.cuts[i], To: l.cuts[i+1]})
		}
	}
	return found
}

func (l *line) count() uint64 {
	var n uint64
	for i, in := range l.in {
		if in {
			n += l.cuts[i+1] - l.cuts[i]
		}
	}
	return n
}

// place is between which cut and the next one n lies; behind all of them for the greatest number.
func (l *line) place(n uint64) int {
	i := 0
	for i < len(l.in) && l.cuts[i+1] <= n {
		i++
	}
	return i
}

func (l *line) has(n uint64) bool { return n < most && l.in[l.place(n)] }

// after is the first number from n on that is in, or is not; false if there is none.
func (l *line) after(n uint64, in bool) (uint64, bool) {
	for i := l.place(n); i < len(l.in); i++ {
		if l.in[i] == in {
			return max(n, l.cuts[i]), true
		}
	}
	return 0, false
}

// probes are numbers at each cut, beside it, and amid what follows it.
func (l *line) probes() []uint64 {
	var p []uint64
	for i, c := range l.cuts {
		p = append(p, c)
		if c > 0 {
			p = append(p, c-1)
		}
		if c < most {
			p = append(p, c+1, c+(l.cuts[i+1]-c)/2)
		}
	}
	return p
}

// same holds all that a set tells against the reference.
func (l *line) same(t *testing.T, what string, s *runs.Set) {
	t.Helper()
	want := l.runs()
	if got := s.Runs(); !slices.Equal(got, want) {
		t.Fatalf("%s: Runs: %v, want %v", what, got, want)
	}
	if n := s.Count(); n != l.count() {
		t.Fatalf("%s: %v: Count: %d, want %d", what, want, n, l.count())
	}
	for _, n := range l.probes() {
		if got := s.Has(n); got != l.has(n) {
			t.Fatalf("%s: %v: Has(%d): %v", what, want, n, got)
		}
		next, is := l.after(n, true)
		if got, ok := s.Next(n); got != next || ok != is {
			t.Fatalf("%s: %v: Next(%d): %d, %v, want %d, %v", what, want, n, got, ok, next, is)
		}
		gap, is := l.after(n, false)
		if !is {
			gap = most
		}
		if got := s.Gap(n); got != gap {
			t.Fatalf("%s: %v: Gap(%d): %d, want %d", what, want, n, got, gap)
		}
	}
}

// act puts a run in, or takes it out, between two cuts, in the set and in the reference; the first cut may be the same as the second one, or greater.
func (l *line) act(t *testing.T, what string, s *runs.Set, from, to int, in bool) {
	t.Helper()
	r := runs.Run{From: l.cuts[from], To: l.cuts[to]}
	want := l.set(from, to, in)
	var got uint64
	if in {
		got = s.Add(r)
	} else {
		got = s.Drop(r)
	}
	if got != want {
		t.Fatalf("%s: run %v (in: %v): %d, want %d", what, r, in, got, want)
	}
	l.same(t, what, s)
}

// made is a set of what is in, put in number by number, or piece by piece, from behind.
func (l *line) made() *runs.Set {
	s := runs.New()
	for i := len(l.in) - 1; i >= 0; i-- {
		if l.in[i] {
			s.Add(runs.Run{From: l.cuts[i], To: l.cuts[i+1]})
		}
	}
	return s
}

// chosen is a line in which the bits of a number say what is in.
func chosen(cuts []uint64, bits int) *line {
	l := lineOf(cuts)
	for i := range l.in {
		l.in[i] = bits>>i&1 == 1
	}
	return l
}

// from are n + 1 cuts side by side, from a number on.
func from(first uint64, n int) []uint64 {
	var cuts []uint64
	for i := range n + 1 {
		cuts = append(cuts, first+uint64(i))
	}
	return cuts
}

// wide are cuts side by side at both ends and in the middle, with much between.
func wide() []uint64 {
	return slices.Concat(from(0, 9), from(1<<32-1, 2), from(1<<63-2, 4), from(most-9, 9))
}

// places are cuts of a few numbers: the least ones, some amid all of them, and the greatest ones, with all others before and behind.
func places(n int) [][]uint64 {
	return [][]uint64{
		append(from(0, n), most),
		slices.Concat([]uint64{0}, from(1<<63-2, n), []uint64{most}),
		append([]uint64{0}, from(most-uint64(n), n)...),
	}
}

// of is the set of runs, which must be such.
func of(t *testing.T, l ...runs.Run) *runs.Set {
	t.Helper()
	s, ok := runs.Of(l)
	if s == nil || !ok {
		t.Fatalf("Of(%v): %v, %v", l, s, ok)
	}
	return s
}

// has holds the runs of a set against those wanted.
func has(t *testing.T, what string, s *runs.Set, want ...runs.Run) {
	t.Helper()
	if got := s.Runs(); !slices.Equal(got, want) {
		t.Errorf("%s: %v, want %v", what, got, want)
	}
}

// stir is a row of numbers without a plain pattern, the same in each run.
type stir uint64

func (s *stir) next() uint64 {
	*s = *s*6364136223846793005 + 1442695040888963407
	x := uint64(*s)
	return x ^ x>>29 ^ x<<17
}

func (s *stir) below(n int) int { return int(s.next() >> 8 % uint64(n)) }
