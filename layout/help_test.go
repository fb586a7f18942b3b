package layout_test

import (
	"bytes"
	"math"
	"slices"
	"strconv"
	"strings"
	"testing"

	"rotulet/api"
	"rotulet/layout"
)

// lay is a layout of segments.
func lay(epoch uint64, sequencer int, segments ...api.Segment) api.Layout {
	return api.Layout{Epoch: epoch, Sequencer: sequencer, Segments: segments}
}

// seg is a segment of chains.
func seg(from uint64, chains ...[]int) api.Segment { return api.Segment{From: from, Chains: chains} }

// on is a chain.
func on(units ...int) []int { return units }

// given is a layout with a bit of all: two segments, chains of different lengths, a unit in both segments.
func given() api.Layout { return lay(4, 2, seg(0, on(1, 2), on(3)), seg(10, on(5, 1))) }

// widest is the layout with as much of all as there may be.
func widest() api.Layout {
	l := lay(api.MaxEpoch, 31)
	for i, from := range []uint64{0, 1, 524288, api.MaxAddress - 1} {
		s := seg(from)
		for c := range 4 {
			s.Chains = append(s.Chains, on(31-4*c-i, 30-4*c-i, 29-4*c-i, 28-4*c-i))
		}
		l.Segments = append(l.Segments, s)
	}
	return l
}

// The reference spells fields as texts of digits, so that it shares no shift or mask with what it checks.

// spell tells a number in n digits, the highest one first.
func spell(v uint64, n int) string {
	digits := make([]byte, n)
	for i := n - 1; i >= 0; i-- {
		digits[i] = '0' + byte(v%2)
		v /= 2
	}
	return string(digits)
}

// value is the number that digits tell.
func value(digits string) uint64 {
	var v uint64
	for _, d := range digits {
		v = v*2 + uint64(d-'0')
	}
	return v
}

// bytesOf are the bytes that digits tell, filled up with 0; spaces between them are for the eye.
func bytesOf(digits string) []byte {
	digits = strings.ReplaceAll(digits, " ", "")
	for len(digits)%8 != 0 {
		digits += "0"
	}
	b := []byte{}
	for i := 0; i < len(digits); i += 8 {
		b = append(b, byte(value(digits[i:i+8])))
	}
	return b
}

// digitsOf tells the bits of bytes.
func digitsOf(b []byte) string {
	var s strings.Builder
	for _, x := range b {
		s.WriteString(spell(uint64(x), 8))
	}
	return s.String()
}

// tell writes a layout as a text that is the same for nil and empty lists, and for nothing else.
func tell(l api.Layout) string {
	s := "epoch " + strconv.FormatUint(l.Epoch, 10) + ", sequencer " + strconv.Itoa(l.Sequencer)
	for _, x := range l.Segments {
		s += "; " + strconv.FormatUint(x.From, 10) + ":"
		for _, c := range x.Chains {
			s += " " + units(c)
		}
	}
	return s
}

// units writes a chain.
func units(c []int) string {
	s := "("
	for i, u := range c {
		if i > 0 {
			s += " "
		}
		s += strconv.Itoa(u)
	}
	return s + ")"
}

// alike tells whether two layouts have the same fields.
func alike(a, b api.Layout) bool { return tell(a) == tell(b) }

// valid holds a layout against the chapter's words, one word after the other.
func valid(l api.Layout) bool {
	if l.Epoch == 0 || l.Epoch > 1048576 || l.Sequencer < 0 || l.Sequencer > 31 || len(l.Segments) == 0 || len(l.Segments) > 4 {
		return false
	}
	for i, s := range l.Segments {
		first := i == 0 && s.From == 0
		later := i > 0 && s.From > l.Segments[max(i, 1)-1].From && s.From < 1048576
		if !first && !later || len(s.Chains) == 0 || len(s.Chains) > 4 {
			return false
		}
		times := map[int]int{}
		for _, c := range s.Chains {
			if len(c) == 0 || len(c) > 4 {
				return false
			}
			for _, u := range c {
				times[u]++
				if times[u] > 1 || u < 0 || u > 31 {
					return false
				}
			}
		}
	}
	return true
}

// spelled is the encoding of a valid layout.
func spelled(l api.Layout) []byte {
	digits := spell(l.Epoch, 21) + spell(uint64(l.Sequencer), 5) + spell(uint64(len(l.Segments)-1), 2)
	for _, s := range l.Segments {
		digits += spell(s.From, 20) + spell(uint64(len(s.Chains)-1), 2)
		for _, c := range s.Chains {
			digits += spell(uint64(len(c)-1), 2)
			for _, u := range c {
				digits += spell(uint64(u), 5)
			}
		}
	}
	return bytesOf(digits)
}

// read is the valid layout that bytes stand for; false if there is none.
func read(b []byte) (api.Layout, bool) {
	digits, short := digitsOf(b), false
	take := func(n int) uint64 {
		if n > len(digits) {
			digits, short = "", true
			return 0
		}
		v := value(digits[:n])
		digits = digits[n:]
		return v
	}
	l := lay(take(21), int(take(5)))
	for range take(2) + 1 {
		s := seg(take(20))
		for range take(2) + 1 {
			c := on()
			for range take(2) + 1 {
				c = append(c, int(take(5)))
			}
			s.Chains = append(s.Chains, c)
		}
		l.Segments = append(l.Segments, s)
	}
	return l, !short && len(digits) < 8 && !strings.Contains(digits, "1") && valid(l)
}

// stored is the chain of an address, and the index of its segment, by going down all addresses from it to a From; nil and -1 if there is none.
func stored(l api.Layout, a uint64) ([]int, int) {
	if !valid(l) || a >= 1048576 {
		return nil, -1
	}
	i := len(l.Segments) - 1
	for l.Segments[i].From > a {
		i--
	}
	s := l.Segments[i]
	at := 0
	for range a - s.From {
		if at++; at == len(s.Chains) {
			at = 0
		}
	}
	return s.Chains[at], i
}

// holds has a layout checked, encoded and, if it is valid, decoded, and holds all that against the reference.
func holds(t *testing.T, what string, l api.Layout) {
	t.Helper()
	want := valid(l)
	if got := layout.Right(l); got != want {
		t.Fatalf("%s: Right(%s): %v, want %v", what, tell(l), got, want)
	}
	b, e := layout.Encode(l)
	if !want {
		if e != api.ErrLayout || len(b) != 0 {
			t.Fatalf("%s: Encode(%s): %x, %d, want ErrLayout", what, tell(l), b, e)
		}
		return
	}
	if e != api.OK || !bytes.Equal(b, spelled(l)) {
		t.Fatalf("%s: Encode(%s): %x, %d, want %x", what, tell(l), b, e, spelled(l))
	}
	if x, e := layout.Decode(b); e != api.OK || !alike(x, l) {
		t.Fatalf("%s: Decode(%x): %s, %d, want %s", what, b, tell(x), e, tell(l))
	}
}

// reads has bytes decoded, and holds the layout against the reference, and its encoding against the bytes.
func reads(t *testing.T, what string, b []byte) {
	t.Helper()
	want, is := read(b)
	l, e := layout.Decode(b)
	if !is {
		if e != api.ErrLayout || !alike(l, api.Layout{}) {
			t.Fatalf("%s: Decode(%x): %s, %d, want ErrLayout", what, b, tell(l), e)
		}
		return
	}
	if e != api.OK || !alike(l, want) || !layout.Right(l) {
		t.Fatalf("%s: Decode(%x): %s, %d, want %s", what, b, tell(l), e, tell(want))
	}
	if again, e := layout.Encode(l); e != api.OK || !bytes.Equal(again, b) {
		t.Fatalf("%s: Encode of what %x says: %x, %d", what, b, again, e)
	}
}

// some are valid layouts.
func some() []api.Layout {
	return []api.Layout{
		lay(1, 0, seg(0, on(0))), lay(1, 31, seg(0, on(31))), lay(api.MaxEpoch-1, 7, seg(0, on(31, 0, 30, 1))), given(), widest(),
		lay(2, 1, seg(0, on(1), on(2), on(3), on(4))), lay(2, 1, seg(0, on(1)), seg(1, on(1)), seg(2, on(1)), seg(3, on(1))),
		lay(77, 3, seg(0, on(1, 2), on(3, 4)), seg(6, on(3, 4), on(1, 2), on(5)), seg(1000, on(2, 1))),
		lay(9, 9, seg(0, on(9)), seg(api.MaxAddress-1, on(9), on(8))),
	}
}

// wrong are layouts that are not valid, each with what is wrong about it.
func wrong() map[string]api.Layout {
	one := seg(0, on(0))
	l := map[string]api.Layout{
		"empty":                             {},
		"empty slices":                      {Segments: []api.Segment{}},
		"no segments":                       lay(1, 0),
		"five segments":                     lay(1, 0, one, seg(1, on(0)), seg(2, on(0)), seg(3, on(0)), seg(4, on(0))),
		"the first From isn't 0":            lay(1, 0, seg(1, on(0))),
		"nor of two":                        lay(1, 0, seg(1, on(0)), seg(2, on(0))),
		"the first From is the greatest":    lay(1, 0, seg(math.MaxUint64, on(0))),
		"the first From is MaxAddress":      lay(1, 0, seg(api.MaxAddress, on(0))),
		"the first two are 0":               lay(1, 0, one, one),
		"Froms are equal":                   lay(1, 0, one, seg(5, on(0)), seg(5, on(0))),
		"Froms decrease":                    lay(1, 0, one, seg(5, on(0)), seg(4, on(0))),
		"a From isn't above the one before": lay(1, 0, one, seg(5, on(0)), seg(9, on(0)), seg(7, on(0))),
		"0 comes last":                      lay(1, 0, one, seg(5, on(0)), seg(0, on(0))),
		"a From is MaxAddress":              lay(1, 0, one, seg(api.MaxAddress, on(0))),
		"a From is MaxAddress + 1":          lay(1, 0, one, seg(api.MaxAddress+1, on(0))),
		"a From is the greatest":            lay(1, 0, one, seg(math.MaxUint64, on(0))),
		"the greatest, and then 0":          lay(1, 0, one, seg(math.MaxUint64, on(0)), seg(0, on(0))),
		"a From is 2^32":                    lay(1, 0, one, seg(1<<32, on(0))),
		"no chains":                         lay(1, 0, seg(0)),
		"no chains, an empty slice":         lay(1, 0, api.Segment{Chains: [][]int{}}),
		"no chains in the last segment":     lay(1, 0, one, seg(4)),
		"five chains":                       lay(1, 0, seg(0, on(0), on(1), on(2), on(3), on(4))),
		"five chains in the last segment":   lay(1, 0, one, seg(9, on(0), on(1), on(2), on(3), on(4))),
		"a nil chain":                       lay(1, 0, seg(0, nil)),
		"an empty chain":                    lay(1, 0, seg(0, on())),
		"an empty chain behind":             lay(1, 0, seg(0, on(1), on())),
		"an empty chain ahead":              lay(1, 0, seg(0, on(), on(1))),
		"an empty chain, later":             lay(1, 0, one, seg(4, on(1), nil)),
		"five units":                        lay(1, 0, seg(0, on(0, 1, 2, 3, 4))),
		"five units behind":                 lay(1, 0, seg(0, on(9), on(0, 1, 2, 3, 4))),
		"33 units":                          lay(1, 0, seg(0, make([]int, 33))),
		"unit -1":                           lay(1, 0, seg(0, on(-1))),
		"unit -1 behind":                    lay(1, 0, seg(0, on(3, -1))),
		"unit 32":                           lay(1, 0, seg(0, on(32))),
		"unit 32 behind":                    lay(1, 0, one, seg(4, on(0), on(1, 32))),
		"unit 2^32 + 1":                     lay(1, 0, seg(0, on(1<<32+1))),
		"the least unit":                    lay(1, 0, seg(0, on(math.MinInt))),
		"the greatest unit":                 lay(1, 0, seg(0, on(math.MaxInt))),
		"a unit twice in a chain":           lay(1, 0, seg(0, on(4, 4))),
		"a unit twice, not in a row":        lay(1, 0, seg(0, on(4, 5, 4))),
		"a unit in two chains":              lay(1, 0, seg(0, on(4, 5), on(6, 4))),
		"unit 0 in two chains":              lay(1, 0, seg(0, on(0), on(1), on(0))),
		"unit 31 in two chains":             lay(1, 0, seg(0, on(31, 1), on(2, 31))),
		"a unit twice in the last segment":  lay(1, 0, one, seg(3, on(1)), seg(4, on(2), on(3), on(4, 2))),
		"equal chains in one segment":       lay(1, 0, seg(0, on(1, 2), on(1, 2))),
		"epoch 0":                           lay(0, 0, one),
		"epoch MaxEpoch + 1":                lay(api.MaxEpoch+1, 0, one),
		"epoch 2^21":                        lay(1<<21, 0, one),
		"epoch 2^21 + 1":                    lay(1<<21+1, 0, one),
		"epoch 2^32 + 1":                    lay(1<<32+1, 0, one),
		"the greatest epoch":                lay(math.MaxUint64, 0, one),
		"sequencer -1":                      lay(1, -1, one),
		"sequencer 32":                      lay(1, 32, one),
		"sequencer 64":                      lay(1, 64, one),
		"sequencer 2^32":                    lay(1, 1<<32, one),
		"the least sequencer":               lay(1, math.MinInt, one),
		"the greatest sequencer":            lay(1, math.MaxInt, one),
	}
	long := api.Layout{Epoch: 1, Segments: []api.Segment{one}}
	for i := range 99 {
		long.Segments = append(long.Segments, seg(uint64(i+1), on(0)))
	}
	l["a hundred segments"] = long
	return l
}

// addresses are those at the edges of a layout's segments, and behind all addresses.
func addresses(l api.Layout) []uint64 {
	list := []uint64{0, 1, 2, 3, 4, 5, 6, 7, 8, 9, 11, 12, 13, 4000, 524287, api.MaxAddress - 2, api.MaxAddress - 1, api.MaxAddress, api.MaxAddress + 1, 1 << 21, 1 << 32, 1<<32 + 1, math.MaxUint64 - 1, math.MaxUint64}
	for _, s := range l.Segments {
		for i := range uint64(7) {
			list = append(list, s.From+i-3)
		}
	}
	return list
}

// numbers are those that a unit or a sequencer may be tried with.
func numbers() []int {
	list := []int{math.MinInt, math.MinInt + 1, math.MinInt32, -32, 63, 64, 256, 1 << 32, 1<<32 + 1, math.MaxInt - 1, math.MaxInt}
	for n := -2; n <= 34; n++ {
		list = append(list, n)
	}
	return list
}

// stir is a row of numbers without a plain pattern, the same in each run.
type stir uint64

func (s *stir) next() uint64 {
	*s = *s*6364136223846793005 + 1442695040888963407
	x := uint64(*s)
	return x ^ x>>29 ^ x<<17
}

func (s *stir) below(n int) int { return int(s.next() >> 8 % uint64(n)) }

// units are n of all that there are, in any order, none twice.
func (s *stir) units(n int) []int {
	list := []int{}
	for len(list) < n {
		if u := s.below(32); !slices.Contains(list, u) {
			list = append(list, u)
		}
	}
	return list
}

// chains are those of a segment, all units of which are different.
func (s *stir) chains() [][]int {
	list := [][]int{}
	all := s.units(16)
	for range 1 + s.below(4) {
		n := 1 + s.below(4)
		list = append(list, slices.Clone(all[:n]))
		all = all[n:]
	}
	return list
}

// layout is any valid one; its segments may share chains, or all of them.
func (s *stir) layout() api.Layout {
	l := lay(uint64(1+s.below(1<<20-1)), s.below(32))
	froms := []uint64{0, uint64(1 + s.below(9)), uint64(20 + s.below(900)), uint64(1000 + s.below(1<<19))}
	for _, from := range froms[:1+s.below(4)] {
		x := seg(from, s.chains()...)
		if n := len(l.Segments); n > 0 && s.below(2) == 0 {
			x.Chains = copyOf(l.Segments[s.below(n)])
			x.Chains = x.Chains[s.below(len(x.Chains)):]
			slices.Reverse(x.Chains[:s.below(len(x.Chains)+1)])
		}
		l.Segments = append(l.Segments, x)
	}
	return l
}

// copyOf are a segment's chains in memory of their own.
func copyOf(s api.Segment) [][]int {
	var list [][]int
	for _, c := range s.Chains {
		list = append(list, slices.Clone(c))
	}
	return list
}

// lent is a copy of a layout in which each list has memory behind its end.
func lent(l api.Layout) api.Layout {
	segments := make([]api.Segment, len(l.Segments), len(l.Segments)+2)
	for i, s := range l.Segments {
		segments[i] = seg(s.From, lentChains(s.Chains)...)
	}
	segments[:len(segments)+1][len(segments)] = seg(77, on(7))
	l.Segments = segments
	return l
}

// lentChains are copies of chains with memory behind the end of each, and of their list.
func lentChains(chains [][]int) [][]int {
	list := make([][]int, len(chains), len(chains)+2)
	for i, c := range chains {
		list[i] = lentUnits(c)
	}
	list[:len(list)+1][len(list)] = on(66)
	return list
}

// lentUnits is a copy of units with memory behind their end.
func lentUnits(c []int) []int { return append(slices.Clone(c), 55, 55, 55, 55, 55)[:len(c)] }

// kept holds a layout that was lent against what it was, behind the ends as well.
func kept(t *testing.T, what string, given, was api.Layout) {
	t.Helper()
	n := len(given.Segments)
	if !alike(given, was) || tell(lay(0, 0, given.Segments[:n+1][n])) != tell(lay(0, 0, seg(77, on(7)))) {
		t.Fatalf("%s: the layout was changed: %s, was %s", what, tell(given), tell(was))
	}
	for i, s := range given.Segments {
		keptChains(t, what, s.Chains, was.Segments[i].Chains)
	}
}

// keptChains holds chains that were lent against what they were, behind the ends as well.
func keptChains(t *testing.T, what string, given, was [][]int) {
	t.Helper()
	n := len(given)
	if len(was) != n || units(given[:n+1][n]) != "(66)" {
		t.Fatalf("%s: the chains were changed: %v, were %v", what, given[:n+1], was)
	}
	for i, c := range given {
		keptUnits(t, what, c, was[i])
	}
}

// keptUnits holds units that were lent against what they were, behind the end as well.
func keptUnits(t *testing.T, what string, given, was []int) {
	t.Helper()
	n := len(given)
	if !slices.Equal(given, was) || !slices.Equal(given[:n+5][n:], on(55, 55, 55, 55, 55)) {
		t.Fatalf("%s: the units were changed: %v, were %v", what, given[:n+5], was)
	}
}

// total is the sum of all units.
func total(l api.Layout) int {
	n := 0
	for _, s := range l.Segments {
		for _, c := range s.Chains {
			for _, u := range c {
				n += u
			}
		}
	}
	return n
}

// apart holds that no two lists of a layout share memory: what is written into one, or behind its end, is there once.
func apart(t *testing.T, what string, l api.Layout) {
	t.Helper()
	was, sum := tell(l), total(l)
	for _, s := range l.Segments {
		for j, c := range s.Chains {
			for k := range c {
				c[k] += 1000
				if total(l) != sum+1000 {
					t.Fatalf("%s: a unit is there twice: %s, was %s", what, tell(l), was)
				}
				c[k] -= 1000
			}
			_ = append(c, 1000)
			s.Chains[j] = append(on(1000), c...)
			if total(l) != sum+1000 {
				t.Fatalf("%s: a chain is there twice: %s, was %s", what, tell(l), was)
			}
			s.Chains[j] = c
		}
		_ = append(s.Chains, on(1000))
	}
	if tell(l) != was {
		t.Fatalf("%s: two lists share memory: %s, was %s", what, tell(l), was)
	}
}

// spoil writes over all of a layout, and behind the ends of its lists.
func spoil(l api.Layout) {
	for _, s := range l.Segments {
		for _, c := range s.Chains {
			spoilUnits(c)
		}
		_ = append(s.Chains, on(1234))
		clear(s.Chains)
	}
	_ = append(l.Segments, seg(1234))
	clear(l.Segments)
}

// spoilUnits writes over units, and behind their end.
func spoilUnits(c []int) {
	_ = append(c, 1234)
	for k := range c {
		c[k] = 1234
	}
}
