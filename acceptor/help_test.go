package acceptor_test

import (
	"bytes"
	"slices"
	"testing"

	"rotulet/acceptor"
	"rotulet/api"
	"rotulet/disk"
	"rotulet/layout"
	"rotulet/tape"
)

func ballot(round, client int) api.Ballot { return api.Ballot{Round: round, Client: client} }

func seg(from uint64, chains ...[]int) api.Segment { return api.Segment{From: from, Chains: chains} }

func lay(epoch uint64, sequencer int, segments ...api.Segment) api.Layout {
	return api.Layout{Epoch: epoch, Sequencer: sequencer, Segments: segments}
}

// small is a layout with one unit, whose encoding has 8 bytes.
func small(epoch uint64, unit int) api.Layout { return lay(epoch, 0, seg(0, []int{unit})) }

// great is the layout with the longest encoding: 59 bytes.
func great(epoch uint64) api.Layout {
	l := lay(epoch, 31)
	for i := range 4 {
		n := 4 * i
		l.Segments = append(l.Segments, seg(uint64(1000*i), []int{n, n + 1, n + 2, n + 3}, []int{n + 4, n + 5, n + 6, n + 7}, []int{n + 8, n + 9, n + 10, n + 11}, []int{n + 12, n + 13, n + 14, n + 15}))
	}
	return l
}

// some are valid layouts of an epoch.
func some(epoch uint64) []api.Layout {
	return []api.Layout{
		small(epoch, 4), small(epoch, 31), lay(epoch, 31, seg(0, []int{4})), lay(epoch, 2, seg(0, []int{3, 1, 2})),
		lay(epoch, 1, seg(0, []int{1, 2}, []int{3, 4})), lay(epoch, 0, seg(0, []int{1}), seg(1, []int{1})),
		lay(epoch, 0, seg(0, []int{1, 2}), seg(9, []int{5}, []int{1}), seg(api.MaxAddress-1, []int{0})), great(epoch),
	}
}

// wrong are layouts of an epoch that are not valid.
func wrong(epoch uint64) []api.Layout {
	one := []int{4}
	return []api.Layout{
		{}, lay(epoch, 0), lay(epoch, -1, seg(0, one)), lay(epoch, 32, seg(0, one)), lay(epoch, 0, seg(1, one)), lay(epoch, 0, seg(0)), lay(epoch, 0, seg(0, nil)),
		lay(epoch, 0, seg(0, one), seg(0, one)), lay(epoch, 0, seg(0, one), seg(9, one), seg(8, one)), lay(epoch, 0, seg(0, one), seg(api.MaxAddress, one)), lay(epoch, 0, seg(0, one), seg(api.None, one)),
		lay(epoch, 0, seg(0, one), seg(1, one), seg(2, one), seg(3, one), seg(4, one)), lay(epoch, 0, seg(0, one), seg(5)),
		lay(epoch, 0, seg(0, []int{1}, []int{2}, []int{3}, []int{4}, []int{5})), lay(epoch, 0, seg(0, []int{1, 2, 3, 4, 5})), lay(epoch, 0, seg(0, one, []int{})),
		small(epoch, -1), small(epoch, 32), lay(epoch, 0, seg(0, []int{4, 4})), lay(epoch, 0, seg(0, []int{4, 5}, []int{6, 4})),
	}
}

// noEpochs are numbers that are no epochs.
func noEpochs() []uint64 {
	return []uint64{0, 1048577, 1048578, 2097151, 2097152, 2097153, 1<<32 + 1, 1 << 63, api.None - 1, api.None}
}

// noBallots are ballots that are not valid, and the one that means none.
func noBallots() []api.Ballot {
	return []api.Ballot{ballot(0, 0), ballot(-1, 0), ballot(-1, 1), ballot(1, -1), ballot(0, -1), ballot(0, 4), ballot(1, 4), ballot(65535, 4), ballot(65536, 0), ballot(65536, 3), ballot(131073, 1), ballot(1<<32+1, 1), ballot(1, 1<<32+1), ballot(-1<<63, 0), ballot(1<<63-1, 1<<63-1)}
}

// copyOf is a layout in memory of its own, with more memory behind the end of its lists.
func copyOf(l api.Layout) api.Layout {
	l.Segments = append(slices.Clone(l.Segments), seg(7, []int{7}))[:len(l.Segments)]
	for i, s := range l.Segments {
		chains := append(slices.Clone(s.Chains), []int{7})[:len(s.Chains)]
		for k, c := range chains {
			chains[k] = append(slices.Clone(c), 77)[:len(c)]
		}
		l.Segments[i].Chains = chains
	}
	return l
}

// untouched tells whether a copy that was handed in is still like the layout, and so is what lies behind the end of its lists.
func untouched(given, was api.Layout) bool {
	n := len(given.Segments)
	behind := given.Segments[:n+1][n]
	ok := layout.Same(given, was) && behind.From == 7 && len(behind.Chains) == 1
	for _, s := range given.Segments {
		k := len(s.Chains)
		ok = ok && slices.Equal(s.Chains[:k+1][k], []int{7})
		for _, c := range s.Chains {
			ok = ok && c[:len(c)+1][len(c)] == 77
		}
	}
	return ok
}

// spoil changes whatever a layout has in its lists.
func spoil(l api.Layout) {
	for i, s := range l.Segments {
		for k, c := range s.Chains {
			for j := range c {
				c[j] ^= 21
			}
			_ = append(c, 99)
			s.Chains[k] = nil
		}
		_ = append(s.Chains, nil)
		l.Segments[i] = seg(12345)
	}
	_ = append(l.Segments, seg(99))
}

// alike tells whether two states are the same.
func alike(a, b acceptor.State) bool {
	return a.Promised == b.Promised && a.Accepted == b.Accepted && layout.Same(a.Layout, b.Layout)
}

// rig is an acceptor, its disk, and the reference, to all of which everything is done.
type rig struct {
	t *testing.T
	d *disk.Disk
	x *acceptor.Acceptor
	m *model
}

// fresh is the acceptor on a new disk.
func fresh(t *testing.T, sectors int) *rig {
	t.Helper()
	d, e := disk.New(sectors)
	if e != api.OK {
		t.Fatalf("disk.New(%d): %d", sectors, e)
	}
	return opened(t, "new", d, &model{size: (sectors - 1) / 2 * 64})
}

// opened is the acceptor on a disk, which is to be like m.
func opened(t *testing.T, what string, d *disk.Disk, m *model) *rig {
	t.Helper()
	x, e := acceptor.Open(d)
	if x == nil || e != api.OK {
		t.Fatalf("%s: Open: %p, %d", what, x, e)
	}
	r := &rig{t: t, d: d, x: x, m: m}
	r.same(what + ": opened")
	return r
}

// ask calls the function of an act.
func ask(x *acceptor.Acceptor, c act, given api.Layout) (acceptor.State, api.Errno) {
	if c.accept {
		return x.Accept(c.epoch, c.ballot, given)
	}
	return x.Prepare(c.epoch, c.ballot)
}

// do takes an act; the layout that is handed in is spoilt as soon as the call is over, and so is the one that is handed out.
func (r *rig) do(c act) api.Errno {
	r.t.Helper()
	before, was := image(r.d), *r.m
	given := copyOf(c.layout)
	s, e := ask(r.x, c, given)
	if !untouched(given, c.layout) {
		r.t.Fatalf("%s: the layout was changed", c.name())
	}
	spoil(given)
	if want, wrong := r.m.try(c); e != wrong || !alike(s, want) {
		r.t.Fatalf("%s: %v, %d, want %v, %d", c.name(), s, e, want, wrong)
	}
	spoil(s.Layout)
	changed := r.m.half != was.half || len(r.m.tape) != len(was.tape)
	if !changed && !bytes.Equal(before, image(r.d)) {
		r.t.Fatalf("%s: %d, and the disk was changed", c.name(), e)
	}
	r.same(c.name())
	return e
}

// all takes acts none of which is refused.
func (r *rig) all(l ...act) {
	r.t.Helper()
	for i, c := range l {
		if e := r.do(c); e != api.OK {
			r.t.Fatalf("%d: %s: %d", i, c.name(), e)
		}
	}
}

// same holds all that can be asked for against the reference, and so what is there behind a crash and without one.
func (r *rig) same(what string) {
	r.t.Helper()
	holds(r.t, what, r.x, r.m)
	// Once more, as what the first calls handed out is spoilt.
	holds(r.t, what+", once more", r.x, r.m)
	if l := r.d.Dirty(); len(l) != 0 {
		r.t.Fatalf("%s: dirty: %v", what, l)
	}
	left := r.d.Crash(nil)
	records(r.t, what, left, r.m)
	for _, d := range []*disk.Disk{r.d, left} {
		x, e := acceptor.Open(d)
		if x == nil || e != api.OK {
			r.t.Fatalf("%s: Open again: %d", what, e)
		}
		holds(r.t, what+", opened again", x, r.m)
	}
}

// holds holds what an acceptor tells against the reference, and spoils what it hands out.
func holds(t *testing.T, what string, x *acceptor.Acceptor, m *model) {
	t.Helper()
	epochs := x.Epochs()
	if want := m.epochs(); !slices.Equal(epochs, want) {
		t.Fatalf("%s: Epochs: %v, want %v", what, epochs, want)
	}
	for i := range epochs {
		epochs[i] = 99
	}
	_ = append(epochs, 99)
	for _, epoch := range asked(m) {
		want, wrong := m.state(epoch), api.OK
		if epoch < 1 || epoch > 1048576 {
			wrong = api.ErrArg
		}
		s, e := x.Learn(epoch)
		if e != wrong || !alike(s, want) {
			t.Fatalf("%s: Learn(%d): %v, %d, want %v, %d", what, epoch, s, e, want, wrong)
		}
		spoil(s.Layout)
	}
}

// asked are the epochs of which something was heard, those beside them, the least and the greatest one, and some that are none.
func asked(m *model) []uint64 {
	l := append(noEpochs(), 1, 2, 3, 1048575, 1048576)
	for _, epoch := range m.epochs() {
		l = append(l, epoch-1, epoch, epoch+1)
	}
	slices.Sort(l)
	return slices.Compact(l)
}

// records holds what stands on a disk's tape against the reference, and in which half.
func records(t *testing.T, what string, d *disk.Disk, m *model) {
	t.Helper()
	x, e := tape.Open(d)
	if e != api.OK || x.Len() != len(m.tape) {
		t.Fatalf("%s: %d, %d records, want %d", what, e, x.Len(), len(m.tape))
	}
	for i, want := range m.tape {
		if b, _ := x.Read(i); !bytes.Equal(b, want) {
			t.Fatalf("%s: record %d: %x, want %x", what, i, b, want)
		}
	}
	if s, _ := d.Read(0); int(s[0]) != m.half {
		t.Fatalf("%s: half %d, want %d", what, s[0], m.half)
	}
}

// image are the bytes of all sectors.
func image(d *disk.Disk) []byte {
	var b []byte
	for i := range d.Len() {
		s, _ := d.Read(i)
		b = append(b, s[:]...)
	}
	return b
}

// laid is a disk whose tape has these records.
func laid(t *testing.T, sectors int, l ...[]byte) *disk.Disk {
	t.Helper()
	d, _ := disk.New(sectors)
	x, e := tape.Open(d)
	if e != api.OK {
		t.Fatalf("tape.Open: %d", e)
	}
	for i, b := range l {
		if e := x.Append(b); e != api.OK {
			t.Fatalf("record %d, %x: %d", i, b, e)
		}
	}
	if e := x.Commit(); e != api.OK {
		t.Fatalf("Commit: %d", e)
	}
	return d
}

// recordsOf are those that say acts.
func recordsOf(l ...act) [][]byte {
	var b [][]byte
	for _, c := range l {
		b = append(b, c.bytes())
	}
	return b
}

// stir is a row of numbers without a plain pattern, the same in each run.
type stir uint64

func (s *stir) next() uint64 {
	*s = *s*6364136223846793005 + 1442695040888963407
	x := uint64(*s)
	return x ^ x>>29 ^ x<<17
}

func (s *stir) below(n int) int { return int(s.next() >> 8 % uint64(n)) }

// epoch is one of a few.
func (s *stir) epoch() uint64 { return []uint64{1, 2, 3, 9, 1048575, 1048576}[s.below(6)] }

// act is any act, also such as are refused, in one of a few epochs, with one of a few ballots.
func (s *stir) act() act {
	epoch, b := s.epoch(), ballot(s.below(6), s.below(4))
	if s.below(60) == 0 {
		b.Round = 65535 - s.below(2)
	}
	if s.below(30) == 0 {
		b = noBallots()[s.below(len(noBallots()))]
	}
	if s.below(30) == 0 {
		epoch = noEpochs()[s.below(len(noEpochs()))]
	}
	switch n := s.below(20); {
	case n < 9:
		return prepare(epoch, b)
	case n < 18:
		return accept(epoch, b, some(epoch)[s.below(len(some(epoch)))])
	case n == 18:
		return accept(epoch, b, wrong(epoch)[s.below(len(wrong(epoch)))])
	default:
		return accept(epoch, b, small(s.epoch(), s.below(32)))
	}
}
