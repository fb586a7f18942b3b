package disk_test

import (
	"slices"
	"testing"

	"rotulet/api"
	"rotulet/disk"
)

// history is all that was done to a disk. The reference keeps no sector: it looks up in the history, from behind, what each one is to have.
type history struct {
	sectors int
	acts    []act
}

// act is a write, or a flush.
type act struct {
	flush bool
	at    int
	s     disk.Sector
}

// fresh is a new disk, and its history.
func fresh(t *testing.T, sectors int) (*disk.Disk, *history) {
	t.Helper()
	d, e := disk.New(sectors)
	if d == nil || e != api.OK {
		t.Fatalf("New(%d): %v, %d", sectors, d, e)
	}
	return d, &history{sectors: sectors}
}

// write writes to the disk and to the history.
func (h *history) write(t *testing.T, d *disk.Disk, i int, s disk.Sector) {
	t.Helper()
	if e := d.Write(i, s); e != api.OK {
		t.Fatalf("Write(%d): %d", i, e)
	}
	h.acts = append(h.acts, act{at: i, s: s})
}

// flush flushes the disk, and notes it.
func (h *history) flush(t *testing.T, d *disk.Disk) {
	t.Helper()
	if e := d.Flush(); e != api.OK {
		t.Fatalf("Flush: %d", e)
	}
	h.acts = append(h.acts, act{flush: true})
}

// crash is the disk that a crash leaves, and a history that makes such a disk.
func (h *history) crash(t *testing.T, d *disk.Disk, keep []bool) (*disk.Disk, *history) {
	t.Helper()
	x := d.Crash(keep)
	if x == nil || x == d {
		t.Fatalf("Crash(%v): %p of %p", keep, x, d)
	}
	other := &history{sectors: h.sectors}
	for i, s := range h.left(keep) {
		other.acts = append(other.acts, act{at: i, s: s})
	}
	other.acts = append(other.acts, act{flush: true})
	return x, other
}

// lastFlush is how many acts there were up to the last flush, that one among them.
func (h *history) lastFlush() int {
	for n := len(h.acts); n > 0; n-- {
		if h.acts[n-1].flush {
			return n
		}
	}
	return 0
}

// after are the bytes of sector i after the first n acts.
func (h *history) after(n, i int) disk.Sector {
	for ; n > 0; n-- {
		if a := h.acts[n-1]; !a.flush && a.at == i {
			return a.s
		}
	}
	return disk.Sector{}
}

// latest are all sectors' new bytes, old their old ones.
func (h *history) latest() []disk.Sector { return h.all(len(h.acts)) }

func (h *history) old() []disk.Sector { return h.all(h.lastFlush()) }

func (h *history) all(n int) []disk.Sector {
	l := make([]disk.Sector, h.sectors)
	for i := range l {
		l[i] = h.after(n, i)
	}
	return l
}

// dirty are the sectors that a write names behind the last flush.
func (h *history) dirty() []int {
	var l []int
	for _, a := range h.acts[h.lastFlush():] {
		l = append(l, a.at)
	}
	slices.Sort(l)
	return slices.Compact(l)
}

// left are all sectors' bytes after a crash.
func (h *history) left(keep []bool) []disk.Sector {
	l, latest := h.old(), h.latest()
	for k, i := range h.dirty() {
		if k < len(keep) && keep[k] {
			l[i] = latest[i]
		}
	}
	return l
}

// same holds all that a disk tells against its history: the sectors, which are dirty, and, by crashes, both their old and their new bytes.
func (h *history) same(t *testing.T, what string, d *disk.Disk) {
	t.Helper()
	if d.Len() != h.sectors {
		t.Fatalf("%s: Len: %d, want %d", what, d.Len(), h.sectors)
	}
	if l := d.Dirty(); !slices.Equal(l, h.dirty()) {
		t.Fatalf("%s: Dirty: %v, want %v", what, l, h.dirty())
	}
	sectors(t, what, d, h.latest())
	lost := d.Crash(nil)
	sectors(t, what+": all lost", lost, h.old())
	kept := d.Crash(trues(h.sectors))
	sectors(t, what+": all kept", kept, h.latest())
	for _, x := range []*disk.Disk{lost, kept} {
		if l := x.Dirty(); len(l) != 0 {
			t.Fatalf("%s: dirty after a crash: %v", what, l)
		}
	}
}

// sectors holds all sectors of a disk against those wanted.
func sectors(t *testing.T, what string, d *disk.Disk, want []disk.Sector) {
	t.Helper()
	if d.Len() != len(want) {
		t.Fatalf("%s: %d sectors, want %d", what, d.Len(), len(want))
	}
	for i, w := range want {
		if s, e := d.Read(i); s != w || e != api.OK {
			t.Fatalf("%s: sector %d: %x, %d, want %x", what, i, s, e, w)
		}
	}
	refused(t, what, d)
}

// refused asks for sectors that there are not.
func refused(t *testing.T, what string, d *disk.Disk) {
	t.Helper()
	for _, i := range absent(d.Len()) {
		if s, e := d.Read(i); s != (disk.Sector{}) || e != api.ErrSector {
			t.Fatalf("%s: Read(%d) of %d: %x, %d", what, i, d.Len(), s, e)
		}
		if e := d.Write(i, filled(0xEE)); e != api.ErrSector {
			t.Fatalf("%s: Write(%d) of %d: %d", what, i, d.Len(), e)
		}
	}
}

// absent are numbers of sectors that a disk of n has not.
func absent(n int) []int {
	const most = int(^uint(0) >> 1)
	return []int{-most - 1, -1 << 32, -api.MaxSectors, -n, -2, -1, n, n + 1, 2 * n, api.MaxSectors, api.MaxSectors + 1, 1 << 32, most}
}

// filled is a sector of one byte all over.
func filled(x byte) disk.Sector {
	var s disk.Sector
	for i := range s {
		s[i] = x
	}
	return s
}

// trues is a keep that keeps n sectors.
func trues(n int) []bool { return slices.Repeat([]bool{true}, n) }

// choices are all keeps of n elements.
func choices(n int) [][]bool {
	l := [][]bool{nil}
	for range n {
		var longer [][]bool
		for _, x := range l {
			longer = append(longer, append(slices.Clone(x), false), append(slices.Clone(x), true))
		}
		l = longer
	}
	return l
}

// stir is a row of numbers without a plain pattern, the same in each run.
type stir uint64

func (s *stir) next() uint64 {
	*s = *s*6364136223846793005 + 1442695040888963407
	x := uint64(*s)
	return x ^ x>>29 ^ x<<17
}

func (s *stir) below(n int) int { return int(s.next() >> 8 % uint64(n)) }

func (s *stir) sector() disk.Sector {
	var x disk.Sector
	for i := range x {
		x[i] = byte(s.next() >> 20)
	}
	return x
}

func (s *stir) keep(n int) []bool {
	l := make([]bool, n)
	for i := range l {
		l[i] = s.below(2) == 1
	}
	return l
}
