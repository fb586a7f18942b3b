package disk_test

import (
	"bytes"
	"slices"
	"strconv"
	"testing"

	"rotulet/api"
	"rotulet/disk"
)

// P4.1 (D1): numbers of sectors: the least and the greatest, and those in which all sectors are there, 0 and clean.
func TestNew(t *testing.T) {
	for _, n := range []int{1, 2, 3, 63, 64, 65, 1023, api.MaxSectors} {
		d, h := fresh(t, n)
		if d.Len() != n {
			t.Errorf("New(%d): Len: %d", n, d.Len())
		}
		h.same(t, "New("+strconv.Itoa(n)+")", d)
	}
}

// P4.1 (D1), wrong inputs: numbers of sectors beside the limits, and far from them.
func TestNewRefuses(t *testing.T) {
	const most = int(^uint(0) >> 1)
	for _, n := range []int{0, -1, -2, -api.MaxSectors, -1 << 32, -most - 1, api.MaxSectors + 1, 2 * api.MaxSectors, 1 << 32, 1<<32 + 1, most} {
		if d, e := disk.New(n); d != nil || e != api.ErrArg {
			t.Errorf("New(%d): %p, %d", n, d, e)
		}
	}
}

// P4.1 (D1): the first and the last sector of the least and of the greatest disk.
func TestEnds(t *testing.T) {
	for _, n := range []int{1, api.MaxSectors} {
		d, h := fresh(t, n)
		h.write(t, d, 0, filled(1))
		h.same(t, "first", d)
		h.write(t, d, n-1, filled(2))
		h.same(t, "last", d)
		h.flush(t, d)
		h.same(t, "flushed", d)
		h.write(t, d, n-1, filled(3))
		h.same(t, "last once more", d)
	}
}

// P4.1 (D1): all sectors of the greatest disk dirty at once.
func TestAllDirty(t *testing.T) {
	d, h := fresh(t, api.MaxSectors)
	r := stir(5)
	for i := api.MaxSectors - 1; i >= 0; i-- {
		h.write(t, d, i, r.sector())
	}
	h.same(t, "all written", d)
	h.flush(t, d)
	h.same(t, "all flushed", d)
}

// P4.1 (D1): every byte of a sector is written and read, and is that of its own place.
func TestEveryByte(t *testing.T) {
	d, h := fresh(t, 2)
	for at := range api.SectorSize {
		var s disk.Sector
		s[at] = byte(at + 1)
		h.write(t, d, 1, s)
		h.same(t, "byte "+strconv.Itoa(at), d)
	}
	if len(disk.Sector{}) != 64 {
		t.Errorf("a sector has %d bytes", len(disk.Sector{}))
	}
}

// P4.1 (D1): a write of the bytes that the sector has makes it dirty too, of 0 on a new disk and of flushed ones; it stays so.
func TestSameBytes(t *testing.T) {
	d, h := fresh(t, 3)
	h.write(t, d, 1, disk.Sector{})
	h.same(t, "0 over 0", d)
	if !slices.Equal(d.Dirty(), []int{1}) {
		t.Errorf("Dirty: %v", d.Dirty())
	}
	h.write(t, d, 2, filled(9))
	h.flush(t, d)
	h.write(t, d, 2, filled(9))
	h.same(t, "9 over 9", d)
	if !slices.Equal(d.Dirty(), []int{2}) {
		t.Errorf("Dirty: %v", d.Dirty())
	}
	h.write(t, d, 0, filled(4))
	// Sector 2, though it would not change, takes the second place in keep.
	x, left := h.crash(t, d, []bool{false, true})
	left.same(t, "crash", x)
	if s, _ := x.Read(0); s != (disk.Sector{}) {
		t.Errorf("sector 0 was kept: %x", s)
	}
}

// P4.1 (D1): a sector that goes back to its old bytes stays dirty.
func TestBackToOldBytes(t *testing.T) {
	d, h := fresh(t, 2)
	h.write(t, d, 0, filled(1))
	h.write(t, d, 0, disk.Sector{})
	h.same(t, "back to 0", d)
	if !slices.Equal(d.Dirty(), []int{0}) {
		t.Errorf("Dirty: %v", d.Dirty())
	}
}

// P4.1, P4.2: a sector written several times between two flushes has as old bytes those of the last flush.
func TestWrittenTwice(t *testing.T) {
	d, h := fresh(t, 2)
	for round := range 3 {
		before, _ := d.Read(1)
		for k := range 4 {
			h.write(t, d, 1, filled(byte(10*round+k+1)))
			h.same(t, "written", d)
			if s, _ := d.Crash(nil).Read(1); s != before {
				t.Fatalf("round %d, write %d: old bytes %x, want %x", round, k, s, before)
			}
		}
		h.flush(t, d)
		h.same(t, "flushed", d)
	}
}

// P4.1 (D1): the dirty sectors are told in increasing order, each once, however they were written.
func TestDirtyOrder(t *testing.T) {
	for _, l := range [][]int{{0, 1, 2}, {2, 1, 0}, {9, 3, 7, 3, 0, 9}, {15, 14, 13, 12, 11, 10, 9, 8, 7, 6, 5, 4, 3, 2, 1, 0}, {10, 9, 11, 1, 2, 10}} {
		d, h := fresh(t, 16)
		for _, i := range l {
			h.write(t, d, i, filled(byte(i)))
		}
		want := slices.Clone(l)
		slices.Sort(want)
		want = slices.Compact(want)
		for range 20 {
			if got := d.Dirty(); !slices.Equal(got, want) {
				t.Fatalf("written %v: Dirty: %v, want %v", l, got, want)
			}
		}
	}
}

// P4.1 (D1): a flush of a clean disk, and one after the other.
func TestFlushTwice(t *testing.T) {
	d, h := fresh(t, 3)
	h.flush(t, d)
	h.same(t, "new and flushed", d)
	h.write(t, d, 1, filled(7))
	h.flush(t, d)
	h.flush(t, d)
	h.same(t, "flushed twice", d)
	h.write(t, d, 2, filled(8))
	h.same(t, "written behind it", d)
}

// P4.1 (D1): Fill with no bytes, fewer, as many as fit, and more.
func TestFill(t *testing.T) {
	all := make([]byte, 300)
	for i := range all {
		all[i] = byte(i%251 + 1)
	}
	if disk.Fill(nil) != (disk.Sector{}) || disk.Fill([]byte{}) != (disk.Sector{}) {
		t.Error("Fill with no bytes")
	}
	for n := range len(all) + 1 {
		s := disk.Fill(all[:n:n])
		for i, x := range s {
			if i < n && x != all[i] || i >= n && x != 0 {
				t.Fatalf("Fill with %d bytes: %x at %d", n, x, i)
			}
		}
	}
}

// P4.1 (D1), wrong inputs: sectors that there are not, on dirty and clean disks; nothing has changed behind it (rule 3).
func TestNoSector(t *testing.T) {
	for _, n := range []int{1, 2, 5, 64, api.MaxSectors} {
		d, h := fresh(t, n)
		refused(t, "new", d)
		h.same(t, "new", d)
		h.write(t, d, n-1, filled(1))
		h.flush(t, d)
		h.write(t, d, 0, filled(2))
		refused(t, "dirty", d)
		h.same(t, "dirty", d)
	}
}

// P4.1 (D2), P1: a nil disk.
func TestNilDisk(t *testing.T) {
	var d *disk.Disk
	for _, i := range []int{-1, 0, 1, api.MaxSectors} {
		if e := d.Write(i, filled(1)); e != api.ErrArg {
			t.Errorf("Write(%d): %d", i, e)
		}
		if s, e := d.Read(i); s != (disk.Sector{}) || e != api.ErrArg {
			t.Errorf("Read(%d): %x, %d", i, s, e)
		}
	}
	if e := d.Flush(); e != api.ErrArg {
		t.Errorf("Flush: %d", e)
	}
	if d.Len() != 0 || len(d.Dirty()) != 0 {
		t.Errorf("Len: %d, Dirty: %v", d.Len(), d.Dirty())
	}
	for _, keep := range [][]bool{nil, {}, {true}, trues(api.MaxSectors)} {
		if x := d.Crash(keep); x != nil {
			t.Errorf("Crash(%v): %p", keep, x)
		}
	}
}

// The arguments stay, nothing of them is kept, and the answers share no memory (rule 4).
func TestMemory(t *testing.T) {
	d, h := fresh(t, 4)
	s := filled(3)
	h.write(t, d, 1, s)
	s[0] = 99
	h.same(t, "the argument of Write changes", d)
	read, _ := d.Read(1)
	read[0] = 99
	h.same(t, "the answer of Read changes", d)
	h.write(t, d, 3, filled(4))
	l := d.Dirty()
	l[0], l[1] = 2, 0
	h.same(t, "the answer of Dirty changes", d)

	whole := []byte{1, 2, 3, 4, 5}
	f := disk.Fill(whole[:2])
	if f[2] != 0 || !bytes.Equal(whole, []byte{1, 2, 3, 4, 5}) {
		t.Errorf("Fill: %x, its argument: %v", f, whole)
	}
	whole[0] = 77
	if f[0] != 1 {
		t.Error("Fill shares memory with its argument")
	}
}

// P2: the same calls on two disks, whatever is done to a third one, answer the same, and so does a call that is made again.
func TestSameCalls(t *testing.T) {
	a, _ := fresh(t, 40)
	b, _ := fresh(t, 40)
	third, h := fresh(t, 40)
	r := stir(77)
	for range 300 {
		i, s, keep := r.below(42)-1, r.sector(), r.keep(r.below(45))
		if a.Write(i, s) != b.Write(i, s) {
			t.Fatalf("Write(%d)", i)
		}
		h.write(t, third, r.below(40), r.sector())
		if r.below(9) == 0 && (a.Flush() != api.OK || b.Flush() != api.OK) {
			t.Fatal("Flush")
		}
		if !slices.Equal(a.Dirty(), b.Dirty()) || !slices.Equal(a.Dirty(), a.Dirty()) {
			t.Fatalf("Dirty: %v, %v", a.Dirty(), b.Dirty())
		}
		for at := range 40 {
			x, _ := a.Crash(keep).Read(at)
			if y, _ := b.Crash(keep).Read(at); x != y {
				t.Fatalf("after a crash: sector %d: %x, %x", at, x, y)
			}
		}
	}
	h.same(t, "the third disk", third)
}
