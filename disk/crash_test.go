package disk_test

import (
	"slices"
	"strconv"
	"testing"

	"rotulet/api"
	"rotulet/disk"
)

// worn is a disk of 6 sectors with flushed bytes on 4 of them, of which 2 and 4 are dirty, as is 5, which was never flushed; 1 was not written at all.
func worn(t *testing.T) (*disk.Disk, *history) {
	t.Helper()
	d, h := fresh(t, 6)
	for _, i := range []int{0, 2, 3, 4} {
		h.write(t, d, i, filled(byte(10+i)))
	}
	h.flush(t, d)
	for _, i := range []int{5, 2, 4, 5} {
		h.write(t, d, i, filled(byte(20+i)))
	}
	return d, h
}

// bytesOf are the first bytes of all sectors.
func bytesOf(d *disk.Disk) []int {
	var l []int
	for i := range d.Len() {
		s, _ := d.Read(i)
		l = append(l, int(s[0]))
	}
	return l
}

// P4.1 (D2): crashes worked out by hand: keep nil, empty, shorter, as long as there are dirty sectors, and longer.
func TestCrashByHand(t *testing.T) {
	for _, x := range []struct {
		keep []bool
		want []int
	}{
		{nil, []int{10, 0, 12, 13, 14, 0}},
		{[]bool{}, []int{10, 0, 12, 13, 14, 0}},
		{[]bool{false}, []int{10, 0, 12, 13, 14, 0}},
		{[]bool{true}, []int{10, 0, 22, 13, 14, 0}},
		{[]bool{false, true}, []int{10, 0, 12, 13, 24, 0}},
		{[]bool{true, false, true}, []int{10, 0, 22, 13, 14, 25}},
		{[]bool{false, false, true}, []int{10, 0, 12, 13, 14, 25}},
		{[]bool{true, true, true}, []int{10, 0, 22, 13, 24, 25}},
		{[]bool{false, false, false, true, true, true, true}, []int{10, 0, 12, 13, 14, 0}},
		{[]bool{true, true, true, true, true, true, true}, []int{10, 0, 22, 13, 24, 25}},
		{append(make([]bool, 5000), true), []int{10, 0, 12, 13, 14, 0}},
	} {
		d, _ := worn(t)
		if l := bytesOf(d.Crash(x.keep)); !slices.Equal(l, x.want) {
			t.Errorf("Crash(%v): %v, want %v", x.keep[:min(len(x.keep), 8)], l, x.want)
		}
	}
}

// P4.1 (D2): a crash of a clean disk, new or flushed, whatever keep is.
func TestCrashOfClean(t *testing.T) {
	for _, n := range []int{1, 6, api.MaxSectors} {
		for _, keep := range [][]bool{nil, {true}, trues(n), trues(2 * n)} {
			d, h := fresh(t, n)
			x, left := h.crash(t, d, keep)
			left.same(t, "of a new disk", x)
			h.write(t, d, n-1, filled(5))
			h.flush(t, d)
			x, left = h.crash(t, d, keep)
			left.same(t, "of a flushed disk", x)
			h.same(t, "the disk itself", d)
		}
	}
}

// P4.2: all that a crash may leave of 5 dirty sectors among 9, keep being shorter, as long, and longer: each has its new or its old bytes as keep tells, and what is clean stays.
func TestAllCrashes(t *testing.T) {
	d, h := fresh(t, 9)
	for i := range 9 {
		h.write(t, d, i, filled(byte(i+1)))
	}
	h.flush(t, d)
	for _, i := range []int{8, 1, 6, 3, 2} {
		h.write(t, d, i, filled(byte(i+101)))
	}
	for n := range 8 {
		for _, keep := range choices(n) {
			what := "keep " + strconv.Itoa(n)
			x, left := h.crash(t, d, keep)
			left.same(t, what, x)
			h.same(t, what+": the disk itself", d)
		}
	}
}

// P4.2: all dirty sectors of the greatest disk, every second of which is kept.
func TestCrashOfGreatest(t *testing.T) {
	d, h := fresh(t, api.MaxSectors)
	r := stir(3)
	for range 2 {
		for i := range api.MaxSectors {
			h.write(t, d, i, r.sector())
		}
		keep := r.keep(api.MaxSectors)
		x, left := h.crash(t, d, keep)
		left.same(t, "crash", x)
		h.same(t, "the disk itself", d)
		h.flush(t, d)
	}
}

// P4.1 (D2): the new disk has as many sectors, and none is dirty, also of those that were kept.
func TestNoneDirty(t *testing.T) {
	for _, keep := range [][]bool{nil, {true}, trues(3), trues(6)} {
		d, _ := worn(t)
		x := d.Crash(keep)
		if l := x.Dirty(); len(l) != 0 || x.Len() != 6 {
			t.Errorf("Crash(%v): %d sectors, dirty: %v", keep, x.Len(), l)
		}
		// What was kept is safe: a second crash does not lose it.
		if l := bytesOf(x.Crash(nil)); !slices.Equal(l, bytesOf(x)) {
			t.Errorf("Crash(%v), and once more: %v, want %v", keep, l, bytesOf(x))
		}
	}
}

// P4.1 (D2): neither disk changes the other one later, by writes, by flushes or by crashes.
func TestApart(t *testing.T) {
	for _, keep := range choices(3) {
		d, h := worn(t)
		x, left := h.crash(t, d, keep)
		for i := range 6 {
			left.write(t, x, i, filled(byte(50+i)))
			h.same(t, "the new disk was written", d)
		}
		left.flush(t, x)
		h.same(t, "the new disk was flushed", d)
		for i := range 6 {
			h.write(t, d, i, filled(byte(70+i)))
			left.same(t, "the disk was written", x)
		}
		h.flush(t, d)
		left.same(t, "the disk was flushed", x)
		left.write(t, x, 1, filled(90))
		h.same(t, "the new disk was written again", d)
		left.same(t, "the new disk, written again", x)
	}
}

// P4.1 (D2): two crashes of one disk leave two disks.
func TestTwoCrashes(t *testing.T) {
	d, h := worn(t)
	x, first := h.crash(t, d, []bool{true})
	y, second := h.crash(t, d, []bool{true})
	first.write(t, x, 3, filled(91))
	first.flush(t, x)
	second.same(t, "the other one was written", y)
	first.same(t, "written", x)
	h.same(t, "the disk itself", d)
}

// P4.1 (D2): the list that is handed in stays, is not kept, and is not read behind its length (rule 4).
func TestKeepStays(t *testing.T) {
	d, h := worn(t)
	all := []bool{false, true, true, true}
	x, left := h.crash(t, d, all[:1])
	left.same(t, "keep with more behind", x)
	if !slices.Equal(all, []bool{false, true, true, true}) {
		t.Errorf("keep was changed: %v", all)
	}
	all[0] = true
	left.same(t, "keep changes later", x)
	h.same(t, "keep changes later: the disk itself", d)
}

// P4.1, P4.2: scripts of writes, reads, flushes and crashes; behind each act all sectors, and which are dirty.
func TestScripts(t *testing.T) {
	for seed := range 60 {
		script(t, stir(1000+seed), []int{1, 2, 3, 7, 16, 40}[seed%6])
	}
}

// script does 60 acts, and goes on with the disk that a crash left.
func script(t *testing.T, r stir, sectors int) {
	t.Helper()
	d, h := fresh(t, sectors)
	var past *disk.Disk
	var before *history
	for step := range 60 {
		what := strconv.Itoa(sectors) + " sectors, step " + strconv.Itoa(step)
		switch n := r.below(20); {
		case n < 12:
			h.write(t, d, r.below(sectors), r.sector())
		case n < 14:
			i := r.below(sectors)
			s, _ := d.Read(i)
			h.write(t, d, i, s)
		case n < 17:
			h.flush(t, d)
		default:
			past, before = d, h
			d, h = h.crash(t, d, r.keep(r.below(sectors+3)))
		}
		h.same(t, what, d)
		if past != nil {
			before.same(t, what+": before the crash", past)
		}
	}
}
