package pages_test

import (
	"strconv"
	"testing"

	"rotulet/api"
	"rotulet/cell"
	"rotulet/disk"
	"rotulet/pages"
	"rotulet/tape"
)

// choices are all lists of n bools.
func choices(n int) [][]bool {
	var l [][]bool
	for bits := range 1 << n {
		x := make([]bool, n)
		for i := range x {
			x[i] = bits>>i&1 == 1
		}
		l = append(l, x)
	}
	return l
}

// torn hands on all disks that a crash may leave amid the call that made after of before, both without dirty sectors, and tells of each whether the superblock that the call wrote was kept.
func torn(before, after *disk.Disk, take func(d *disk.Disk, kept bool)) {
	x := before.Crash(nil)
	for i := 1; i < x.Len(); i++ {
		old, _ := before.Read(i)
		if s, _ := after.Read(i); s != old {
			x.Write(i, s)
		}
	}
	for _, keep := range choices(len(x.Dirty())) {
		take(x.Crash(keep), false)
	}
	x.Flush()
	super, _ := after.Read(0)
	x.Write(0, super)
	take(x.Crash(nil), false)
	take(x.Crash([]bool{true}), true)
}

// P8.2: a crash amid any call, whichever sectors it keeps: all that was there before is there behind it, and if the superblock was kept, so is the change; the calls that follow do what they should.
func TestCrashAmidCalls(t *testing.T) {
	s := stir(84)
	for n := range 30 {
		r := fresh(t, 7+2*(n%3))
		for range 14 {
			c, before, was := s.change(), r.d.Crash(nil), *r.m
			if n%3 == 2 && c.kind == 2 {
				c.cell = great() // its record lies in several sectors
			}
			r.do(c)
			torn(before, r.d, func(d *disk.Disk, kept bool) {
				m := was
				if kept {
					m = *r.m
				}
				x := opened(t, "crash amid "+c.name(), d, &m)
				x.do(s.change())
			})
		}
	}
}

// P8.2: crashes between any two calls; what goes on is the disk that the crash left, while the one before it is changed further, which changes nothing.
func TestCrashBetweenCalls(t *testing.T) {
	s := stir(85)
	for n := range 25 {
		r := fresh(t, []int{5, 9, 41}[n%3])
		for range 25 {
			r.do(s.change())
			was := *r.m
			x := opened(t, "crash", r.d.Crash(choices(3)[s.below(8)]), &was)
			r.do(s.change())
			x.same("changes on the disk before the crash")
			r = x
		}
	}
}

// P8.2: a crash behind each step in which a tape takes a record, with every choice of what is kept: the pages are those before, or those behind the change.
func TestCrashBehindEachStep(t *testing.T) {
	for _, c := range lasting() {
		for _, replaced := range []bool{false, true} {
			r := fresh(t, 15)
			r.all(seal(1), write(12, data("kept", back(1, 2, 1))), open(3), write(3, great()), trimOne(5), seal(2), write(40, junk()))
			behind := r.m.with(c)
			x, _ := tape.Open(r.d)
			if replaced {
				x.Replace(behind.fewest())
			} else {
				x.Append(c.bytes())
			}
			for step := range 5 {
				for _, keep := range choices(len(r.d.Dirty())) {
					want := r.m
					if step == 4 || step == 3 && keep[0] {
						want = behind
					}
					opens(t, c.name()+", step "+strconv.Itoa(step), r.d.Crash(keep), want)
				}
				x.Step()
			}
		}
	}
}

// watch notes what pages told: an address is unwritten, then has one cell, then is trimmed, and never goes back; no number decreases.
type watch struct {
	cells                     map[uint64]api.Cell
	trimmed                   map[uint64]bool
	epoch, opened, mark, tail uint64
}

// look holds what pages tell against what they told before.
func (w *watch) look(t *testing.T, what string, p *pages.Pages) {
	t.Helper()
	for _, x := range []struct {
		what string
		was  *uint64
		is   uint64
	}{{"Epoch", &w.epoch, p.Epoch()}, {"Opened", &w.opened, p.Opened()}, {"Mark", &w.mark, p.Mark()}, {"Tail", &w.tail, p.Tail()}} {
		if x.is < *x.was {
			t.Fatalf("%s: %s: %d, and it was %d", what, x.what, x.is, *x.was)
		}
		*x.was = x.is
	}
	for i := range uint64(30) {
		a := i
		if i >= 24 {
			a = 1048576 - 30 + i
		}
		w.lookAt(t, what, p, a)
	}
}

func (w *watch) lookAt(t *testing.T, what string, p *pages.Pages, a uint64) {
	t.Helper()
	was, written := w.cells[a]
	switch c, e := p.Read(a); e {
	case api.OK:
		if w.trimmed[a] || written && !cell.Same(c, was) {
			t.Fatalf("%s: Read(%d): %v, and it was %v, trimmed: %v", what, a, c, was, w.trimmed[a])
		}
		w.cells[a] = copyOf(c)
		spoil(c)
	case api.ErrTrimmed:
		w.trimmed[a] = true
	case api.ErrUnwritten:
		if written || w.trimmed[a] {
			t.Fatalf("%s: Read(%d): unwritten, and it was %v, trimmed: %v", what, a, was, w.trimmed[a])
		}
	default:
		t.Fatalf("%s: Read(%d): %d", what, a, e)
	}
}

// P8.2, P8.3: a cell that was read stays till its address is trimmed, and neither the tail nor an epoch nor the mark decreases, whatever is called, on tapes with room and without, and whatever crashes leave.
func TestWriteOnceAndMonotone(t *testing.T) {
	s := stir(86)
	for n := range 60 {
		d, _ := disk.New([]int{3, 5, 7, 9, 15, 41}[n%6])
		p, _ := pages.Open(d)
		w := &watch{cells: map[uint64]api.Cell{}, trimmed: map[uint64]bool{}}
		for range 60 {
			c, before := s.change(), d.Crash(nil)
			ask(p, c, c.cell)
			left := []*disk.Disk{d, d.Crash(nil)}
			torn(before, d, func(x *disk.Disk, _ bool) { left = append(left, x) })
			if pick := s.below(2 * len(left)); pick < len(left) {
				d = left[pick]
				var e api.Errno
				if p, e = pages.Open(d); e != api.OK {
					t.Fatalf("Open: %d", e)
				}
			}
			w.look(t, c.name(), p)
		}
		if len(w.cells) == 0 && n%6 > 0 {
			t.Error("no cell was read")
		}
	}
}
