package acceptor_test

import (
	"strconv"
	"testing"

	"rotulet/acceptor"
	"rotulet/api"
	"rotulet/disk"
	"rotulet/layout"
	"rotulet/tape"
)

// choices are all lists of n bools.
func choices(n int) [][]bool {
	var l [][]bool
	for bits := range 1 << n {
		x := make([]bool, n)
		for i := range x {
			x[i] = bits>>i&1 == 1
		}
		l = append(l, x)
	}
	return l
}

// torn hands on all disks that a crash may leave amid the call that made after of before, both without dirty sectors, and tells of each whether the superblock that the call wrote was kept.
func torn(before, after *disk.Disk, take func(d *disk.Disk, kept bool)) {
	x := before.Crash(nil)
	for i := 1; i < x.Len(); i++ {
		old, _ := before.Read(i)
		if s, _ := after.Read(i); s != old {
			x.Write(i, s)
		}
	}
	for _, keep := range choices(len(x.Dirty())) {
		take(x.Crash(keep), false)
	}
	x.Flush()
	super, _ := after.Read(0)
	x.Write(0, super)
	take(x.Crash(nil), false)
	take(x.Crash([]bool{true}), true)
}

// P12.2: a crash amid any call, whichever sectors it keeps: all that was there before is there behind it, and if the superblock was kept, so is the change; the calls that follow do what they should.
func TestCrashAmidCalls(t *testing.T) {
	s := stir(123)
	for n := range 24 {
		r := fresh(t, 5+2*(n%3))
		for range 14 {
			c, before, was := s.act(), r.d.Crash(nil), *r.m
			r.do(c)
			torn(before, r.d, func(d *disk.Disk, kept bool) {
				m := was
				if kept {
					m = *r.m
				}
				x := opened(t, "crash amid "+c.name(), d, &m)
				x.do(s.act())
			})
		}
	}
}

// P12.2: crashes between any two calls; what goes on is the disk that the crash left, while the one before it is changed further, which changes nothing.
func TestCrashBetweenCalls(t *testing.T) {
	s := stir(124)
	for n := range 25 {
		r := fresh(t, []int{3, 9, 41}[n%3])
		for range 25 {
			r.do(s.act())
			was := *r.m
			x := opened(t, "crash", r.d.Crash(choices(3)[s.below(8)]), &was)
			r.do(s.act())
			x.same("changes on the disk before the crash")
			r = x
		}
	}
}

// P12.2: a crash behind each step in which a tape takes a record, with every choice of what is kept: the states are those before, or those behind the change.
func TestCrashBehindEachStep(t *testing.T) {
	for _, c := range append(lasting(), prepare(4, ballot(5, 3)), accept(4, ballot(5, 2), small(4, 9))) {
		for _, replaced := range []bool{false, true} {
			r := fresh(t, 15)
			r.all(prepare(4, ballot(5, 1)), accept(4, ballot(5, 1), great(4)), prepare(4, ballot(5, 2)), prepare(20, ballot(1, 1)), prepare(3, ballot(1, 1)), accept(20, ballot(1, 1), nine(20)))
			behind := r.m.with(c)
			x, _ := tape.Open(r.d)
			if replaced {
				x.Replace(behind.fewest())
			} else {
				x.Append(c.bytes())
			}
			for step := range 5 {
				for _, keep := range choices(len(r.d.Dirty())) {
					want := r.m
					if step == 4 || step == 3 && keep[0] {
						want = behind
					}
					opens(t, c.name()+", step "+strconv.Itoa(step), r.d.Crash(keep), want)
				}
				x.Step()
			}
		}
	}
}

// watch notes what an acceptor told of each epoch. It knows nothing of records.
type watch map[uint64]acceptor.State

// answered holds the answer of a call against what was told before: no ballot that is less than the promised one is taken, nor is one promised that is not greater.
func (w watch) answered(t *testing.T, c act, e api.Errno) {
	t.Helper()
	n, promised := rank(c.ballot), rank(w[c.epoch].Promised)
	if e == api.OK && (n < promised || n == promised && !c.accept) {
		t.Fatalf("%s: OK, and %v was promised", c.name(), w[c.epoch].Promised)
	}
}

// look holds what an acceptor tells of all epochs against what it told before: what is promised never becomes less, what is accepted changes only to a ballot that is not less than what was promised, and neither goes away.
func (w watch) look(t *testing.T, what string, x *acceptor.Acceptor) {
	t.Helper()
	for _, epoch := range []uint64{1, 2, 3, 9, 1048575, 1048576} {
		was := w[epoch]
		s, e := x.Learn(epoch)
		if e != api.OK || rank(s.Promised) < rank(was.Promised) || rank(s.Accepted) > rank(s.Promised) {
			t.Fatalf("%s: Learn(%d): %v, %d, and it was %v", what, epoch, s, e, was)
		}
		changed := s.Accepted != was.Accepted || !layout.Same(s.Layout, was.Layout)
		if changed && (rank(s.Accepted) < rank(was.Promised) || !layout.Right(s.Layout)) {
			t.Fatalf("%s: Learn(%d): %v, and it was %v", what, epoch, s, was)
		}
		w[epoch] = s
	}
}

// took holds that what a call took is there.
func (w watch) took(t *testing.T, c act) {
	t.Helper()
	s := w[c.epoch]
	if s.Promised != c.ballot || c.accept && (s.Accepted != c.ballot || !layout.Same(s.Layout, c.layout)) {
		t.Fatalf("%s: OK, and the state is %v", c.name(), s)
	}
}

// P12.2: promises are kept, and what is accepted stays, whatever is called, on tapes with room and without, and whatever crashes leave behind calls and amid them.
func TestPromisesAreKept(t *testing.T) {
	s := stir(125)
	taken := 0
	for n := range 90 {
		d, _ := disk.New([]int{3, 5, 7, 9, 15, 41}[n%6])
		x, _ := acceptor.Open(d)
		w := watch{}
		for range 60 {
			c, before := s.act(), d.Crash(nil)
			_, e := ask(x, c, copyOf(c.layout))
			w.answered(t, c, e)
			left := []*disk.Disk{d.Crash(nil)}
			torn(before, d, func(amid *disk.Disk, _ bool) { left = append(left, amid) })
			pick := s.below(3 * len(left))
			if pick < len(left) {
				d = left[pick]
				var wrong api.Errno
				if x, wrong = acceptor.Open(d); wrong != api.OK {
					t.Fatalf("%s: Open: %d", c.name(), wrong)
				}
			}
			w.look(t, c.name(), x)
			// Amid the call, nobody got its answer.
			if amid := pick > 0 && pick < len(left); !amid && e == api.OK {
				w.took(t, c)
				taken++
			}
		}
	}
	if taken < 900 {
		t.Errorf("%d calls were taken", taken)
	}
}
