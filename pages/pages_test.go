package pages_test

import (
	"slices"
	"testing"

	"rotulet/api"
	"rotulet/cell"
	"rotulet/disk"
	"rotulet/pages"
	"rotulet/runs"
)

// told is all that can be asked for, but the cells.
type told struct {
	epoch, opened, mark, tail uint64
	trimmed                   []runs.Run
	written                   []uint64
}

// tells holds what pages tell against numbers that are worked out by hand.
func tells(t *testing.T, what string, p *pages.Pages, want told) {
	t.Helper()
	got := told{p.Epoch(), p.Opened(), p.Mark(), p.Tail(), p.Trimmed(), p.Written()}
	if got.epoch != want.epoch || got.opened != want.opened || got.mark != want.mark || got.tail != want.tail {
		t.Errorf("%s: %+v, want %+v", what, got, want)
	}
	if !slices.Equal(got.trimmed, want.trimmed) || !slices.Equal(got.written, want.written) {
		t.Errorf("%s: %+v, want %+v", what, got, want)
	}
}

// run is a list of runs, each of which is two numbers.
func run(l ...uint64) []runs.Run {
	var all []runs.Run
	for i := 0; i+1 < len(l); i += 2 {
		all = append(all, runs.Run{From: l[i], To: l[i+1]})
	}
	return all
}

// step is a call, what it answers, and what can be asked for behind it.
type step struct {
	c    change
	want api.Errno
	told told
}

// steps takes the steps on new pages.
func steps(t *testing.T, l []step) *pages.Pages {
	t.Helper()
	d, _ := disk.New(60)
	p, e := pages.Open(d)
	if e != api.OK {
		t.Fatalf("Open: %d", e)
	}
	tells(t, "new", p, told{})
	for _, s := range l {
		what := s.c.name() + " " + spell(s.c.n, 24)
		if e := ask(p, s.c, s.c.cell); e != s.want {
			t.Errorf("%s: %d, want %d", what, e, s.want)
		}
		tells(t, what, p, s.told)
		again, e := pages.Open(d.Crash(nil))
		if e != api.OK {
			t.Fatalf("%s: Open behind a crash: %d", what, e)
		}
		tells(t, what+", behind a crash", again, s.told)
	}
	return p
}

// P8.1 (G2, G4): what the calls answer, and what can be asked for behind each of them, worked out by hand.
func TestByHand(t *testing.T) {
	x, y := data("x", back(2, 4, 1)), data("y")
	p := steps(t, []step{
		{write(5, x), api.OK, told{0, 0, 0, 6, nil, []uint64{5}}},
		{write(9, y), api.OK, told{0, 0, 0, 10, nil, []uint64{5, 9}}},
		{write(7, junk()), api.OK, told{0, 0, 0, 10, nil, []uint64{5, 7, 9}}},
		{write(5, y), api.ErrWritten, told{0, 0, 0, 10, nil, []uint64{5, 7, 9}}},
		{write(5, x), api.ErrWritten, told{0, 0, 0, 10, nil, []uint64{5, 7, 9}}},
		{seal(4), api.OK, told{4, 0, 0, 10, nil, []uint64{5, 7, 9}}},
		{seal(4), api.ErrSealed, told{4, 0, 0, 10, nil, []uint64{5, 7, 9}}},
		{seal(3), api.ErrSealed, told{4, 0, 0, 10, nil, []uint64{5, 7, 9}}},
		{open(2), api.OK, told{4, 2, 0, 10, nil, []uint64{5, 7, 9}}},
		{open(2), api.OK, told{4, 2, 0, 10, nil, []uint64{5, 7, 9}}},
		{open(1), api.OK, told{4, 2, 0, 10, nil, []uint64{5, 7, 9}}},
		{trimOne(12), api.OK, told{4, 2, 0, 13, run(12, 13), []uint64{5, 7, 9}}},
		{write(12, x), api.ErrTrimmed, told{4, 2, 0, 13, run(12, 13), []uint64{5, 7, 9}}},
		{trimOne(7), api.OK, told{4, 2, 0, 13, run(7, 8, 12, 13), []uint64{5, 9}}},
		{trimOne(7), api.OK, told{4, 2, 0, 13, run(7, 8, 12, 13), []uint64{5, 9}}},
		{write(7, junk()), api.ErrTrimmed, told{4, 2, 0, 13, run(7, 8, 12, 13), []uint64{5, 9}}},
		{trimOne(8), api.OK, told{4, 2, 0, 13, run(7, 9, 12, 13), []uint64{5, 9}}},
		{trimOne(9), api.OK, told{4, 2, 0, 13, run(7, 10, 12, 13), []uint64{5}}},
		{trim(5), api.OK, told{4, 2, 5, 13, run(7, 10, 12, 13), []uint64{5}}},
		{trim(5), api.OK, told{4, 2, 5, 13, run(7, 10, 12, 13), []uint64{5}}},
		{trim(4), api.OK, told{4, 2, 5, 13, run(7, 10, 12, 13), []uint64{5}}},
		{trimOne(4), api.OK, told{4, 2, 5, 13, run(7, 10, 12, 13), []uint64{5}}},
		{write(4, x), api.ErrTrimmed, told{4, 2, 5, 13, run(7, 10, 12, 13), []uint64{5}}},
		{trim(8), api.OK, told{4, 2, 8, 13, run(8, 10, 12, 13), nil}},
		{write(10, x), api.OK, told{4, 2, 8, 13, run(8, 10, 12, 13), []uint64{10}}},
		{write(13, y), api.OK, told{4, 2, 8, 14, run(8, 10, 12, 13), []uint64{10, 13}}},
		{trim(10), api.OK, told{4, 2, 10, 14, run(12, 13), []uint64{10, 13}}},
		{seal(9), api.OK, told{9, 2, 10, 14, run(12, 13), []uint64{10, 13}}},
		{open(12), api.OK, told{9, 12, 10, 14, run(12, 13), []uint64{10, 13}}},
		{trim(40), api.OK, told{9, 12, 40, 40, nil, nil}},
		{trim(39), api.OK, told{9, 12, 40, 40, nil, nil}},
		{write(40, x), api.OK, told{9, 12, 40, 41, nil, []uint64{40}}},
	})
	if c, e := p.Read(40); e != api.OK || !cell.Same(c, x) {
		t.Errorf("Read(40): %v, %d", c, e)
	}
	for a, want := range map[uint64]api.Errno{5: api.ErrTrimmed, 13: api.ErrTrimmed, 39: api.ErrTrimmed, 41: api.ErrUnwritten, 1048575: api.ErrUnwritten, 1048576: api.ErrArg} {
		if c, e := p.Read(a); e != want || !cell.Same(c, api.Cell{}) {
			t.Errorf("Read(%d): %v, %d, want %d", a, c, e, want)
		}
	}
}

// P8.1 (G2, G4): the least and the greatest address, the greatest mark and the greatest epoch, worked out by hand.
func TestEdgesByHand(t *testing.T) {
	const last, most = 1048575, 1048576
	p := steps(t, []step{
		{write(0, junk()), api.OK, told{0, 0, 0, 1, nil, []uint64{0}}},
		{write(last, data("z")), api.OK, told{0, 0, 0, most, nil, []uint64{0, last}}},
		{write(most, data("z")), api.ErrArg, told{0, 0, 0, most, nil, []uint64{0, last}}},
		{seal(0), api.ErrSealed, told{0, 0, 0, most, nil, []uint64{0, last}}},
		{open(0), api.OK, told{0, 0, 0, most, nil, []uint64{0, last}}},
		{trim(0), api.OK, told{0, 0, 0, most, nil, []uint64{0, last}}},
		{seal(1), api.OK, told{1, 0, 0, most, nil, []uint64{0, last}}},
		{open(1), api.OK, told{1, 1, 0, most, nil, []uint64{0, last}}},
		{trimOne(last), api.OK, told{1, 1, 0, most, run(last, most), []uint64{0}}},
		{trimOne(most), api.ErrArg, told{1, 1, 0, most, run(last, most), []uint64{0}}},
		{trimOne(0), api.OK, told{1, 1, 0, most, run(0, 1, last, most), nil}},
		{trim(1), api.OK, told{1, 1, 1, most, run(last, most), nil}},
		{seal(most + 1), api.ErrArg, told{1, 1, 1, most, run(last, most), nil}},
		{open(most + 1), api.ErrArg, told{1, 1, 1, most, run(last, most), nil}},
		{seal(most), api.OK, told{most, 1, 1, most, run(last, most), nil}},
		{open(most), api.OK, told{most, most, 1, most, run(last, most), nil}},
		{seal(most), api.ErrSealed, told{most, most, 1, most, run(last, most), nil}},
		{seal(most + 1), api.ErrArg, told{most, most, 1, most, run(last, most), nil}},
		{open(most), api.OK, told{most, most, 1, most, run(last, most), nil}},
		{open(most + 1), api.ErrArg, told{most, most, 1, most, run(last, most), nil}},
		{trim(last), api.OK, told{most, most, last, most, run(last, most), nil}},
		{trim(most + 1), api.ErrArg, told{most, most, last, most, run(last, most), nil}},
		{trim(most), api.OK, told{most, most, most, most, nil, nil}},
		{trim(most), api.OK, told{most, most, most, most, nil, nil}},
		{trim(last), api.OK, told{most, most, most, most, nil, nil}},
		{trim(most + 1), api.ErrArg, told{most, most, most, most, nil, nil}},
		{trimOne(last), api.OK, told{most, most, most, most, nil, nil}},
		{write(0, junk()), api.ErrTrimmed, told{most, most, most, most, nil, nil}},
		{write(last, junk()), api.ErrTrimmed, told{most, most, most, most, nil, nil}},
		{write(most, junk()), api.ErrArg, told{most, most, most, most, nil, nil}},
	})
	for a, want := range map[uint64]api.Errno{0: api.ErrTrimmed, last: api.ErrTrimmed, most: api.ErrArg, none: api.ErrArg} {
		if _, e := p.Read(a); e != want {
			t.Errorf("Read(%d): %d, want %d", a, e, want)
		}
	}
}

// P8.1 (G2, G4): the tail follows the greatest address, be it written, trimmed alone, or below the mark, and stays when its cell goes.
func TestTail(t *testing.T) {
	steps(t, []step{
		{trimOne(3), api.OK, told{0, 0, 0, 4, run(3, 4), nil}},
		{write(2, junk()), api.OK, told{0, 0, 0, 4, run(3, 4), []uint64{2}}},
		{trim(4), api.OK, told{0, 0, 4, 4, nil, nil}},
		{write(4, junk()), api.OK, told{0, 0, 4, 5, nil, []uint64{4}}},
		{trimOne(4), api.OK, told{0, 0, 4, 5, run(4, 5), nil}},
		{trim(5), api.OK, told{0, 0, 5, 5, nil, nil}},
		{trim(9), api.OK, told{0, 0, 9, 9, nil, nil}},
		{trimOne(20), api.OK, told{0, 0, 9, 21, run(20, 21), nil}},
		{write(21, junk()), api.OK, told{0, 0, 9, 22, run(20, 21), []uint64{21}}},
		{trim(21), api.OK, told{0, 0, 21, 22, nil, []uint64{21}}},
		{trim(22), api.OK, told{0, 0, 22, 22, nil, nil}},
	})
}

// P8.1 (G2): each kind of valid cell, at the least and the greatest address and amid them, written, read, trimmed by one call and by the other.
func TestCells(t *testing.T) {
	for _, a := range []uint64{0, 1, 77, 524288, 1048574, 1048575} {
		for _, c := range some() {
			one, mark := fresh(t, 41), fresh(t, 41)
			for _, r := range []*rig{one, mark} {
				r.all(write(a, c))
				if got, e := r.p.Read(a); e != api.OK || !cell.Same(got, c) {
					t.Errorf("Read(%d): %v, %d, want %v", a, got, e, c)
				}
				for _, x := range some() {
					r.do(write(a, x))
				}
			}
			one.all(trimOne(a))
			mark.all(trim(a), trim(a+1))
			for _, r := range []*rig{one, mark} {
				for _, x := range some() {
					if e := r.do(write(a, x)); e != api.ErrTrimmed {
						t.Errorf("Write(%d) behind a trim: %d", a, e)
					}
				}
			}
		}
	}
}

// P8.1 (G2): runs of trimmed addresses that touch become one, from either side and between two, and a mark takes runs, parts of a run, and what lies between runs.
func TestRunsAndMarks(t *testing.T) {
	for mark := range uint64(22) {
		r := fresh(t, 41)
		for _, a := range []uint64{4, 10, 5, 3, 9, 7, 14, 12, 13, 18} {
			r.all(trimOne(a))
		}
		r.all(write(2, junk()), write(6, data("six")), write(11, data("eleven")), write(20, great()), trimOne(8))
		tells(t, "runs", r.p, told{0, 0, 0, 21, run(3, 6, 7, 11, 12, 15, 18, 19), []uint64{2, 6, 11, 20}})
		r.all(trim(mark), trimOne(mark), trimOne(11), trim(mark+2))
		for a := range uint64(24) {
			r.do(write(a, data("again")))
		}
	}
}

// P8.1 (G2), wrong inputs: what is no address, no mark, no epoch, no valid cell, on new pages and on others; ErrArg comes ahead of all other errors, and of doing nothing.
func TestErrArg(t *testing.T) {
	used := fresh(t, 41)
	used.all(write(5, great()), trimOne(7), trim(3), seal(1048576), open(1048576))
	over := fresh(t, 41)
	over.all(trim(1048576), seal(3))
	for _, r := range []*rig{fresh(t, 41), used, over} {
		for _, n := range append(tooLarge(), 1048576) {
			refused := []change{write(n, junk()), write(n, great()), write(n, api.Cell{}), trimOne(n)}
			if n > 1048576 {
				refused = append(refused, seal(n), open(n), trim(n))
			}
			for _, c := range refused {
				if e := r.do(c); e != api.ErrArg {
					t.Errorf("%s of %d: %d", c.name(), n, e)
				}
			}
			if c, e := r.p.Read(n); e != api.ErrArg || !cell.Same(c, api.Cell{}) {
				t.Errorf("Read(%d): %v, %d", n, c, e)
			}
		}
		for _, c := range wrong() {
			for _, a := range []uint64{0, 2, 3, 5, 7, 9, 1048575} {
				if e := r.do(write(a, c)); e != api.ErrArg {
					t.Errorf("Write(%d, %v): %d", a, c, e)
				}
			}
		}
	}
}

// P8.1, rule 8: nil pages, with arguments that are right, and with such as are not.
func TestNil(t *testing.T) {
	var p *pages.Pages
	for _, n := range append(tooLarge(), 0, 1, 1048575, 1048576) {
		for i, e := range []api.Errno{p.Write(n, junk()), p.Write(n, api.Cell{}), p.Trim(n), p.TrimOne(n), p.Seal(n), p.Open(n)} {
			if e != api.ErrArg {
				t.Errorf("%d, %d: %d", i, n, e)
			}
		}
		if c, e := p.Read(n); e != api.ErrArg || !cell.Same(c, api.Cell{}) {
			t.Errorf("Read(%d): %v, %d", n, c, e)
		}
	}
	tells(t, "nil", p, told{})
}

// P1: pages that nobody opened have no tape: what has to be kept is refused, and nothing panics.
func TestNotOpened(t *testing.T) {
	p := new(pages.Pages)
	for i, e := range []api.Errno{p.Write(5, junk()), p.Trim(5), p.TrimOne(5), p.Seal(5), p.Open(5)} {
		if e != api.ErrArg {
			t.Errorf("%d: %d", i, e)
		}
	}
	if c, e := p.Read(5); e != api.ErrUnwritten || !cell.Same(c, api.Cell{}) {
		t.Errorf("Read: %v, %d", c, e)
	}
	tells(t, "not opened", p, told{})
}

// Rule 4: a cell that was written or read, and the lists that were handed out, change nothing when they are changed later, nor does a later call change them.
func TestApart(t *testing.T) {
	r := fresh(t, 41)
	c := data("first", back(3, 7, 2))
	given := copyOf(c)
	r.p.Write(5, given)
	r.p.Write(6, given)
	spoil(given)
	one, _ := r.p.Read(5)
	two, _ := r.p.Read(5)
	six, _ := r.p.Read(6)
	spoil(one)
	if !cell.Same(two, c) || !cell.Same(six, c) {
		t.Errorf("read: %v, %v, want %v", two, six, c)
	}
	r.p.TrimOne(9)
	r.p.TrimOne(11)
	trimmed, written := r.p.Trimmed(), r.p.Written()
	r.p.TrimOne(10)
	r.p.TrimOne(5)
	r.p.Write(2, junk())
	r.p.Trim(6)
	if !slices.Equal(trimmed, run(9, 10, 11, 12)) || !slices.Equal(written, []uint64{5, 6}) || !cell.Same(two, c) {
		t.Errorf("changed by later calls: %v, %v, %v", trimmed, written, two)
	}
	trimmed, written = r.p.Trimmed(), r.p.Written()
	trimmed[0], written[0] = runs.Run{From: 1, To: 99}, 77
	_, _ = append(trimmed, runs.Run{From: 200, To: 201}), append(written, 99)
	tells(t, "changed later", r.p, told{0, 0, 6, 12, run(9, 12), []uint64{6}})
	if c2, e := r.p.Read(6); e != api.OK || !cell.Same(c2, c) {
		t.Errorf("Read(6): %v, %d", c2, e)
	}
}

// Rule 4: pages that were opened from a tape hand out cells of their own, too.
func TestOpenedApart(t *testing.T) {
	c := data("first", back(3, 7, 2))
	d := laid(t, 41, write(5, c).bytes())
	p, _ := pages.Open(d)
	q, _ := pages.Open(d)
	one, _ := p.Read(5)
	spoil(one)
	for _, x := range []*pages.Pages{p, q} {
		if got, e := x.Read(5); e != api.OK || !cell.Same(got, c) {
			t.Errorf("Read(5): %v, %d", got, e)
		}
	}
}

// P8.1, P1: any calls, one after the other, on disks on which all fits, and on such as are too small for it.
func TestAnyCalls(t *testing.T) {
	s := stir(80)
	for range 60 {
		r := fresh(t, []int{3, 4, 5, 7, 9, 11, 41}[s.below(7)])
		for range 40 {
			r.do(s.change())
		}
	}
}

// P2: the same calls leave the same bytes, cells and runs among them that a map might tell in any order.
func TestAlike(t *testing.T) {
	leave := func() []byte {
		s := stir(81)
		d, _ := disk.New(25)
		p, _ := pages.Open(d)
		for range 600 {
			c := s.change()
			ask(p, c, c.cell)
		}
		return image(d)
	}
	first := leave()
	for range 5 {
		if !slices.Equal(leave(), first) {
			t.Fatal("the bytes are not the same")
		}
	}
}
