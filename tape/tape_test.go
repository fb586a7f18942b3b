package tape_test

import (
	"bytes"
	"slices"
	"strconv"
	"testing"

	"rotulet/api"
	"rotulet/disk"
	"rotulet/tape"
)

// begins holds the sectors of a disk against texts that they begin with, and all else against 0.
func begins(t *testing.T, what string, d *disk.Disk, want ...string) {
	t.Helper()
	for i := range d.Len() {
		var w disk.Sector
		if i < len(want) {
			w = disk.Fill([]byte(want[i]))
		}
		if s, _ := d.Read(i); s != w {
			t.Errorf("%s: sector %d: %q, want %q", what, i, s, w)
		}
	}
}

// P6.1 (T1, T2): a disk of 7 sectors, whose halves have 3 of them, worked out by hand byte for byte.
func TestByHand(t *testing.T) {
	d, _ := disk.New(7)
	x, e := tape.Open(d)
	if e != api.OK || x.Room() != 192 {
		t.Fatalf("Open: %d, Room: %d", e, x.Room())
	}
	x.Append([]byte("one"))
	x.Append([]byte("no. two"))
	if e := x.Commit(); e != api.OK {
		t.Fatalf("Commit: %d", e)
	}
	begins(t, "appended", d, "\x00\x00\x00\x00\x02\x00\x00\x00\x0e", "\x00\x03one\x00\x07no. two")

	long := bytes.Repeat([]byte("x"), 60)
	x.Append(long)
	if e := x.Commit(); e != api.OK || x.Room() != 192-14-62 {
		t.Fatalf("Commit: %d, Room: %d", e, x.Room())
	}
	begins(t, "across a sector's end", d, "\x00\x00\x00\x00\x03\x00\x00\x00\x4c", "\x00\x03one\x00\x07no. two\x00\x3c"+string(long[:48]), string(long[48:]))

	x.Replace([][]byte{[]byte("new"), []byte("n")})
	if e := x.Commit(); e != api.OK || x.Room() != 192-8 {
		t.Fatalf("Commit: %d, Room: %d", e, x.Room())
	}
	old := []string{"\x00\x03one\x00\x07no. two\x00\x3c" + string(long[:48]), string(long[48:]), ""}
	begins(t, "replaced", d, append([]string{"\x01\x00\x00\x00\x02\x00\x00\x00\x08"}, append(old, "\x00\x03new\x00\x01n")...)...)

	x.Replace([][]byte{[]byte("back")})
	x.Commit()
	begins(t, "replaced again", d, "\x00\x00\x00\x00\x01\x00\x00\x00\x06", "\x00\x04back", old[1], "", "\x00\x03new\x00\x01n")
	holds(t, "replaced again", x, [][]byte{[]byte("back")})
	if l := d.Dirty(); len(l) != 0 {
		t.Errorf("dirty: %v", l)
	}
}

// P6.1 (T2): the steps of an append, and of a replacement, worked out by hand: what each of them writes, and when what waits is committed.
func TestStepsByHand(t *testing.T) {
	d, _ := disk.New(9)
	x, _ := tape.Open(d)
	x.Append(record(100, 1))
	x.Commit()
	x.Append(record(60, 2))
	x.Append(record(1, 3))
	stepsOf(t, "append", d, x, []int{2, 3}, 1, 3)
	x.Append([]byte("waits"))
	x.Replace([][]byte{record(62, 4), record(63, 5)})
	stepsOf(t, "replacement", d, x, []int{5, 6, 7}, 3, 2)
	x.Replace(nil)
	stepsOf(t, "replacement by none", d, x, nil, 2, 0)
}

// stepsOf takes the four steps, of which the first one writes some sectors.
func stepsOf(t *testing.T, what string, d *disk.Disk, x *tape.Tape, written []int, before, behind int) {
	t.Helper()
	for i, want := range [][]int{written, nil, {0}, nil} {
		over, e := x.Step()
		if over != (i == 3) || e != api.OK || !slices.Equal(d.Dirty(), want) {
			t.Errorf("%s: step %d: %v, %d, dirty: %v, want %v", what, i+1, over, e, d.Dirty(), want)
		}
		if n := x.Len(); n != before && i < 3 || n != behind && i == 3 {
			t.Errorf("%s: step %d: Len: %d", what, i+1, n)
		}
	}
	if over, e := x.Step(); !over || e != api.OK || len(d.Dirty()) != 0 {
		t.Errorf("%s: nothing to do: %v, %d, dirty: %v", what, over, e, d.Dirty())
	}
}

// P6.1 (T1): records of 1 and of MaxRecord bytes, and of none and one more.
func TestSizes(t *testing.T) {
	for _, n := range []int{1, 2, 61, 62, 63, 64, 126, 255, 256, 257, 299, api.MaxRecord} {
		r := fresh(t, 21)
		if r.append(record(n, 1)) != api.OK {
			t.Errorf("Append of %d", n)
		}
		r.commit()
		if r.replace(record(n, 2), record(1, 1)) != api.OK {
			t.Errorf("Replace by %d", n)
		}
		r.commit()
		r.crash(nil).append(record(n, 3))
	}
	for _, b := range [][]byte{nil, {}, record(api.MaxRecord+1, 1), record(65535, 1), record(65536+3, 1), record(1<<20, 1)} {
		r := fresh(t, 1024)
		if r.append(b) != api.ErrArg || r.replace(b) != api.ErrArg || r.replace(record(3, 1), b) != api.ErrArg || r.replace(b, record(3, 1)) != api.ErrArg {
			t.Errorf("record of %d", len(b))
		}
	}
}

// P6.1 (T1): the error that is named first is the one answered: ErrArg, then ErrState, then ErrFull.
func TestOrderOfErrors(t *testing.T) {
	big, full := record(api.MaxRecord+1, 1), sized(65)
	r := fresh(t, 3)
	for _, x := range []struct {
		what                                      string
		do                                        func()
		appendBig, appendFull, replaceBig, isFull api.Errno
	}{
		{"nothing waits", func() {}, api.ErrArg, api.ErrFull, api.ErrArg, api.ErrFull},
		{"one is appended", func() { r.append(record(5, 1)) }, api.ErrArg, api.ErrFull, api.ErrArg, api.ErrFull},
		{"a replacement waits", func() { r.replace(record(7, 1)) }, api.ErrArg, api.ErrState, api.ErrArg, api.ErrFull},
		{"committing", func() { r.step() }, api.ErrArg, api.ErrState, api.ErrArg, api.ErrState},
	} {
		x.do()
		if e := r.append(big); e != x.appendBig {
			t.Errorf("%s: no record appended: %d", x.what, e)
		}
		if e := r.append(full[0]); e != x.appendFull {
			t.Errorf("%s: too much appended: %d", x.what, e)
		}
		if e := r.replace(append(full, big)...); e != x.replaceBig {
			t.Errorf("%s: replaced by no record: %d", x.what, e)
		}
		if e := r.replace(full...); e != x.isFull {
			t.Errorf("%s: replaced by too much: %d", x.what, e)
		}
	}
}

// P6.1 (T1, T2): frames up to the middle of a sector, to its end, and a byte around it; what is appended behind begins there.
func TestSectorEnds(t *testing.T) {
	for _, first := range []int{3, 30, 61, 62, 63, 64, 65, 66, 67, 127, 128, 129, 131, 191, 192, 193} {
		for _, behind := range []int{3, 60, 61, 62, 63, 64, 65, 66, 67, 127, 128, 129} {
			r := fresh(t, 17)
			r.replace(sized(first)...)
			r.commit()
			for _, b := range sized(behind) {
				r.append(b)
			}
			for !r.step() {
			}
			r.crash(nil).replace(r.m.committed...)
		}
	}
}

// P6.1 (T1): halves that are filled to the last byte, by one append, by many, by a replacement, and in two commits; one byte more is refused.
func TestFull(t *testing.T) {
	for _, sectors := range []int{3, 4, 5, 6, 9, 10, 21, 22} {
		r := fresh(t, sectors)
		size := (sectors - 1) / 2 * 64
		for _, committed := range []int{0, 3, size - 6, size - 3, size} {
			left := size - committed
			r.replace(sized(committed)...)
			r.commit()
			if left > 0 && left < 301 && r.append(record(left-1, 1)) != api.ErrFull {
				t.Errorf("%d sectors, %d left: one byte too much was appended", sectors, left)
			}
			for _, b := range sized(left) {
				if r.append(b) != api.OK {
					t.Errorf("%d sectors, %d left: Append of %d", sectors, left, len(b))
				}
			}
			if r.x.Room() != 0 || r.append([]byte{1}) != api.ErrFull {
				t.Errorf("%d sectors: full, Room: %d", sectors, r.x.Room())
			}
			r.commit()
			if r.append([]byte{1}) != api.ErrFull || r.replace(sized(size+1)...) != api.ErrFull {
				t.Errorf("%d sectors: one byte too much", sectors)
			}
			r.crash(nil).append([]byte{1})
		}
	}
}

// P6.1 (T1): 1 and 2 bytes left are room for no record; 3 are for one of a byte.
func TestLittleRoom(t *testing.T) {
	for left := range 5 {
		r := fresh(t, 5)
		r.replace(sized(128 - left)...)
		r.commit()
		want := api.ErrFull
		if left >= 3 {
			want = api.OK
		}
		if e := r.append([]byte{9}); e != want {
			t.Errorf("%d bytes left: %d", left, e)
		}
	}
}

// P6.1 (T1, T2): a replacement leaves the room as it is until it is committed, but that of the appended records that it discards.
func TestRoomOfReplacement(t *testing.T) {
	d, _ := disk.New(5)
	x, _ := tape.Open(d)
	x.Append(record(8, 1))
	x.Commit()
	x.Append(record(18, 1))
	if x.Room() != 98 || x.Waiting() != 1 {
		t.Errorf("appended: Room: %d, Waiting: %d", x.Room(), x.Waiting())
	}
	x.Replace([][]byte{record(28, 1), record(1, 1)})
	for range 4 {
		if x.Room() != 118 || x.Waiting() != 2 || x.Len() != 1 {
			t.Errorf("replacement: Room: %d, Waiting: %d, Len: %d", x.Room(), x.Waiting(), x.Len())
		}
		x.Step()
	}
	if x.Room() != 95 || x.Waiting() != 0 || x.Len() != 2 {
		t.Errorf("committed: Room: %d, Waiting: %d, Len: %d", x.Room(), x.Waiting(), x.Len())
	}
}

// P6.1 (T1): a replacement by no records, of a new tape, of one with records, and where some wait; it takes four steps, and turns the halves round.
func TestReplaceByNone(t *testing.T) {
	r := fresh(t, 6)
	for _, do := range []func(){
		func() {},
		func() { r.append(record(50, 1)); r.commit() },
		func() { r.append(record(50, 1)); r.commit(); r.append(record(20, 1)) },
		func() { r.append(record(20, 1)); r.replace(record(1, 1)) },
		func() { r.replace() },
	} {
		do()
		half := r.m.half
		if r.replace() != api.OK || r.append(record(1, 1)) != api.ErrState {
			t.Error("replacement by none")
		}
		for i := range 4 {
			if r.step() != (i == 3) {
				t.Errorf("step %d", i+1)
			}
			r.crash(nil).append(record(1, 1))
		}
		if s, _ := r.d.Read(0); r.x.Len() != 0 || s != disk.Fill([]byte{byte(1 - half)}) {
			t.Errorf("Len: %d, superblock: %x", r.x.Len(), s)
		}
	}
}

// P6.1 (T1): appends, a replacement, a replacement of that one, and either while committing is in progress, be it of appended or of new records.
func TestOneBehindTheOther(t *testing.T) {
	for _, replaces := range []bool{false, true} {
		r := fresh(t, 9)
		r.append(record(40, 1))
		r.commit()
		r.append(record(30, 1))
		r.append(record(31, 1))
		if replaces {
			r.replace(records(20, 21, 22)...)
			if r.append(record(1, 1)) != api.ErrState {
				t.Error("an append behind a replacement")
			}
			r.replace(records(60, 61)...)
		}
		for range 3 {
			r.step()
			if r.append(record(1, 1)) != api.ErrState || r.replace(record(1, 1)) != api.ErrState || r.replace() != api.ErrState {
				t.Error("while committing")
			}
		}
		if !r.step() || r.append(record(1, 1)) != api.OK || r.replace(record(1, 1)) != api.OK {
			t.Error("behind the commit")
		}
		r.commit()
	}
}

// P6.1 (T1): a replacement that is refused leaves what waited, appended or new.
func TestRefusedLeaves(t *testing.T) {
	for _, replaces := range []bool{false, true} {
		r := fresh(t, 3)
		if replaces {
			r.replace(record(3, 1))
		} else {
			r.append(record(3, 1))
		}
		r.replace(sized(65)...)
		r.replace(record(1, 1), nil)
		r.commit()
		if r.x.Len() != 1 {
			t.Errorf("Len: %d", r.x.Len())
		}
	}
}

// P6.1 (T2): a Step and a Commit with nothing to do, on a new tape and behind a commit, change nothing; a Commit finishes what steps began.
func TestNothingToDo(t *testing.T) {
	r := fresh(t, 5)
	for range 3 {
		if !r.step() {
			t.Error("Step with nothing to do")
		}
		r.commit()
	}
	for n := range 5 {
		r.append(record(2, n))
		for range n {
			r.step()
		}
		r.commit()
		if r.x.Len() != n+1 || !r.step() {
			t.Errorf("Commit behind %d steps: Len: %d", n, r.x.Len())
		}
	}
}

// P6.1 (T1): what is appended goes behind what is committed, in order, commit after commit, on the greatest disk; its count and its bytes need two bytes of the superblock each.
func TestGreatestDisk(t *testing.T) {
	d, _ := disk.New(api.MaxSectors)
	x, e := tape.Open(d)
	if e != api.OK || x.Room() != 511*64 {
		t.Fatalf("Open: %d, Room: %d", e, x.Room())
	}
	for n := range 10901 {
		if e := x.Append([]byte{byte(n)}); e != api.OK {
			t.Fatalf("Append %d: %d", n, e)
		}
		if n%50 == 0 && x.Commit() != api.OK {
			t.Fatalf("Commit %d", n)
		}
	}
	if x.Append([]byte{1}) != api.ErrFull || x.Commit() != api.OK {
		t.Error("the last commit")
	}
	if s, _ := d.Read(0); s != disk.Fill([]byte("\x00\x00\x00\x2a\x95\x00\x00\x7f\xbf")) {
		t.Errorf("superblock: %x", s)
	}
	y, e := tape.Open(d.Crash(nil))
	if e != api.OK || y.Len() != 10901 || y.Room() != 1 {
		t.Fatalf("opened again: %d, Len: %d", e, y.Len())
	}
	for n := range 10901 {
		if b, e := y.Read(n); e != api.OK || !bytes.Equal(b, []byte{byte(n)}) {
			t.Fatalf("Read(%d): %x, %d", n, b, e)
		}
	}
	r := fresh(t, api.MaxSectors)
	for range 3 {
		r.replace(sized(511 * 64)...)
		r.commit()
		r.replace(sized(511*64 + 1)...)
		r = r.crash(nil)
	}
}

// P6.1, P1: a nil tape.
func TestNilTape(t *testing.T) {
	var x *tape.Tape
	for _, b := range [][]byte{nil, {1}, record(301, 1)} {
		if e := x.Append(b); e != api.ErrArg {
			t.Errorf("Append(%x): %d", b, e)
		}
		if e := x.Replace([][]byte{b}); e != api.ErrArg {
			t.Errorf("Replace(%x): %d", b, e)
		}
	}
	if e := x.Replace(nil); e != api.ErrArg {
		t.Errorf("Replace: %d", e)
	}
	if over, e := x.Step(); over || e != api.ErrArg {
		t.Errorf("Step: %v, %d", over, e)
	}
	if e := x.Commit(); e != api.ErrArg {
		t.Errorf("Commit: %d", e)
	}
	if x.Len() != 0 || x.Waiting() != 0 || x.Room() != 0 {
		t.Errorf("Len: %d, Waiting: %d, Room: %d", x.Len(), x.Waiting(), x.Room())
	}
	for _, i := range []int{-1, 0, 1} {
		if b, e := x.Read(i); len(b) != 0 || e != api.ErrArg {
			t.Errorf("Read(%d): %x, %d", i, b, e)
		}
	}
}

// P6.1: neither what is handed in nor what is read changes the tape later, and the tape changes neither of them; memory behind a slice's length stays (rule 4).
func TestMemory(t *testing.T) {
	d, _ := disk.New(9)
	x, _ := tape.Open(d)
	whole := []byte("one and more")
	x.Append(whole[:3])
	whole[0] = 'X'
	x.Append(whole[4:7])
	copy(whole[4:], "XXX")
	x.Commit()
	if string(whole) != "Xne XXX more" {
		t.Errorf("the argument of Append: %q", whole)
	}
	want := [][]byte{[]byte("one"), []byte("and")}
	first, _ := x.Read(0)
	_ = append(first, "spoilt"...)
	clear(first)
	holds(t, "appended", x, want)
	kept, _ := x.Read(1)

	l := [][]byte{[]byte("new"), []byte("newer"), []byte("behind")}
	x.Replace(l[:2])
	l[0][0] = 'X'
	l[1] = nil
	x.Commit()
	if string(l[0]) != "Xew" || l[1] != nil || string(l[2]) != "behind" {
		t.Errorf("the argument of Replace: %q", l)
	}
	want = [][]byte{[]byte("new"), []byte("newer")}
	holds(t, "replaced", x, want)
	y, _ := tape.Open(d)
	holds(t, "opened again", y, want)
	if string(kept) != "and" {
		t.Errorf("what was read changed: %q", kept)
	}
}

// P2: the same calls on two tapes, whatever is done to a third one, answer the same.
func TestSameCalls(t *testing.T) {
	a, b, third := fresh(t, 9), fresh(t, 9), fresh(t, 9)
	s, other := stir(5), stir(6)
	for n := range 200 {
		act, other := s, other
		anyAct(a, &act)
		act = s
		anyAct(b, &act)
		s = act
		anyAct(third, &other)
		for i := range 9 {
			x, _ := a.d.Read(i)
			if y, _ := b.d.Read(i); x != y {
				t.Fatalf("behind %d acts: sector %d: %x, %x", n, i, x, y)
			}
		}
	}
}

// anyAct does one of all acts that there are.
func anyAct(r *rig, s *stir) {
	r.t.Helper()
	sizes := []int{1, 2, 5, 10, 30, 61, 62, 126, 300, 0, 301}
	some := func(n int) [][]byte {
		var l [][]byte
		for range n {
			l = append(l, record(sizes[s.below(len(sizes)-s.below(8))], s.below(1000)))
		}
		return l
	}
	switch n := s.below(20); {
	case n < 7:
		r.append(some(1)[0])
	case n < 9:
		r.replace(some(s.below(5))...)
	case n < 17:
		r.step()
	default:
		r.commit()
	}
}

// P6.1, P6.2: scripts of appends, replacements, steps, commits and crashes; behind each act all that can be asked for, and all sectors.
func TestScripts(t *testing.T) {
	for seed := range 80 {
		sectors := []int{3, 4, 5, 6, 9, 12, 21, 30}[seed%8]
		t.Run(strconv.Itoa(seed)+", sectors "+strconv.Itoa(sectors), func(t *testing.T) {
			r, s := fresh(t, sectors), stir(100+seed)
			for range 150 {
				anyAct(r, &s)
				if s.below(9) == 0 {
					r = r.crash(s.keep())
				}
			}
		})
	}
}
