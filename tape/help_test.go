package tape_test

import (
	"bytes"
	"encoding/binary"
	"maps"
	"slices"
	"strconv"
	"testing"

	"rotulet/api"
	"rotulet/disk"
	"rotulet/tape"
)

// model is the reference. It has the bytes of the whole disk, as they are and as the last flush left them, and lists of records from which all else is made anew whenever it is asked for.
type model struct {
	bytes, flushed []byte
	dirty          map[int]bool
	half           int
	committed      [][]byte
	waiting        [][]byte
	replacing      bool
	steps          int
}

// size is how many bytes a half has.
func (m *model) size() int { return (len(m.bytes)/64 - 1) / 2 * 64 }

// later is the active half, and the records, when what waits is committed.
func (m *model) later() (int, [][]byte) {
	if m.replacing {
		return 1 - m.half, m.waiting
	}
	return m.half, slices.Concat(m.committed, m.waiting)
}

func (m *model) room() int {
	if m.replacing {
		return m.size() - len(framed(m.committed))
	}
	_, l := m.later()
	return m.size() - len(framed(l))
}

// set writes a sector, as far as b has bytes for it, with 0 behind.
func (m *model) set(i int, b []byte) {
	s := disk.Fill(b)
	copy(m.bytes[64*i:], s[:])
	m.dirty[i] = true
}

func (m *model) flush() {
	copy(m.flushed, m.bytes)
	clear(m.dirty)
}

func (m *model) append(b []byte) api.Errno {
	switch {
	case len(b) == 0 || len(b) > 300:
		return api.ErrArg
	case m.steps > 0 || m.replacing:
		return api.ErrState
	case 2+len(b) > m.room():
		return api.ErrFull
	}
	m.waiting = append(m.waiting, slices.Clone(b))
	return api.OK
}

func (m *model) replace(l [][]byte) api.Errno {
	for _, b := range l {
		if len(b) == 0 || len(b) > 300 {
			return api.ErrArg
		}
	}
	switch {
	case m.steps > 0:
		return api.ErrState
	case len(framed(l)) > m.size():
		return api.ErrFull
	}
	m.waiting, m.replacing = nil, true
	for _, b := range l {
		m.waiting = append(m.waiting, slices.Clone(b))
	}
	return api.OK
}

func (m *model) step() bool {
	if !m.replacing && len(m.waiting) == 0 {
		return true
	}
	half, l := m.later()
	m.steps++
	switch m.steps {
	case 1:
		m.writeFrames()
	case 2:
		m.flush()
	case 3:
		b := binary.BigEndian.AppendUint32([]byte{byte(half)}, uint32(len(l)))
		m.set(0, binary.BigEndian.AppendUint32(b, uint32(len(framed(l)))))
	case 4:
		m.flush()
		m.half, m.committed = half, l
		m.waiting, m.replacing, m.steps = nil, false, 0
	}
	return m.steps == 0
}

// writeFrames writes, for each byte of the new frames, the sector that it lies in.
func (m *model) writeFrames() {
	half, l := m.later()
	b, from := framed(l), len(framed(m.committed))
	if m.replacing {
		from = 0
	}
	for at := from; at < len(b); at++ {
		m.set(1+half*m.size()/64+at/64, b[at/64*64:])
	}
}

// dirtyOnes are the dirty sectors, in increasing order.
func (m *model) dirtyOnes() []int { return slices.Sorted(maps.Keys(m.dirty)) }

// crash is what the disk, opened behind a crash, is to be like.
func (m *model) crash(keep []bool) *model {
	x := &model{bytes: slices.Clone(m.flushed), dirty: map[int]bool{}, half: m.half, committed: m.committed}
	for k, i := range m.dirtyOnes() {
		if k < len(keep) && keep[k] {
			copy(x.bytes[64*i:64*i+64], m.bytes[64*i:])
			if i == 0 {
				x.half, x.committed = m.later()
			}
		}
	}
	x.flushed = slices.Clone(x.bytes)
	return x
}

// framed are the frames of records.
func framed(l [][]byte) []byte {
	var b []byte
	for _, x := range l {
		b = append(binary.BigEndian.AppendUint16(b, uint16(len(x))), x...)
	}
	return b
}

// rig is a tape, its disk, and the reference, to all of which everything is done.
type rig struct {
	t *testing.T
	d *disk.Disk
	x *tape.Tape
	m *model
}

// fresh is the tape of a new disk.
func fresh(t *testing.T, sectors int) *rig {
	t.Helper()
	d, e := disk.New(sectors)
	if e != api.OK {
		t.Fatalf("disk.New(%d): %d", sectors, e)
	}
	m := &model{bytes: make([]byte, 64*sectors), flushed: make([]byte, 64*sectors), dirty: map[int]bool{}}
	return opened(t, "new", d, m)
}

// opened is the tape on a disk that is to be like m.
func opened(t *testing.T, what string, d *disk.Disk, m *model) *rig {
	t.Helper()
	x, e := tape.Open(d)
	if x == nil || e != api.OK {
		t.Fatalf("%s: Open: %p, %d", what, x, e)
	}
	r := &rig{t: t, d: d, x: x, m: m}
	r.same(what + ": opened")
	return r
}

// append hands a record in that is spoilt as soon as the call is over.
func (r *rig) append(b []byte) api.Errno {
	r.t.Helper()
	what := "Append of " + strconv.Itoa(len(b))
	given := slices.Clone(b)
	want, e := r.m.append(b), r.x.Append(given)
	r.answered(what, e, want)
	r.stays(what, given, b)
	r.same(what)
	return e
}

// replace hands a list in that is spoilt as soon as the call is over.
func (r *rig) replace(l ...[]byte) api.Errno {
	r.t.Helper()
	what := "Replace by " + strconv.Itoa(len(l))
	given := make([][]byte, len(l), len(l)+1)
	for i, b := range l {
		given[i] = slices.Clone(b)
	}
	inner := slices.Clone(given)
	want, e := r.m.replace(l), r.x.Replace(given)
	r.answered(what, e, want)
	for i, b := range l {
		r.stays(what, given[i], b)
		r.stays(what, inner[i], make([]byte, len(b)))
		given[i] = nil
	}
	r.same(what)
	return e
}

// stays holds an argument against what it was, and spoils it.
func (r *rig) stays(what string, given, was []byte) {
	r.t.Helper()
	if !bytes.Equal(given, was) {
		r.t.Fatalf("%s: the argument was changed: %x", what, given)
	}
	clear(given)
}

func (r *rig) answered(what string, e, want api.Errno) {
	r.t.Helper()
	if e != want {
		r.t.Fatalf("%s: %d, want %d", what, e, want)
	}
}

// step is true if no further one follows.
func (r *rig) step() bool {
	r.t.Helper()
	want := r.m.step()
	what := "Step " + strconv.Itoa(r.m.steps)
	over, e := r.x.Step()
	if over != want || e != api.OK {
		r.t.Fatalf("%s: %v, %d, want %v", what, over, e, want)
	}
	r.same(what)
	return over
}

func (r *rig) commit() {
	r.t.Helper()
	for !r.m.step() {
	}
	r.answered("Commit", r.x.Commit(), api.OK)
	r.same("Commit")
}

// crash is the rig that a crash leaves; the old one goes on.
func (r *rig) crash(keep []bool) *rig {
	r.t.Helper()
	return opened(r.t, "crash", r.d.Crash(keep), r.m.crash(keep))
}

// same holds all that can be asked for against the reference.
func (r *rig) same(what string) {
	r.t.Helper()
	holds(r.t, what, r.x, r.m.committed)
	if n := r.x.Waiting(); n != len(r.m.waiting) {
		r.t.Fatalf("%s: Waiting: %d, want %d", what, n, len(r.m.waiting))
	}
	if n := r.x.Room(); n != r.m.room() {
		r.t.Fatalf("%s: Room: %d, want %d", what, n, r.m.room())
	}
	if l := r.d.Dirty(); !slices.Equal(l, r.m.dirtyOnes()) {
		r.t.Fatalf("%s: dirty: %v, want %v", what, l, r.m.dirtyOnes())
	}
	has(r.t, what, r.d, r.m.bytes)
	has(r.t, what+": all lost", r.d.Crash(nil), r.m.flushed)
}

// holds holds a tape's committed records against those wanted, and asks for those that there are not.
func holds(t *testing.T, what string, x *tape.Tape, want [][]byte) {
	t.Helper()
	if n := x.Len(); n != len(want) {
		t.Fatalf("%s: Len: %d, want %d", what, n, len(want))
	}
	for i, w := range want {
		b, e := x.Read(i)
		if e != api.OK || !bytes.Equal(b, w) {
			t.Fatalf("%s: Read(%d): %x, %d, want %x", what, i, b, e, w)
		}
		clear(b) // what was read is the caller's
	}
	const most = int(^uint(0) >> 1)
	for _, i := range []int{-most - 1, -len(want) - 1, -1, len(want), len(want) + 1, most} {
		if b, e := x.Read(i); len(b) != 0 || e != api.ErrRecord {
			t.Fatalf("%s: Read(%d) of %d: %x, %d", what, i, len(want), b, e)
		}
	}
}

// has holds the bytes of all sectors against those wanted.
func has(t *testing.T, what string, d *disk.Disk, want []byte) {
	t.Helper()
	for i := range d.Len() {
		if s, _ := d.Read(i); !bytes.Equal(s[:], want[64*i:64*i+64]) {
			t.Fatalf("%s: sector %d:\n%x, want\n%x", what, i, s, want[64*i:64*i+64])
		}
	}
}

// record is a record of n bytes, none of which is 0.
func record(n, from int) []byte {
	b := make([]byte, n)
	for i := range b {
		b[i] = byte((from+i)%255 + 1)
	}
	return b
}

// records are records of so many bytes each.
func records(sizes ...int) [][]byte {
	var l [][]byte
	for i, n := range sizes {
		l = append(l, record(n, 7*i+n))
	}
	return l
}

// sized are the records, of the fewest, whose frames have n bytes together; n is not 1 or 2.
func sized(n int) [][]byte {
	var l [][]byte
	for n > 0 {
		k := min(n, 302)
		if n-k == 1 || n-k == 2 {
			k -= 3
		}
		l = append(l, record(k-2, n))
		n -= k
	}
	return l
}

// choices are all lists of n bools.
func choices(n int) [][]bool {
	var l [][]bool
	for bits := range 1 << n {
		x := make([]bool, n)
		for i := range x {
			x[i] = bits>>i&1 == 1
		}
		l = append(l, x)
	}
	return l
}

// stir is a row of numbers without a plain pattern, the same in each run.
type stir uint64

func (s *stir) next() uint64 {
	*s = *s*6364136223846793005 + 1442695040888963407
	x := uint64(*s)
	return x ^ x>>29 ^ x<<17
}

func (s *stir) below(n int) int { return int(s.next() >> 8 % uint64(n)) }

// keep is what a crash may keep, of a few sectors, or of as many as there may be.
func (s *stir) keep() []bool {
	l := make([]bool, []int{0, 1, 3, 40}[s.below(4)])
	for i := range l {
		l[i] = s.below(2) == 1
	}
	return l
}
