package pages_test

import (
	"bytes"
	"strconv"
	"strings"
	"testing"

	"rotulet/api"
	"rotulet/cell"
	"rotulet/disk"
	"rotulet/pages"
)

// P8.1 (G3), worked out by hand: a tape of 128 bytes on which each change has a record of its own, till there is no room for one: then the fewest records take the place of all, in the other half.
func TestReplacedByHand(t *testing.T) {
	r := fresh(t, 5)
	r.all(write(9, junk()), write(4, data("ab")), write(1, data("gone")), trimOne(6), trimOne(8), trimOne(7), trim(2), open(2), open(3))
	for epoch := range uint64(11) {
		r.all(seal(epoch + 1))
	}
	d := r.d
	super := func(half byte, records, size byte) []byte { return []byte{half, 0, 0, 0, records, 0, 0, 0, size} }
	if s, _ := d.Read(0); s != disk.Fill(super(0, 20, 6+9+11+8+8+8+5+5+5+55)) {
		t.Fatalf("superblock: %x", s)
	}
	was := image(d)
	r.all(seal(12)) // 5 bytes, and just as many were left
	if s, _ := d.Read(0); s != disk.Fill(super(0, 21, 125)) {
		t.Fatalf("superblock: %x", s)
	}
	if !bytes.Equal(was[64:64+120], image(d)[64:64+120]) {
		t.Fatal("the records before were changed")
	}
	was = image(d)
	r.all(seal(13)) // 3 bytes were left
	want := "\x00\x03\x20\x00\x0d" + "\x00\x03\xa0\x00\x03" + "\x00\x03\x60\x00\x02" + "\x00\x06\x80\x00\x06\x00\x00\x48" + "\x00\x07\x40\x00\x08\x40\x20ab" + "\x00\x04\x40\x00\x12\x02"
	if s, _ := d.Read(0); s != disk.Fill(super(1, 6, byte(len(want)))) {
		t.Errorf("superblock: %x", s)
	}
	if s, _ := d.Read(3); s != disk.Fill([]byte(want)) {
		t.Errorf("records: %x, want %x", s, want)
	}
	if !bytes.Equal(was[64:192], image(d)[64:192]) {
		t.Error("the other half was changed")
	}
	r.all(trimOne(4))
	if s, _ := d.Read(3); s != disk.Fill([]byte(want+"\x00\x06\x80\x00\x04\x00\x00\x28")) {
		t.Errorf("appended: %x", s)
	}
}

// fill writes cells of their own from address 20 on, till so much room is left.
func (r *rig) fill(room int) {
	r.t.Helper()
	const least, most = 6, 107 // bytes of the frames of junk, and of data without Backs
	for a := uint64(20); r.m.room() > room; a++ {
		left := r.m.room() - room
		k := min(left, most)
		if left > k && left-k < least {
			k -= least
		}
		c := junk()
		if k > least {
			c = data(strings.Repeat("f", k-least-1))
		}
		r.all(write(a, c))
	}
	if r.m.room() != room {
		r.t.Fatalf("room: %d, want %d", r.m.room(), room)
	}
}

// lasting are changes of each kind, none of which makes other records needless.
func lasting() []change {
	return []change{seal(9), write(15, junk()), write(15, data("hello")), write(15, great()), trim(1), trim(15), trimOne(10), trimOne(1048575), open(9)}
}

// P8.1 (G3): a record that has just room, and some more; one that lacks a byte or several: where no record is needless, the error is ErrFull, and nothing has changed.
func TestJustRoom(t *testing.T) {
	for _, c := range lasting() {
		for more := -4; more <= 4; more++ {
			r := fresh(t, 13)
			r.fill(len(c.bytes()) + 2 + more)
			want := api.OK
			if more < 0 {
				want = api.ErrFull
			}
			what := c.name() + ", " + strconv.Itoa(more) + " bytes more"
			if e := r.do(c); e != want || r.m.half != 0 {
				t.Errorf("%s: %d, want %d, in half %d", what, e, want, r.m.half)
			}
			if e := r.do(c); want == api.ErrFull && e != want {
				t.Errorf("%s, once more: %d", what, e)
			}
		}
	}
}

// P8.1 (G3): as before, but 5 bytes of the tape are needless: so many may be missing till even the fewest records have no room.
func TestRoomForTheFewest(t *testing.T) {
	for _, c := range lasting() {
		size := len(c.bytes()) + 2
		for more := max(-8, -size); more <= 1; more++ {
			r := fresh(t, 13)
			if c.kind == 1 {
				r.all(open(1), open(2))
			} else {
				r.all(seal(1), seal(2))
			}
			r.fill(size + more)
			want, half := api.OK, 0
			switch {
			case more < -5:
				want = api.ErrFull
			case more < 0:
				half = 1
			}
			if e := r.do(c); e != want || r.m.half != half {
				t.Errorf("%s, %d bytes more: %d, want %d, in half %d, want %d", c.name(), more, e, want, r.m.half, half)
			}
		}
	}
}

// P8.1 (G3): changes that make other records needless have room where the tape was full: marks above cells and runs, cells trimmed one by one, runs that become one, numbers that were set before.
func TestChangesThatMakeRoom(t *testing.T) {
	full := func(l ...change) *rig {
		r := fresh(t, 9)
		r.all(l...)
		r.fill(0)
		return r
	}
	for _, x := range []struct {
		before []change
		c      change
		want   api.Errno
	}{
		{nil, trim(20), api.ErrFull},
		{nil, trim(21), api.OK},
		{nil, trim(1048576), api.OK},
		{nil, trimOne(19), api.ErrFull},
		{nil, trimOne(20), api.OK},
		{[]change{write(5, junk())}, trimOne(5), api.ErrFull},
		{[]change{write(5, junk())}, trim(6), api.OK},
		{[]change{write(5, data(""))}, trimOne(5), api.ErrFull},
		{[]change{write(5, data("x"))}, trimOne(5), api.OK},
		{[]change{trimOne(5)}, trimOne(7), api.ErrFull},
		{[]change{trimOne(5)}, trimOne(6), api.OK},
		{[]change{trimOne(5)}, trimOne(4), api.OK},
		{[]change{trimOne(5), trimOne(7)}, trimOne(6), api.OK},
		{[]change{trimOne(5)}, trim(5), api.ErrFull},
		{[]change{trimOne(5)}, trim(6), api.OK},
		{[]change{seal(1)}, seal(2), api.OK},
		{[]change{seal(1)}, open(2), api.ErrFull},
		{[]change{open(1)}, open(2), api.OK},
		{[]change{open(1)}, seal(2), api.ErrFull},
		{[]change{trim(1)}, trim(2), api.OK},
		{[]change{trim(1)}, seal(2), api.ErrFull},
		{[]change{seal(1), seal(2)}, write(5, data("")), api.ErrFull},
		{[]change{seal(1), seal(2), seal(3)}, write(5, data("")), api.OK},
	} {
		r := full(x.before...)
		if e := r.do(x.c); e != x.want {
			t.Errorf("%v, then %s of %d: %d, want %d", x.before, x.c.name(), x.c.n, e, x.want)
		}
	}
}

// P8.1 (G2, G3): on a full tape, all other errors come ahead of ErrFull, and what changes nothing is OK.
func TestErrorsWhenFull(t *testing.T) {
	r := fresh(t, 9)
	r.all(seal(5), open(5), trim(3), trimOne(7))
	r.fill(0)
	for _, x := range []struct {
		c    change
		want api.Errno
	}{
		{write(8, junk()), api.ErrFull}, {write(1048576, junk()), api.ErrArg}, {write(8, api.Cell{}), api.ErrArg}, {write(7, junk()), api.ErrTrimmed}, {write(2, junk()), api.ErrTrimmed}, {write(20, junk()), api.ErrWritten},
		{trim(4), api.OK}, {trimOne(9), api.ErrFull}, {trimOne(1048576), api.ErrArg}, {trimOne(7), api.OK}, {trimOne(2), api.OK}, {trim(3), api.OK}, {trim(1048577), api.ErrArg},
		{seal(5), api.ErrSealed}, {seal(1048577), api.ErrArg}, {open(5), api.OK}, {open(4), api.OK}, {open(1048577), api.ErrArg}, {write(9, great()), api.ErrFull},
	} {
		if e := r.do(x.c); e != x.want {
			t.Errorf("%s of %d: %d, want %d", x.c.name(), x.c.n, e, x.want)
		}
	}
}

// P8.1 (G3): the least disk, in which many a cell has no room at all, and numbers go on for ever, from half to half.
func TestLeastDisk(t *testing.T) {
	for _, sectors := range []int{3, 4} {
		r := fresh(t, sectors)
		for range 2 {
			if e := r.do(write(0, great())); e != api.ErrFull {
				t.Errorf("Write: %d", e)
			}
		}
		if e := r.do(write(0, data(strings.Repeat("y", 58)))); e != api.ErrFull {
			t.Errorf("Write of one byte too much: %d", e)
		}
		r.all(write(0, data(strings.Repeat("y", 57))))
		if e := r.do(seal(1)); e != api.ErrFull {
			t.Errorf("Seal: %d", e)
		}
		if e := r.do(trim(0)); e != api.OK {
			t.Errorf("Trim(0): %d", e)
		}
		r.all(trim(1))
		halves := 0
		for n := range uint64(60) {
			was := r.m.half
			r.all(seal(n+1), open(n+1), trim(n+2))
			if r.m.half != was {
				halves++
			}
		}
		if halves < 10 {
			t.Errorf("replaced %d times", halves)
		}
	}
}

// P8.1 (G3, G4): the greatest disk, filled with as many cells as it can have, each read again, and trimmed.
func TestGreatestDisk(t *testing.T) {
	d, _ := disk.New(api.MaxSectors)
	p, e := pages.Open(d)
	if e != api.OK {
		t.Fatalf("Open: %d", e)
	}
	const cells = 511 * 64 / 6
	for n := range uint64(cells) {
		// From the greatest address on downwards, so that no order comes by itself.
		if e := p.Write(2*(cells-1-n), junk()); e != api.OK {
			t.Fatalf("Write %d: %d", n, e)
		}
	}
	if e := p.Write(1, junk()); e != api.ErrFull {
		t.Errorf("Write: %d", e)
	}
	if e := p.Seal(1); e != api.ErrFull {
		t.Errorf("Seal: %d", e)
	}
	for _, d := range []*disk.Disk{d, d.Crash(nil)} {
		p, e := pages.Open(d)
		if e != api.OK || len(p.Written()) != cells || p.Tail() != 2*cells-1 {
			t.Fatalf("%d, %d cells, tail %d", e, len(p.Written()), p.Tail())
		}
		for i, a := range p.Written() {
			if a != 2*uint64(i) {
				t.Fatalf("written: %d", a)
			}
			if c, e := p.Read(a); e != api.OK || !cell.Same(c, junk()) {
				t.Fatalf("Read(%d): %v, %d", a, c, e)
			}
		}
		// A run takes 2 bytes more than a cell, and 4 are left.
		for _, x := range []struct {
			a    uint64
			want api.Errno
		}{{0, api.OK}, {2, api.OK}, {4, api.ErrFull}, {1, api.OK}, {4, api.OK}} {
			if e := p.TrimOne(x.a); e != x.want {
				t.Errorf("TrimOne(%d): %d, want %d", x.a, e, x.want)
			}
		}
		if e := p.Trim(7); e != api.OK {
			t.Errorf("Trim: %d", e)
		}
		if e := p.TrimOne(100); e != api.OK || p.Seal(3) != api.OK {
			t.Errorf("TrimOne: %d", e)
		}
		q, e := pages.Open(d.Crash(nil))
		if e != api.OK || len(q.Written()) != cells-5 || q.Mark() != 7 || q.Epoch() != 3 || q.Tail() != 2*cells-1 {
			t.Fatalf("%d, %d cells, mark %d, epoch %d", e, len(q.Written()), q.Mark(), q.Epoch())
		}
	}
}
