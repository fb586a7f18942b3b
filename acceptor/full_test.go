package acceptor_test

import (
	"bytes"
	"strconv"
	"testing"

	"rotulet/api"
	"rotulet/disk"
)

// P12.1 (A3), worked out by hand: a tape of 64 bytes on which each act has a record of its own, till there is no room for one: then the fewest records take the place of all, in the other half.
func TestReplacedByHand(t *testing.T) {
	r := fresh(t, 3)
	r.all(prepare(9, ballot(1, 1)), accept(3, ballot(2, 1), small(3, 4)), prepare(9, ballot(1, 2)), prepare(3, ballot(2, 2)), prepare(1, ballot(0, 1)), prepare(9, ballot(1, 3)), prepare(9, ballot(2, 0)))
	super := func(half byte, records, size byte) []byte { return []byte{half, 0, 0, 0, records, 0, 0, 0, size} }
	if s, _ := r.d.Read(0); s != disk.Fill(super(0, 7, 57)) {
		t.Fatalf("superblock: %x", s)
	}
	r.all(prepare(9, ballot(2, 1))) // 7 bytes, and just as many were left
	if s, _ := r.d.Read(0); s != disk.Fill(super(0, 8, 64)) {
		t.Fatalf("superblock: %x", s)
	}
	was := image(r.d)
	r.all(prepare(9, ballot(2, 2)))
	want := "\x00\x05\x00\x00\x04\x00\x01" + "\x00\x0d\x80\x00\x0c\x00\x09\x00\x00\x18\x00\x00\x00\x02\x00" + "\x00\x05\x00\x00\x0c\x00\x0a" + "\x00\x05\x00\x00\x24\x00\x0a"
	if s, _ := r.d.Read(0); s != disk.Fill(super(1, 4, byte(len(want)))) {
		t.Errorf("superblock: %x", s)
	}
	if s, _ := r.d.Read(2); s != disk.Fill([]byte(want)) {
		t.Errorf("records: %x, want %x", s, want)
	}
	if !bytes.Equal(was[64:128], image(r.d)[64:128]) {
		t.Error("the other half was changed")
	}
	r.all(accept(1, ballot(0, 1), small(1, 1)))
	want += "\x00\x0d\x80\x00\x04\x00\x01\x00\x00\x08\x00\x00\x00\x00\x80"
	if s, _ := r.d.Read(2); s != disk.Fill([]byte(want)) {
		t.Errorf("appended: %x, want %x", s, want)
	}
}

// nine is a layout whose encoding has 9 bytes.
func nine(epoch uint64) api.Layout { return lay(epoch, 0, seg(0, []int{1, 2, 3})) }

// fill promises and accepts in epochs of their own, from 1000 on, till so much room is left.
func (r *rig) fill(room int) {
	r.t.Helper()
	const promise, eight, nineBytes = 7, 15, 16 // bytes of the frames
	for epoch := uint64(1000); r.m.room() > room; epoch++ {
		switch left := r.m.room() - room; {
		case left%promise >= nineBytes%promise:
			r.all(accept(epoch, ballot(3, 3), nine(epoch)))
		case left%promise == eight%promise:
			r.all(accept(epoch, ballot(3, 3), small(epoch, 3)))
		default:
			r.all(prepare(epoch, ballot(3, 3)))
		}
	}
	if r.m.room() != room {
		r.t.Fatalf("room: %d, want %d", r.m.room(), room)
	}
}

// lasting are acts of each kind, none of which makes other records needless.
func lasting() []act {
	return []act{prepare(9, ballot(1, 1)), accept(9, ballot(1, 1), small(9, 1)), accept(9, ballot(1, 1), nine(9)), accept(1048576, ballot(65535, 3), great(1048576))}
}

// P12.1 (A3): a record that has just room, and some more; one that lacks a byte or several: where no record is needless, the error is ErrFull, and nothing has changed.
func TestJustRoom(t *testing.T) {
	for _, c := range lasting() {
		for more := -4; more <= 4; more++ {
			r := fresh(t, 13)
			r.fill(len(c.bytes()) + 2 + more)
			want := api.OK
			if more < 0 {
				want = api.ErrFull
			}
			what := c.name() + ", " + strconv.Itoa(more) + " bytes more"
			if e := r.do(c); e != want || r.m.half != 0 {
				t.Errorf("%s: %d, want %d, in half %d", what, e, want, r.m.half)
			}
			if e := r.do(c); want == api.ErrFull && e != want {
				t.Errorf("%s, once more: %d", what, e)
			}
		}
	}
}

// P12.1 (A3): as before, but 7 bytes of the tape are needless: so many may be missing till even the fewest records have no room.
func TestRoomForTheFewest(t *testing.T) {
	for _, c := range lasting() {
		size := len(c.bytes()) + 2
		for more := max(-10, -size); more <= 1; more++ {
			r := fresh(t, 13)
			r.all(prepare(5, ballot(1, 1)), prepare(5, ballot(1, 2)))
			r.fill(size + more)
			want, half := api.OK, 0
			switch {
			case more < -7:
				want = api.ErrFull
			case more < 0:
				half = 1
			}
			if e := r.do(c); e != want || r.m.half != half {
				t.Errorf("%s, %d bytes more: %d, want %d, in half %d, want %d", c.name(), more, e, want, r.m.half, half)
			}
		}
	}
}

// P12.1 (A3): acts that make other records needless have room where the tape was full; where a promise is greater than what is accepted, it stays; where it equals that, or nothing is accepted, one record tells all.
func TestActsThatMakeRoom(t *testing.T) {
	b := ballot
	for _, x := range []struct {
		before []act
		c      act
		want   api.Errno
	}{
		{nil, prepare(5, b(1, 1)), api.ErrFull},
		{nil, prepare(1000, b(3, 2)), api.ErrBallot},
		{[]act{prepare(5, b(1, 1))}, prepare(5, b(1, 2)), api.OK},
		{[]act{prepare(5, b(1, 1))}, prepare(6, b(1, 2)), api.ErrFull},
		{[]act{prepare(5, b(1, 1))}, accept(5, b(1, 1), small(5, 1)), api.ErrFull},
		{[]act{prepare(5, b(1, 1)), prepare(5, b(1, 2))}, accept(5, b(1, 2), small(5, 1)), api.ErrFull},
		{[]act{prepare(5, b(1, 1)), prepare(5, b(1, 2))}, prepare(6, b(1, 2)), api.OK},
		{[]act{prepare(5, b(1, 1)), prepare(5, b(1, 2)), prepare(5, b(1, 3))}, accept(5, b(1, 3), small(5, 1)), api.OK},
		{[]act{accept(5, b(1, 1), small(5, 1))}, prepare(5, b(1, 2)), api.ErrFull},
		{[]act{accept(5, b(1, 1), small(5, 1)), prepare(5, b(1, 2))}, prepare(5, b(1, 3)), api.OK},
		{[]act{accept(5, b(1, 1), small(5, 1)), prepare(5, b(1, 2))}, prepare(6, b(1, 3)), api.ErrFull},
		{[]act{accept(5, b(1, 1), small(5, 1)), prepare(5, b(1, 2))}, accept(5, b(1, 2), nine(5)), api.OK},
		{[]act{accept(5, b(1, 1), small(5, 1)), prepare(5, b(1, 2))}, accept(5, b(1, 2), great(5)), api.ErrFull},
		{[]act{accept(5, b(1, 1), small(5, 1))}, accept(5, b(1, 1), small(5, 1)), api.OK},
		{[]act{accept(5, b(1, 1), small(5, 1))}, accept(5, b(1, 1), small(5, 2)), api.OK},
		{[]act{accept(5, b(1, 1), small(5, 1))}, accept(5, b(2, 1), small(5, 2)), api.OK},
		{[]act{accept(5, b(1, 1), small(5, 1))}, accept(5, b(2, 1), nine(5)), api.ErrFull},
		{[]act{accept(5, b(1, 1), nine(5))}, accept(5, b(2, 1), small(5, 1)), api.OK},
		{[]act{accept(5, b(1, 1), great(5))}, accept(5, b(1, 1), small(5, 1)), api.OK},
		{[]act{accept(5, b(1, 1), small(5, 1)), accept(5, b(1, 1), small(5, 1))}, prepare(5, b(1, 2)), api.OK},
		{[]act{prepare(5, b(1, 1)), accept(5, b(1, 1), small(5, 1))}, prepare(5, b(1, 2)), api.OK},
		{[]act{prepare(5, b(1, 1)), accept(5, b(1, 1), small(5, 1))}, prepare(6, b(1, 2)), api.OK},
		{[]act{prepare(5, b(1, 1)), accept(5, b(1, 2), small(5, 1))}, prepare(6, b(1, 2)), api.OK},
	} {
		r := fresh(t, 9)
		r.all(x.before...)
		r.fill(0)
		if e := r.do(x.c); e != x.want {
			t.Errorf("%v, then %s: %d, want %d", x.before, x.c.name(), e, x.want)
		}
	}
}

// P12.1 (A3): the least disk, on which some a layout has no room at all, and ballots go on for ever, from half to half.
func TestLeastDisk(t *testing.T) {
	for _, sectors := range []int{3, 4} {
		r := fresh(t, sectors)
		for range 2 {
			if e := r.do(accept(5, ballot(1, 1), great(5))); e != api.ErrFull || len(r.x.Epochs()) != 0 {
				t.Errorf("Accept: %d, %v", e, r.x.Epochs())
			}
		}
		for n := range 60 {
			r.all(prepare(5, ballot(n+1, 1)), accept(5, ballot(n+1, 2), small(5, n%32)))
			r.do(prepare(6, ballot(1+n/2, n%4)))
		}
	}
}

// P12.1 (A3): records that tell many epochs, put in order of the epochs whatever the order in which these were heard of.
func TestManyEpochs(t *testing.T) {
	r := fresh(t, 41)
	for n := range uint64(60) {
		epoch := 1 + n*37%60
		r.all(prepare(epoch, ballot(1, int(n%4))))
		if n%3 == 0 {
			r.all(accept(epoch, ballot(2, 1), small(epoch, int(n%32))))
		}
		if n%2 == 0 {
			r.all(prepare(epoch, ballot(3, 1)))
		}
	}
	for n := 0; r.m.half == 0; n++ {
		r.all(prepare(7, ballot(100+n, 0)))
	}
	if len(r.m.tape) != 70 { // of 60 epochs, 20 have an acceptance, 10 of them a promise above it
		t.Errorf("%d records", len(r.m.tape))
	}
}
