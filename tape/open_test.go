package tape_test

import (
	"bytes"
	"encoding/binary"
	"strconv"
	"testing"

	"rotulet/api"
	"rotulet/disk"
	"rotulet/tape"
)

// laid is a disk with these bytes on it, as far as they go.
func laid(t *testing.T, sectors int, b []byte) *disk.Disk {
	t.Helper()
	d, e := disk.New(sectors)
	if e != api.OK {
		t.Fatalf("disk.New(%d): %d", sectors, e)
	}
	for i := range sectors {
		if 64*i < len(b) {
			d.Write(i, disk.Fill(b[64*i:]))
		}
	}
	d.Flush()
	return d
}

// bytesOf are a superblock and what lies behind it.
func bytesOf(half byte, records, size uint32, behind []byte) []byte {
	b := make([]byte, 64)
	b[0] = half
	binary.BigEndian.PutUint32(b[1:], records)
	binary.BigEndian.PutUint32(b[5:], size)
	return append(b, behind...)
}

// refuses holds that a disk cannot be opened, and that this leaves it as it is.
func refuses(t *testing.T, what string, d *disk.Disk, want api.Errno) {
	t.Helper()
	var was []disk.Sector
	for i := range d.Len() {
		s, _ := d.Read(i)
		was = append(was, s)
	}
	dirty := len(d.Dirty())
	if x, e := tape.Open(d); x != nil || e != want {
		t.Errorf("%s: %p, %d, want %d", what, x, e, want)
	}
	for i, w := range was {
		if s, _ := d.Read(i); s != w {
			t.Errorf("%s: sector %d was changed", what, i)
		}
	}
	if len(d.Dirty()) != dirty {
		t.Errorf("%s: dirty: %v", what, d.Dirty())
	}
}

// opens holds that a disk can be opened, with these records and so much room.
func opens(t *testing.T, what string, d *disk.Disk, room int, want ...[]byte) {
	t.Helper()
	x, e := tape.Open(d)
	if x == nil || e != api.OK {
		t.Errorf("%s: %p, %d", what, x, e)
		return
	}
	holds(t, what, x, want)
	if x.Room() != room || x.Waiting() != 0 {
		t.Errorf("%s: Room: %d, want %d; Waiting: %d", what, x.Room(), room, x.Waiting())
	}
	if over, e := x.Step(); !over || e != api.OK {
		t.Errorf("%s: Step: %v, %d", what, over, e)
	}
}

// P6.1 (T1): new disks of the fewest sectors, of an even and an odd number of them, and of the most; too few, and none.
func TestOpenNew(t *testing.T) {
	for sectors, room := range map[int]int{3: 64, 4: 64, 5: 128, 6: 128, 7: 192, 9: 256, 10: 256, 1023: 511 * 64, 1024: 511 * 64} {
		opens(t, strconv.Itoa(sectors)+" sectors", laid(t, sectors, nil), room)
	}
	for _, sectors := range []int{1, 2} {
		refuses(t, "few sectors", laid(t, sectors, nil), api.ErrArg)
		refuses(t, "few sectors, no superblock", laid(t, sectors, []byte{9}), api.ErrArg)
	}
	refuses(t, "nil", nil, api.ErrArg)
}

// P6.1 (T1): either half, with records up to its end, and whatever lies behind them and in the other half.
func TestOpenHalves(t *testing.T) {
	for _, sectors := range []int{3, 4, 9, 10} {
		size := (sectors - 1) / 2 * 64
		for _, n := range []int{0, 3, 40, 63, 64, size - 1, size} {
			l := sized(n)
			for half := range 2 {
				b := bytes.Repeat([]byte{0xEE}, 64*sectors)
				copy(b, bytesOf(byte(half), uint32(len(l)), uint32(n), nil))
				copy(b[64+half*size:], framed(l))
				opens(t, strconv.Itoa(n)+" bytes", laid(t, sectors, b), size-n, l...)
			}
		}
	}
}

// P6.1 (T1), worked out by hand.
func TestOpenByHand(t *testing.T) {
	d := laid(t, 5, append(bytesOf(1, 3, 14, make([]byte, 128)), "\x00\x03one\x00\x01\x00\x00\x04fourand so on"...))
	opens(t, "by hand", d, 114, []byte("one"), []byte{0}, []byte("four"))
}

// P6.1 (T1): what was written and not flushed is read, and Open does not write or flush.
func TestOpenDirty(t *testing.T) {
	d := laid(t, 5, nil)
	d.Write(0, disk.Fill(bytesOf(0, 1, 5, nil)))
	d.Write(1, disk.Fill([]byte("\x00\x03new")))
	opens(t, "dirty", d, 123, []byte("new"))
	if len(d.Dirty()) != 2 {
		t.Errorf("dirty: %v", d.Dirty())
	}
	opens(t, "all lost", d.Crash(nil), 128)
}

// P6.1 (T1), wrong inputs: superblocks with a byte 0 that is no half, or with bytes behind their numbers.
func TestWrongSuper(t *testing.T) {
	good := bytesOf(0, 2, 10, []byte("\x00\x03one\x00\x03two"))
	opens(t, "as it should be", laid(t, 7, good), 182, []byte("one"), []byte("two"))
	spoilt := func(what string, at int, x byte) {
		b := bytes.Clone(good)
		b[at] = x
		refuses(t, what+" "+strconv.Itoa(at), laid(t, 7, b), api.ErrSuper)
	}
	for x := 2; x < 256; x++ {
		spoilt("half", 0, byte(x))
	}
	spoilt("the other half", 0, 1)
	for at := 9; at < 64; at++ {
		spoilt("behind", at, 1)
		spoilt("behind", at, 0x80)
	}
	for at := 1; at < 9; at++ {
		for bit := range 8 {
			spoilt("number", at, good[at]^1<<bit)
		}
	}
}

// P6.1 (T1), wrong inputs: more records or bytes than the frames have, or fewer, for frames in either half.
func TestWrongNumbers(t *testing.T) {
	for _, sectors := range []int{5, 6} {
		for half := range 2 {
			behind := make([]byte, 64*(sectors-1))
			l := records(3, 1, 70)
			copy(behind[128*half:], framed(append(l, record(20, 1))))
			for n := range 6 {
				for size := range 140 {
					d := laid(t, sectors, bytesOf(byte(half), uint32(n), uint32(size), behind))
					what := strconv.Itoa(n) + " records, " + strconv.Itoa(size) + " bytes"
					switch [2]int{n, size} {
					case [2]int{0, 0}, [2]int{1, 5}, [2]int{2, 8}, [2]int{3, 80}, [2]int{4, 102}:
						opens(t, what, d, 128-size, append(records(3, 1, 70), record(20, 1))[:n]...)
					default:
						refuses(t, what, d, api.ErrSuper)
					}
				}
			}
		}
	}
	for _, n := range []uint32{1 << 8, 1 << 16, 1 << 24, 1 << 31, 1<<31 - 1, 1<<32 - 1, 1<<32 - 64} {
		refuses(t, "records", laid(t, 5, bytesOf(0, n, 0, nil)), api.ErrSuper)
		refuses(t, "bytes", laid(t, 5, bytesOf(0, 0, n, nil)), api.ErrSuper)
		refuses(t, "both", laid(t, 5, bytesOf(1, n, n, nil)), api.ErrSuper)
		refuses(t, "records that are so many modulo it", laid(t, 5, bytesOf(0, n+1, 3, []byte{0, 1, 9})), api.ErrSuper)
	}
}

// P6.1 (T1), wrong inputs: frames that would go on behind their half, into the other one, into the sector that belongs to none, or behind the disk.
func TestBehindTheHalf(t *testing.T) {
	for _, sectors := range []int{3, 4, 5, 6} {
		size := (sectors - 1) / 2 * 64
		for half := range 2 {
			for more := range 70 {
				l := sized(size + more)
				d := laid(t, sectors, bytesOf(byte(half), uint32(len(l)), uint32(size+more), append(make([]byte, half*size), framed(l)...)))
				if more == 0 {
					opens(t, "full", d, 0, l...)
				} else {
					refuses(t, strconv.Itoa(more)+" bytes behind", d, api.ErrSuper)
				}
			}
		}
	}
}

// P6.1 (T1), wrong inputs: frames whose length is 0, more than MaxRecord, or more than what is left, at the beginning, amid others, and at the end.
func TestWrongLengths(t *testing.T) {
	for _, at := range []int{0, 1, 2} {
		l := records(10, 300, 12)
		for n := range 700 {
			b := framed(l[:at])
			b = binary.BigEndian.AppendUint16(b, uint16(n))
			b = append(b, record(n, 3)...)
			b = append(b, framed(l[at:])...)
			d := laid(t, 41, bytesOf(0, 4, uint32(len(b)), b))
			if n == 0 || n > 300 {
				refuses(t, "length "+strconv.Itoa(n), d, api.ErrSuper)
			} else {
				opens(t, "length "+strconv.Itoa(n), d, 1280-len(b), append(append(records(10, 300, 12)[:at:at], record(n, 3)), records(10, 300, 12)[at:]...)...)
			}
		}
	}
	before := framed(records(10))
	for _, x := range []struct {
		what, behind string
	}{
		{"half a length", "\x00"},
		{"half a length, not 0", "\x01"},
		{"a length, and nothing", "\x00\x01"},
		{"a length of 0", "\x00\x00"},
		{"more than is left by one", "\x00\x04abc"},
		{"more than is left", "\x01\x2cabc"},
		{"less than is left by one", "\x00\x02abc"},
		{"less than is left by two", "\x00\x01abc"},
		{"the greatest length", "\xff\xffabc"},
		{"its bytes turned round", "\x03\x00abc"},
	} {
		b := append(bytes.Clone(before), x.behind...)
		for n := range uint32(4) {
			refuses(t, x.what, laid(t, 7, bytesOf(0, n, uint32(len(b)), b)), api.ErrSuper)
			refuses(t, x.what+" alone", laid(t, 7, bytesOf(0, n, uint32(len(x.behind)), []byte(x.behind))), api.ErrSuper)
		}
	}
}
