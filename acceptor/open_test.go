package acceptor_test

import (
	"bytes"
	"slices"
	"strconv"
	"testing"

	"rotulet/acceptor"
	"rotulet/api"
	"rotulet/disk"
	"rotulet/pages"
	"rotulet/tape"
)

// opens holds that there is an acceptor on a disk that is like m, and that opening it leaves the disk as it is.
func opens(t *testing.T, what string, d *disk.Disk, m *model) {
	t.Helper()
	was := image(d)
	x, e := acceptor.Open(d)
	if x == nil || e != api.OK {
		t.Fatalf("%s: %p, %d, want an acceptor", what, x, e)
	}
	holds(t, what, x, m)
	if !bytes.Equal(image(d), was) || len(d.Dirty()) != 0 {
		t.Fatalf("%s: the disk was changed", what)
	}
}

// refuses holds that there is no acceptor on a disk, and that asking for it leaves it as it is.
func refuses(t *testing.T, what string, d *disk.Disk, want api.Errno) {
	t.Helper()
	was, dirty := image(d), len(d.Dirty())
	if x, e := acceptor.Open(d); x != nil || e != want {
		t.Fatalf("%s: %p, %d, want %d", what, x, e, want)
	}
	if !bytes.Equal(image(d), was) || len(d.Dirty()) != dirty {
		t.Fatalf("%s: the disk was changed", what)
	}
}

// tried opens the acceptor on a tape with these records, and holds it against the reference; it tells whether there is one.
func tried(t *testing.T, what string, sectors int, l ...[]byte) bool {
	t.Helper()
	d := laid(t, sectors, l...)
	m, ok := described((sectors-1)/2*64, l)
	if ok {
		opens(t, what, d, m)
	} else {
		refuses(t, what, d, api.ErrSuper)
	}
	return ok
}

// P12.1 (A1, A3): records of each kind, worked out by hand: each call appends these bytes, and Open makes the same state of them.
func TestRecordsByHand(t *testing.T) {
	for _, x := range []struct {
		c     act
		bytes string
	}{
		{prepare(3, ballot(2, 1)), "\x00\x00\x0c\x00\x09"},
		{prepare(1, ballot(0, 1)), "\x00\x00\x04\x00\x01"},
		{prepare(1, ballot(1, 0)), "\x00\x00\x04\x00\x04"},
		{prepare(0x54321, ballot(0x1234, 2)), "\x15\x0c\x84\x48\xd2"},
		{prepare(1048576, ballot(65535, 3)), "\x40\x00\x03\xff\xff"},
		{prepare(1048576, ballot(32768, 0)), "\x40\x00\x02\x00\x00"},
		{prepare(1048575, ballot(0, 3)), "\x3f\xff\xfc\x00\x03"},
		{accept(3, ballot(2, 1), small(3, 4)), "\x80\x00\x0c\x00\x09" + "\x00\x00\x18\x00\x00\x00\x02\x00"},
		{accept(3, ballot(2, 1), small(3, 31)), "\x80\x00\x0c\x00\x09" + "\x00\x00\x18\x00\x00\x00\x0f\x80"},
		{accept(1048576, ballot(65535, 3), lay(1048576, 31, seg(0, []int{1, 2}))), "\xc0\x00\x03\xff\xff" + "\x80\x00\x07\xc0\x00\x00\x10\x88"},
	} {
		want := acceptor.State{Promised: x.c.ballot}
		if x.c.accept {
			want = acceptor.State{Promised: x.c.ballot, Accepted: x.c.ballot, Layout: x.c.layout}
		}
		d, _ := disk.New(5)
		y, _ := acceptor.Open(d)
		if s, e := ask(y, x.c, x.c.layout); e != api.OK || !alike(s, want) {
			t.Errorf("%s: %v, %d", x.c.name(), s, e)
		}
		n := byte(len(x.bytes))
		if super, first := disk.Fill([]byte{0, 0, 0, 0, 1, 0, 0, 0, n + 2}), disk.Fill(append([]byte{0, n}, x.bytes...)); !bytes.Equal(image(d)[:128], append(super[:], first[:]...)) {
			t.Errorf("%s: %x", x.c.name(), image(d)[:128])
		}
		z, e := acceptor.Open(laid(t, 3, []byte(x.bytes)))
		if e != api.OK {
			t.Fatalf("%s: Open: %d", x.c.name(), e)
		}
		if s, e := z.Learn(x.c.epoch); e != api.OK || !alike(s, want) || !slices.Equal(z.Epochs(), []uint64{x.c.epoch}) {
			t.Errorf("%s: opened: %v, %d, %v", x.c.name(), s, e, z.Epochs())
		}
	}
}

// P12.1 (A1): records one behind the other, worked out by hand, also such as no call appends: a promise of what is promised already.
func TestOpenByHand(t *testing.T) {
	one, two := small(5, 1), great(5)
	b := ballot
	for what, x := range map[string]struct {
		l    []act
		want acceptor.State // of epoch 5
	}{
		"no record":                        {nil, acceptor.State{}},
		"another epoch":                    {[]act{prepare(4, b(9, 1)), prepare(6, b(9, 1))}, acceptor.State{}},
		"promises that grow":               {[]act{prepare(5, b(1, 1)), prepare(5, b(1, 2)), prepare(5, b(2, 0))}, acceptor.State{Promised: b(2, 0)}},
		"a promise once more":              {[]act{prepare(5, b(1, 1)), prepare(5, b(1, 1))}, acceptor.State{Promised: b(1, 1)}},
		"the greatest promise once more":   {[]act{prepare(5, b(65535, 3)), prepare(5, b(65535, 3))}, acceptor.State{Promised: b(65535, 3)}},
		"an acceptance":                    {[]act{accept(5, b(1, 1), two)}, acceptor.State{Promised: b(1, 1), Accepted: b(1, 1), Layout: two}},
		"an acceptance of a promise":       {[]act{prepare(5, b(1, 1)), accept(5, b(1, 1), two)}, acceptor.State{Promised: b(1, 1), Accepted: b(1, 1), Layout: two}},
		"an acceptance above a promise":    {[]act{prepare(5, b(1, 1)), accept(5, b(1, 2), two)}, acceptor.State{Promised: b(1, 2), Accepted: b(1, 2), Layout: two}},
		"a promise of what is accepted":    {[]act{accept(5, b(1, 1), two), prepare(5, b(1, 1))}, acceptor.State{Promised: b(1, 1), Accepted: b(1, 1), Layout: two}},
		"a promise above what is accepted": {[]act{accept(5, b(1, 1), two), prepare(5, b(1, 2))}, acceptor.State{Promised: b(1, 2), Accepted: b(1, 1), Layout: two}},
		"an acceptance once more":          {[]act{accept(5, b(1, 1), two), accept(5, b(1, 1), two)}, acceptor.State{Promised: b(1, 1), Accepted: b(1, 1), Layout: two}},
		"another layout":                   {[]act{accept(5, b(1, 1), two), accept(5, b(1, 1), one)}, acceptor.State{Promised: b(1, 1), Accepted: b(1, 1), Layout: one}},
		"other epochs with other ballots":  {[]act{prepare(5, b(3, 1)), prepare(4, b(1, 1)), accept(6, b(2, 0), small(6, 1)), accept(5, b(3, 1), one), prepare(4, b(1, 2))}, acceptor.State{Promised: b(3, 1), Accepted: b(3, 1), Layout: one}},
	} {
		y, e := acceptor.Open(laid(t, 41, recordsOf(x.l...)...))
		if e != api.OK {
			t.Errorf("%s: %d", what, e)
			continue
		}
		if s, e := y.Learn(5); e != api.OK || !alike(s, x.want) {
			t.Errorf("%s: %v, %d, want %v", what, s, e, x.want)
		}
		if !tried(t, what, 41, recordsOf(x.l...)...) {
			t.Errorf("%s: refused by the reference", what)
		}
		for i := range x.l {
			tried(t, what, 41, recordsOf(append(slices.Clone(x.l[:i]), x.l[i+1:]...)...)...)
		}
	}
}

// malformed are records that no acceptor has, worked out by hand.
func malformed() map[string][]byte {
	m := map[string][]byte{
		"no ballot promised":      head(false, 5, 0, 0),
		"no ballot accepted":      accept(5, ballot(0, 0), small(5, 1)).bytes(),
		"an acceptance of no one": head(true, 5, 1, 1),
		"a byte of 0":             {0},
		"a byte of 80":            {0x80},
		"five bytes of 0":         {0, 0, 0, 0, 0},
		"five bytes of ff":        {255, 255, 255, 255, 255},
		"a promise and a byte":    append(head(false, 5, 1, 1), 0),
		"a promise and a bit":     append(head(false, 5, 1, 1), 0x80),
		"two promises in one":     append(head(false, 5, 1, 1), head(false, 5, 1, 2)...),
		"a promise with a layout": append(head(false, 5, 1, 1), accept(5, ballot(1, 1), small(5, 1)).bytes()[5:]...),
		"much":                    bytes.Repeat([]byte{0}, 300),
		"much more":               bytes.Repeat([]byte{0x80, 1}, 150),
	}
	for what, epoch := range map[string]uint64{"epoch 0": 0, "the epoch above the last one": 1048577, "the greatest epoch of 21 bits": 2097151} {
		m[what+", promised"] = head(false, epoch, 1, 1)
		m[what+", accepted"] = append(head(true, epoch, 1, 1), accept(5, ballot(1, 1), small(5, 1)).bytes()[5:]...)
		plan := bytesOf(spell(epoch, 21) + "00000 00" + spell(0, 20) + "00 00 00100 0000000")
		m[what+", a layout of it"] = append(head(true, epoch, 1, 1), plan...)
	}
	for n := 1; n < 5; n++ {
		m["a promise's bytes: "+strconv.Itoa(n)] = head(false, 5, 1, 1)[:n]
		m["an acceptance's bytes: "+strconv.Itoa(n)] = head(true, 5, 1, 1)[:n]
	}
	for _, other := range []uint64{1, 4, 6, 1048576} {
		m["a layout of epoch "+spell(other, 21)] = append(head(true, 5, 1, 1), accept(other, ballot(1, 1), great(other)).bytes()[5:]...)
	}
	for what, digits := range map[string]string{
		"a bit behind":     "00000 00" + spell(0, 20) + "00 00 00100 0000001",
		"bits behind":      "00000 00" + spell(0, 20) + "00 00 00100 1000000",
		"a byte behind":    "00000 00" + spell(0, 20) + "00 00 00100 0000000 00000000",
		"units missing":    "00000 00" + spell(0, 20) + "00 11 00100 0000000",
		"its end missing":  "00000 00" + spell(0, 20) + "00 01 0010",
		"a late beginning": "00000 00" + spell(1, 20) + "00 00 00100 0000000",
		"a unit twice":     "00000 00" + spell(0, 20) + "00 01 00100 00100 00",
	} {
		m["a layout that is not valid: "+what] = append(head(true, 5, 1, 1), bytesOf(spell(5, 21)+digits)...)
	}
	return m
}

// P12.1 (A1), wrong inputs: each malformed record alone, behind others and ahead of them.
func TestMalformed(t *testing.T) {
	before, behind := recordsOf(prepare(5, ballot(0, 1)), accept(1, ballot(1, 1), small(1, 2))), recordsOf(prepare(5, ballot(7, 1)), accept(6, ballot(1, 1), small(6, 2)))
	for what, b := range malformed() {
		refuses(t, what, laid(t, 41, b), api.ErrSuper)
		refuses(t, what+", behind others", laid(t, 41, append(slices.Clone(before), b)...), api.ErrSuper)
		refuses(t, what+", ahead of others", laid(t, 41, append([][]byte{b}, behind...)...), api.ErrSuper)
		refuses(t, what+", amid others", laid(t, 41, slices.Concat(before, [][]byte{b}, behind)...), api.ErrSuper)
		if tried(t, what, 41, b) {
			t.Errorf("%s: taken by the reference", what)
		}
	}
}

// P12.1 (A1), wrong inputs: records each of which is well formed, but whose ballot is less than what its epoch promised before.
func TestLesserBallots(t *testing.T) {
	for i, first := range ballots() {
		for j, second := range ballots() {
			for n := range 4 {
				a, b := prepare(5, first), prepare(5, second)
				if n&1 == 1 {
					a = accept(5, first, small(5, 1))
				}
				if n&2 == 2 {
					b = accept(5, second, small(5, 2))
				}
				d := laid(t, 41, recordsOf(prepare(4, ballot(65535, 3)), a, accept(6, ballot(65535, 3), small(6, 1)), b)...)
				if x, e := acceptor.Open(d); (e == api.OK) != (j >= i) || (x == nil) != (j < i) || e != api.OK && e != api.ErrSuper {
					t.Fatalf("%s, then %s: %p, %d", a.name(), b.name(), x, e)
				}
			}
		}
	}
	refuses(t, "less than the last but one", laid(t, 41, recordsOf(prepare(5, ballot(3, 1)), prepare(5, ballot(5, 1)), prepare(5, ballot(4, 1)))...), api.ErrSuper)
	refuses(t, "less than what is promised, not accepted", laid(t, 41, recordsOf(accept(5, ballot(3, 1), small(5, 1)), prepare(5, ballot(5, 1)), accept(5, ballot(4, 1), small(5, 1)))...), api.ErrSuper)
}

// P12.1 (A1): every record of one or two bytes, which none of them is, and some of five, six and more.
func TestFewBytes(t *testing.T) {
	for a := range 256 {
		tried(t, "one byte", 3, []byte{byte(a)})
		for _, rest := range []string{"\x00", "\x00\x0c\x00", "\x00\x0c\x00\x09", "\x00\x0c\x00\x00", "\x00\x00\x00\x09", "\x00\x03\xff\xff", "\xff\xff\xff\xff", "\x00\x0c\x00\x09\x00", "\x00\x0c\x00\x09\x00\x00\x18\x00\x00\x00\x02\x00", "\x00\x0c\x00\x09\x00\x00\x18\x00\x00\x00\x02\x01", "\x00\x0c\x00\x09\x00\x00\x18\x00\x00\x00\x02\x00\x00", "\x00\x0c\x00\x09\x00\x00\x18\x00\x00\x00\x02"} {
			tried(t, "some bytes", 3, []byte(string([]byte{byte(a)})+rest))
		}
	}
}

// P12.1 (A1): tapes of which one bit or two are turned round, or of a record of which a byte is missing, or added.
func TestDamaged(t *testing.T) {
	good := recordsOf(prepare(4, ballot(1, 1)), accept(4, ballot(1, 1), small(4, 4)), prepare(1048576, ballot(65535, 3)), accept(9, ballot(2, 0), lay(9, 2, seg(0, []int{1, 2}, []int{3}), seg(9, []int{1}))), prepare(4, ballot(1, 3)), prepare(9, ballot(2, 0)), accept(4, ballot(2, 0), small(4, 5)))
	with := func(i int, b []byte) [][]byte { return slices.Concat(good[:i], [][]byte{b}, good[i+1:]) }
	taken := 0
	for i, b := range good {
		for n := range b[1:] {
			tried(t, "cut short", 15, with(i, b[:n+1])...)
			tried(t, "without its beginning", 15, with(i, b[n+1:])...)
		}
		for _, x := range []byte{0, 1, 2, 0x40, 0x80, 0xff} {
			tried(t, "a byte behind", 15, with(i, append(slices.Clone(b), x))...)
			tried(t, "a byte ahead", 15, with(i, append([]byte{x}, b...))...)
		}
		for k := range 8 * len(b) {
			bad := slices.Clone(b)
			bad[k/8] ^= 128 >> (k % 8)
			if tried(t, "a bit turned round", 15, with(i, bad)...) {
				taken++
			}
			for j := range k {
				bad[j/8] ^= 128 >> (j % 8)
				tried(t, "two bits turned round", 15, with(i, bad)...)
				bad[j/8] ^= 128 >> (j % 8)
			}
		}
		tried(t, "missing", 15, slices.Concat(good[:i], good[i+1:])...)
		for j := range i {
			swapped := slices.Clone(good)
			swapped[i], swapped[j] = swapped[j], swapped[i]
			tried(t, "in another order", 15, swapped...)
		}
	}
	if taken == 0 {
		t.Error("no damage was taken for what it says")
	}
}

// P12.1 (A1): any records, one after the other.
func TestAnyTape(t *testing.T) {
	s := stir(122)
	taken := map[bool]int{}
	for range 4000 {
		var l []act
		round := 0
		for range 1 + s.below(7) {
			c := s.act()
			for c.wrong() {
				c = s.act()
			}
			round += s.below(3)
			c.ballot.Round = max(round-s.below(2), 1)
			l = append(l, c)
		}
		taken[tried(t, "any tape", 41, recordsOf(l...)...)]++
	}
	if taken[true] < 400 || taken[false] < 400 {
		t.Errorf("taken: %v", taken)
	}
}

// P12.1 (A1), wrong inputs: no disk, one of too few sectors, and no tape on it; these errors come ahead of those of records.
func TestOpenErrors(t *testing.T) {
	if x, e := acceptor.Open(nil); x != nil || e != api.ErrArg {
		t.Errorf("nil: %p, %d", x, e)
	}
	refuses(t, "no sectors", new(disk.Disk), api.ErrArg)
	for _, sectors := range []int{1, 2} {
		d, _ := disk.New(sectors)
		refuses(t, "too few sectors", d, api.ErrArg)
		d.Write(0, disk.Fill([]byte{9}))
		refuses(t, "too few sectors, and no superblock", d, api.ErrArg)
	}
	for _, super := range []string{"\x02", "\x00\x00\x00\x00\x01", "\x00\x00\x00\x00\x00\x00\x00\x00\x07", "\x00\x00\x00\x00\x00\x00\x00\x00\x00\x01", "\x01\x00\x00\x00\x01\x00\x00\x00\x07"} {
		d := laid(t, 5, prepare(3, ballot(1, 1)).bytes())
		d.Write(0, disk.Fill([]byte(super)))
		refuses(t, "no superblock", d, api.ErrSuper)
	}
	for _, sectors := range []int{3, 4, 1023, 1024} {
		opens(t, "new", laid(t, sectors), &model{})
		opens(t, "a record", laid(t, sectors, prepare(3, ballot(1, 1)).bytes()), &model{made: []act{prepare(3, ballot(1, 1))}})
	}
}

// P12.1 (A1), wrong inputs: a disk with the tape of a storage unit's pages.
func TestAnotherTape(t *testing.T) {
	for _, change := range []func(p *pages.Pages) api.Errno{
		func(p *pages.Pages) api.Errno { return p.Seal(5) },
		func(p *pages.Pages) api.Errno { return p.Open(5) },
		func(p *pages.Pages) api.Errno { return p.Trim(5) },
		func(p *pages.Pages) api.Errno { return p.TrimOne(5) },
		func(p *pages.Pages) api.Errno { return p.Write(5, api.Cell{Kind: api.Junk}) },
		func(p *pages.Pages) api.Errno { return p.Write(5, api.Cell{Kind: api.Data, Data: []byte("hey")}) },
	} {
		d, _ := disk.New(9)
		p, _ := pages.Open(d)
		if e := change(p); e != api.OK {
			t.Fatalf("a change: %d", e)
		}
		refuses(t, "pages", d, api.ErrSuper)
	}
}

// P12.1 (A1): an acceptor whose records stand in the other half; what waits on another tape of the same disk is no record yet.
func TestOpenHalves(t *testing.T) {
	d := laid(t, 9, prepare(3, ballot(9, 1)).bytes(), accept(4, ballot(1, 1), small(4, 1)).bytes())
	x, _ := tape.Open(d)
	l := []act{prepare(3, ballot(5, 1)), accept(4, ballot(1, 2), small(4, 2))}
	x.Replace(recordsOf(l...))
	if e := x.Commit(); e != api.OK {
		t.Fatalf("Commit: %d", e)
	}
	x.Append(prepare(6, ballot(1, 1)).bytes())
	opens(t, "the other half", d, &model{made: l})
	if over, e := x.Step(); over || e != api.OK {
		t.Fatalf("Step: %v, %d", over, e)
	}
	opens(t, "a record without a superblock that tells of it", d.Crash([]bool{true}), &model{made: l})
}
