package pages_test

import (
	"bytes"
	"slices"
	"strconv"
	"strings"
	"testing"

	"rotulet/api"
	"rotulet/cell"
	"rotulet/disk"
	"rotulet/pages"
	"rotulet/tape"
)

// opens holds that there are pages on a disk that are like m, and that opening them leaves the disk as it is.
func opens(t *testing.T, what string, d *disk.Disk, m *model) {
	t.Helper()
	was := image(d)
	p, e := pages.Open(d)
	if p == nil || e != api.OK {
		t.Fatalf("%s: %p, %d, want pages", what, p, e)
	}
	holds(t, what, p, m)
	if !bytes.Equal(image(d), was) || len(d.Dirty()) != 0 {
		t.Fatalf("%s: the disk was changed", what)
	}
}

// refuses holds that there are no pages on a disk, and that asking for them leaves it as it is.
func refuses(t *testing.T, what string, d *disk.Disk, want api.Errno) {
	t.Helper()
	was, dirty := image(d), len(d.Dirty())
	if p, e := pages.Open(d); p != nil || e != want {
		t.Fatalf("%s: %p, %d, want %d", what, p, e, want)
	}
	if !bytes.Equal(image(d), was) || len(d.Dirty()) != dirty {
		t.Fatalf("%s: the disk was changed", what)
	}
}

// tried opens the pages on a tape with these records, and holds them against the reference; it tells whether there are any.
func tried(t *testing.T, what string, sectors int, l ...[]byte) bool {
	t.Helper()
	d := laid(t, sectors, l...)
	m, ok := described((sectors-1)/2*64, l)
	if ok {
		opens(t, what, d, m)
	} else {
		refuses(t, what, d, api.ErrSuper)
	}
	return ok
}

// P8.1 (G1, G3): records of each kind, worked out by hand: each function appends these bytes, and Open makes the same pages of them.
func TestRecordsByHand(t *testing.T) {
	for _, x := range []struct {
		c     change
		bytes string
		told  told
	}{
		{seal(1), "\x20\x00\x01", told{1, 0, 0, 0, nil, nil}},
		{seal(0x54321), "\x25\x43\x21", told{0x54321, 0, 0, 0, nil, nil}},
		{seal(1048576), "\x30\x00\x00", told{1048576, 0, 0, 0, nil, nil}},
		{write(0, junk()), "\x40\x00\x00\x02", told{0, 0, 0, 1, nil, []uint64{0}}},
		{write(5, data("x")), "\x40\x00\x0a\x40\x10x", told{0, 0, 0, 6, nil, []uint64{5}}},
		{write(0x54321, data("")), "\x4a\x86\x42\x40\x00", told{0, 0, 0, 0x54322, nil, []uint64{0x54321}}},
		{write(1048575, data("hey", back(3, 7, 2))), "\x5f\xff\xfe\x48\x33\x00\x00\x38\x00\x00\x80hey", told{0, 0, 0, 1048576, nil, []uint64{1048575}}},
		{trim(1), "\x60\x00\x01", told{0, 0, 1, 1, nil, nil}},
		{trim(0x54321), "\x65\x43\x21", told{0, 0, 0x54321, 0x54321, nil, nil}},
		{trim(1048576), "\x70\x00\x00", told{0, 0, 1048576, 1048576, nil, nil}},
		{trimOne(0), "\x80\x00\x00\x00\x00\x08", told{0, 0, 0, 1, run(0, 1), nil}},
		{trimOne(0x54321), "\x85\x43\x21\x2a\x19\x10", told{0, 0, 0, 0x54322, run(0x54321, 0x54322), nil}},
		{trimOne(1048575), "\x8f\xff\xff\x80\x00\x00", told{0, 0, 0, 1048576, run(1048575, 1048576), nil}},
		{open(1), "\xa0\x00\x01", told{0, 1, 0, 0, nil, nil}},
		{open(0x54321), "\xa5\x43\x21", told{0, 0x54321, 0, 0, nil, nil}},
		{open(1048576), "\xb0\x00\x00", told{0, 1048576, 0, 0, nil, nil}},
	} {
		what := x.c.name() + " " + strconv.FormatUint(x.c.n, 10)
		d, _ := disk.New(5)
		p, _ := pages.Open(d)
		if e := ask(p, x.c, x.c.cell); e != api.OK {
			t.Errorf("%s: %d", what, e)
		}
		tells(t, what, p, x.told)
		n := byte(len(x.bytes))
		if super, first := disk.Fill([]byte{0, 0, 0, 0, 1, 0, 0, 0, n + 2}), disk.Fill(append([]byte{0, n}, x.bytes...)); !bytes.Equal(image(d)[:128], append(super[:], first[:]...)) {
			t.Errorf("%s: %x", what, image(d)[:128])
		}
		q, e := pages.Open(laid(t, 3, []byte(x.bytes)))
		if e != api.OK {
			t.Fatalf("%s: Open: %d", what, e)
		}
		tells(t, what+": opened", q, x.told)
		if c, _ := q.Read(x.c.n); x.c.kind == 2 && !cell.Same(c, x.c.cell) {
			t.Errorf("%s: opened: %v", what, c)
		}
	}
}

// P8.1 (G1): records that the functions would not append in this form, worked out by hand: runs of many addresses, runs across the mark and each other, numbers that are set once more.
func TestOpenByHand(t *testing.T) {
	x := data("x")
	for what, s := range map[string]struct {
		l    []change
		told told
	}{
		"no record":                        {nil, told{}},
		"all trimmed by a run":             {[]change{trimRun(0, 1048576)}, told{0, 0, 0, 1048576, run(0, 1048576), nil}},
		"many trimmed, and cells":          {[]change{write(3, x), write(4, x), write(8, x), write(9, x), trimRun(4, 9)}, told{0, 0, 0, 10, run(4, 9), []uint64{3, 9}}},
		"a run below the mark":             {[]change{trim(9), trimRun(2, 9)}, told{0, 0, 9, 9, nil, nil}},
		"a run across the mark":            {[]change{trim(9), trimRun(2, 11)}, told{0, 0, 9, 11, run(9, 11), nil}},
		"a run from the mark on":           {[]change{trim(9), trimRun(9, 11)}, told{0, 0, 9, 11, run(9, 11), nil}},
		"a run across the mark, a cell":    {[]change{trim(9), write(9, x), write(11, x), trimRun(2, 11)}, told{0, 0, 9, 12, run(9, 11), []uint64{11}}},
		"a mark amid a run":                {[]change{trimRun(2, 11), trim(9)}, told{0, 0, 9, 11, run(9, 11), nil}},
		"a mark at a run's end":            {[]change{trimRun(2, 11), trim(11)}, told{0, 0, 11, 11, nil, nil}},
		"a mark over a run and a cell":     {[]change{trimRun(2, 11), write(12, x), write(13, x), trim(13)}, told{0, 0, 13, 14, nil, []uint64{13}}},
		"runs that overlap":                {[]change{trimRun(2, 6), trimRun(4, 9), trimRun(3, 4)}, told{0, 0, 0, 9, run(2, 9), nil}},
		"runs that touch":                  {[]change{trimRun(6, 9), trimRun(2, 4), trimRun(4, 6)}, told{0, 0, 0, 9, run(2, 9), nil}},
		"a run once more":                  {[]change{trimRun(2, 6), trimRun(2, 6)}, told{0, 0, 0, 6, run(2, 6), nil}},
		"a mark once more":                 {[]change{trim(6), trim(6)}, told{0, 0, 6, 6, nil, nil}},
		"an epoch once more":               {[]change{seal(6), seal(6)}, told{6, 0, 0, 0, nil, nil}},
		"an opened epoch once more":        {[]change{open(6), open(6)}, told{0, 6, 0, 0, nil, nil}},
		"numbers that are 0":               {[]change{seal(0), open(0), trim(0)}, told{}},
		"greatest numbers once more":       {[]change{seal(1048576), seal(1048576), open(1048576), open(1048576), trim(1048576), trim(1048576)}, told{1048576, 1048576, 1048576, 1048576, nil, nil}},
		"numbers that grow":                {[]change{seal(1), open(7), trim(3), seal(2), open(8), trim(4)}, told{2, 8, 4, 4, nil, nil}},
		"epochs apart from opened ones":    {[]change{seal(9), open(2), seal(10), open(3), trim(1)}, told{10, 3, 1, 1, nil, nil}},
		"a cell at the mark":               {[]change{trim(5), write(5, x)}, told{0, 0, 5, 6, nil, []uint64{5}}},
		"cells beside a run":               {[]change{trimRun(5, 7), write(4, x), write(7, x)}, told{0, 0, 0, 8, run(5, 7), []uint64{4, 7}}},
		"cells in another order":           {[]change{write(9, x), write(2, x), write(1048575, x), write(5, x)}, told{0, 0, 0, 1048576, nil, []uint64{2, 5, 9, 1048575}}},
		"records as they are put in order": {[]change{seal(4), open(3), trim(2), trimRun(3, 5), trimRun(6, 7), write(2, x), write(5, x)}, told{4, 3, 2, 7, run(3, 5, 6, 7), []uint64{2, 5}}},
	} {
		d := laid(t, 41, recordsOf(s.l...)...)
		p, e := pages.Open(d)
		if e != api.OK {
			t.Errorf("%s: %d", what, e)
			continue
		}
		tells(t, what, p, s.told)
		if !tried(t, what, 41, recordsOf(s.l...)...) {
			t.Errorf("%s: refused by the reference", what)
		}
		for i := range s.l {
			tried(t, what, 41, recordsOf(append(slices.Clone(s.l[:i]), s.l[i+1:]...)...)...)
		}
	}
}

// malformed are records that no pages have, worked out by hand.
func malformed() map[string][]byte {
	zero, five, six, most, above, greatest := spell(0, 21), spell(5, 21), spell(6, 21), spell(1048576, 21), spell(1048577, 21), spell(2097151, 21)
	m := map[string][]byte{
		"kind 0":                        bytesOf("000" + five),
		"kind 6":                        bytesOf("110" + five),
		"kind 7":                        bytesOf("111" + five),
		"kind 0, as long as a run":      bytesOf("000" + five + six),
		"kind 6, as long as a run":      bytesOf("110" + five + six),
		"kind 7, as long as a run":      bytesOf("111" + five + six),
		"kind 0, a cell behind":         append(bytesOf("000"+spell(5, 20)), 2),
		"kind 6, a cell behind":         append(bytesOf("110"+spell(5, 20)), 2),
		"kind 7, a cell behind":         append(bytesOf("111"+spell(5, 20)), 2),
		"kind 0, a byte":                {0},
		"kind 6, a byte":                {0xc0},
		"kind 7, a byte":                {0xe0},
		"an epoch that is too large":    bytesOf("001" + above),
		"the greatest epoch of 21 bits": bytesOf("001" + greatest),
		"an opened epoch too large":     bytesOf("101" + above),
		"the greatest opened epoch":     bytesOf("101" + greatest),
		"a mark that is too large":      bytesOf("011" + above),
		"the greatest mark of 21 bits":  bytesOf("011" + greatest),
		"from is to":                    bytesOf("100" + five + five),
		"from is to, 0":                 bytesOf("100" + zero + zero),
		"from is to, the last one":      bytesOf("100" + most + most),
		"from is more than to":          bytesOf("100" + six + five),
		"to is too large":               bytesOf("100" + five + above),
		"to is the greatest":            bytesOf("100" + five + greatest),
		"both are too large":            bytesOf("100" + above + greatest),
		"a run's lowest bit behind":     bytesOf("100" + five + six + "001"),
		"a run's middle bit behind":     bytesOf("100" + five + six + "010"),
		"a run's first bit behind":      bytesOf("100" + five + six + "100"),
		"a run's bits behind":           bytesOf("100" + five + six + "111"),
		"a run that is cut short":       bytesOf("100" + five + six)[:5],
		"half of a run":                 bytesOf("100" + five),
		"a run and a byte":              append(bytesOf("100"+five+six), 0),
		"a run and a run":               append(bytesOf("100"+five+six), bytesOf("100"+five+six)...),
		"a cell's bit behind":           append(bytesOf("010"+spell(5, 20)+"1"), 2),
		"data's bit behind":             append(bytesOf("010"+spell(5, 20)+"1"), 0x40, 0),
		"a cell without a cell":         bytesOf("010" + spell(5, 20)),
		"a cell with half an address":   bytesOf("010" + spell(5, 10)),
		"a cell's first byte":           {0x40},
	}
	for kind, what := range map[string]string{"001": "an epoch", "011": "a mark", "101": "an opened epoch"} {
		m[what+" that is cut short"] = bytesOf(kind + five)[:2]
		m[what+", its first byte"] = bytesOf(kind + five)[:1]
		m[what+" and a byte"] = append(bytesOf(kind+five), 0)
		m[what+" and a 2"] = append(bytesOf(kind+five), 2)
		m[what+" and a number"] = bytesOf(kind + five + six)
	}
	for what, b := range map[string]string{
		"0": "\x00", "1": "\x01", "3": "\x03", "two 2": "\x02\x02", "2 and a 0": "\x02\x00", "half a head": "\x40", "a byte too much": "\x40\x00x", "a byte is missing": "\x40\x10",
		"bits behind": "\x40\x01", "101 bytes": "\x46\x50" + strings.Repeat("x", 101), "a Back is missing": "\x48\x00", "number 2": "\x80\x00", "number 3": "\xc0\x00",
		"Lasts that are alike": "\x48\x03\x00\x00\x38\x00\x01\xc0", "a junk's kind, 255 more": "\x02" + strings.Repeat("\x02", 255), "much": "\x40\x00" + strings.Repeat("\x00", 295),
	} {
		m["a cell that is not valid: "+what] = append(bytesOf("010"+spell(5, 20)), b...)
	}
	return m
}

// P8.1 (G1), wrong inputs: each malformed record alone, behind others and ahead of them.
func TestMalformed(t *testing.T) {
	before, behind := recordsOf(write(1, data("x")), trim(1)), recordsOf(seal(9), write(8, junk()))
	for what, b := range malformed() {
		refuses(t, what, laid(t, 41, b), api.ErrSuper)
		refuses(t, what+", behind others", laid(t, 41, append(slices.Clone(before), b)...), api.ErrSuper)
		refuses(t, what+", ahead of others", laid(t, 41, append([][]byte{b}, behind...)...), api.ErrSuper)
		refuses(t, what+", amid others", laid(t, 41, slices.Concat(before, [][]byte{b}, behind)...), api.ErrSuper)
		if tried(t, what, 41, b) {
			t.Errorf("%s: taken by the reference", what)
		}
	}
}

// P8.1 (G1), wrong inputs: records each of which is well formed, but may not stand where it stands.
func TestOutOfPlace(t *testing.T) {
	x, y := data("x"), data("y")
	for what, l := range map[string][]change{
		"a cell once more":                     {write(5, x), write(5, x)},
		"another cell":                         {write(5, x), write(5, y)},
		"junk at a written address":            {write(5, x), write(4, y), write(5, junk())},
		"a cell in place of junk":              {write(5, junk()), write(5, x)},
		"a cell at 0 once more":                {write(0, x), write(0, x)},
		"a cell at the last one once more":     {write(1048575, x), write(1048575, x)},
		"a cell at a trimmed address":          {trimOne(5), write(5, x)},
		"a cell that was trimmed":              {write(5, x), trimOne(5), write(5, x)},
		"a cell at a run's beginning":          {trimRun(5, 9), write(5, x)},
		"a cell at a run's end":                {trimRun(5, 9), write(8, x)},
		"a cell at the last address, trimmed":  {trimRun(5, 1048576), write(1048575, x)},
		"a cell below the mark":                {trim(5), write(4, x)},
		"a cell at 0 below the mark":           {trim(1), write(0, x)},
		"a cell below the greatest mark":       {trim(1048576), write(1048575, x)},
		"a cell that the mark removed":         {write(4, x), trim(5), write(4, x)},
		"a cell in a run that the mark passed": {trimRun(3, 9), trim(6), write(5, x)},
		"a cell in what is left of that run":   {trimRun(3, 9), trim(6), write(6, x)},
		"a mark that is less":                  {trim(5), trim(4)},
		"a mark that is 0 again":               {trim(5), trim(0)},
		"a mark that is less than the last":    {trim(5), trim(7), trim(6)},
		"the greatest mark less one":           {trim(1048576), trim(1048575)},
		"an epoch that is less":                {seal(5), seal(4)},
		"an epoch that is 0 again":             {seal(5), open(9), seal(0)},
		"an epoch that is less than the last":  {seal(5), seal(7), seal(6)},
		"the greatest epoch less one":          {seal(1048576), seal(1048575)},
		"an opened epoch that is less":         {open(5), open(4)},
		"an opened epoch that is 0 again":      {open(5), seal(9), open(0)},
		"an opened one less than the last":     {open(5), open(7), open(6)},
		"the greatest opened epoch less one":   {open(1048576), open(1048575)},
	} {
		refuses(t, what, laid(t, 41, recordsOf(l...)...), api.ErrSuper)
		if tried(t, what, 41, recordsOf(l...)...) {
			t.Errorf("%s: taken by the reference", what)
		}
	}
}

// P8.1 (G1): every record of one or two bytes, which none of them is, and some of three: any kind with numbers at the edges.
func TestFewBytes(t *testing.T) {
	for a := range 256 {
		tried(t, "one byte", 3, []byte{byte(a)})
		for b := range 256 {
			tried(t, "two bytes", 3, []byte{byte(a), byte(b)})
		}
		for _, rest := range []string{"\x00\x00", "\x00\x01", "\x00\x02", "\xff\xff", "\xff\xfe", "\x80\x00"} {
			tried(t, "three bytes", 3, append([]byte{byte(a)}, rest...))
			for _, more := range []string{"\x02", "\x40", "\x40\x00", "\x00\x00", "\x40\x10x", "\x00\x00\x08", "\xff\xff\xf8", "\x00\x00\x00\x00"} {
				tried(t, "some bytes", 3, []byte(string([]byte{byte(a)})+rest+more))
			}
		}
	}
}

// P8.1 (G1): tapes of which one bit or two are turned round, or to a record of which a byte is missing, or added.
func TestDamaged(t *testing.T) {
	good := recordsOf(seal(4), write(1, data("one", back(3, 7, 2))), open(3), trim(1), trimRun(3, 5), write(2, junk()), trim(2), seal(6), write(9, data("")), trimOne(9), open(5), trimRun(1048574, 1048576))
	with := func(i int, b []byte) [][]byte { return slices.Concat(good[:i], [][]byte{b}, good[i+1:]) }
	taken := 0
	for i, b := range good {
		for n := range b[1:] {
			tried(t, "cut short", 15, with(i, b[:n+1])...)
			tried(t, "without its beginning", 15, with(i, b[n+1:])...)
		}
		for _, x := range []byte{0, 1, 2, 0x40, 0x80, 0xff} {
			tried(t, "a byte behind", 15, with(i, append(slices.Clone(b), x))...)
			tried(t, "a byte ahead", 15, with(i, append([]byte{x}, b...))...)
		}
		for k := range 8 * len(b) {
			bad := slices.Clone(b)
			bad[k/8] ^= 128 >> (k % 8)
			if tried(t, "a bit turned round", 15, with(i, bad)...) {
				taken++
			}
			for j := range k {
				bad[j/8] ^= 128 >> (j % 8)
				tried(t, "two bits turned round", 15, with(i, bad)...)
				bad[j/8] ^= 128 >> (j % 8)
			}
		}
		tried(t, "missing", 15, slices.Concat(good[:i], good[i+1:])...)
		for j := range i {
			swapped := slices.Clone(good)
			swapped[i], swapped[j] = swapped[j], swapped[i]
			tried(t, "in another order", 15, swapped...)
		}
	}
	if taken == 0 {
		t.Error("no damage was taken for what it says")
	}
}

// P8.1 (G1): any records, one after the other, of which numbers, runs and addresses often agree with those before them.
func TestAnyTape(t *testing.T) {
	s := stir(82)
	taken := map[bool]int{}
	for range 4000 {
		var l []change
		for range 1 + s.below(9) {
			n := uint64(s.below(12))
			if s.below(6) == 0 {
				n = uint64(1048576 - 3 + s.below(6))
			}
			c := change{kind: 1 + s.below(5), n: n, to: n + uint64(s.below(5)), cell: s.cell()}
			if c.kind == 2 {
				c.n = min(c.n, 1048575)
			}
			l = append(l, c)
		}
		taken[tried(t, "any tape", 41, recordsOf(l...)...)]++
	}
	if taken[true] < 400 || taken[false] < 400 {
		t.Errorf("taken: %v", taken)
	}
}

// P8.1 (G1), wrong inputs: no disk, one of too few sectors, and no tape on it; these errors come ahead of those of records.
func TestOpenErrors(t *testing.T) {
	refusesNil := func(what string, p *pages.Pages, e, want api.Errno) {
		if p != nil || e != want {
			t.Errorf("%s: %p, %d, want %d", what, p, e, want)
		}
	}
	p, e := pages.Open(nil)
	refusesNil("nil", p, e, api.ErrArg)
	for _, sectors := range []int{1, 2} {
		d, _ := disk.New(sectors)
		refuses(t, "too few sectors", d, api.ErrArg)
		d.Write(0, disk.Fill([]byte{9}))
		refuses(t, "too few sectors, and no superblock", d, api.ErrArg)
	}
	for _, super := range []string{"\x02", "\x00\x00\x00\x00\x01", "\x00\x00\x00\x00\x00\x00\x00\x00\x05", "\x00\x00\x00\x00\x00\x00\x00\x00\x00\x01", "\x01\x00\x00\x00\x01\x00\x00\x00\x05"} {
		d := laid(t, 5, seal(3).bytes())
		d.Write(0, disk.Fill([]byte(super)))
		refuses(t, "no superblock", d, api.ErrSuper)
	}
	for _, sectors := range []int{3, 4, 1023, 1024} {
		opens(t, "new", laid(t, sectors), &model{})
		opens(t, "a record", laid(t, sectors, seal(3).bytes()), &model{made: []change{seal(3)}})
	}
}

// P8.1 (G1): pages whose records stand in the other half; what waits on another tape of the same disk is no record yet.
func TestOpenHalves(t *testing.T) {
	d := laid(t, 9, seal(3).bytes(), write(4, data("gone")).bytes())
	x, _ := tape.Open(d)
	x.Replace(recordsOf(seal(5), write(4, data("new"))))
	if e := x.Commit(); e != api.OK {
		t.Fatalf("Commit: %d", e)
	}
	x.Append(write(6, junk()).bytes())
	m := &model{made: []change{seal(5), write(4, data("new"))}}
	opens(t, "the other half", d, m)
	if over, e := x.Step(); over || e != api.OK {
		t.Fatalf("Step: %v, %d", over, e)
	}
	opens(t, "a record without a superblock that tells of it", d.Crash([]bool{true}), m)
}
