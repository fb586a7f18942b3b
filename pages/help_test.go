package pages_test

import (
	"bytes"
	"slices"
	"strconv"
	"strings"
	"testing"

	"rotulet/api"
	"rotulet/cell"
	"rotulet/disk"
	"rotulet/pages"
	"rotulet/runs"
	"rotulet/tape"
)

const none = uint64(api.None)

func junk() api.Cell { return api.Cell{Kind: api.Junk} }

func data(text string, backs ...api.Back) api.Cell {
	return api.Cell{Kind: api.Data, Data: []byte(text), Backs: backs}
}

func back(stream int, a, b uint64) api.Back {
	return api.Back{Stream: stream, Last: [2]uint64{a, b}}
}

// great is the cell with the longest record.
func great() api.Cell {
	return data(strings.Repeat("z", 100), back(0, 9, 4), back(3, 7, none), back(9, none, none), back(15, api.MaxAddress-1, 0))
}

// some are valid cells.
func some() []api.Cell {
	return []api.Cell{junk(), data(""), data("x"), data("\x00"), data("hey", back(3, 7, 2)), data("", back(0, none, none), back(15, 9, none)), great()}
}

// wrong are cells that are not valid.
func wrong() []api.Cell {
	return []api.Cell{
		{}, {Kind: 3}, {Kind: -1}, {Data: []byte("x")}, {Kind: api.Junk, Data: []byte("x")}, {Kind: api.Junk, Backs: []api.Back{back(1, 2, 1)}},
		data(strings.Repeat("z", 101)), data("", back(16, 5, 4)), data("", back(-1, 5, 4)), data("", back(2, 4, 5)), data("", back(2, api.MaxAddress, none)),
		data("", back(2, 4, 3), back(2, 4, 3)), data("", back(0, 1, 0), back(1, 1, 0), back(2, 1, 0), back(3, 1, 0), back(4, 1, 0)),
	}
}

// tooLarge are numbers that are neither addresses, nor marks, nor epochs.
func tooLarge() []uint64 {
	return []uint64{1048577, 1048578, 2097151, 2097152, 2097153, 1 << 24, 1<<32 - 1, 1 << 32, 1<<32 + 1, 1<<63 - 1, 1 << 63, none - 1048576, none - 1, none}
}

// copyOf is a cell in memory of its own.
func copyOf(c api.Cell) api.Cell {
	return api.Cell{Kind: c.Kind, Data: slices.Clone(c.Data), Backs: slices.Clone(c.Backs)}
}

// rig is pages, their disk, and the reference, to all of which everything is done.
type rig struct {
	t *testing.T
	d *disk.Disk
	p *pages.Pages
	m *model
}

// fresh are the pages of a new disk.
func fresh(t *testing.T, sectors int) *rig {
	t.Helper()
	d, e := disk.New(sectors)
	if e != api.OK {
		t.Fatalf("disk.New(%d): %d", sectors, e)
	}
	return opened(t, "new", d, &model{size: (sectors - 1) / 2 * 64})
}

// opened are the pages on a disk that are to be like m.
func opened(t *testing.T, what string, d *disk.Disk, m *model) *rig {
	t.Helper()
	p, e := pages.Open(d)
	if p == nil || e != api.OK {
		t.Fatalf("%s: Open: %p, %d", what, p, e)
	}
	r := &rig{t: t, d: d, p: p, m: m}
	r.same(what + ": opened")
	return r
}

// do asks for a change; the cell that is handed in is spoilt as soon as the call is over.
func (r *rig) do(c change) api.Errno {
	r.t.Helper()
	what := c.name() + " of " + strconv.FormatUint(c.n, 10)
	before, was := image(r.d), *r.m
	given := lent(c.cell)
	e := ask(r.p, c, given)
	r.kept(what, c.cell, given)
	if want := r.m.try(c); e != want {
		r.t.Fatalf("%s: %d, want %d", what, e, want)
	}
	changed := r.m.half != was.half || len(r.m.tape) != len(was.tape)
	if !changed && !bytes.Equal(before, image(r.d)) {
		r.t.Fatalf("%s: %d, and the disk was changed", what, e)
	}
	r.same(what)
	return e
}

// all asks for changes none of which is refused.
func (r *rig) all(l ...change) {
	r.t.Helper()
	for i, c := range l {
		if e := r.do(c); e != api.OK {
			r.t.Fatalf("%d: %s of %d: %d", i, c.name(), c.n, e)
		}
	}
}

// ask calls the function that asks for a change.
func ask(p *pages.Pages, c change, given api.Cell) api.Errno {
	switch c.kind {
	case 1:
		return p.Seal(c.n)
	case 2:
		return p.Write(c.n, given)
	case 3:
		return p.Trim(c.n)
	case 4:
		return p.TrimOne(c.n)
	default:
		return p.Open(c.n)
	}
}

// lent is a copy of a cell, with memory behind the end of its lists.
func lent(c api.Cell) api.Cell {
	c = copyOf(c)
	c.Data = append(c.Data, "behind"...)[:len(c.Data)]
	c.Backs = append(c.Backs, back(7, 7, 7))[:len(c.Backs)]
	return c
}

// kept holds a cell that was handed in against what it was, and spoils it.
func (r *rig) kept(what string, was, given api.Cell) {
	r.t.Helper()
	n, k := len(given.Data), len(given.Backs)
	if !cell.Same(was, given) || string(given.Data[:n+6][n:]) != "behind" || given.Backs[:k+1][k] != back(7, 7, 7) {
		r.t.Fatalf("%s: the cell was changed: %v, %v", what, given.Data[:n+6], given.Backs[:k+1])
	}
	spoil(given)
}

// spoil changes whatever a cell has in its lists.
func spoil(c api.Cell) {
	for i := range c.Data {
		c.Data[i] ^= 0x55
	}
	for i := range c.Backs {
		c.Backs[i] = back(11, 10, 9)
	}
}

// same holds all that can be asked for against the reference, and so what is there behind a crash.
func (r *rig) same(what string) {
	r.t.Helper()
	holds(r.t, what, r.p, r.m)
	// Once more, as what the first calls handed out is spoilt.
	holds(r.t, what+", once more", r.p, r.m)
	if l := r.d.Dirty(); len(l) != 0 {
		r.t.Fatalf("%s: dirty: %v", what, l)
	}
	x := r.d.Crash(nil)
	records(r.t, what, x, r.m)
	p, e := pages.Open(x)
	if p == nil || e != api.OK {
		r.t.Fatalf("%s: Open behind a crash: %d", what, e)
	}
	holds(r.t, what+", behind a crash", p, r.m)
}

// holds holds what pages tell against the reference, and spoils what they hand out.
func holds(t *testing.T, what string, p *pages.Pages, m *model) {
	t.Helper()
	for _, x := range []struct {
		what      string
		got, want uint64
	}{{"Epoch", p.Epoch(), m.epoch()}, {"Opened", p.Opened(), m.opened()}, {"Mark", p.Mark(), m.mark()}, {"Tail", p.Tail(), m.tail()}} {
		if x.got != x.want {
			t.Fatalf("%s: %s: %d, want %d", what, x.what, x.got, x.want)
		}
	}
	trimmed, written := p.Trimmed(), p.Written()
	if want := m.trimmed(); !slices.Equal(trimmed, want) {
		t.Fatalf("%s: Trimmed: %v, want %v", what, trimmed, want)
	}
	var want []uint64
	for _, c := range m.written() {
		want = append(want, c.n)
	}
	if !slices.Equal(written, want) {
		t.Fatalf("%s: Written: %v, want %v", what, written, want)
	}
	for i := range trimmed {
		trimmed[i] = runs.Run{From: 1, To: 1 << 19}
	}
	clear(written)
	for _, a := range asked(m) {
		reads(t, what, p, m, a)
	}
}

// asked are the addresses that the changes name, those beside them, the least and the greatest one, and what is no address.
func asked(m *model) []uint64 {
	l := []uint64{0, 1, 2, 1048574, 1048575, 1048576, 1048577, 1 << 32, none - 1, none}
	for _, c := range m.made {
		if c.kind >= 2 && c.kind <= 4 {
			l = append(l, c.n-1, c.n, c.n+1)
		}
		if c.kind == 4 {
			l = append(l, c.to-1, c.to, c.to+1)
		}
	}
	slices.Sort(l)
	return slices.Compact(l)
}

// reads holds what Read tells of an address against the reference, and spoils the cell.
func reads(t *testing.T, what string, p *pages.Pages, m *model, a uint64) {
	t.Helper()
	written, ok := m.at(a)
	want := api.OK
	switch {
	case a >= 1048576:
		want = api.ErrArg
	case m.isTrimmed(a):
		want = api.ErrTrimmed
	case !ok:
		want = api.ErrUnwritten
	}
	c, e := p.Read(a)
	if e != want || !cell.Same(c, written.cell) {
		t.Fatalf("%s: Read(%d): %v, %d, want %v, %d", what, a, c, e, written.cell, want)
	}
	spoil(c)
	_, _ = append(c.Data, "more"...), append(c.Backs, api.Back{})
}

// records holds what stands on a disk's tape against the reference, and in which half.
func records(t *testing.T, what string, d *disk.Disk, m *model) {
	t.Helper()
	x, e := tape.Open(d)
	if e != api.OK || x.Len() != len(m.tape) {
		t.Fatalf("%s: %d, %d records, want %d", what, e, x.Len(), len(m.tape))
	}
	for i, want := range m.tape {
		if b, _ := x.Read(i); !bytes.Equal(b, want) {
			t.Fatalf("%s: record %d: %x, want %x", what, i, b, want)
		}
	}
	if s, _ := d.Read(0); int(s[0]) != m.half {
		t.Fatalf("%s: half %d, want %d", what, s[0], m.half)
	}
}

// image are the bytes of all sectors.
func image(d *disk.Disk) []byte {
	var b []byte
	for i := range d.Len() {
		s, _ := d.Read(i)
		b = append(b, s[:]...)
	}
	return b
}

// laid is a disk whose tape has these records.
func laid(t *testing.T, sectors int, l ...[]byte) *disk.Disk {
	t.Helper()
	d, _ := disk.New(sectors)
	x, e := tape.Open(d)
	if e != api.OK {
		t.Fatalf("tape.Open: %d", e)
	}
	for i, b := range l {
		if e := x.Append(b); e != api.OK {
			t.Fatalf("record %d, %x: %d", i, b, e)
		}
	}
	if e := x.Commit(); e != api.OK {
		t.Fatalf("Commit: %d", e)
	}
	return d
}

// recordsOf are those that say changes.
func recordsOf(l ...change) [][]byte {
	var b [][]byte
	for _, c := range l {
		b = append(b, c.bytes())
	}
	return b
}

// stir is a row of numbers without a plain pattern, the same in each run.
type stir uint64

func (s *stir) next() uint64 {
	*s = *s*6364136223846793005 + 1442695040888963407
	x := uint64(*s)
	return x ^ x>>29 ^ x<<17
}

func (s *stir) below(n int) int { return int(s.next() >> 8 % uint64(n)) }

// cell is any valid cell, most of them small.
func (s *stir) cell() api.Cell {
	if s.below(3) == 0 {
		return some()[s.below(len(some()))]
	}
	return data(strings.Repeat(string(rune('a'+s.below(26))), s.below(12)))
}

// change is any change, also such as are refused, about a few low and a few high addresses.
func (s *stir) change() change {
	a := uint64(s.below(24))
	if s.below(5) == 0 {
		a = uint64(1048576 - 6 + s.below(8))
	}
	switch s.below(12) {
	case 0, 1:
		return seal(uint64(s.below(1 + s.below(500))))
	case 2, 3:
		return open(uint64(s.below(1 + s.below(500))))
	case 4:
		return trim(uint64(s.below(20)))
	case 5, 6, 7:
		return trimOne(a)
	default:
		return write(a, s.cell())
	}
}
