package unit_test

import (
	"bytes"
	"fmt"
	"slices"
	"strings"
	"testing"

	"rotulet/api"
	"rotulet/cell"
	"rotulet/disk"
	"rotulet/message"
	"rotulet/pages"
	"rotulet/unit"
)

const none = uint64(api.None)

func place(r api.Role, n int) api.Place { return api.Place{Role: r, Number: n} }

func client(n int) api.Place { return place(api.Client, n) }

func empty() api.Cell { return api.Cell{} }

func junk() api.Cell { return api.Cell{Kind: api.Junk} }

func data(text string, backs ...api.Back) api.Cell {
	return api.Cell{Kind: api.Data, Data: []byte(text), Backs: backs}
}

func back(stream int, a, b uint64) api.Back {
	return api.Back{Stream: stream, Last: [2]uint64{a, b}}
}

// great is the cell with the longest encoding.
func great() api.Cell {
	return data(strings.Repeat("z", 100), back(0, 9, 4), back(3, 7, none), back(9, none, none), back(15, api.MaxAddress-1, 0))
}

// some are valid cells, no two of them equal.
func some() []api.Cell {
	return []api.Cell{
		junk(), data(""), data("x"), data("y"), data("xx"), data("\x00"), data("x", back(3, 7, 2)), data("x", back(3, 7, 1)), data("x", back(4, 7, 2)),
		data("x", back(3, 7, none)), data("", back(0, none, none), back(15, 9, none)), data("", back(0, none, none)), great(),
	}
}

// kinds are those of the messages that a unit answers.
func kinds() []api.MessageKind {
	return []api.MessageKind{api.Write, api.Read, api.Open, api.Trim, api.TrimOne, api.Seal, api.Tail, api.Copy}
}

// ask is a message from client 2 to unit 5, with each number another one.
func ask(kind api.MessageKind, epoch, a uint64, c api.Cell) api.Message {
	return api.Message{Kind: kind, From: client(2), To: place(api.Unit, 5), ID: 70000, Epoch: epoch, Address: a, Cell: c}
}

// reply is an answer to such a message, written out.
func reply(of api.MessageKind, epoch, a uint64, e api.Errno, c api.Cell) api.Message {
	return api.Message{Kind: api.Reply, Of: of, From: place(api.Unit, 5), To: client(2), ID: 70000, Epoch: epoch, Address: a, Error: e, Cell: c}
}

// asks are messages of all kinds, with an epoch, at an address: those that may carry a cell also with each of these.
func asks(epoch, a uint64, cells ...api.Cell) []api.Message {
	var l []api.Message
	for _, k := range kinds() {
		l = append(l, ask(k, epoch, a, empty()))
		for _, c := range cells {
			if k == api.Write || k == api.Copy {
				l = append(l, ask(k, epoch, a, c))
			}
		}
	}
	return l
}

// tell writes a message as a text that is the same for nil and empty slices, and for nothing else.
func tell(m api.Message) string { return fmt.Sprintf("%+v", m) }

// lent is a copy of a cell, with memory behind the end of its lists.
func lent(c api.Cell) api.Cell {
	c.Data = append(slices.Clone(c.Data), "behind"...)[:len(c.Data)]
	c.Backs = append(slices.Clone(c.Backs), back(7, 7, 7))[:len(c.Backs)]
	return c
}

// untouched tells whether a lent cell is still like the cell, and so is what lies behind the end of its lists.
func untouched(given, was api.Cell) bool {
	n, k := len(given.Data), len(given.Backs)
	return cell.Same(given, was) && string(given.Data[:n+6][n:]) == "behind" && given.Backs[:k+1][k] == back(7, 7, 7)
}

// spoil changes whatever a cell has in its lists, and behind their ends.
func spoil(c api.Cell) {
	for i := range c.Data {
		c.Data[i] ^= 0x55
	}
	for i := range c.Backs {
		c.Backs[i] = back(11, 10, 9)
	}
	_, _ = append(c.Data, "more"...), append(c.Backs, back(1, 1, 1))
}

// serve asks a unit, with a cell that is spoilt as soon as the call is over.
func serve(t *testing.T, u *unit.Unit, m api.Message) (api.Message, bool) {
	t.Helper()
	given := m
	given.Cell = lent(m.Cell)
	a, ok := u.Serve(given)
	if !untouched(given.Cell, m.Cell) {
		t.Fatalf("Serve %+v: the cell was changed", m)
	}
	spoil(given.Cell)
	return a, ok
}

// rig is unit 5, its disk, and the reference, to all of which everything is done.
type rig struct {
	t *testing.T
	d *disk.Disk
	u *unit.Unit
	m *model
}

// fresh is a unit on a new disk.
func fresh(t *testing.T, sectors int) *rig {
	t.Helper()
	d, e := disk.New(sectors)
	if e != api.OK {
		t.Fatalf("disk.New(%d): %d", sectors, e)
	}
	r := &rig{t: t, d: d, u: opened(t, d), m: &model{}}
	r.same("new")
	return r
}

// roomy is a unit on a disk that does not get full, as long as few addresses are written.
func roomy(t *testing.T) *rig {
	t.Helper()
	return fresh(t, 101)
}

// opened is unit 5 with the pages on a disk.
func opened(t *testing.T, d *disk.Disk) *unit.Unit {
	t.Helper()
	p, e := pages.Open(d)
	if e != api.OK {
		t.Fatalf("pages.Open: %d", e)
	}
	u, e := unit.New(p, 5)
	if u == nil || e != api.OK {
		t.Fatalf("New: %p, %d", u, e)
	}
	return u
}

// serve asks the unit and the reference, spoils what the answer has, and looks at the pages.
func (r *rig) serve(m api.Message) api.Message {
	r.t.Helper()
	was, before := shot(r.u.Pages()), image(r.d)
	a, ok := serve(r.t, r.u, m)
	want, answered := r.m.tell(m)
	if ok != answered || !message.Same(a, want) || ok != message.Right(a) {
		r.t.Fatalf("%+v: %+v, %v, want %+v, %v", m, a, ok, want, answered)
	}
	spoil(a.Cell)
	r.same(tell(m))
	if was == shot(r.u.Pages()) && !bytes.Equal(before, image(r.d)) {
		r.t.Fatalf("%+v: nothing has changed but the disk", m)
	}
	return want
}

// all asks the unit one thing after the other.
func (r *rig) all(l ...api.Message) {
	r.t.Helper()
	for _, m := range l {
		r.serve(m)
	}
}

// reopen opens the disk again, as it is or as a crash leaves it.
func (r *rig) reopen(crash bool) {
	r.t.Helper()
	if crash {
		r.d = r.d.Crash(nil)
	}
	r.u = opened(r.t, r.d)
	r.same("opened again")
}

// same holds the pages against the reference, as they are and as they would be behind a crash.
func (r *rig) same(what string) {
	r.t.Helper()
	holds(r.t, what, r.u.Pages(), r.m)
	if l := r.d.Dirty(); len(l) > 0 {
		r.t.Fatalf("%s: dirty: %v", what, l)
	}
	holds(r.t, what+", behind a crash", opened(r.t, r.d.Crash(nil)).Pages(), r.m)
}

// holds holds what pages tell against the reference.
func holds(t *testing.T, what string, p *pages.Pages, m *model) {
	t.Helper()
	for _, x := range []struct {
		what      string
		got, want uint64
	}{{"Epoch", p.Epoch(), m.epoch()}, {"Opened", p.Opened(), m.opened()}, {"Mark", p.Mark(), m.mark()}, {"Tail", p.Tail(), m.tail()}} {
		if x.got != x.want {
			t.Fatalf("%s: %s: %d, want %d", what, x.what, x.got, x.want)
		}
	}
	if got, want := p.Trimmed(), m.trimmed(); !slices.Equal(got, want) {
		t.Fatalf("%s: Trimmed: %v, want %v", what, got, want)
	}
	if got, want := p.Written(), m.written(); !slices.Equal(got, want) {
		t.Fatalf("%s: Written: %v, want %v", what, got, want)
	}
	for _, a := range p.Written() {
		want, _ := m.at(a)
		if c, e := p.Read(a); e != api.OK || !cell.Same(c, want) {
			t.Fatalf("%s: Read(%d): %v, %d, want %v", what, a, c, e, want)
		}
	}
}

// shot writes all that pages tell as a text.
func shot(p *pages.Pages) string {
	s := fmt.Sprint(p.Epoch(), p.Opened(), p.Mark(), p.Tail(), p.Trimmed(), p.Written())
	for _, a := range p.Written() {
		c, e := p.Read(a)
		s += fmt.Sprintf(" %+v %d", c, e)
	}
	return s
}

// image are the bytes of all sectors.
func image(d *disk.Disk) []byte {
	var b []byte
	for i := range d.Len() {
		s, _ := d.Read(i)
		b = append(b, s[:]...)
	}
	return b
}

// stir is a row of numbers without a plain pattern, the same in each run.
type stir uint64

func (s *stir) next() uint64 {
	*s = *s*6364136223846793005 + 1442695040888963407
	x := uint64(*s)
	return x ^ x>>29 ^ x<<17
}

func (s *stir) below(n int) int { return int(s.next() >> 8 % uint64(n)) }

// cell is any valid cell, or none.
func (s *stir) cell() api.Cell {
	if s.below(4) == 0 {
		return empty()
	}
	return some()[s.below(len(some()))]
}

// address is one of a few low and high ones, or MaxAddress.
func (s *stir) address() uint64 {
	if s.below(6) == 0 {
		return uint64(1048576 - s.below(4))
	}
	return uint64(s.below(12))
}

// message is any message that a unit answers, with an epoch near to one.
func (s *stir) message(epoch uint64) api.Message {
	m := ask(kinds()[s.below(8)], epoch, s.address(), s.cell())
	m.ID = s.below(1 << 20)
	m.From = place(api.Role(1+s.below(4)), s.below(3))
	if m.Kind == api.Trim && s.below(3) > 0 {
		m.Address = uint64(s.below(6))
	}
	if s.below(4) == 0 {
		m.Epoch += uint64(s.below(3))
	}
	if s.below(4) == 0 {
		m.Epoch -= min(m.Epoch, uint64(s.below(3)))
	}
	m.Epoch = min(m.Epoch, 1048576)
	return m
}
