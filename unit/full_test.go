package unit_test

import (
	"bytes"
	"strings"
	"testing"

	"rotulet/api"
	"rotulet/cell"
	"rotulet/disk"
	"rotulet/message"
	"rotulet/pages"
)

// P14.1 (I2): a disk of 64 bytes that is full: what needs room is refused, and all else is answered as ever. A Seal tells the tail and the opened epoch all the same.
func TestFull(t *testing.T) {
	d, _ := disk.New(3)
	u := opened(t, d)
	y := data(strings.Repeat("y", 52))
	exchanges(t, u, []exchange{
		{ask(api.Open, 2, 0, empty()), reply(api.Open, 2, 0, api.OK, empty())},
		{ask(api.Write, 0, 9, great()), reply(api.Write, 0, 9, api.ErrFull, empty())},
		{ask(api.Copy, 0, 9, great()), reply(api.Copy, 0, 9, api.ErrFull, empty())},
		{ask(api.Read, 0, 9, empty()), reply(api.Read, 0, 9, api.ErrUnwritten, empty())},
		{ask(api.Copy, 0, 9, y), reply(api.Copy, 0, 9, api.OK, empty())},
	})
	before := image(d)
	exchanges(t, u, []exchange{
		{ask(api.Write, 0, 4, junk()), reply(api.Write, 0, 4, api.ErrFull, empty())},
		{ask(api.Copy, 0, 4, junk()), reply(api.Copy, 0, 4, api.ErrFull, empty())},
		{ask(api.Copy, 0, 4, empty()), reply(api.Copy, 0, 4, api.ErrFull, empty())},
		{ask(api.TrimOne, 0, 4, empty()), reply(api.TrimOne, 0, 4, api.ErrFull, empty())},
		{ask(api.Trim, 0, 9, empty()), reply(api.Trim, 0, 9, api.ErrFull, empty())},
		{ask(api.Seal, 6, 77, empty()), reply(api.Seal, 2, 10, api.ErrFull, empty())},
		{ask(api.Seal, 6, 77, empty()), reply(api.Seal, 2, 10, api.ErrFull, empty())},
		{ask(api.Seal, 0, 77, empty()), reply(api.Seal, 2, 10, api.OK, empty())},
		{ask(api.Tail, 0, 77, empty()), reply(api.Tail, 2, 10, api.OK, empty())},
		{ask(api.Open, 1, 77, empty()), reply(api.Open, 1, 77, api.OK, empty())},
		{ask(api.Trim, 0, 0, empty()), reply(api.Trim, 0, 0, api.OK, empty())},
		{ask(api.Read, 0, 9, empty()), reply(api.Read, 0, 9, api.OK, y)},
		{ask(api.Write, 0, 9, junk()), reply(api.Write, 0, 9, api.ErrWritten, y)},
		{ask(api.Copy, 0, 9, junk()), reply(api.Copy, 0, 9, api.ErrWritten, y)},
		{ask(api.Copy, 0, 9, y), reply(api.Copy, 0, 9, api.OK, empty())},
		{ask(api.Write, 0, 4, empty()), reply(api.Write, 0, 4, api.ErrArg, empty())},
		{ask(api.TrimOne, 0, 1048576, empty()), reply(api.TrimOne, 0, 1048576, api.ErrArg, empty())},
	})
	if !bytes.Equal(image(d), before) {
		t.Error("changed")
	}
	exchanges(t, u, []exchange{
		{ask(api.Open, 3, 0, empty()), reply(api.Open, 3, 0, api.OK, empty())},
		{ask(api.Copy, 0, 9, empty()), reply(api.Copy, 0, 9, api.OK, empty())},
		{ask(api.Seal, 6, 77, empty()), reply(api.Seal, 3, 10, api.OK, empty())},
		{ask(api.Seal, 7, 77, empty()), reply(api.Seal, 3, 10, api.OK, empty())},
	})
}

// P14.1 (I2): on a disk of which an epoch, but no more, was written, an Open is refused, and so is what is late ahead of what is full.
func TestFullAndSealed(t *testing.T) {
	d, _ := disk.New(3)
	u := opened(t, d)
	y := data(strings.Repeat("y", 52))
	exchanges(t, u, []exchange{
		{ask(api.Seal, 6, 0, empty()), reply(api.Seal, 0, 0, api.OK, empty())},
		{ask(api.Write, 6, 9, y), reply(api.Write, 6, 9, api.OK, empty())},
		{ask(api.Open, 7, 0, empty()), reply(api.Open, 7, 0, api.ErrFull, empty())},
		{ask(api.Open, 5, 0, empty()), reply(api.Open, 6, 0, api.ErrSealed, empty())},
		{ask(api.Write, 5, 4, y), reply(api.Write, 6, 4, api.ErrSealed, empty())},
		{ask(api.Write, 6, 4, y), reply(api.Write, 6, 4, api.ErrFull, empty())},
		{ask(api.Tail, 6, 0, empty()), reply(api.Tail, 0, 10, api.OK, empty())},
		{ask(api.Seal, 8, 0, empty()), reply(api.Seal, 0, 10, api.OK, empty())},
		{ask(api.Open, 8, 0, empty()), reply(api.Open, 8, 0, api.ErrFull, empty())},
	})
	if got := u.Pages().Opened(); got != 0 {
		t.Errorf("opened: %d", got)
	}
}

// byPages is the answer that pages of their own lead to, whatever room they have: they are asked for what the message asks for.
func byPages(p *pages.Pages, m api.Message) api.Message {
	a := message.Answer(m, api.OK)
	switch m.Kind {
	case api.Read:
		a.Cell, a.Error = p.Read(m.Address)
	case api.Open:
		a.Error = p.Open(m.Epoch)
	case api.Trim:
		a.Error = p.Trim(m.Address)
	case api.Seal:
		if m.Epoch > p.Epoch() {
			a.Error = p.Seal(m.Epoch)
		}
		a.Address, a.Epoch = p.Tail(), p.Opened()
	case api.Tail:
		a.Address, a.Epoch = p.Tail(), p.Opened()
	case api.TrimOne:
		a.Error = p.TrimOne(m.Address)
	default:
		if m.Kind == api.Copy && m.Cell.Kind == 0 {
			a.Error = p.TrimOne(m.Address)
			break
		}
		had, _ := p.Read(m.Address)
		a.Error = p.Write(m.Address, m.Cell)
		if a.Error == api.ErrWritten {
			a.Cell = had
		}
		if m.Kind == api.Copy && cell.Same(had, m.Cell) {
			a.Error, a.Cell = api.OK, empty()
		}
	}
	return a
}

// filled is a disk that has hardly any room left, with or without an epoch, an opened one, a mark and an address that is trimmed.
func (s *stir) filled(t *testing.T) *disk.Disk {
	t.Helper()
	d, _ := disk.New(3 + 2*s.below(4))
	p := opened(t, d).Pages()
	for _, before := range []func(){func() { p.Seal(3) }, func() { p.Open(2) }, func() { p.Trim(1) }, func() { p.TrimOne(5) }} {
		if s.below(3) == 0 {
			before()
		}
	}
	a := uint64(3 + s.below(8))
	for p.Write(a, data(strings.Repeat("f", s.below(60)))) != api.ErrFull {
		a++
	}
	for p.Write(a, junk()) != api.ErrFull {
		a++
	}
	return d
}

// P14.1 (I2): any messages that are not late, on disks that are full: the unit answers, and has, what pages have that are asked one by one.
func TestAnyWhenFull(t *testing.T) {
	s := stir(147)
	seen := map[api.MessageKind]int{}
	for range 400 {
		d := s.filled(t)
		other := d.Crash(nil)
		u, p := opened(t, d), opened(t, other).Pages()
		for range 12 {
			m := s.message(u.Pages().Epoch())
			m.Epoch = max(m.Epoch, u.Pages().Epoch())
			want := byPages(p, m)
			if a, ok := serve(t, u, m); !ok || !message.Same(a, want) {
				t.Fatalf("%+v: %+v, %v, want %+v", m, a, ok, want)
			}
			if shot(u.Pages()) != shot(p) || !bytes.Equal(image(d), image(other)) {
				t.Fatalf("%+v: %s, want %s", m, shot(u.Pages()), shot(p))
			}
			if want.Error == api.ErrFull {
				seen[m.Kind]++
			}
		}
	}
	for _, kind := range []api.MessageKind{api.Write, api.Copy, api.Open, api.Trim, api.TrimOne, api.Seal} {
		if seen[kind] < 10 {
			t.Errorf("kind %d was refused %d times", kind, seen[kind])
		}
	}
}
