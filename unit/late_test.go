package unit_test

import (
	"bytes"
	"testing"

	"rotulet/api"
	"rotulet/cell"
	"rotulet/disk"
	"rotulet/message"
	"rotulet/tape"
	"rotulet/unit"
)

// refused asks a unit what is late: the answer tells the epoch of the pages and nothing else, and neither the pages nor the disk have changed.
func refused(t *testing.T, u *unit.Unit, d *disk.Disk, m api.Message, epoch uint64) {
	t.Helper()
	was, before := shot(u.Pages()), image(d)
	want := reply(m.Kind, epoch, m.Address, api.ErrSealed, empty())
	want.ID, want.To = m.ID, m.From
	if a, ok := serve(t, u, m); !ok || !message.Same(a, want) {
		t.Fatalf("%+v: %+v, %v, want %+v", m, a, ok, want)
	}
	if shot(u.Pages()) != was || !bytes.Equal(image(d), before) || len(d.Dirty()) > 0 {
		t.Fatalf("%+v: changed: %s, and it was %s", m, shot(u.Pages()), was)
	}
}

// lesser are epochs that are less than one.
func lesser(epoch uint64) []uint64 {
	l := []uint64{0}
	for _, e := range []uint64{1, epoch / 2, epoch - 2, epoch - 1} {
		if e < epoch {
			l = append(l, e)
		}
	}
	return l
}

// P14.2: behind a Seal, each kind of message of a lesser epoch, at an address that is written, is not, and is trimmed, and at none; also when the disk was opened again, with and without a crash.
func TestLate(t *testing.T) {
	for _, epoch := range []uint64{1, 2, 3, 256, 65537, 1048575, 1048576} {
		r := roomy(t)
		r.all(ask(api.Write, 0, 4, data("x", back(3, 2, 1))), ask(api.Copy, 0, 9, junk()), ask(api.TrimOne, 0, 6, empty()), ask(api.Trim, 0, 2, empty()), ask(api.Open, epoch-1, 0, empty()))
		if a := r.serve(ask(api.Seal, epoch, 0, empty())); a.Error != api.OK {
			t.Fatalf("Seal: %+v", a)
		}
		for n := range 3 {
			for _, with := range lesser(epoch) {
				for _, a := range []uint64{0, 1, 2, 4, 5, 6, 9, 10, 1048575, 1048576} {
					for _, m := range asks(with, a, data("x", back(3, 2, 1)), junk(), great()) {
						refused(t, r.u, r.d, m, epoch)
					}
				}
			}
			r.reopen(n > 0)
		}
	}
}

// P14.2: a Seal that seals nothing more refuses what is late all the same; one that is late itself takes nothing back.
func TestLateBehindSeals(t *testing.T) {
	r := roomy(t)
	r.all(ask(api.Write, 0, 4, junk()), ask(api.Seal, 6, 0, empty()), ask(api.Seal, 6, 0, empty()), ask(api.Seal, 3, 0, empty()))
	refused(t, r.u, r.d, ask(api.Read, 5, 4, empty()), 6)
	r.all(ask(api.Open, 9, 0, empty()), ask(api.Read, 9, 4, empty()))
	refused(t, r.u, r.d, ask(api.Read, 5, 4, empty()), 6)
	r.all(ask(api.Seal, 8, 0, empty()), ask(api.Seal, 7, 0, empty()), ask(api.Trim, 8, 1048576, empty()))
	refused(t, r.u, r.d, ask(api.Seal, 7, 4, empty()), 8)
	refused(t, r.u, r.d, ask(api.Open, 7, 4, empty()), 8)
	refused(t, r.u, r.d, ask(api.Copy, 7, 4, empty()), 8)
}

// choices are all lists of n bools.
func choices(n int) [][]bool {
	var l [][]bool
	for bits := range 1 << n {
		x := make([]bool, n)
		for i := range x {
			x[i] = bits>>i&1 == 1
		}
		l = append(l, x)
	}
	return l
}

// P14.2: a crash amid a Seal, at each step in which its record is laid on the tape, with every choice of what is kept: the unit is sealed or not, and once a Seal was answered, it refuses what is late.
func TestCrashAmidSeal(t *testing.T) {
	sealed := 0
	for steps := range 5 {
		r := roomy(t)
		r.all(ask(api.Write, 0, 4, great()), ask(api.Open, 2, 0, empty()), ask(api.Seal, 2, 0, empty()))
		x, _ := tape.Open(r.d)
		x.Append([]byte{1 << 5, 0, 6})
		for range steps {
			x.Step()
		}
		for _, keep := range choices(len(r.d.Dirty())) {
			d := r.d.Crash(keep)
			u := opened(t, d)
			switch epoch := u.Pages().Epoch(); {
			case epoch == 6:
				sealed++
			case epoch != 2 || steps == 4:
				t.Fatalf("epoch %d behind step %d", epoch, steps)
			}
			exchanges(t, u, []exchange{{ask(api.Seal, 6, 0, empty()), reply(api.Seal, 2, 5, api.OK, empty())}})
			for _, with := range lesser(6) {
				for _, m := range asks(with, 4, junk()) {
					refused(t, opened(t, d.Crash(nil)), d, m, 6)
					refused(t, u, d, m, 6)
				}
			}
		}
	}
	if sealed != 2 {
		t.Errorf("sealed %d times", sealed)
	}
}

// P14.2: any messages, on disks that get full and on such that do not, with crashes between them: from the answer to a Seal on, all of a lesser epoch are refused.
func TestLateAmidAny(t *testing.T) {
	s := stir(144)
	late := 0
	for n := range 150 {
		d, _ := disk.New([]int{3, 5, 9, 101}[n%4])
		u, sealed := opened(t, d), uint64(0)
		for range 80 {
			if s.below(10) == 0 {
				d = d.Crash(nil)
				u = opened(t, d)
			}
			m := s.message(sealed)
			if m.Epoch < sealed {
				late++
				refused(t, u, d, m, sealed)
				continue
			}
			a, ok := serve(t, u, m)
			if !ok || a.Error == api.ErrSealed || cell.Right(a.Cell) && a.Error != api.OK && a.Error != api.ErrWritten {
				t.Fatalf("%+v: %+v, %v", m, a, ok)
			}
			if m.Kind == api.Seal && a.Error == api.OK {
				sealed = m.Epoch
			}
			if u.Pages().Epoch() != sealed {
				t.Fatalf("%+v: epoch %d, want %d", m, u.Pages().Epoch(), sealed)
			}
		}
	}
	if late < 500 {
		t.Errorf("late: %d", late)
	}
}
