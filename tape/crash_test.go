package tape_test

import (
	"strconv"
	"testing"
)

// change is something that is to be committed, and what it is called.
type change struct {
	what string
	do   func(r *rig)
}

// changes are such as fit on a disk whose halves have 128 bytes or more, of which 45 at most are in use.
func changes() []change {
	all := func(l ...[]byte) func(*rig) {
		return func(r *rig) {
			for _, b := range l {
				r.append(b)
			}
		}
	}
	instead := func(l ...[]byte) func(*rig) {
		return func(r *rig) { r.replace(l...) }
	}
	return []change{
		{"one", all(record(8, 50))},
		{"three", all(records(1, 70, 2)...)},
		{"to a sector's end", all(record(17, 60))},
		{"replaced by one", instead(record(9, 80))},
		{"replaced by all that fits", instead(sized(128)...)},
		{"replaced by none", instead()},
		{"appended, then replaced", func(r *rig) { r.append(record(6, 7)); r.replace(record(50, 9), record(51, 9)) }},
	}
}

// before are ways to get to a tape on which something is to be committed.
func before() []change {
	return []change{
		{"new", func(*rig) {}},
		{"some", func(r *rig) { r.append(record(20, 1)); r.append(record(21, 2)); r.commit() }},
		{"in the other half", func(r *rig) { r.append(record(100, 3)); r.commit(); r.replace(record(43, 4)); r.commit() }},
		{"in the first half again", func(r *rig) { r.replace(sized(120)...); r.commit(); r.replace(record(30, 5)); r.commit() }},
	}
}

// P6.2: a crash after each step, with every choice of what is kept, opened again behind each: the records are those that were committed, or those with all that waited; what a second commit then does, whatever the first one left in the sectors, is safe too.
func TestCrashAfterEachStep(t *testing.T) {
	for _, sectors := range []int{5, 6, 7} {
		for _, b := range before() {
			for _, c := range changes() {
				t.Run(strconv.Itoa(sectors)+", "+b.what+", "+c.what, func(t *testing.T) {
					r := fresh(t, sectors)
					b.do(r)
					old := r.m.committed
					c.do(r)
					_, new := r.m.later()
					for steps := range 5 {
						for _, keep := range choices(len(r.d.Dirty())) {
							x := r.crash(keep)
							want := old
							if steps == 4 || steps == 3 && keep[0] {
								want = new
							}
							holds(t, strconv.Itoa(steps)+" steps", x.x, want)
							crashAgain(x)
						}
						if r.step() != (steps >= 3) {
							t.Fatalf("step %d", steps+1)
						}
					}
				})
			}
		}
	}
}

// crashAgain appends to a tape that a crash left, and then replaces, with a crash after each step.
func crashAgain(r *rig) {
	r.t.Helper()
	r.append(record(4, 90))
	crashes(r)
	r.replace(record(65, 91))
	crashes(r)
}

// crashes takes the four steps, with crashes that keep nothing, all, or one sector.
func crashes(r *rig) {
	r.t.Helper()
	for over := false; !over; {
		over = r.step()
		for _, keep := range [][]bool{nil, {true}, {false, true}, {true, true, true, true}} {
			r.crash(keep)
		}
	}
}

// P6.2: two crashes, one behind the other, after each step of each of two changes, with every choice of what is kept both times.
func TestTwoCrashes(t *testing.T) {
	for _, first := range changes() {
		for _, second := range changes() {
			t.Run(first.what+", "+second.what, func(t *testing.T) {
				r := fresh(t, 5)
				r.append(record(40, 1))
				r.commit()
				first.do(r)
				for range 4 {
					r.step()
					for _, keep := range choices(len(r.d.Dirty())) {
						x := r.crash(keep)
						second.do(x)
						for range 4 {
							x.step()
							for _, keep := range choices(len(x.d.Dirty())) {
								x.crash(keep)
							}
						}
					}
				}
			})
		}
	}
}

// P6.2: many sectors, of which a crash keeps some; the records are the old ones after the first two steps, whatever it keeps.
func TestCrashOfMany(t *testing.T) {
	s := stir(9)
	for n := range 20 {
		r := fresh(t, 41)
		r.replace(sized(700 + 3*n)...)
		r.commit()
		if n%2 == 0 {
			r.replace(sized(1280 - 5*n)...)
		} else {
			for _, b := range sized(500 - 5*n) {
				r.append(b)
			}
		}
		for over := false; !over; {
			over = r.step()
			for range 10 {
				r.crash(s.keep())
			}
		}
	}
}

// P6.2: a superblock that was kept, or lost, is the whole of what tells the old records from the new ones.
func TestSuperKept(t *testing.T) {
	for _, kept := range []bool{false, true} {
		r := fresh(t, 3)
		r.append([]byte("old"))
		r.commit()
		r.replace([]byte("new"))
		r.step()
		r.step()
		r.step()
		x := r.crash([]bool{kept})
		want := "old"
		if kept {
			want = "new"
		}
		if b, _ := x.x.Read(0); string(b) != want || x.x.Len() != 1 {
			t.Errorf("kept: %v: %q, Len: %d", kept, b, x.x.Len())
		}
	}
}
