package cast_test

import (
	"testing"

	"rotulet/cast"
)

// P2.2: Zag inverts Zig, and Zig inverts Zag.
func TestZigZagInverse(t *testing.T) {
	for _, v := range near() {
		if w := cast.Zag(cast.Zig(v)); w != v {
			t.Fatalf("Zag(Zig(%d)): %d", v, w)
		}
	}
	for _, v := range nearUnsigned() {
		if w := cast.Zig(cast.Zag(v)); w != v {
			t.Fatalf("Zig(Zag(%d)): %d", v, w)
		}
	}
}

// P2.2: Wrap returns a number that fits unchanged, and what Wrap returns fits; so does Clamp.
func TestFittingUnchanged(t *testing.T) {
	for _, n := range widths() {
		for _, v := range near() {
			w, c := cast.Wrap(v, n), cast.Clamp(v, n)
			if cast.Fits(v, n) != (w == v) || cast.Fits(v, n) != (c == v) {
				t.Fatalf("%d of %d bits: Fits %v, Wrap %d, Clamp %d", v, n, cast.Fits(v, n), w, c)
			}
			if !cast.Fits(w, n) || !cast.Fits(c, n) {
				t.Fatalf("%d of %d bits: Wrap %d, Clamp %d do not fit", v, n, w, c)
			}
		}
	}
}

// P2.3: Clamp is monotone.
func TestClampMonotone(t *testing.T) {
	l := near()
	for _, n := range widths() {
		for i := 1; i < len(l); i++ {
			if a, b := cast.Clamp(l[i-1], n), cast.Clamp(l[i], n); a > b {
				t.Fatalf("Clamp(%d, %d): %d, but of %d it is %d", l[i-1], n, a, l[i], b)
			}
		}
	}
}

// P2.3: Half is monotone in either number, and hangs on no order of the two.
func TestHalfMonotone(t *testing.T) {
	l := few()
	for _, a := range l {
		for i, b := range l {
			h := cast.Half(a, b)
			if cast.Half(b, a) != h {
				t.Fatalf("Half(%d, %d): %d, and %d", a, b, h, cast.Half(b, a))
			}
			if i > 0 && cast.Half(a, l[i-1]) > h {
				t.Fatalf("Half(%d, %d): %d, but with %d it is %d", a, b, h, l[i-1], cast.Half(a, l[i-1]))
			}
		}
	}
}

// P2.3: Align is monotone where it answers; behind a number without an answer no greater one has one.
func TestAlignMonotone(t *testing.T) {
	l := nearUnsigned()
	for _, n := range widths() {
		for i := 1; i < len(l); i++ {
			a, before := cast.Align(l[i-1], n)
			b, after := cast.Align(l[i], n)
			if after && (!before || a > b) {
				t.Fatalf("Align(%d, %d): %d, %v, but of %d it is %d", l[i-1], n, a, before, l[i], b)
			}
		}
	}
}

// P2.3: Zig is less for a number that is nearer to 0.
func TestZigNearer(t *testing.T) {
	l := few()
	for _, a := range l {
		for _, b := range l {
			if signed(a).CmpAbs(signed(b)) < 0 && cast.Zig(a) >= cast.Zig(b) {
				t.Fatalf("Zig(%d): %d, but of %d it is %d", a, cast.Zig(a), b, cast.Zig(b))
			}
		}
	}
}
