/-
  The statement CastTells: the walk of its Go text, by the contracts of what it calls.
-/
import Derived.Test.YtmpjmlcojhoaeaaCastC
namespace Go.Proofs.Ytmpjmlcojhoaeaa
open Go.RowKit

set_option maxRecDepth 100000 in
set_option maxHeartbeats 4000000 in
theorem castTells_walk (a b n : Int) (w : World) (ha0 : -9223372036854775808 ≤ a) (ha1 : a ≤ 9223372036854775807) (hb0 : -9223372036854775808 ≤ b) (hb1 : b ≤ 9223372036854775807) :
    Calls Try.prog 3 #[.int .i64 a, .int .i64 b, .int .i64 n] w fun e w' => e = .returned (.bool true) ∧ w = w' := by
  obtain ⟨U, hU, hUl, _⟩ := u64_of a
  have c1 := narrow_is U n w hUl
  have c2 := rnarrow_is U n w hUl
  have c3 := signed_is U w hUl
  have c4 := rsigned_is U w hUl
  have c5 := fits_any a n w
  have c6 := rfits_any a n w
  have c7 := wrap_any a n w
  have c8 := rwrap_any a n w
  have c9 := clamp_any a n w
  have c10 := rclamp_any a n w
  have c11 := log_is U w hUl
  have c12 := rlog_is U w hUl
  have c13 := align_is U n w hUl
  have c14 := ralign_is U n w hUl
  have c15 := zig_any a w ha0 ha1
  have c16 := rzig_any a w ha0 ha1
  have c17 := zag_any U w (by omega) (by omega)
  have c18 := rzag_any U w (by omega) (by omega)
  have c19 := half_any a b w ha0 ha1 hb0 hb1
  have c20 := rhalf_any a b w ha0 ha1 hb0 hb1
  have c21 := between_is a b n w
  have c22 := rbetween_is a b n w
  have c0 := alive_any w
  generalize nwV U n = x1 at *
  generalize nwB U n = x2 at *
  generalize sgV U = x3 at *
  generalize sgB U = x4 at *
  generalize fitsN a (wn n) = x5 at *
  generalize wrapN a (wn n) = x6 at *
  generalize clampN a (wn n) = x7 at *
  generalize logV U = x8 at *
  generalize logB U = x9 at *
  generalize alV U n = x10 at *
  generalize alB U n = x11 at *
  generalize zigN a = x12 at *
  generalize zagN U = x13 at *
  generalize (a + b) / 2 = x14 at *
  generalize btw a b n = x15 at *
  have C0 := Lib.hid c0
  have C1 := Lib.hid c1
  have C2 := Lib.hid c2
  have C3 := Lib.hid c3
  have C4 := Lib.hid c4
  have C5 := Lib.hid c5
  have C6 := Lib.hid c6
  have C7 := Lib.hid c7
  have C8 := Lib.hid c8
  have C9 := Lib.hid c9
  have C10 := Lib.hid c10
  have C11 := Lib.hid c11
  have C12 := Lib.hid c12
  have C13 := Lib.hid c13
  have C14 := Lib.hid c14
  have C15 := Lib.hid c15
  have C16 := Lib.hid c16
  have C17 := Lib.hid c17
  have C18 := Lib.hid c18
  have C19 := Lib.hid c19
  have C20 := Lib.hid c20
  have C21 := Lib.hid c21
  have C22 := Lib.hid c22
  clear c0 c1 c2 c3 c4 c5 c6 c7 c8 c9 c10 c11 c12 c13 c14 c15 c16 c17 c18 c19 c20 c21 c22
  go_enter Try.func3, Try.ntmps3
  go_wp2_with fail
  refine C1.out.mono ?_
  rintro e w' ⟨rfl, rfl⟩
  go_wp2_with fail
  refine C2.out.mono ?_
  rintro e w' ⟨rfl, rfl⟩
  go_wp2_with fail
  refine C3.out.mono ?_
  rintro e w' ⟨rfl, rfl⟩
  go_wp2_with fail
  refine C4.out.mono ?_
  rintro e w' ⟨rfl, rfl⟩
  go_wp2_with fail
  refine C5.out.mono ?_
  rintro e w' ⟨rfl, rfl⟩
  go_wp2_with fail
  refine C6.out.mono ?_
  rintro e w' ⟨rfl, rfl⟩
  go_wp2_with fail
  refine C7.out.mono ?_
  rintro e w' ⟨rfl, rfl⟩
  go_wp2_with fail
  refine C8.out.mono ?_
  rintro e w' ⟨rfl, rfl⟩
  go_wp2_with fail
  refine C9.out.mono ?_
  rintro e w' ⟨rfl, rfl⟩
  go_wp2_with fail
  refine C10.out.mono ?_
  rintro e w' ⟨rfl, rfl⟩
  go_wp2_with fail
  refine C11.out.mono ?_
  rintro e w' ⟨rfl, rfl⟩
  go_wp2_with fail
  refine C12.out.mono ?_
  rintro e w' ⟨rfl, rfl⟩
  go_wp2_with fail
  refine C13.out.mono ?_
  rintro e w' ⟨rfl, rfl⟩
  go_wp2_with fail
  refine C14.out.mono ?_
  rintro e w' ⟨rfl, rfl⟩
  go_wp2_with fail
  refine C0.out.mono ?_
  rintro e w' ⟨rfl, rfl⟩
  go_wp2_with fail
  refine C15.out.mono ?_
  rintro e w' ⟨rfl, rfl⟩
  go_wp2_with fail
  refine C16.out.mono ?_
  rintro e w' ⟨rfl, rfl⟩
  go_wp2_with fail
  refine C17.out.mono ?_
  rintro e w' ⟨rfl, rfl⟩
  go_wp2_with fail
  refine C18.out.mono ?_
  rintro e w' ⟨rfl, rfl⟩
  go_wp2_with fail
  refine C19.out.mono ?_
  rintro e w' ⟨rfl, rfl⟩
  go_wp2_with fail
  refine C20.out.mono ?_
  rintro e w' ⟨rfl, rfl⟩
  go_wp2_with fail
  refine C21.out.mono ?_
  rintro e w' ⟨rfl, rfl⟩
  go_wp2_with fail
  refine C22.out.mono ?_
  rintro e w' ⟨rfl, rfl⟩
  go_wp2_with fail
  go_ret
  exact ⟨rfl, rfl⟩
end Go.Proofs.Ytmpjmlcojhoaeaa
