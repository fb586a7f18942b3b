/-
  The statement CastBack: the walk of its Go text, by the contracts of what it calls.
-/
import Derived.Test.YtmpjmlcojhoaeaaCastC
namespace Go.Proofs.Ytmpjmlcojhoaeaa
open Go.RowKit

theorem wrapN_i64 (v : Int) (n : Int) : -9223372036854775808 ≤ wrapN v (wn n) ∧ wrapN v (wn n) ≤ 9223372036854775807 := by
  have h := wrapN_range v (wn n) (wn_pos n)
  have h2 := hp_le _ (wn_le n)
  omega
theorem fitsN_wrap (v : Int) (m : Nat) (h : 1 ≤ m) : fitsN (wrapN v m) m = true := decide_eq_true (wrapN_range v m h)
theorem fitsN_clamp (v : Int) (m : Nat) : fitsN (clampN v m) m = true := decide_eq_true (by have := hp_pos m; unfold clampN; omega)
theorem wrapN_wrap (v : Int) (m : Nat) (h : 1 ≤ m) : wrapN (wrapN v m) m = wrapN v m := by
  have := wrapN_range v m h
  exact wrapN_self _ m h this.1 this.2
theorem clampN_clamp (v : Int) (m : Nat) : clampN (clampN v m) m = clampN v m := by
  have := hp_pos m
  unfold clampN; omega
theorem fits_cases (v : Int) (m : Nat) (h : 1 ≤ m) : (fitsN v m = true ∧ wrapN v m = v ∧ clampN v m = v) ∨ (fitsN v m = false ∧ (wrapN v m == v) = false ∧ (clampN v m == v) = false) := by
  have hp0 := hp_pos m
  by_cases hf : -hp m ≤ v ∧ v < hp m
  · refine .inl ⟨decide_eq_true hf, wrapN_self v m h hf.1 hf.2, ?_⟩
    unfold clampN; omega
  · refine .inr ⟨decide_eq_false hf, ?_, ?_⟩
    · rw [beq_eq_false_iff_ne]
      intro e
      have := wrapN_range v m h
      omega
    · rw [beq_eq_false_iff_ne]
      unfold clampN; omega

set_option maxRecDepth 100000 in
set_option maxHeartbeats 4000000 in
theorem castBack_walk (v n : Int) (w : World) (hv0 : -9223372036854775808 ≤ v) (hv1 : v ≤ 9223372036854775807) :
    Calls Try.prog 4 #[.int .i64 v, .int .i64 n] w fun e w' => e = .returned (.bool true) ∧ w = w' := by
  obtain ⟨U, hU, hUl, _⟩ := u64_of v
  have m1 := wn_pos n
  have zr := zigN_range v hv0 hv1
  have gr := zagN_range U (by omega) (by omega)
  have c1 := wrap_any v n w
  have c2 := clamp_any v n w
  have c3 := fits_any v n w
  have c4 := zig_any v w hv0 hv1
  have c5 := zag_any (zigN v) w zr.1 zr.2
  have c6 := zag_any U w (by omega) (by omega)
  have c7 := zig_any (zagN U) w gr.1 gr.2
  have c8 := fits_any (wrapN v (wn n)) n w
  have c9 := fits_any (clampN v (wn n)) n w
  have c10 := wrap_any (wrapN v (wn n)) n w
  have c11 := clamp_any (clampN v (wn n)) n w
  have c0 := alive_any w
  rw [zag_zig] at c5
  rw [zig_zag _ (by omega)] at c7
  rw [fitsN_wrap _ _ m1] at c8
  rw [fitsN_clamp] at c9
  rw [wrapN_wrap _ _ m1] at c10
  rw [clampN_clamp] at c11
  have hc := fits_cases v (wn n) m1
  generalize fitsN v (wn n) = f at *
  generalize wrapN v (wn n) = W at *
  generalize clampN v (wn n) = C at *
  generalize zigN v = Z at *
  generalize zagN U = G at *
  have C0 := Lib.hid c0
  have C1 := Lib.hid c1
  have C2 := Lib.hid c2
  have C3 := Lib.hid c3
  have C4 := Lib.hid c4
  have C5 := Lib.hid c5
  have C6 := Lib.hid c6
  have C7 := Lib.hid c7
  have C8 := Lib.hid c8
  have C9 := Lib.hid c9
  have C10 := Lib.hid c10
  have C11 := Lib.hid c11
  clear c0 c1 c2 c3 c4 c5 c6 c7 c8 c9 c10 c11
  rcases hc with ⟨rfl, rfl, hC⟩ | ⟨rfl, q1, q2⟩
  · subst hC
    go_enter Try.func4, Try.ntmps4
    go_wp2_with fail
    refine C1.out.mono ?_
    rintro e w' ⟨rfl, rfl⟩
    go_wp2_with fail
    refine C2.out.mono ?_
    rintro e w' ⟨rfl, rfl⟩
    go_wp2_with fail
    refine C3.out.mono ?_
    rintro e w' ⟨rfl, rfl⟩
    go_wp2_with fail
    refine C4.out.mono ?_
    rintro e w' ⟨rfl, rfl⟩
    go_wp2_with fail
    refine C5.out.mono ?_
    rintro e w' ⟨rfl, rfl⟩
    go_wp2_with fail
    refine C6.out.mono ?_
    rintro e w' ⟨rfl, rfl⟩
    go_wp2_with fail
    refine C7.out.mono ?_
    rintro e w' ⟨rfl, rfl⟩
    go_wp2_with fail
    refine C0.out.mono ?_
    rintro e w' ⟨rfl, rfl⟩
    go_wp2_with fail
    refine C8.out.mono ?_
    rintro e w' ⟨rfl, rfl⟩
    go_wp2_with fail
    refine C9.out.mono ?_
    rintro e w' ⟨rfl, rfl⟩
    go_wp2_with fail
    refine C10.out.mono ?_
    rintro e w' ⟨rfl, rfl⟩
    go_wp2_with fail
    refine C11.out.mono ?_
    rintro e w' ⟨rfl, rfl⟩
    go_wp2_with fail
    go_ret
    exact ⟨rfl, rfl⟩
  · go_enter Try.func4, Try.ntmps4
    go_wp2_with fail
    refine C1.out.mono ?_
    rintro e w' ⟨rfl, rfl⟩
    go_wp2_with fail
    refine C2.out.mono ?_
    rintro e w' ⟨rfl, rfl⟩
    go_wp2_with fail
    refine C3.out.mono ?_
    rintro e w' ⟨rfl, rfl⟩
    go_wp2_with fail
    refine C4.out.mono ?_
    rintro e w' ⟨rfl, rfl⟩
    go_wp2_with fail
    refine C5.out.mono ?_
    rintro e w' ⟨rfl, rfl⟩
    go_wp2_with fail
    refine C6.out.mono ?_
    rintro e w' ⟨rfl, rfl⟩
    go_wp2_with fail
    refine C7.out.mono ?_
    rintro e w' ⟨rfl, rfl⟩
    go_wp2_with fail
    refine C0.out.mono ?_
    rintro e w' ⟨rfl, rfl⟩
    go_wp2_with fail
    refine C8.out.mono ?_
    rintro e w' ⟨rfl, rfl⟩
    go_wp2_with fail
    refine C9.out.mono ?_
    rintro e w' ⟨rfl, rfl⟩
    go_wp2_with fail
    refine C10.out.mono ?_
    rintro e w' ⟨rfl, rfl⟩
    go_wp2_with fail
    refine C11.out.mono ?_
    rintro e w' ⟨rfl, rfl⟩
    go_wp2_with fail
    go_ret
    exact ⟨rfl, rfl⟩
end Go.Proofs.Ytmpjmlcojhoaeaa
