/-
  The statement CastBetween: the walk of its Go text, by the contracts of what it calls.
-/
import Derived.Test.YtmpjmlcojhoaeaaCastC
namespace Go.Proofs.Ytmpjmlcojhoaeaa
open Go.RowKit

theorem clamp8 (v : Int) : clampN v (wn 8) = btw v (-128) 127 := by
  have e : hp (wn 8) = 128 := by decide
  unfold clampN btw
  rw [e]; omega

set_option maxRecDepth 100000 in
set_option maxHeartbeats 4000000 in
theorem castBetween_walk (v f t : Int) (w : World) :
    Calls Try.prog 7 #[.int .i64 v, .int .i64 f, .int .i64 t] w fun e w' => e = .returned (.bool true) ∧ w = w' := by
  have c1 := between_is v f t w
  have c2 := between_is v t f w
  have c3 := between_is v (-128) 127 w
  have c4 := clamp_any v 8 w
  have c5 := between_is (btw v f t) f t w
  rw [clamp8] at c4
  rw [show btw v t f = btw v f t by unfold btw; omega] at c2
  rw [show btw (btw v f t) f t = btw v f t by unfold btw; omega] at c5
  have c0 := alive_any w
  generalize btw v (-128) 127 = K at *
  have hx : btw v f t = min (max v (min f t)) (max f t) := rfl
  have hAB : min f t ≤ max f t := by omega
  generalize btw v f t = x at *
  have C0 := Lib.hid c0
  have C1 := Lib.hid c1
  have C2 := Lib.hid c2
  have C3 := Lib.hid c3
  have C4 := Lib.hid c4
  have C5 := Lib.hid c5
  clear c0 c1 c2 c3 c4 c5
  have hc : (x = min f t ∧ decide (x < min f t) = false ∧ decide (max f t < x) = false ∧ decide (min f t ≤ v) = false ∧ decide (v < min f t) = true ∧ (x != min f t) = false ∧ decide (max f t < v) = false) ∨
      (x = v ∧ decide (x < min f t) = false ∧ decide (max f t < x) = false ∧ decide (min f t ≤ v) = true ∧ decide (v ≤ max f t) = true ∧ (x != v) = false ∧ decide (v < min f t) = false ∧ decide (max f t < v) = false) ∨
      (x = max f t ∧ decide (x < min f t) = false ∧ decide (max f t < x) = false ∧ decide (min f t ≤ v) = true ∧ decide (v ≤ max f t) = false ∧ decide (v < min f t) = false ∧ decide (max f t < v) = true ∧ (x != max f t) = false) := by
    generalize min f t = A at *
    generalize max f t = B at *
    by_cases h1 : v < A
    · have e : x = A := by omega
      refine .inl ⟨e, ?_, ?_, ?_, ?_, ?_, ?_⟩ <;> simp <;> omega
    · by_cases h2 : B < v
      · have e : x = B := by omega
        refine .inr (.inr ⟨e, ?_, ?_, ?_, ?_, ?_, ?_, ?_⟩) <;> simp <;> omega
      · have e : x = v := by omega
        refine .inr (.inl ⟨e, ?_, ?_, ?_, ?_, ?_, ?_, ?_⟩) <;> simp <;> omega
  clear hx
  have d0 : decide (max f t < min f t) = false := decide_eq_false (by omega)
  rcases hc with ⟨rfl, q1, q2, q3, q4, q5, q6⟩ | ⟨rfl, q1, q2, q3, q4, q5, q6, q7⟩ | ⟨rfl, q1, q2, q3, q4, q5, q6, q7⟩
  all_goals
    go_enter Try.func7, Try.ntmps7
    go_wp2_with fail
    refine C1.out.mono ?_
    rintro e w' ⟨rfl, rfl⟩
    go_wp2_with fail
    refine C2.out.mono ?_
    rintro e w' ⟨rfl, rfl⟩
    go_wp2_with fail
    refine C0.out.mono ?_
    rintro e w' ⟨rfl, rfl⟩
    go_wp2_with fail
    refine C3.out.mono ?_
    rintro e w' ⟨rfl, rfl⟩
    go_wp2_with fail
    refine C4.out.mono ?_
    rintro e w' ⟨rfl, rfl⟩
    go_wp2_with fail
    refine C5.out.mono ?_
    rintro e w' ⟨rfl, rfl⟩
    go_wp2_with fail
    go_ret
    exact ⟨rfl, rfl⟩
end Go.Proofs.Ytmpjmlcojhoaeaa
