/-
  The statement CastPowers: the walk of its Go text, by the contracts of what it calls.
-/
import Derived.Test.YtmpjmlcojhoaeaaCastC
namespace Go.Proofs.Ytmpjmlcojhoaeaa
open Go.RowKit

theorem low_of_up (v : Nat) (n : Int) (h0 : 0 ≤ n) (h1 : n ≤ 63) (hn : n ≠ 0) : nwV (upN v (an n)) (max n 1) = 0 := by
  have e : wn (max n 1) = an n := by unfold wn an; omega
  unfold nwV
  rw [e]
  exact upN_mod v _
theorem up_up (v k : Nat) : upN (upN v k) k = upN v k := upN_eq _ _ _ (Nat.le_refl _) (upN_mod v k) (by have : 0 < 2 ^ k := Nat.pow_pos (by omega); omega)
theorem log_shift (v : Nat) (h0 : 0 < v) (h1 : v < 18446744073709551616) : v / 2 ^ logN v = 1 := by
  obtain ⟨a, b, _, _⟩ := logN_bounds v h0 h1
  have hP : 0 < 2 ^ logN v := Nat.pow_pos (by omega)
  rw [Nat.pow_succ] at b
  have h2 := Nat.div_lt_of_lt_mul b
  have h3 := (Nat.one_le_div_iff hP).2 a
  omega

set_option maxRecDepth 100000 in
set_option maxHeartbeats 1000000 in
theorem castPowers_walk (v : Nat) (n : Int) (w : World) (hv : v < 18446744073709551616) :
    Calls Try.prog 6 #[.int .u64 v, .int .i64 n] w fun e w' => e = .returned (.bool true) ∧ w = w' := by
  have c0 := alive_any w
  have c1 := log_is v w hv
  have c2 := align_is v n w hv
  have hlog : (logB v = false ∧ decide (0 < v) = false ∧ ¬ 0 < v) ∨ ∃ k : Nat, k ≤ 63 ∧ logV v = (k : Int) ∧ logB v = true ∧ decide (0 < v) = true ∧ 0 < v ∧ ((v : Int) / 2 ^ k != 1) = false := by
    by_cases h : v = 0
    · subst h
      exact .inl ⟨rfl, rfl, by omega⟩
    · refine .inr ⟨logN v, (logN_bounds v (by omega) hv).2.2.1, by unfold logV; rw [if_neg h], by unfold logB; exact decide_eq_true (by omega), decide_eq_true (by omega), by omega, ?_⟩
      have := log_shift v (by omega) hv
      rw [bne_eq_false_iff_eq]
      have e : (v : Int) / 2 ^ logN v = ((v / 2 ^ logN v : Nat) : Int) := by simp
      rw [e, this]; rfl
  generalize logV v = L at *
  generalize logB v = LB at *
  have C0 := Lib.hid c0
  have C1 := Lib.hid c1
  have C2 := Lib.hid c2
  clear c0 c1 c2
  by_cases hn : 0 ≤ n ∧ n ≤ 63
  rotate_left
  · by_cases g1 : n < 0
    · rcases hlog with ⟨rfl, q1, q0⟩ | ⟨k, hk, rfl, rfl, q1, q0, q2⟩
      all_goals
        go_enter Try.func6, Try.ntmps6
        go_wp2_with fail
        refine C1.out.mono ?_
        rintro e w' ⟨rfl, rfl⟩
        go_wp2_with fail
        refine C0.out.mono ?_
        rintro e w' ⟨rfl, rfl⟩
        go_wp2_with fail
        go_ret
        exact ⟨rfl, rfl⟩
    · have g2 : 63 < n := by omega
      rcases hlog with ⟨rfl, q1, q0⟩ | ⟨k, hk, rfl, rfl, q1, q0, q2⟩
      all_goals
        go_enter Try.func6, Try.ntmps6
        go_wp2_with fail
        refine C1.out.mono ?_
        rintro e w' ⟨rfl, rfl⟩
        go_wp2_with fail
        refine C0.out.mono ?_
        rintro e w' ⟨rfl, rfl⟩
        go_wp2_with fail
        go_ret
        exact ⟨rfl, rfl⟩
  obtain ⟨n0, n1⟩ := hn
  obtain ⟨j, rfl⟩ := Int.eq_ofNat_of_zero_le n0
  have haj : an (j : Int) = j := by unfold an; omega
  have d1 : decide ((j : Int) < 0) = false := decide_eq_false (by omega)
  have d2 : decide ((63 : Int) < (j : Int)) = false := decide_eq_false (by omega)
  have hPl : 2 ^ j ≤ 9223372036854775808 := Nat.pow_le_pow_right (n := 2) (by omega) (show j ≤ 63 by omega)
  have hPw : IntKind.u64.wrap (2 ^ j) = ((2 ^ j : Nat) : Int) := by
    have e : ((2 : Int) ^ j) = ((2 ^ j : Nat) : Int) := by simp
    rw [e, wrap_u64_nat _ (by omega)]
  have hup := upN_fits v j (by omega)
  have hlt := upN_lt v j
  have hge := upN_ge v j
  have hP0 : 0 < 2 ^ j := Nat.pow_pos (by omega)
  by_cases hf : upN v j < 18446744073709551616
  · have e1 : alV v (j : Int) = upN v j := by unfold alV; rw [haj, if_pos hf]
    have e2 : alB v (j : Int) = true := by unfold alB; rw [haj, decide_eq_true hf]
    have c3 := narrow_is (upN v j) (max (j : Int) 1) w hf
    have c4 := align_is (upN v j) (j : Int) w hf
    have e3 : alV (upN v j) (j : Int) = upN v j := by unfold alV; rw [haj, up_up, if_pos hf]
    have e4 : alB (upN v j) (j : Int) = true := by unfold alB; rw [haj, up_up, decide_eq_true hf]
    have hlow : (((j : Int) == 0) = true) ∨ (((j : Int) == 0) = false ∧ nwV (upN v j) (max (j : Int) 1) = 0) := by
      by_cases hj : j = 0
      · exact .inl (by rw [beq_iff_eq]; omega)
      · refine .inr ⟨by rw [beq_eq_false_iff_ne]; omega, ?_⟩
        have := low_of_up v (j : Int) (by omega) n1 (by omega)
        rwa [haj] at this
    rw [e3, e4] at c4
    have C2' := C2.out
    rw [e1, e2] at C2'
    clear C2 e1 e2 e3 e4 hup
    have C2 := Lib.hid C2'
    clear C2'
    generalize nwV (upN v j) (max (j : Int) 1) = low at *
    generalize nwB (upN v j) (max (j : Int) 1) = lowB at *
    generalize upN v j = a at *
    generalize 2 ^ j = P at *
    have C3 := Lib.hid c3
    have C4 := Lib.hid c4
    clear c3 c4
    have d3 : decide ((v : Int) ≤ (a : Int)) = true := decide_eq_true (by omega)
    have d4 : decide ((a : Int) - (v : Int) < (P : Int)) = true := decide_eq_true (by omega)
    rcases hlog with ⟨rfl, q1, q0⟩ | ⟨k, hk, rfl, rfl, q1, q0, q2⟩
    all_goals
      rcases hlow with hl | ⟨hl, rfl⟩
      all_goals
        go_enter Try.func6, Try.ntmps6
        go_wp2_with fail
        refine C1.out.mono ?_
        rintro e w' ⟨rfl, rfl⟩
        go_wp2_with fail
        refine C2.out.mono ?_
        rintro e w' ⟨rfl, rfl⟩
        go_wp2_with fail
        refine C3.out.mono ?_
        rintro e w' ⟨rfl, rfl⟩
        go_wp2_with fail
        refine C4.out.mono ?_
        rintro e w' ⟨rfl, rfl⟩
        go_wp2_with fail
        refine C0.out.mono ?_
        rintro e w' ⟨rfl, rfl⟩
        go_wp2_with fail
        go_ret
        exact ⟨rfl, rfl⟩
  · have e1 : alV v (j : Int) = 0 := by unfold alV; rw [haj, if_neg hf]
    have e2 : alB v (j : Int) = false := by unfold alB; rw [haj, decide_eq_false hf]
    have c3 := narrow_is 0 (max (j : Int) 1) w (by omega)
    have C2' := C2.out
    rw [e1, e2] at C2'
    clear C2 e1 e2
    have C2 := Lib.hid C2'
    clear C2'
    have hj : j ≠ 0 := by
      intro e; subst e
      rw [upN_zero] at hf
      omega
    have hno : ¬ v + (2 ^ j - 1) < 18446744073709551616 := fun h => hf (hup.2 h)
    clear hup hlt hge hf
    generalize nwV 0 (max (j : Int) 1) = low at *
    generalize nwB 0 (max (j : Int) 1) = lowB at *
    generalize 2 ^ j = P at *
    have C3 := Lib.hid c3
    clear c3
    have d3 : decide ((0 : Int) < (j : Int)) = true := decide_eq_true (by omega)
    have d4 : decide (18446744073709551615 - (P : Int) < (v : Int)) = true := decide_eq_true (by omega)
    rcases hlog with ⟨rfl, q1, q0⟩ | ⟨k, hk, rfl, rfl, q1, q0, q2⟩
    · exfalso; omega
    · skip
      go_enter Try.func6, Try.ntmps6
      go_wp2_with fail
      refine C1.out.mono ?_
      rintro e w' ⟨rfl, rfl⟩
      go_wp2_with fail
      refine C2.out.mono ?_
      rintro e w' ⟨rfl, rfl⟩
      go_wp2_with fail
      refine C3.out.mono ?_
      rintro e w' ⟨rfl, rfl⟩
      go_wp2_with fail
      refine C0.out.mono ?_
      rintro e w' ⟨rfl, rfl⟩
      go_wp2_with fail
      go_ret
      exact ⟨rfl, rfl⟩
end Go.Proofs.Ytmpjmlcojhoaeaa
