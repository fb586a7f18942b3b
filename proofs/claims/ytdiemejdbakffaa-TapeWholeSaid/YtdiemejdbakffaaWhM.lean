/-
  Plain mathematics of TapeWhole: some steps, and a crash behind them. No claim of their own.
-/
import Derived.Test.YtdiemejdbakffaaLawTapeOpens
namespace Go.Proofs.Ytdiemejdbakffaa
open Go.RowKit
set_option linter.unusedVariables false
set_option linter.unusedSimpArgs false

/-- j steps -/
def itS (n : Nat) : Nat → TS → TS
  | 0, S => S
  | j + 1, S => stepS n (itS n j S)
theorem step_same {n : Nat} {S : TS} (hi : ¬ S.idle) (hk : S.k < 3) : (stepS n S).L = S.L ∧ (stepS n S).L' = S.L' ∧ (stepS n S).h = S.h ∧ (stepS n S).h' = S.h' := by
  unfold stepS
  rw [if_neg hi]
  by_cases h0 : S.k = 0
  · rw [if_pos h0]; exact ⟨rfl, rfl, rfl, rfl⟩
  · rw [if_neg h0]
    by_cases h1 : S.k = 1
    · rw [if_pos h1]; exact ⟨rfl, rfl, rfl, rfl⟩
    · rw [if_neg h1, if_pos (by omega)]; exact ⟨rfl, rfl, rfl, rfl⟩
theorem step_last {n : Nat} {S : TS} (hi : ¬ S.idle) (hk : S.k = 3) : (stepS n S).L = S.L' ∧ (stepS n S).k = 0 ∧ (stepS n S).idle := by
  unfold stepS
  rw [if_neg hi, if_neg (by omega), if_neg (by omega), if_neg (by omega)]
  exact ⟨rfl, rfl, ⟨rfl, rfl⟩⟩
theorem it_idle {n : Nat} {S : TS} (hi : S.idle) : ∀ j, itS n j S = S
  | 0 => rfl
  | j + 1 => by rw [itS, it_idle hi j, step_idleS hi]
theorem it_few {n : Nat} {S : TS} (hi : ¬ S.idle) (hk : S.k = 0) : ∀ j, j ≤ 3 → ¬ (itS n j S).idle ∧ (itS n j S).k = j ∧ (itS n j S).L = S.L ∧ (itS n j S).L' = S.L'
  | 0, _ => ⟨hi, hk, rfl, rfl⟩
  | j + 1, hj => by
    obtain ⟨h1, h2, h3, h4⟩ := it_few hi hk j (by omega)
    have h5 := step_keep (n := n) h1 (by omega)
    have h6 := step_same (n := n) h1 (by omega)
    exact ⟨h5.1, by rw [itS, h5.2, h2], by rw [itS, h6.1, h3], by rw [itS, h6.2.1, h4]⟩
theorem it_all {n : Nat} {S : TS} (hi : ¬ S.idle) (hk : S.k = 0) (j : Nat) (hj : 4 ≤ j) : (itS n j S).k = 0 ∧ (itS n j S).L = S.L' := by
  have h3 := it_few (n := n) hi hk 3 (Nat.le_refl _)
  have h4 := step_last (n := n) h3.1 h3.2.1
  have h5 : ∀ d, itS n (4 + d) S = itS n 4 S := fun d => by
    induction d with
    | zero => rfl
    | succ d ih =>
      show stepS n (itS n (4 + d) S) = _
      rw [ih]
      exact step_idleS h4.2.2
  obtain ⟨d, rfl⟩ : ∃ d, j = 4 + d := ⟨j - 4, by omega⟩
  rw [h5]
  exact ⟨h4.2.1, by rw [show (itS n 4 S).L = _ from h4.1]; exact h3.2.2.2⟩
/-- what a crash behind k steps leaves -/
theorem crash_it {n k : Nat} {S : TS} (hk : S.k = 0) (s0 : SInv n S) (s : SInv n (itS n k S)) (d : DInv n (itS n k S)) (ks : List Bool) (hl : ∀ i, (crashF (itS n k S).F (itS n k S).m ks i).length = 64) :
    ∃ h L, Opens n (crashF (itS n k S).F (itS n k S).m ks) h L ∧ (L = S.L ∨ L = S.L') ∧ (k < 3 → L = S.L) ∧ (4 ≤ k → L = S.L') := by
  obtain ⟨h1, h2⟩ := crash_opens s d ks hl
  by_cases hi : S.idle
  · have e := it_idle (n := n) hi k
    have hL : S.L' = S.L := by
      obtain ⟨W, hW⟩ := s0.pre hi.1
      have h2 := hi.2
      rw [hW, List.length_append] at h2
      have : W = [] := List.eq_nil_of_length_eq_zero (by omega)
      rw [hW, this, List.append_nil]
    have h3 := h1 (by rw [e]; omega)
    refine ⟨_, _, h3, ?_, ?_, ?_⟩
    · rw [e]; exact .inl rfl
    · intro _; rw [e]
    · intro _; rw [e]; exact hL.symm
  · by_cases hk3 : k < 3
    · have h3 := it_few (n := n) hi hk k (by omega)
      have h4 := h1 (by omega)
      exact ⟨_, _, h4, .inl h3.2.2.1, fun _ => h3.2.2.1, fun h => by omega⟩
    · by_cases hk4 : 4 ≤ k
      · have h3 := it_all (n := n) hi hk k hk4
        have h4 := h1 (by omega)
        exact ⟨_, _, h4, .inr h3.2, fun h => by omega, fun _ => h3.2⟩
      · have hk3' : k = 3 := by omega
        subst hk3'
        have h3 := it_few (n := n) hi hk 3 (Nat.le_refl _)
        rcases h2 with h2 | h2
        · exact ⟨_, _, h2, .inl h3.2.2.1, fun h => by omega, fun h => by omega⟩
        · exact ⟨_, _, h2, .inr h3.2.2.2, fun h => by omega, fun h => by omega⟩
/-- a crash behind a crash -/
theorem crash_twice (F : Nat → Sec) (m : Nat → Option Sec) (ks ks' : List Bool) : crashF (crashF F m ks) (fun _ => none) ks' = crashF F m ks := by
  funext x
  conv => lhs; unfold crashF
  split
  · rfl
  · rfl
end Go.Proofs.Ytdiemejdbakffaa
