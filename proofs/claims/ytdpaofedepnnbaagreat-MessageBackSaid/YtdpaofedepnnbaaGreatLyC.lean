/-
  Segment of package layout, by its contract. No claim of its own.
-/
import Derived.Test.YtdpaofedepnnbaaGreatLyB
namespace Go.Proofs.YtdpaofedepnnbaaGreat
open Go.RowKit Go.Deep Go.Shelf
set_option linter.unusedVariables false
set_option linter.unusedSimpArgs false

/-- the last one below n whose From is at most a, or 0 -/
def lastLe (L : List Sg) (a : Nat) : Nat → Nat
  | 0 => 0
  | n + 1 => if (sx L n).1 ≤ a then n else lastLe L a n
def segN (x : Ly) (a : Nat) : Nat := lastLe x.s a x.s.length
def segI (x : Ly) (a : Nat) : Int := if lright x = true ∧ a < 1048576 then (segN x a : Int) else -1
theorem lastLe_lt (L : List Sg) (a n : Nat) (h : 0 < n) : lastLe L a n < n := by
  induction n with
  | zero => omega
  | succ n ih =>
    simp only [lastLe]
    split
    · omega
    · rcases Nat.eq_zero_or_pos n with rfl | h0
      · simp [lastLe]
      · have := ih h0; omega
theorem lastLe_is (L : List Sg) (a n : Nat) (hn : 0 < n) (h0 : (sx L 0).1 ≤ a) : (sx L (lastLe L a n)).1 ≤ a ∧ ∀ j, lastLe L a n < j → j < n → a < (sx L j).1 := by
  induction n with
  | zero => omega
  | succ n ih =>
    simp only [lastLe]
    split
    · exact ⟨by assumption, by omega⟩
    · rename_i hc
      rcases Nat.eq_zero_or_pos n with rfl | hp
      · exact absurd h0 hc
      · obtain ⟨g1, g2⟩ := ih hp
        refine ⟨g1, fun j h1 h2 => ?_⟩
        by_cases e : j = n
        · subst e; omega
        · exact g2 j h1 (by omega)
theorem sg_mono {L : List Sg} (h : sgOk L = true) {i j : Nat} (hij : i < j) (hj : j < L.length) : (sx L i).1 < (sx L j).1 := by
  have hs := (sgOk_iff.1 h).2.2.2
  induction j with
  | zero => omega
  | succ j ih =>
    have := hs j hj
    by_cases e : i = j
    · subst e; exact this
    · have := ih (by omega) (by omega); omega
/-- the index is the only one of its kind -/
theorem segN_eq {x : Ly} (h : lright x = true) {a i : Nat} (hi : i < x.s.length) (h1 : (sx x.s i).1 ≤ a) (h2 : ∀ j, i < j → j < x.s.length → a < (sx x.s j).1) : segN x a = i := by
  have hs := (lright_iff.1 h).2.2
  have h0 := (sgOk_iff.1 hs).2.1
  obtain ⟨g1, g2⟩ := lastLe_is x.s a x.s.length (by omega) (by omega)
  have hlt := lastLe_lt x.s a x.s.length (by omega)
  unfold segN
  rcases Nat.lt_trichotomy (lastLe x.s a x.s.length) i with hc | hc | hc
  · have := g2 i hc hi; omega
  · exact hc
  · have := h2 _ hc hlt; omega
theorem segN_is {x : Ly} (h : lright x = true) (a : Nat) : segN x a < x.s.length ∧ (sx x.s (segN x a)).1 ≤ a ∧ ∀ j, segN x a < j → j < x.s.length → a < (sx x.s j).1 := by
  have hs := (lright_iff.1 h).2.2
  have h0 := sgOk_iff.1 hs
  obtain ⟨g1, g2⟩ := lastLe_is x.s a x.s.length (by omega) (by omega)
  exact ⟨lastLe_lt _ _ _ (by omega), g1, g2⟩

end Go.Proofs.YtdpaofedepnnbaaGreat
