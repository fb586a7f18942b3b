/-
  What the laws' walks use of a call that answers a layout; how long a chain is. Plain lemmas, no claim of their own.
-/
import Derived.Test.YtdpaofedepnnbaaLyS
namespace Go.Proofs.Ytdpaofedepnnbaa
open Go.RowKit Go.Deep Go.Shelf
set_option linter.unusedVariables false
set_option linter.unusedSimpArgs false

theorem chainOf_len (x : Ly) (a : Nat) : (chainOf x a).length ≤ 4 := by
  unfold chainOf
  by_cases h : lright x = true ∧ a < 1048576
  · rw [if_pos h]
    have hk := right_ch h.1 (segN_is h.1 a).1
    exact (ch_small hk (Nat.mod_lt _ (by have := (chOk_iff.1 hk).1; omega))).2
  · rw [if_neg h]; simp
theorem R4.cases {w w' : World} {r : Int × Ly} {e : Ending} (h : R4 w r e w') : Hid (Below w.heap.size w w') ∧ ((r.1 = 0 ∧ ∃ T : LyT, e = .returned (.tuple #[T.val, .int .i64 0]) ∧ Hid (T.x = r.2) ∧ Hid (lright r.2 = true) ∧ Hid (LyIn w' w'.heap.size T)) ∨ (r.1 ≠ 0 ∧ e = .returned (.tuple #[zeroL, .int .i64 r.1]))) := by
  obtain ⟨h1, ⟨h0, h2, T, h3, h4, h5⟩ | h2⟩ := h
  · exact ⟨Lib.hid h1, .inl ⟨h0, T, h3, Lib.hid h4, Lib.hid h2, Lib.hid h5⟩⟩
  · exact ⟨Lib.hid h1, .inr h2⟩
theorem cell_at {w w' : World} {B b o : Nat} {v : Value} (hb : Below B w w') (h : w.cell? ⟨b, o, none⟩ = some v) (hB : B = w.heap.size) : w'.cell? ⟨b, o, none⟩ = some v := cell_keep hb h (by rw [hB]; exact World.block_lt_of_cell? _ _ h)

end Go.Proofs.Ytdpaofedepnnbaa
