/-
  The statement RunsNil, walked. No condition but the ranges of the argument.
-/
import Derived.Test.YtoadbkiklabceaaAli
namespace Go.Proofs.Ytoadbkiklabceaa
open Go.RowKit Go.Shelf Go.Deep
set_option linter.unusedVariables false
set_option linter.unusedSimpArgs false

theorem add_nil (w : World) (r : Rn) : Calls Try.prog 16 #[.pointer none, rv r] w fun e w' => e = .returned (.int .u64 0) ∧ Below w.heap.size w w' := by
  go_enter Try.func16, Try.ntmps16
  go_wp2_with fail
  go_ret
  exact ⟨rfl, (Below.refl _ _).alloc (Nat.le_refl _) _⟩
theorem drop_nil (w : World) (r : Rn) : Calls Try.prog 13 #[.pointer none, rv r] w fun e w' => e = .returned (.int .u64 0) ∧ Below w.heap.size w w' := by
  go_enter Try.func13, Try.ntmps13
  go_wp2_with fail
  go_ret
  exact ⟨rfl, (Below.refl _ _).alloc (Nat.le_refl _) _⟩
theorem nilV (w : World) : SetV w (.pointer none) [] [] := .inl ⟨rfl, rfl⟩
set_option maxHeartbeats 2000000 in
set_option maxRecDepth 100000 in
theorem runsNil_walk (w : World) (r : Rn) (hr : Fit r) : Calls Try.prog 8 #[rv r] w fun e w' => e = .returned (.bool true) ∧ Below w.heap.size w w' := by
  have e1 : ∀ n, frm [] n = ((0, 0), false) := fun n => rfl
  have e2 : ∀ n, gapL [] n = n := fun n => rfl
  have HNx := Lib.hid (show ∀ W, Calls Try.prog 17 #[.pointer none, .int .u64 r.1] W fun e w' => e = .returned (.tuple #[.int .u64 0, .bool false]) ∧ Below W.heap.size W w' from fun W => by
    have := Next_any none [] r.1 W [] (nilV W) (by simp) hr.1
    rwa [e1] at this)
  have HGp := Lib.hid (show ∀ W, Calls Try.prog 23 #[.pointer none, .int .u64 r.1] W fun e w' => e = .returned (.int .u64 (r.1 : Int)) ∧ Below W.heap.size W w' from fun W => by
    have := Gap_any none [] r.1 W [] (nilV W) (by simp) hr.1
    rwa [e2] at this)
  have HHs := Lib.hid (show ∀ W, Calls Try.prog 25 #[.pointer none, .int .u64 r.1] W fun e w' => e = .returned (.bool false) ∧ Below W.heap.size W w' from fun W => 
    Has_any none [] r.1 W [] (nilV W) (by simp) hr.1 trivial (by simp))
  have HCt := Lib.hid (show ∀ W, Calls Try.prog 22 #[.pointer none] W fun e w' => e = .returned (.int .u64 0) ∧ Below W.heap.size W w' from fun W => 
    Count_any none [] W [] (nilV W) (by simp) trivial (by simp))
  clear e1 e2
  go_enter Try.func8, Try.ntmps8
  go_wp2_with (first
    | (go_at_call 17; refine (HNx.out _).mono ?_; rintro e w2 ⟨rfl, hb2⟩))
  obtain ⟨W0, HW0⟩ : ∃ W0, Hid (w.alloc (.cells #[.int .u64 (r.1 : Int), .int .u64 (r.2 : Int)] 28) = W0) := ⟨_, Lib.hid rfl⟩
  rw [HW0.out] at hb2
  have hob : Own w2 w.heap.size 28 [.int .u64 (r.1 : Int), .int .u64 (r.2 : Int)] := by
    have : Own W0 w.heap.size 28 [.int .u64 (r.1 : Int), .int .u64 (r.2 : Int)] := by rw [← HW0.out]; exact Own.new w _ _
    exact this.below hb2 this.lt
  have hbw : Below w.heap.size w w2 := by
    have h1 : Below w.heap.size w W0 := by rw [← HW0.out]; exact (Below.refl _ w).alloc (Nat.le_refl _) _
    exact h1.trans (hb2.mono h1.size)
  have hX1 := hob.cell 0
  have hX2 := hob.cell 1
  simp at hX1 hX2
  obtain ⟨R, HR⟩ : ∃ R, Hid (w.heap.size = R) := ⟨_, Lib.hid rfl⟩
  rw [HR.out] at hX1 hX2
  have hst : w2.drew.cell? ⟨R, 0, none⟩ = some (.int .u64 (r.1 : Int)) ∧ w2.drew.cell? ⟨R, 1, none⟩ = some (.int .u64 (r.2 : Int)) ∧ Below w.heap.size w w2.drew := ⟨hX1, hX2, hbw.drew⟩
  rw [HR.out]
  clear hb2 hob hbw hX1 hX2
  go_region_held3 (fun w' => w'.cell? ⟨R, 0, none⟩ = some (.int .u64 (r.1 : Int)) ∧ w'.cell? ⟨R, 1, none⟩ = some (.int .u64 (r.2 : Int)) ∧ Below w.heap.size w w')
    (first
      | assumption
      | exact hst
      | (have hH := ‹World.cell? _ ⟨R, 0, none⟩ = _ ∧ _›; exact ⟨(hb9.cell (World.block_lt_of_cell? _ _ hH.1)).trans hH.1, (hb9.cell (World.block_lt_of_cell? _ _ hH.2.1)).trans hH.2.1, hH.2.2.trans (hb9.mono hH.2.2.size)⟩)
      | (have hH := ‹World.cell? _ ⟨R, 0, none⟩ = _ ∧ _›; exact hH))
    (first
      | (go_at_call 27; refine (alive_any _).mono ?_; rintro e w9 ⟨rfl, hb9⟩)
      | (go_at_call 16; refine (add_nil _ _).mono ?_; rintro e w9 ⟨rfl, hb9⟩)
      | (go_at_call 13; refine (drop_nil _ _).mono ?_; rintro e w9 ⟨rfl, hb9⟩)
      | (go_at_call 25; refine (HHs.out _).mono ?_; rintro e w9 ⟨rfl, hb9⟩)
      | (go_at_call 23; refine (HGp.out _).mono ?_; rintro e w9 ⟨rfl, hb9⟩)
      | (go_at_call 22; refine (HCt.out _).mono ?_; rintro e w9 ⟨rfl, hb9⟩)
      | (go_at_call 21; refine (Runs_nil _).mono ?_; rintro e w9 ⟨rfl, rfl⟩; have hb9 := Below.refl w9.heap.size w9)
      | (go_at_call 12; refine (Copy_nil _).mono ?_; rintro e w9 ⟨rfl, rfl⟩; have hb9 := Below.refl w9.heap.size w9))
  all_goals go_wp2_with fail
  all_goals go_ret
  all_goals
    have hH := ‹World.cell? w9 ⟨R, 0, none⟩ = _ ∧ _›
    exact ⟨rfl, hH.2.2⟩
end Go.Proofs.Ytoadbkiklabceaa
