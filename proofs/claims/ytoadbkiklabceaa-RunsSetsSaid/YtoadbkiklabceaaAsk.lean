/-
  Contracts of what is asked of a set (package runs): Has, Next, Gap, Runs, Copy, New, Of. No claim of its own.
-/
import Derived.Test.YtoadbkiklabceaaFrm
namespace Go.Proofs.Ytoadbkiklabceaa
open Go.RowKit Go.Shelf Go.Deep
set_option linter.unusedVariables false
set_option linter.unusedSimpArgs false

theorem frm_mem {L : List Rn} (hN : NF L) {n : Nat} (hb : ∀ r ∈ L, r.2 ≤ top64) : mem L n = ((frm L n).2 && decide ((frm L n).1.1 = n)) := by
  rw [mem_head hN hb]
  unfold frm
  cases parts L (n, top64) <;> simp
/-- the gap: where the run that holds n ends, or n -/
def gapL (L : List Rn) (n : Nat) : Nat := if (frm L n).2 && decide ((frm L n).1.1 = n) then (frm L n).1.2 else n
section
variable (sp : Option Addr) (L : List Rn) (n : Nat) (w : World) (FS : List Nat)
theorem Has_any (hs : SetV w (.pointer sp) FS L) (hFS : ∀ k ∈ FS, k < w.heap.size) (hn : n < 18446744073709551616) (hN : NF L) (hb : ∀ r ∈ L, r.2 ≤ top64) :
    Calls Try.prog 25 #[.pointer sp, .int .u64 n] w fun e w' => e = .returned (.bool (mem L n)) ∧ Below w.heap.size w w' := by
  have hF := from_any sp L n w FS hs hFS hn
  rw [frm_mem hN hb]
  obtain ⟨y, b, hy⟩ : ∃ y b, frm L n = (y, b) := ⟨_, _, rfl⟩
  rw [hy] at hF ⊢
  have HF := Lib.hid hF
  clear hF hs hy hN hb hFS
  dsimp only at HF ⊢
  cases b with
  | false =>
    go_enter Try.func25, Try.ntmps25
    go_wp2_with (go_at_call 46; refine HF.out.mono ?_; rintro e w1 ⟨rfl, hb1⟩)
    go_ret
    exact ⟨rfl, hb1.alloc hb1.size _⟩
  | true =>
    by_cases h : y.1 = n
    · have h1 : ((y.1 : Int) == (n : Int)) = true := by simp; omega
      have h2 : decide (y.1 = n) = true := by simpa using h
      rw [h2]
      clear h h2
      go_enter Try.func25, Try.ntmps25
      go_wp2_with (go_at_call 46; refine HF.out.mono ?_; rintro e w1 ⟨rfl, hb1⟩)
      go_ret
      exact ⟨rfl, hb1.alloc hb1.size _⟩
    · have h1 : ((y.1 : Int) == (n : Int)) = false := by simp; omega
      have h2 : decide (y.1 = n) = false := by simpa using h
      rw [h2]
      clear h h2
      go_enter Try.func25, Try.ntmps25
      go_wp2_with (go_at_call 46; refine HF.out.mono ?_; rintro e w1 ⟨rfl, hb1⟩)
      go_ret
      exact ⟨rfl, hb1.alloc hb1.size _⟩
theorem Next_any (hs : SetV w (.pointer sp) FS L) (hFS : ∀ k ∈ FS, k < w.heap.size) (hn : n < 18446744073709551616) :
    Calls Try.prog 17 #[.pointer sp, .int .u64 n] w fun e w' => e = .returned (.tuple #[.int .u64 ((frm L n).1.1 : Int), .bool (frm L n).2]) ∧ Below w.heap.size w w' := by
  have hF := from_any sp L n w FS hs hFS hn
  obtain ⟨y, b, hy⟩ : ∃ y b, frm L n = (y, b) := ⟨_, _, rfl⟩
  rw [hy] at hF ⊢
  have HF := Lib.hid hF
  clear hF hs hy hFS
  dsimp only at HF ⊢
  go_enter Try.func17, Try.ntmps17
  go_wp2_with (go_at_call 46; refine HF.out.mono ?_; rintro e w1 ⟨rfl, hb1⟩)
  go_ret2
  exact ⟨rfl, hb1.alloc hb1.size _⟩
theorem Gap_any (hs : SetV w (.pointer sp) FS L) (hFS : ∀ k ∈ FS, k < w.heap.size) (hn : n < 18446744073709551616) :
    Calls Try.prog 23 #[.pointer sp, .int .u64 n] w fun e w' => e = .returned (.int .u64 ((gapL L n : Nat) : Int)) ∧ Below w.heap.size w w' := by
  have hF := from_any sp L n w FS hs hFS hn
  unfold gapL
  obtain ⟨y, b, hy⟩ : ∃ y b, frm L n = (y, b) := ⟨_, _, rfl⟩
  rw [hy] at hF ⊢
  have HF := Lib.hid hF
  clear hF hs hy hFS
  dsimp only at HF ⊢
  cases b with
  | false =>
    rw [Bool.false_and, if_neg (by simp)]
    go_enter Try.func23, Try.ntmps23
    go_wp2_with (go_at_call 46; refine HF.out.mono ?_; rintro e w1 ⟨rfl, hb1⟩)
    go_ret
    exact ⟨rfl, hb1.alloc hb1.size _⟩
  | true =>
    by_cases h : y.1 = n
    · have h1 : ((y.1 : Int) == (n : Int)) = true := by simp; omega
      rw [if_pos (by simpa using h)]
      clear h
      go_enter Try.func23, Try.ntmps23
      go_wp2_with (go_at_call 46; refine HF.out.mono ?_; rintro e w1 ⟨rfl, hb1⟩)
      go_ret
      exact ⟨rfl, hb1.alloc hb1.size _⟩
    · have h1 : ((y.1 : Int) == (n : Int)) = false := by simp; omega
      rw [if_neg (by simpa using h)]
      clear h
      go_enter Try.func23, Try.ntmps23
      go_wp2_with (go_at_call 46; refine HF.out.mono ?_; rintro e w1 ⟨rfl, hb1⟩)
      go_ret
      exact ⟨rfl, hb1.alloc hb1.size _⟩
end
theorem clone_empty (w : World) (a : Addr) (c : Nat) :
    Calls Try.prog 34 #[.slice (some a) 0 c] w fun e w' => ∃ v, e = .returned v ∧ Lr w' w.heap.size 28 v [] ∧ Below w.heap.size w w' := by
  have q22 : ∀ (w : World) (a : Option Addr) (n c n' c' : Nat), (binOp .eql 40 (.slice a n c) (.slice none n' c')).run Try.prog w = .ok (.bool a.isNone) w := fun w a n c n' c' => Lib.run_eql_slice_nil w _ _ a n c n' c' Try.underlying40
  have hrun : ∀ (ty : TypeId) (W : World), (Builtin.append_ #[40, 40] ty #[.slice (some ⟨W.heap.size, 0, none⟩) 0 0, .slice (some a) 0 c]).run Try.prog (W.alloc (.cells #[] 28)) = .ok (.slice (some ⟨W.heap.size, 0, none⟩) 0 0) (W.alloc (.cells #[] 28)) := by
    intro ty W
    obtain ⟨i0, hi0, hzz⟩ := Option.map_eq_some_iff.1 Try.infoR
    have hl : ∀ (x : Addr) W, (loadCells x 0).run Try.prog W = .ok #[] W := fun x W => by simpa using run_loadCells_list (P := Try.prog) W x [] (by simp)
    simp [Builtin.append_, run_underlying Try.underlying40, sizeOf, typeInfo, hi0, Builtin.lenOf, Builtin.firstCells, storeCells, hl]
  go_enter Try.func34, Try.ntmps34
  go_wp2_with (at_builtin; refine Lib.wpList_append_run _ rfl _ _ _ _ rfl _ _ rfl rfl _ _ (hrun _ _) ?_)
  go_ret
  exact ⟨_, rfl, Lr.lit w w.heap.size 28 [] (Nat.le_refl _) (by simp), (Below.refl _ _).alloc (Nat.le_refl _) _⟩
/-- slices.Clone of a row that reads as L -/
theorem clone_any (w : World) (a : Option Addr) (c B : Nat) (L : List Rn) (hro : Ro w B a (rcs L)) (hl : L.length ≤ 4000000) :
    Calls Try.prog 34 #[.slice a L.length c] w fun e w' => ∃ v, e = .returned v ∧ Lr w' w.heap.size 28 v L ∧ Below w.heap.size w w' := by
  rcases a with _ | ⟨b, off, spot⟩
  · have h0 : L.length = 0 := by
      rcases hro with h | ⟨b, off, h, _⟩
      · have := congrArg List.length h; simp at this; omega
      · cases h
    obtain rfl : L = [] := List.eq_nil_of_length_eq_zero h0
    refine (AnyE.slices_Clone_nil cloneA 0 c w).mono fun e w' ⟨he, hw⟩ => ⟨_, he, Lr.nil _ _ _, by rw [hw]; exact Below.refl _ _⟩
  · obtain ⟨i0, hi0, hzz⟩ := Option.map_eq_some_iff.1 Try.infoR
    simp only [Prod.mk.injEq] at hzz
    obtain ⟨hz0, hzs, hzb⟩ := hzz
    rcases Nat.eq_zero_or_pos L.length with h0 | h0
    · obtain rfl : L = [] := List.eq_nil_of_length_eq_zero h0
      exact clone_empty w _ c
    · obtain ⟨b', off', e, hb, hc⟩ := hro.at_ (by intro e; have e2 := congrArg List.length e; simp at e2; omega)
      cases e
      have := AnyE.slices_Clone cloneA i0 zR 2 16 hi0 hz0 hzs hzb rfl (by omega) sizeOfR b off L.length c (rcs L) w (by simp) (by unfold maxLen; omega) (by omega) (fun j u hu => by
        have hj := (List.getElem?_eq_some_iff.1 hu).1
        rw [hc j hj]
        simp [List.getD, hu]) (rcs_one L)
      refine Calls.mono (R' := _) this fun e w' ⟨v, he, hr, _, hb⟩ => ⟨v, he, hr, hb⟩
theorem Runs_nil (w : World) : Calls Try.prog 21 #[.pointer none] w fun e w' => e = .returned (.slice none 0 0) ∧ w = w' := by
  go_enter Try.func21, Try.ntmps21
  go_wp2
  go_ret
  exact ⟨rfl, rfl⟩
theorem Runs_some (w : World) (p : Nat) (v : Value) (L : List Rn) (hs : St w p v L) : Calls Try.prog 21 #[.pointer (some ⟨p, 0, none⟩)] w fun e w' => ∃ v, e = .returned v ∧ Lr w' w.heap.size 28 v L ∧ Below w.heap.size w w' := by
  obtain ⟨a, c, rfl, hro, _⟩ := hs.row.form
  have HC := Lib.hid (clone_any w a c _ L hro (by have := hs.len; omega))
  have hc := hs.cell
  clear hs hro
  go_enter Try.func21, Try.ntmps21
  go_wp2_with (go_at_call 34; refine HC.out.mono ?_; rintro e w1 ⟨v, rfl, hr, hb⟩)
  go_ret
  exact ⟨v, rfl, hr, hb⟩
theorem Runs_any (w : World) (sp : Option Addr) (FS : List Nat) (L : List Rn) (hs : SetV w (.pointer sp) FS L) : Calls Try.prog 21 #[.pointer sp] w fun e w' => ∃ v, e = .returned v ∧ Lr w' w.heap.size 28 v L ∧ Below w.heap.size w w' := by
  rcases hs with ⟨h, rfl⟩ | ⟨p, v, h, hst, _, _⟩
  · injection h with h
    subst h
    exact (Runs_nil w).mono fun e w' ⟨he, hw⟩ => ⟨_, he, Lr.nil _ _ _, by rw [hw]; exact Below.refl _ _⟩
  · injection h with h
    subst h
    exact Runs_some w p v L hst
/-- a set of the call's own: struct and row in blocks from B on -/
structure New (w : World) (B p : Nat) (v : Value) (L : List Rn) : Prop where
  st : St w p v L
  lowp : B ≤ p
  lowg : ∀ g, v.ownBlock = some g → B ≤ g
theorem New_any (w : World) : Calls Try.prog 10 #[] w fun e w' => e = .returned (.pointer (some ⟨w.heap.size, 0, none⟩)) ∧ w' = w.alloc (.cells #[.slice none 0 0] 61) := by
  go_enter Try.func10, Try.ntmps10
  go_wp2
  go_ret
  exact ⟨rfl, rfl⟩
theorem new_st (w : World) : New (w.alloc (.cells #[.slice none 0 0] 61)) w.heap.size w.heap.size (.slice none 0 0) [] :=
  ⟨⟨Own.new w _ _, Lr.nil _ _ _, trivial, by simp, by simp⟩, Nat.le_refl _, fun g h => by cases h⟩
theorem Copy_nil (w : World) : Calls Try.prog 12 #[.pointer none] w fun e w' => e = .returned (.pointer none) ∧ w = w' := by
  go_enter Try.func12, Try.ntmps12
  go_wp2
  go_ret
  exact ⟨rfl, rfl⟩
theorem boxed_new {w w1 : World} {v : Value} {L : List Rn} (hr : Lr w1 w.heap.size 28 v L) (hb : Below w.heap.size w w1) (hN : NF L) (hf : ∀ r ∈ L, r.2 ≤ top64) (hl : L.length ≤ 1000000) :
    New (w1.alloc (.cells #[v] 61)) w.heap.size w1.heap.size v L :=
  ⟨⟨Own.new w1 _ _, (hr.alloc _).base (Nat.zero_le _), hN, hf, hl⟩, hb.size, fun g h => (hr.lt g h).1⟩
theorem Copy_some (w : World) (p : Nat) (v : Value) (L : List Rn) (hs : St w p v L) : Calls Try.prog 12 #[.pointer (some ⟨p, 0, none⟩)] w fun e w' => ∃ p' v', e = .returned (.pointer (some ⟨p', 0, none⟩)) ∧ New w' w.heap.size p' v' L ∧ Below w.heap.size w w' := by
  obtain ⟨a, c, rfl, hro, _⟩ := hs.row.form
  have HC := Lib.hid (clone_any w a c _ L hro (by have := hs.len; omega))
  have hc := hs.cell
  have HS := Lib.hid hs
  clear hs hro
  go_enter Try.func12, Try.ntmps12
  go_wp2_with (go_at_call 34; refine HC.out.mono ?_; rintro e w1 ⟨v, rfl, hr, hb⟩; obtain ⟨a1, c1, rfl⟩ := hr.shape)
  go_ret
  exact ⟨_, _, rfl, boxed_new hr hb HS.out.nf HS.out.fit HS.out.len, hb.alloc hb.size _⟩
end Go.Proofs.Ytoadbkiklabceaa
