/-
  Contracts of slices.Grow of nothing and of slices.Concat of two rows of runs. No claim of its own.
-/
import Derived.Test.YtoadbkiklabceaaAli
import Derived.Test.YtoadbkiklabceaaTld
namespace Go.Proofs.Ytoadbkiklabceaa
open Go.RowKit Go.Shelf Go.Deep
set_option linter.unusedVariables false
set_option linter.unusedSimpArgs false

theorem grow_zeros (w : World) (k : Nat) (hk : 0 < k) (hk2 : k ≤ 4000000) :
    ∃ (G : Nat) (W1 : World) (cur1 : List Value), k ≤ G ∧ G ≤ maxLen ∧ cur1.length = G * 2 ∧ Own W1 w.heap.size 28 cur1 ∧ (∀ row, w.grownBy W1 row) ∧
      ∀ ty, (Builtin.append_ #[40, 3] ty #[.slice none 0 0, .int .i64 (k : Nat)]).run Try.prog w = .ok (.slice (some ⟨w.heap.size, 0, none⟩) k G) W1 := by
  obtain ⟨i0, hi0, hzz⟩ := Option.map_eq_some_iff.1 Try.infoR
  simp only [Prod.mk.injEq] at hzz
  obtain ⟨hz0, hzs, hzb⟩ := hzz
  have hold : (Builtin.firstCells i0.size 0 (.slice none 0 0)).run Try.prog w.drew = .ok (([] : List Value)).toArray w.drew := by
    simp [Builtin.firstCells]
  have hrun := fun ty => Lib.run_append_grow_zeros w 40 3 ty 28 i0 _ .i64 .i64 Try.underlying40 Try.underlying3 hi0 hz0 none 0 0 [] hold k hk (by omega) (by omega) (by omega) (by rw [hzb]; omega) (by rw [hzb]; exact growslice_fits (by omega) (by omega))
  simp only [Nat.zero_add] at hrun
  refine ⟨_, _, (Builtin.zeroCells zR.cells k).toList ++ (Builtin.zeroCells zR.cells (grownCap w k 0 28 - k)).toList, grownCap_ge w _ _ _, grownCap_le_maxLen w _ _ _ (by unfold maxLen; omega), ?_, ?_, ?_, hrun⟩
  · have := grownCap_ge w k 0 28
    simp only [List.length_append, Array.length_toList, size_zeroCells, show zR.cells.size = 2 from rfl]
    omega
  · have := heap_alloc_new w.drew (.cells (([] : List Value).toArray ++ Builtin.zeroCells zR.cells k ++ Builtin.zeroCells zR.cells (grownCap w k 0 28 - k)) 28)
    unfold Own
    refine this.trans ?_
    have e : ∀ (a : List Value) (b c : Array Value), a.toArray ++ b ++ c = (a ++ b.toList ++ c.toList).toArray := fun a b c => Array.ext' (by simp)
    rw [e, List.nil_append]
  · exact fun row => ⟨rfl, rfl, rfl, by simp, fun j hj _ => Below.heap_alloc w.drew _ j hj⟩
set_option maxHeartbeats 1000000 in
set_option maxRecDepth 100000 in
theorem grow_any (w : World) (n : Nat) (hn : n ≤ 4000000) :
    Calls Try.prog 60 #[.slice none 0 0, .int .i64 n] w fun e w' => ∃ v, e = .returned v ∧ Lr w' w.heap.size 28 v [] ∧ Below w.heap.size w w' := by
  rcases Nat.eq_zero_or_pos n with h0 | h0
  · subst h0
    go_enter Try.func60, Try.ntmps60
    go_wp2_with fail
    go_ret
    exact ⟨_, rfl, Lr.nil _ _ _, Below.refl _ _⟩
  · obtain ⟨G, W1, cur1, hG1, hG2, hl1, ho1, hgr, hrun⟩ := grow_zeros w n h0 hn
    have hd : decide (0 < n) = true := by simpa using h0
    have hd2 : ¬ ((n : Int) < 0) := by omega
    have hn0 : (0 : Int) ≤ (n : Int) := by omega
    have hn1 : (n : Int) ≤ 4000000 := by omega
    have hb : Below w.heap.size w W1 := belowG (hgr none) (fun k e => by cases e) (Nat.le_refl _)
    have HL := Lib.hid (show Lr W1 w.heap.size 28 (.slice (some ⟨w.heap.size, 0, none⟩) 0 G) [] from Lr.mk (L := []) (Nat.le_refl _) ho1 (Nat.zero_le _) hG2 hl1 (by simp [rcs]))
    have HB := Lib.hid hb
    have hG63 : G ≤ 9223372036854775807 := by unfold maxLen at hG2; omega
    clear hgr ho1 hl1 hb
    go_enter Try.func60, Try.ntmps60
    go_wp2_with (at_builtin; refine Lib.wpList_append_run _ rfl _ _ _ _ rfl _ _ rfl rfl _ _ (hrun _) ?_)
    go_ret
    exact ⟨_, rfl, HL.out, HB.out⟩
set_option maxHeartbeats 2000000 in
set_option maxRecDepth 100000 in
theorem concat_any (w : World) (g : Nat) (a b : Option Addr) (A B : List Rn) (c d : Nat) (h0 : w.cell? ⟨g, 0, none⟩ = some (.slice a A.length c)) (h1 : w.cell? ⟨g, 1, none⟩ = some (.slice b B.length d))
    (ha : Ro w w.heap.size a (rcs A)) (hb : Ro w w.heap.size b (rcs B)) (hla : A.length ≤ 1000000) (hlb : B.length ≤ 1000000) :
    Calls Try.prog 49 #[.slice (some ⟨g, 0, none⟩) 2 2] w fun e w' => ∃ v, e = .returned v ∧ Lr w' w.heap.size 28 v (A ++ B) ∧ Below w.heap.size w w' := by
  obtain ⟨n, HN⟩ : ∃ n, Hid (A.length = n) := ⟨_, Lib.hid rfl⟩
  obtain ⟨m, HM⟩ : ∃ m, Hid (B.length = m) := ⟨_, Lib.hid rfl⟩
  rw [HN.out] at hla h0
  rw [HM.out] at hlb h1
  have HA := Lib.hid ha
  have HB := Lib.hid hb
  have hg := World.block_lt_of_cell? w _ h0
  obtain ⟨s, HS⟩ : ∃ s, Hid (n + m = s) := ⟨_, Lib.hid rfl⟩
  have hn0 : (0 : Int) ≤ (n : Int) := by omega
  have hn1 : (n : Int) ≤ 1000000 := by omega
  have hw1 : (n : Int) + (m : Int) = (s : Int) := by have := HS.out; omega
  have hw2 : IntKind.i64.wrap ((n : Int) + (m : Int)) = (s : Int) := by rw [IntKind.wrap_i64]; have := HS.out; omega
  have hs0 : (0 : Int) ≤ (s : Int) := by omega
  have hd1 : ¬ ((n : Int) < 0) := by omega
  have hd2 : ¬ ((s : Int) < 0) := by omega
  have HG := Lib.hid (grow_any w s (by have := HS.out; omega))
  clear ha hb
  go_enter Try.func49, Try.ntmps49
  go_wp2_with fail
  refine wp_loop_rounds 3 ?_
  rw [rounds_succ]
  go_wp2_with fail
  rw [rounds_succ]
  go_wp2_with fail
  rw [rounds_succ]
  go_wp2_with (first
    | (go_at_call 60; refine HG.out.mono ?_; rintro e w1 ⟨v1, rfl, hl1, hb1⟩; have HL1 := Lib.hid hl1; have HB1 := Lib.hid hb1; have c0 := (hb1.cell (p := ⟨g, 0, none⟩) hg).trans h0; have c1 := (hb1.cell (p := ⟨g, 1, none⟩) hg).trans h1; clear hl1 hb1 h0 h1)
    | fail)
  refine wp_loop_rounds 3 ?_
  rw [rounds_succ]
  go_wp2_with (first
    | (at_builtin; refine wpList_appS rfl _ _ 40 rfl w.heap.size 28 zR 16 Try.underlying40 Try.infoR rfl _ [] (by rfl) HL1.out a w.heap.size n c A rfl HN.out (HA.out.below HB1.out (Nat.le_refl _)) (by simp; omega) (by simp; omega) HB1.out.size ?_; intro v2 w2 HL2 hg2 hn2; have hbg := belowG hg2 (B := w.heap.size) (fun q hq => (HL1.out.lt q hq).1) HB1.out.size; have HB2 := Lib.hid (HB1.out.trans hbg); have k1 := (hbg.cell (p := ⟨g, 1, none⟩) hg).trans c1; clear hg2 hn2 hbg c0 c1)
    | fail)
  rw [rounds_succ]
  go_wp2_with (first
    | (at_builtin; refine wpList_appS rfl _ _ 40 rfl w.heap.size 28 zR 16 Try.underlying40 Try.infoR rfl _ ([] ++ A) (by rfl) HL2.out b w.heap.size m d B rfl HM.out (HB.out.below HB2.out (Nat.le_refl _)) (by simp [HN.out]; omega) (by simp [HN.out]; omega) HB2.out.size ?_; intro v3 w3 HL3 hg3 hn3; have HB3 := Lib.hid (HB2.out.trans (belowG hg3 (B := w.heap.size) (fun q hq => (HL2.out.lt q hq).1) HB2.out.size)); clear hg3 hn3 k1)
    | fail)
  rw [rounds_succ]
  go_wp2_with fail
  go_ret
  exact ⟨_, rfl, HL3.out, HB3.out⟩
end Go.Proofs.Ytoadbkiklabceaa
