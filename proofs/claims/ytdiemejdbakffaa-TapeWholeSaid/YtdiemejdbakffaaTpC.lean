/-
  Contracts of package tape: super, superOf, firstRecord. No claim of their own.
-/
import Derived.Test.YtdiemejdbakffaaTpB
import Derived.Deep.RegionHeld3
import Derived.StillTailTactics
import Derived.BigQuiet
import Derived.Deep.QuietTactic
namespace Go.Proofs.Ytdiemejdbakffaa
open Go.RowKit
set_option linter.unusedVariables false
set_option linter.unusedSimpArgs false

theorem far3 {w : World} {B b o i j k : Nat} {x y z v : Value} (h : w.cell? ⟨b, o, none⟩ = some v) (hne : b ≠ B) : (((w.setCell ⟨B, i, none⟩ x).setCell ⟨B, j, none⟩ y).setCell ⟨B, k, none⟩ z).cell? ⟨b, o, none⟩ = some v := by
  rw [World.cell?_setCell_far _ _ _ _ (Ne.symm hne), World.cell?_setCell_far _ _ _ _ (Ne.symm hne), World.cell?_setCell_far _ _ _ _ (Ne.symm hne)]
  exact h
theorem chg_below {w w' : World} (h : Chg [] w w') : Below w.heap.size w w' := h.low
set_option maxHeartbeats 4000000 in
set_option maxRecDepth 100000 in
theorem super_any (w : World) (h : Nat) (aF aE : Option Addr) (n cF r cE : Nat) (hh : h ≤ 1) (hr : r < 4294967296) (hn : n < 4294967296) :
    Calls Try.prog 32 #[cv h (.slice aF n cF) (.slice aE r cE)] w fun e w' => e = .returned (pv h r n) ∧ Chg [] w w' := by
  have HR := Lib.hid (fun W => (records_any W h (.slice aF n cF) aE r cE).mono fun e w' (h : _ ∧ _) => (⟨h.1, h.2.low⟩ : _ ∧ Below W.heap.size W w'))
  obtain ⟨X, HX⟩ : ∃ X, Hid ((w.alloc (.cells #[.int .i64 (h : Int), .slice aF n cF, .slice aE r cE] 62)).alloc (.cells #[.int .u8 0, .int .u32 0, .int .u32 0] 67) = X) := ⟨_, Lib.hid rfl⟩
  have hO : Own X w.heap.size 62 [.int .i64 (h : Int), .slice aF n cF, .slice aE r cE] := by rw [← HX.out]; exact (Own.new w _ _).alloc _
  have hP : Own X (w.heap.size + 1) 67 [.int .u8 0, .int .u32 0, .int .u32 0] := by rw [← HX.out]; have := Own.new (w.alloc (.cells #[.int .i64 (h : Int), .slice aF n cF, .slice aE r cE] 62)) 67 [.int .u8 0, .int .u32 0, .int .u32 0]; rwa [World.size_alloc] at this
  have hsX : X.heap.size = w.heap.size + 2 := by rw [← HX.out]; simp
  have c0 := hO.cell 0
  have c1 := hO.cell 1
  have c2 := hO.cell 2
  simp at c0 c1 c2
  have HO := Lib.hid hO
  have HP := Lib.hid hP
  have HSX := Lib.hid hsX
  clear hO hP hsX
  have HC := Lib.hid (And.intro c0 (And.intro c1 c2))
  clear c0 c1 c2
  go_enter Try.func32, Try.ntmps32
  go_wp2_with fail
  simp only [HX.out]
  refine wp_region_held_drew (S := (fun w' => w'.cell? ⟨w.heap.size, 0, none⟩ = some (.int .i64 (h : Int)) ∧ w'.cell? ⟨w.heap.size, 1, none⟩ = some (.slice aF n cF) ∧ w'.cell? ⟨w.heap.size, 2, none⟩ = some (.slice aE r cE))) (by kernel_rfl) HC.out (fun hHeld => ?_)
  have e1 : IntKind.u8.wrap (h : Int) = (h : Int) := by rw [IntKind.wrap_u8]; omega
  have e2 : IntKind.u32.wrap (r : Int) = (r : Int) := by rw [IntKind.wrap_u32]; omega
  have e3 : IntKind.u32.wrap (n : Int) = (n : Int) := by rw [IntKind.wrap_u32]; omega
  refine wpAnyH_take (i := 0) (v := ?_) rfl (by kernel_rfl) (by kernel_rfl) (by kernel_rfl) (fun _ _ _ h => h) (Or.inl ⟨by kernel_rfl, ?_⟩) hHeld ?_
  rotate_left
  · (intro w hSw; first | (go_simp; done) | (go_simp; with_reducible rfl))
  (try simp only [Act.put, List.getElem_toArray, List.getElem_cons_succ, List.getElem_cons_zero, List.setIfInBounds_toArray, List.set_cons_zero, List.set_cons_succ])
  refine wpAnyH_take (i := 1) (v := ?_) rfl (by kernel_rfl) (by kernel_rfl) (by kernel_rfl) (fun _ _ _ h => h) (Or.inl ⟨by kernel_rfl, ?_⟩) hHeld ?_
  rotate_left
  · (intro w hSw; first | (go_simp; done) | (go_simp; with_reducible rfl))
  (try simp only [Act.put, List.getElem_toArray, List.getElem_cons_succ, List.getElem_cons_zero, List.setIfInBounds_toArray, List.set_cons_zero, List.set_cons_succ])
  refine wpAnyH_take (i := 2) (v := ?_) rfl (by kernel_rfl) (by kernel_rfl) (by kernel_rfl) (fun _ _ _ h => h) (Or.inl ⟨by kernel_rfl, ?_⟩) hHeld ?_
  rotate_left
  · (intro w hSw; first | (go_simp; done) | (go_simp; with_reducible rfl))
  (try simp only [Act.put, List.getElem_toArray, List.getElem_cons_succ, List.getElem_cons_zero, List.setIfInBounds_toArray, List.set_cons_zero, List.set_cons_succ])
  refine wpAnyH_take (i := 3) (v := ?_) rfl (by kernel_rfl) (by kernel_rfl) (by kernel_rfl) (fun _ _ _ h => h) (Or.inl ⟨by kernel_rfl, ?_⟩) hHeld ?_
  rotate_left
  · (intro w hSw; first | (go_simp; done) | (go_simp; with_reducible rfl))
  (try simp only [Act.put, List.getElem_toArray, List.getElem_cons_succ, List.getElem_cons_zero, List.setIfInBounds_toArray, List.set_cons_zero, List.set_cons_succ])
  refine wpAnyH_take (i := 6) (v := ?_) rfl (by kernel_rfl) (by kernel_rfl) (by kernel_rfl) (fun _ _ _ h => h) (Or.inl ⟨by kernel_rfl, ?_⟩) hHeld ?_
  rotate_left
  · (intro w hSw; first | (go_simp; done) | (go_simp; with_reducible rfl))
  (try simp only [Act.put, List.getElem_toArray, List.getElem_cons_succ, List.getElem_cons_zero, List.setIfInBounds_toArray, List.set_cons_zero, List.set_cons_succ])
  refine wpAnyH_take (i := 7) (v := ?_) rfl (by kernel_rfl) (by kernel_rfl) (by kernel_rfl) (fun _ _ _ h => h) (Or.inl ⟨by kernel_rfl, ?_⟩) hHeld ?_
  rotate_left
  · (intro w hSw; first | (go_simp; done) | (go_simp; with_reducible rfl))
  (try simp only [Act.put, List.getElem_toArray, List.getElem_cons_succ, List.getElem_cons_zero, List.setIfInBounds_toArray, List.set_cons_zero, List.set_cons_succ])
  refine wpAnyH_take (i := 8) (v := ?_) rfl (by kernel_rfl) (by kernel_rfl) (by kernel_rfl) (fun _ _ _ h => h) (Or.inl ⟨by kernel_rfl, ?_⟩) hHeld ?_
  rotate_left
  · (intro w hSw; first | (go_simp; done) | (go_simp; with_reducible rfl))
  (try simp only [Act.put, List.getElem_toArray, List.getElem_cons_succ, List.getElem_cons_zero, List.setIfInBounds_toArray, List.set_cons_zero, List.set_cons_succ])
  refine wpAnyH_take (i := 9) (v := ?_) rfl (by kernel_rfl) (by kernel_rfl) (by kernel_rfl) (fun _ _ _ h => h) (Or.inl ⟨by kernel_rfl, ?_⟩) hHeld ?_
  rotate_left
  · (intro w hSw; first | (go_simp; done) | (go_simp; with_reducible rfl))
  (try simp only [Act.put, List.getElem_toArray, List.getElem_cons_succ, List.getElem_cons_zero, List.setIfInBounds_toArray, List.set_cons_zero, List.set_cons_succ])
  refine wpAnyH_ready (rs := [4]) (by kernel_rfl) (by simp) (AllReadyH.cons rfl (fun K hK => ?_) AllReadyH.nil)
  have hH := hHeld
  (go_simp; go_at_call 42; refine (HR.out _).mono ?_; rintro e w9 ⟨rfl, hb9⟩)
  refine hK.out _ _ (by exact ⟨(hb9.cell (World.block_lt_of_cell? _ _ hH.1)).trans hH.1, (hb9.cell (World.block_lt_of_cell? _ _ hH.2.1)).trans hH.2.1, (hb9.cell (World.block_lt_of_cell? _ _ hH.2.2)).trans hH.2.2⟩) (fun hHq1 => ?_)
  clear hK K hH 
  have hP9 := Own.below (w := X.drew) HP.out hb9 HP.out.lt; have s0 := hP9.cell 0; have s1 := hP9.cell 1; have s2 := hP9.cell 2; have f0 := hP9.frozen 0; have f1 := hP9.frozen 1; have f2 := hP9.frozen 2; simp at s0 s1 s2
  (try simp only [Act.put, List.getElem_toArray, List.getElem_cons_succ, List.getElem_cons_zero, List.setIfInBounds_toArray, List.set_cons_zero, List.set_cons_succ])
  refine wpAnyH_take (i := 5) (v := ?_) rfl (by kernel_rfl) (by kernel_rfl) (by kernel_rfl) (fun _ _ _ h => h) (Or.inl ⟨by kernel_rfl, ?_⟩) hHq1 ?_
  rotate_left
  · (intro w hSw; first | (go_simp; done) | (go_simp; with_reducible rfl))
  (try simp only [Act.put, List.getElem_toArray, List.getElem_cons_succ, List.getElem_cons_zero, List.setIfInBounds_toArray, List.set_cons_zero, List.set_cons_succ])
  refine wpAnyH_take (i := 10) (v := ?_) rfl (by kernel_rfl) (by kernel_rfl) (by kernel_rfl) (fun _ _ _ h => h) (Or.inl ⟨by kernel_rfl, ?_⟩) hHq1 ?_
  rotate_left
  · (intro w hSw; first | (go_simp; done) | (go_simp; with_reducible rfl))
  (try simp only [Act.put, List.getElem_toArray, List.getElem_cons_succ, List.getElem_cons_zero, List.setIfInBounds_toArray, List.set_cons_zero, List.set_cons_succ])
  refine wpAnyH_ready (rs := [11]) (by kernel_rfl) (by simp) (AllReadyH.cons rfl (fun K hK => ?_) AllReadyH.nil)
  have hH := hHq1
  (go_simp; skip)
  refine hK.out _ _ (by exact ⟨far3 hH.1 (by omega), far3 hH.2.1 (by omega), far3 hH.2.2 (by omega)⟩) (fun hHq2 => ?_)
  clear hK K hH hHq1
  (try simp only [Act.put, List.getElem_toArray, List.getElem_cons_succ, List.getElem_cons_zero, List.setIfInBounds_toArray, List.set_cons_zero, List.set_cons_succ])
  refine wpAnyH_done (by kernel_rfl) ?_ _
  have hEnd := hHq2
  have hCX : Chg [] w X := by rw [← HX.out]; exact ((Chg.refl [] w).alloc _).alloc _
  have hC9 : Chg [] X w9 := ((Chg.refl [] X).drew).of_below hb9
  clear hEnd hHeld hHq2 HR HX e1 e2 e3
  go_wp2_with fail
  refine bodyPost_ret (v := pv h r n) (by simp [results, Try.results32, go_sem, s0, s1, s2, f0, f1, f2]) rfl ⟨rfl, ?_⟩
  exact ((((hCX.trans hC9).setCell (p := ⟨w.heap.size + 1, 0, none⟩) (Or.inr (by simp)) _).setCell (p := ⟨w.heap.size + 1, 1, none⟩) (Or.inr (by simp)) _).setCell (p := ⟨w.heap.size + 1, 2, none⟩) (Or.inr (by simp)) _)
end Go.Proofs.Ytdiemejdbakffaa
