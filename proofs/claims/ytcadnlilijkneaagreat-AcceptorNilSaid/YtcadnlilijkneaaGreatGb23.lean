/-
  Contract of package tape's superOf. No claim of its own.
-/
import Derived.Test.YtcadnlilijkneaaGreatGb22
import Derived.RangeFuncNested
import Derived.RangeFuncBound
import Derived.RangeFuncCalls
import Derived.RangeFuncLeaves
import Derived.Shelf.Abstract
import Derived.Shelf.RegionOpen
import Derived.WalkKit
import Derived.OwnWalkIn
import Derived.TacticsInMore
import Derived.LoopNIn
import Derived.LoopIn
import Derived.OrdersIn
import Derived.OrdersHeld
namespace Go.Proofs.YtcadnlilijkneaaGreat
open Go.RowKit
set_option linter.unusedVariables false
set_option linter.unusedSimpArgs false

def supH (S : Sec) : Nat := (S.getD 0 0).toNat
def supR (S : Sec) : Nat := nb ((S.drop 1).take 4)
def supB (S : Sec) : Nat := nb ((S.drop 5).take 4)
theorem supR_lt {S : Sec} (h : S.length = 64) : supR S < 4294967296 := by
  have := nb_lt 4 ((S.drop 1).take 4) (by rw [List.length_take, List.length_drop]; omega)
  have h3 : (256 : Nat) ^ 4 = 4294967296 := by decide
  unfold supR; omega
theorem supB_lt {S : Sec} (h : S.length = 64) : supB S < 4294967296 := by
  have := nb_lt 4 ((S.drop 5).take 4) (by rw [List.length_take, List.length_drop]; omega)
  have h3 : (256 : Nat) ^ 4 = 4294967296 := by decide
  unfold supB; omega
theorem supH_lt (S : Sec) : supH S < 256 := UInt8.toNat_lt _
theorem sup_of {h r b : Nat} (hh : h ≤ 1) (hr : r < 4294967296) (hb : b < 4294967296) : supH (supS h r b) = h ∧ supR (supS h r b) = r ∧ supB (supS h r b) = b := by
  obtain ⟨a1, a2, a3⟩ := supS_parts (h := h) (r := r) (b := b)
  have h3 : (256 : Nat) ^ 4 = 4294967296 := by decide
  unfold supH supR supB
  rw [a1, a2, a3, nb_be 4 r (by omega), nb_be 4 b (by omega)]
  refine ⟨?_, rfl, rfl⟩
  simp
  omega
theorem exec_load37 {w : World} {a : Act} {o : Oper} {x : Operand} (ho : o.op = .load 107 x) (b off : Nat) (hx : a.eval x = .pointer (some ⟨b, off, none⟩)) (S : Sec) (hr : w.rangeAt b off (u8s S)) (hS : S.length = 64) : Sem.run Tryz.prog (execOp a.eval o) w = .ok (.value (sv S)) w := by
  unfold execOp
  simp only [ho, hx, Instr.loadAt, Instr.sureAddr, Sem.run_bind, Sem.run_pure, Result.andThen_ok, load37 hr hS]
theorem far3r {w : World} {B b o i j k : Nat} {x y z : Value} {vs : List Value} (h : w.rangeAt b o vs) (hne : b ≠ B) : (((w.setCell ⟨B, i, none⟩ x).setCell ⟨B, j, none⟩ y).setCell ⟨B, k, none⟩ z).rangeAt b o vs :=
  Chg.range (l := [B]) ((((Chg.refl _ w).setCell (by simp) _).setCell (by simp) _).setCell (by simp) _) h (by simp; exact hne)
theorem chg3 {a w : World} {B i j k : Nat} {x y z : Value} (h : Chg [] a w) (hB : a.heap.size ≤ B) : Chg [] a (((w.setCell ⟨B, i, none⟩ x).setCell ⟨B, j, none⟩ y).setCell ⟨B, k, none⟩ z) :=
  ((h.setCell (p := ⟨B, i, none⟩) (.inr hB) _).setCell (p := ⟨B, j, none⟩) (.inr hB) _).setCell (p := ⟨B, k, none⟩) (.inr hB) _
theorem both {G H : Prop} (main : G → H) (fin : G) : H := main fin
def SupT (S : Sec) (w : World) (e : Ending) (w' : World) : Prop :=
  e = .returned (.tuple #[pv (supH S) (supR S) (supB S), .bool (decide (supH S ≤ 1 ∧ supS (supH S) (supR S) (supB S) = S))]) ∧ Chg [] w w'
set_option maxHeartbeats 4000000 in
set_option maxRecDepth 100000 in
theorem superOf_any (w : World) (S : Sec) (hS : S.length = 64) :
    Calls Tryz.prog 117 #[sv S] w (SupT S w) := by
  obtain ⟨X, HX⟩ : ∃ X, Hid ((w.alloc (.cells (u8s S).toArray 107)).alloc (.cells #[.int .u8 0, .int .u32 0, .int .u32 0] 218) = X) := ⟨_, Lib.hid rfl⟩
  have hO : Own X w.heap.size 107 (u8s S) := by rw [← HX.out]; exact (Own.new w 107 (u8s S)).alloc _
  have hP : Own X (w.heap.size + 1) 218 [.int .u8 0, .int .u32 0, .int .u32 0] := by rw [← HX.out]; have := Own.new (w.alloc (.cells (u8s S).toArray 107)) 218 [.int .u8 0, .int .u32 0, .int .u32 0]; rwa [World.size_alloc] at this
  have hsX : X.heap.size = w.heap.size + 2 := by rw [← HX.out]; simp
  have hcell : ∀ W, Chg [] X W → ∀ i, i < 64 → W.cell? ⟨w.heap.size, i, none⟩ = some (.int .u8 ((S.getD i 0).toNat : Nat)) := fun W hW i hi => by
    rw [(hO.chg hW (by simp)).cell, List.getElem?_eq_getElem (by rw [u8s_length, hS]; exact hi)]
    simp [u8s, List.getD, hS, hi]
  have hnum : ∀ W k, Chg [] X W → k + 4 ≤ 64 → Calls Tryz.prog 176 #[.slice (some ⟨w.heap.size, k, none⟩) 4 (64 - k)] W fun e w' => e = .returned (.int .u32 ((nb ((S.drop k).take 4) : Nat) : Int)) ∧ W = w' := fun W k hW hk => by
    have e : ((S.drop k).take 4).length = 4 := by rw [List.length_take, List.length_drop, hS]; omega
    have h := number_any W (some ⟨w.heap.size, k, none⟩) ((S.drop k).take 4) (64 - k) W.heap.size (by
      refine .inr ⟨w.heap.size, k, rfl, by have := hW.size; omega, fun i hi => ?_⟩
      rw [u8s_length, e] at hi
      rw [hcell W hW _ (by omega), u8s_getD _ _ (by rw [e]; exact hi)]
      simp [List.getD, List.getElem?_take, hi, List.getElem?_drop]) (by omega)
    rw [e] at h
    exact h
  have c0 := hcell X (Chg.refl _ _) 0 (by omega)
  obtain ⟨x, HXX⟩ : ∃ x, Hid ((S.getD 0 0).toNat = x) := ⟨_, Lib.hid rfl⟩
  obtain ⟨r, HRR⟩ : ∃ r, Hid (nb ((S.drop 1).take 4) = r) := ⟨_, Lib.hid rfl⟩
  obtain ⟨b, HBB⟩ : ∃ b, Hid (nb ((S.drop 5).take 4) = b) := ⟨_, Lib.hid rfl⟩
  rw [HXX.out] at c0
  have h1 := fun W hW => hnum W 1 hW (by omega)
  have h2 := fun W hW => hnum W 5 hW (by omega)
  simp only [HRR.out] at h1
  simp only [HBB.out] at h2
  have H1 := Lib.hid h1
  have H2 := Lib.hid h2
  clear h1 h2
  have HO := Lib.hid hO
  have HP := Lib.hid hP
  have HS := Lib.hid hsX
  have hCX : Chg [] w X := by rw [← HX.out]; exact ((Chg.refl [] w).alloc _).alloc _
  have HC := Lib.hid hCX
  have HL := Lib.hid hS
  clear hO hP hsX hcell hnum hCX hS
  go_enter Tryz.func117, Tryz.ntmps117
  go_wp2_with (first
    | (refine wpList_box37 rfl _ rfl S rfl ?_)
    | fail)
  simp only [HX.out]
  apply both
  intro FIN
  refine wp_region_held_drew (S := (fun w' => w'.cell? ⟨w.heap.size, 0, none⟩ = some (.int .u8 (x : Int)) ∧ Chg [] X w')) (by kernel_rfl) ⟨c0, (Chg.refl [] X).drew⟩ (fun hHeld => ?_)
  refine wpAnyH_take (i := 0) (v := ?_) rfl (by kernel_rfl) (by kernel_rfl) (by kernel_rfl) (fun _ _ _ h => h) (Or.inl ⟨by kernel_rfl, ?_⟩) hHeld ?_
  rotate_left
  · (intro w hSw; first | (go_simp; done) | (go_simp; with_reducible rfl))
  (try simp only [Act.put, List.getElem_toArray, List.getElem_cons_succ, List.getElem_cons_zero, List.setIfInBounds_toArray, List.set_cons_zero, List.set_cons_succ])
  refine wpAnyH_take (i := 1) (v := ?_) rfl (by kernel_rfl) (by kernel_rfl) (by kernel_rfl) (fun _ _ _ h => h) (Or.inl ⟨by kernel_rfl, ?_⟩) hHeld ?_
  rotate_left
  · (intro w hSw; first | (go_simp; done) | (go_simp; with_reducible rfl))
  (try simp only [Act.put, List.getElem_toArray, List.getElem_cons_succ, List.getElem_cons_zero, List.setIfInBounds_toArray, List.set_cons_zero, List.set_cons_succ])
  refine wpAnyH_take (i := 2) (v := ?_) rfl (by kernel_rfl) (by kernel_rfl) (by kernel_rfl) (fun _ _ _ h => h) (Or.inl ⟨by kernel_rfl, ?_⟩) hHeld ?_
  rotate_left
  · (intro w hSw; first | (go_simp; done) | (go_simp; with_reducible rfl))
  (try simp only [Act.put, List.getElem_toArray, List.getElem_cons_succ, List.getElem_cons_zero, List.setIfInBounds_toArray, List.set_cons_zero, List.set_cons_succ])
  refine wpAnyH_take (i := 4) (v := ?_) rfl (by kernel_rfl) (by kernel_rfl) (by kernel_rfl) (fun _ _ _ h => h) (Or.inl ⟨by kernel_rfl, ?_⟩) hHeld ?_
  rotate_left
  · (intro w hSw; first | (go_simp; done) | (go_simp; with_reducible rfl))
  (try simp only [Act.put, List.getElem_toArray, List.getElem_cons_succ, List.getElem_cons_zero, List.setIfInBounds_toArray, List.set_cons_zero, List.set_cons_succ])
  refine wpAnyH_ready (rs := [3,7]) (by kernel_rfl) (by simp) (AllReadyH.cons rfl (fun K hK => ?_) (AllReadyH.cons rfl (fun K hK => ?_) AllReadyH.nil))
  · have hH := hHeld
    (go_simp; go_at_call 176; refine (H1.out _ hH.2).mono ?_; rintro e w9 ⟨rfl, rfl⟩)
    refine hK.out _ _ (by exact hH) (fun hHq1 => ?_)
    clear hK K hH 
    (try simp only [Act.put, List.getElem_toArray, List.getElem_cons_succ, List.getElem_cons_zero, List.setIfInBounds_toArray, List.set_cons_zero, List.set_cons_succ])
    refine wpAnyH_ready (rs := [5,7]) (by kernel_rfl) (by simp) (AllReadyH.cons rfl (fun K hK => ?_) (AllReadyH.cons rfl (fun K hK => ?_) AllReadyH.nil))
    · have hH := hHq1
      (go_simp; go_at_call 176; refine (H2.out _ hH.2).mono ?_; rintro e w9 ⟨rfl, rfl⟩)
      refine hK.out _ _ (by exact hH) (fun hHq2 => ?_)
      clear hK K hH hHq1
      (try simp only [Act.put, List.getElem_toArray, List.getElem_cons_succ, List.getElem_cons_zero, List.setIfInBounds_toArray, List.set_cons_zero, List.set_cons_succ])
      refine wpAnyH_take (i := 6) (v := ?_) rfl (by kernel_rfl) (by kernel_rfl) (by kernel_rfl) (fun _ _ _ h => h) (Or.inl ⟨by kernel_rfl, ?_⟩) hHq2 ?_
      rotate_left
      · (intro w hSw; first | (go_simp; done) | (go_simp; with_reducible rfl))
      (try simp only [Act.put, List.getElem_toArray, List.getElem_cons_succ, List.getElem_cons_zero, List.setIfInBounds_toArray, List.set_cons_zero, List.set_cons_succ])
      refine wpAnyH_ready (rs := [7]) (by kernel_rfl) (by simp) (AllReadyH.cons rfl (fun K hK => ?_) AllReadyH.nil)
      have hH := hHq2
      (go_simp; skip)
      refine hK.out _ _ (by exact ⟨(((Chg.refl [] _).alloc _).cell hH.1 (by simp)), hH.2.alloc _⟩) (fun hHq3 => ?_)
      clear hK K hH hHq2
      (try simp only [Act.put, List.getElem_toArray, List.getElem_cons_succ, List.getElem_cons_zero, List.setIfInBounds_toArray, List.set_cons_zero, List.set_cons_succ])
      refine wpAnyH_ready (rs := [8]) (by kernel_rfl) (by simp) (AllReadyH.cons rfl (fun K hK => ?_) AllReadyH.nil)
      have hH := hHq3
      (go_simp; skip)
      refine hK.out _ _ (by exact ⟨(((Chg.refl [] X).alloc _).cell c0 (by simp)), ((Chg.refl [] X).alloc _).drew⟩) (fun hHq4 => ?_)
      clear hK K hH hHq3
      (try simp only [Act.put, List.getElem_toArray, List.getElem_cons_succ, List.getElem_cons_zero, List.setIfInBounds_toArray, List.set_cons_zero, List.set_cons_succ])
      refine wpAnyH_done (by kernel_rfl) ?_ _
      have hEnd := hHq4
      exact FIN
    · have hH := hHq1
      (go_simp; skip)
      refine hK.out _ _ (by exact ⟨(((Chg.refl [] _).alloc _).cell hH.1 (by simp)), hH.2.alloc _⟩) (fun hHq5 => ?_)
      clear hK K hH hHq1
      (try simp only [Act.put, List.getElem_toArray, List.getElem_cons_succ, List.getElem_cons_zero, List.setIfInBounds_toArray, List.set_cons_zero, List.set_cons_succ])
      refine wpAnyH_ready (rs := [5]) (by kernel_rfl) (by simp) (AllReadyH.cons rfl (fun K hK => ?_) AllReadyH.nil)
      have hH := hHq5
      (go_simp; go_at_call 176; refine (H2.out _ hH.2).mono ?_; rintro e w9 ⟨rfl, rfl⟩)
      refine hK.out _ _ (by exact hH) (fun hHq6 => ?_)
      clear hK K hH hHq5
      (try simp only [Act.put, List.getElem_toArray, List.getElem_cons_succ, List.getElem_cons_zero, List.setIfInBounds_toArray, List.set_cons_zero, List.set_cons_succ])
      refine wpAnyH_take (i := 6) (v := ?_) rfl (by kernel_rfl) (by kernel_rfl) (by kernel_rfl) (fun _ _ _ h => h) (Or.inl ⟨by kernel_rfl, ?_⟩) hHq6 ?_
      rotate_left
      · (intro w hSw; first | (go_simp; done) | (go_simp; with_reducible rfl))
      (try simp only [Act.put, List.getElem_toArray, List.getElem_cons_succ, List.getElem_cons_zero, List.setIfInBounds_toArray, List.set_cons_zero, List.set_cons_succ])
      refine wpAnyH_ready (rs := [8]) (by kernel_rfl) (by simp) (AllReadyH.cons rfl (fun K hK => ?_) AllReadyH.nil)
      have hH := hHq6
      (go_simp; skip)
      refine hK.out _ _ (by exact ⟨(((Chg.refl [] X).alloc _).cell c0 (by simp)), ((Chg.refl [] X).alloc _).drew⟩) (fun hHq7 => ?_)
      clear hK K hH hHq6
      (try simp only [Act.put, List.getElem_toArray, List.getElem_cons_succ, List.getElem_cons_zero, List.setIfInBounds_toArray, List.set_cons_zero, List.set_cons_succ])
      refine wpAnyH_done (by kernel_rfl) ?_ _
      have hEnd := hHq7
      exact FIN
  · have hH := hHeld
    (go_simp; skip)
    refine hK.out _ _ (by exact ⟨(((Chg.refl [] _).alloc _).cell hH.1 (by simp)), hH.2.alloc _⟩) (fun hHq8 => ?_)
    clear hK K hH 
    (try simp only [Act.put, List.getElem_toArray, List.getElem_cons_succ, List.getElem_cons_zero, List.setIfInBounds_toArray, List.set_cons_zero, List.set_cons_succ])
    refine wpAnyH_ready (rs := [3]) (by kernel_rfl) (by simp) (AllReadyH.cons rfl (fun K hK => ?_) AllReadyH.nil)
    have hH := hHq8
    (go_simp; go_at_call 176; refine (H1.out _ hH.2).mono ?_; rintro e w9 ⟨rfl, rfl⟩)
    refine hK.out _ _ (by exact hH) (fun hHq9 => ?_)
    clear hK K hH hHq8
    (try simp only [Act.put, List.getElem_toArray, List.getElem_cons_succ, List.getElem_cons_zero, List.setIfInBounds_toArray, List.set_cons_zero, List.set_cons_succ])
    refine wpAnyH_ready (rs := [5]) (by kernel_rfl) (by simp) (AllReadyH.cons rfl (fun K hK => ?_) AllReadyH.nil)
    have hH := hHq9
    (go_simp; go_at_call 176; refine (H2.out _ hH.2).mono ?_; rintro e w9 ⟨rfl, rfl⟩)
    refine hK.out _ _ (by exact hH) (fun hHq10 => ?_)
    clear hK K hH hHq9
    (try simp only [Act.put, List.getElem_toArray, List.getElem_cons_succ, List.getElem_cons_zero, List.setIfInBounds_toArray, List.set_cons_zero, List.set_cons_succ])
    refine wpAnyH_take (i := 6) (v := ?_) rfl (by kernel_rfl) (by kernel_rfl) (by kernel_rfl) (fun _ _ _ h => h) (Or.inl ⟨by kernel_rfl, ?_⟩) hHq10 ?_
    rotate_left
    · (intro w hSw; first | (go_simp; done) | (go_simp; with_reducible rfl))
    (try simp only [Act.put, List.getElem_toArray, List.getElem_cons_succ, List.getElem_cons_zero, List.setIfInBounds_toArray, List.set_cons_zero, List.set_cons_succ])
    refine wpAnyH_ready (rs := [8]) (by kernel_rfl) (by simp) (AllReadyH.cons rfl (fun K hK => ?_) AllReadyH.nil)
    have hH := hHq10
    (go_simp; skip)
    refine hK.out _ _ (by exact ⟨(((Chg.refl [] X).alloc _).cell c0 (by simp)), ((Chg.refl [] X).alloc _).drew⟩) (fun hHq11 => ?_)
    clear hK K hH hHq10
    (try simp only [Act.put, List.getElem_toArray, List.getElem_cons_succ, List.getElem_cons_zero, List.setIfInBounds_toArray, List.set_cons_zero, List.set_cons_succ])
    refine wpAnyH_done (by kernel_rfl) ?_ _
    have hEnd := hHq11
    exact FIN
  obtain ⟨Y, HY⟩ : ∃ Y, Hid ((X.alloc (.cells #[.int .u8 (x : Int), .int .u32 (r : Int), .int .u32 (b : Int)] 218)).drew = Y) := ⟨_, Lib.hid rfl⟩
  have hCY : Chg [] X Y := by rw [← HY.out]; exact ((Chg.refl [] X).alloc _).drew
  have hQ : Own Y X.heap.size 218 [.int .u8 (x : Int), .int .u32 (r : Int), .int .u32 (b : Int)] := by rw [← HY.out]; exact (Own.new X 218 [.int .u8 (x : Int), .int .u32 (r : Int), .int .u32 (b : Int)])
  have hPY := HP.out.chg hCY (by simp)
  have hOY := HO.out.chg hCY (by simp)
  have hx : x < 256 := by rw [← HXX.out]; exact UInt8.toNat_lt _
  have hr : r < 4294967296 := by rw [← HRR.out]; exact supR_lt HL.out
  have hb : b < 4294967296 := by rw [← HBB.out]; exact supB_lt HL.out
  have HSE := Lib.hid (fun W => sector_any W x r b hx hr hb)
  have hrg : Y.rangeAt w.heap.size 0 (u8s S) := fun j v hv => by rw [Nat.zero_add, hOY.cell]; exact hv
  have d0 := hQ.cell 0
  have d1 := hQ.cell 1
  have d2 := hQ.cell 2
  simp at d0 d1 d2
  have HD := Lib.hid (And.intro d0 (And.intro d1 (And.intro d2 hrg)))
  have HPY := Lib.hid hPY
  have hqs : X.heap.size ≠ w.heap.size + 1 := by have := HS.out; omega
  have hqb : w.heap.size + 1 < Y.heap.size := hPY.lt
  have HCY := Lib.hid (HC.out.trans hCY)
  clear hQ hPY hOY hCY d0 d1 d2 hrg c0 H1 H2
  simp only [HY.out]
  by_cases hx1 : x ≤ 1
  case' pos =>
    have hd : decide ((x : Int) ≤ 1) = true := by simp; omega
    have he : ∀ W, (binOp .eql 107 (sv (supS x r b)) (sv S)).run Tryz.prog W = .ok (.bool (decide (supS x r b = S))) W := run_eql_sec 107 Tryz.underlying107 (supS x r b) S (supS_len _ _ _) HL.out
    have HE := Lib.hid (show decide (supS x r b = S) = decide (supH S ≤ 1 ∧ supS (supH S) (supR S) (supB S) = S) by
      rw [decide_eq_decide]
      unfold supH supR supB
      rw [HXX.out, HRR.out, HBB.out]
      exact ⟨fun h => ⟨hx1, h⟩, fun h => h.2⟩)
    obtain ⟨T, HT⟩ : ∃ T, Hid (supS x r b = T) := ⟨_, Lib.hid rfl⟩
    obtain ⟨q, HQ⟩ : ∃ q, Hid (decide (supS x r b = S) = q) := ⟨_, Lib.hid rfl⟩
    simp only [HQ.out] at he
    rw [HQ.out] at HE
    rw [HT.out] at he HSE
    have hTl : T.length = 64 := by rw [← HT.out]; exact supS_len _ _ _
    go_wp2_with fail
    refine wp_region_held_drew (S := (fun w' => w'.cell? ⟨X.heap.size, 0, none⟩ = some (.int .u8 (x : Int)) ∧ w'.cell? ⟨X.heap.size, 1, none⟩ = some (.int .u32 (r : Int)) ∧ w'.cell? ⟨X.heap.size, 2, none⟩ = some (.int .u32 (b : Int)) ∧ w'.rangeAt w.heap.size 0 (u8s S))) (by kernel_rfl) HD.out (fun hHeld => ?_)
    refine wpAnyH_take (i := 0) (v := ?_) rfl (by kernel_rfl) (by kernel_rfl) (by kernel_rfl) (fun _ _ _ h => h) (Or.inl ⟨by kernel_rfl, ?_⟩) hHeld ?_
    rotate_left
    · (intro w hSw; first | (go_simp; done) | (go_simp; with_reducible rfl))
    (try simp only [Act.put, List.getElem_toArray, List.getElem_cons_succ, List.getElem_cons_zero, List.setIfInBounds_toArray, List.set_cons_zero, List.set_cons_succ])
    refine wpAnyH_take (i := 1) (v := ?_) rfl (by kernel_rfl) (by kernel_rfl) (by kernel_rfl) (fun _ _ _ h => h) (Or.inl ⟨by kernel_rfl, ?_⟩) hHeld ?_
    rotate_left
    · (intro w hSw; first | (go_simp; done) | (go_simp; with_reducible rfl))
    (try simp only [Act.put, List.getElem_toArray, List.getElem_cons_succ, List.getElem_cons_zero, List.setIfInBounds_toArray, List.set_cons_zero, List.set_cons_succ])
    refine wpAnyH_take (i := 2) (v := ?_) rfl (by kernel_rfl) (by kernel_rfl) (by kernel_rfl) (fun _ _ _ h => h) (Or.inl ⟨by kernel_rfl, ?_⟩) hHeld ?_
    rotate_left
    · (intro w hSw; first | (go_simp; done) | (go_simp; with_reducible rfl))
    (try simp only [Act.put, List.getElem_toArray, List.getElem_cons_succ, List.getElem_cons_zero, List.setIfInBounds_toArray, List.set_cons_zero, List.set_cons_succ])
    refine wpAnyH_take (i := 3) (v := ?_) rfl (by kernel_rfl) (by kernel_rfl) (by kernel_rfl) (fun _ _ _ h => h) (Or.inl ⟨by kernel_rfl, ?_⟩) hHeld ?_
    rotate_left
    · (intro w hSw; first | (go_simp; done) | (go_simp; with_reducible rfl))
    (try simp only [Act.put, List.getElem_toArray, List.getElem_cons_succ, List.getElem_cons_zero, List.setIfInBounds_toArray, List.set_cons_zero, List.set_cons_succ])
    refine wpAnyH_take (i := 4) (v := ?_) rfl (by kernel_rfl) (by kernel_rfl) (by kernel_rfl) (fun _ _ _ h => h) (Or.inl ⟨by kernel_rfl, ?_⟩) hHeld ?_
    rotate_left
    · (intro w hSw; first | (go_simp; done) | (go_simp; with_reducible rfl))
    (try simp only [Act.put, List.getElem_toArray, List.getElem_cons_succ, List.getElem_cons_zero, List.setIfInBounds_toArray, List.set_cons_zero, List.set_cons_succ])
    refine wpAnyH_take (i := 5) (v := ?_) rfl (by kernel_rfl) (by kernel_rfl) (by kernel_rfl) (fun _ _ _ h => h) (Or.inl ⟨by kernel_rfl, ?_⟩) hHeld ?_
    rotate_left
    · (intro w hSw; first | (go_simp; done) | (go_simp; with_reducible rfl))
    (try simp only [Act.put, List.getElem_toArray, List.getElem_cons_succ, List.getElem_cons_zero, List.setIfInBounds_toArray, List.set_cons_zero, List.set_cons_succ])
    refine wpAnyH_take (i := 7) (v := sv S) rfl (by kernel_rfl) (by kernel_rfl) (by kernel_rfl) (fun _ _ _ h => h) (Or.inl ⟨by kernel_rfl, ?_⟩) hHeld ?_
    · (intro w hSw; exact exec_load37 rfl _ 0 rfl S hSw.2.2.2 HL.out)
    (try simp only [Act.put, List.getElem_toArray, List.getElem_cons_succ, List.getElem_cons_zero, List.setIfInBounds_toArray, List.set_cons_zero, List.set_cons_succ])
    refine wpAnyH_ready (rs := [6]) (by kernel_rfl) (by simp) (AllReadyH.cons rfl (fun K hK => ?_) AllReadyH.nil)
    have hH := hHeld
    (go_simp; go_at_call 177; refine (HSE.out _).mono ?_; rintro e w9 ⟨rfl, hc9⟩)
    refine hK.out _ _ (by exact ⟨hc9.cell hH.1 (by simp), hc9.cell hH.2.1 (by simp), hc9.cell hH.2.2.1 (by simp), hc9.range hH.2.2.2 (by simp)⟩) (fun hHq1 => ?_)
    clear hK K hH 
    have hP9 := HPY.out.chg (((Chg.refl [] Y).drew).trans hc9) (by simp); have s0 := hP9.cell 0; have s1 := hP9.cell 1; have s2 := hP9.cell 2; have f0 := hP9.frozen 0; have f1 := hP9.frozen 1; have f2 := hP9.frozen 2; simp at s0 s1 s2
    (try simp only [Act.put, List.getElem_toArray, List.getElem_cons_succ, List.getElem_cons_zero, List.setIfInBounds_toArray, List.set_cons_zero, List.set_cons_succ])
    refine wpAnyH_take (i := 8) (v := ?_) rfl (by kernel_rfl) (by kernel_rfl) (by kernel_rfl) (fun _ _ _ h => h) (Or.inl ⟨by kernel_rfl, ?_⟩) hHq1 ?_
    rotate_left
    · (intro w hSw; first | (go_simp; done) | (go_simp; with_reducible rfl))
    (try simp only [Act.put, List.getElem_toArray, List.getElem_cons_succ, List.getElem_cons_zero, List.setIfInBounds_toArray, List.set_cons_zero, List.set_cons_succ])
    refine wpAnyH_take (i := 9) (v := ?_) rfl (by kernel_rfl) (by kernel_rfl) (by kernel_rfl) (fun _ _ _ h => h) (Or.inl ⟨by kernel_rfl, ?_⟩) hHq1 ?_
    rotate_left
    · (intro w hSw; first | (go_simp; done) | (go_simp; with_reducible rfl))
    (try simp only [Act.put, List.getElem_toArray, List.getElem_cons_succ, List.getElem_cons_zero, List.setIfInBounds_toArray, List.set_cons_zero, List.set_cons_succ])
    refine wpAnyH_ready (rs := [10]) (by kernel_rfl) (by simp) (AllReadyH.cons rfl (fun K hK => ?_) AllReadyH.nil)
    have hH := hHq1
    (go_simp; skip)
    refine hK.out _ _ (by exact ⟨far3 hH.1 hqs, far3 hH.2.1 hqs, far3 hH.2.2.1 hqs, far3r hH.2.2.2 (by omega)⟩) (fun hHq2 => ?_)
    clear hK K hH hHq1
    (try simp only [Act.put, List.getElem_toArray, List.getElem_cons_succ, List.getElem_cons_zero, List.setIfInBounds_toArray, List.set_cons_zero, List.set_cons_succ])
    refine wpAnyH_take (i := 11) (v := ?_) rfl (by kernel_rfl) (by kernel_rfl) (by kernel_rfl) (fun _ _ _ h => h) (Or.inl ⟨by kernel_rfl, ?_⟩) hHq2 ?_
    rotate_left
    · (intro w hSw; first | (go_simp; done) | (go_simp; with_reducible rfl))
    (try simp only [Act.put, List.getElem_toArray, List.getElem_cons_succ, List.getElem_cons_zero, List.setIfInBounds_toArray, List.set_cons_zero, List.set_cons_succ])
    refine wpAnyH_done (by kernel_rfl) ?_ _
    have hEnd := hHq2
    have hC9 : Chg [] Y w9 := ((Chg.refl [] Y).drew).trans hc9
    clear hEnd hHeld
    go_wp2_with fail
    refine bodyPost_ret (v := .tuple #[pv x r b, .bool q]) (by simp [results, Tryz.results117, go_sem, s0, s1, s2, f0, f1, f2]) rfl ⟨?_, ?_⟩
    · rw [← HE.out]
      unfold supH supR supB
      rw [HXX.out, HRR.out, HBB.out]
    · exact chg3 (HCY.out.trans hC9) (by omega)
  case' neg =>
    have hd : decide ((x : Int) ≤ 1) = false := by simp; omega
    have HE := Lib.hid (show decide (supH S ≤ 1 ∧ supS (supH S) (supR S) (supB S) = S) = false by
      refine decide_eq_false fun h => hx1 ?_
      have := h.1
      unfold supH at this
      rw [HXX.out] at this
      exact this)
    have s0 := HPY.out.cell 0
    have s1 := HPY.out.cell 1
    have s2 := HPY.out.cell 2
    have f0 := HPY.out.frozen 0
    have f1 := HPY.out.frozen 1
    have f2 := HPY.out.frozen 2
    simp at s0 s1 s2
    go_wp2_with fail
    refine wp_region_held_drew (S := (fun w' => w'.cell? ⟨X.heap.size, 0, none⟩ = some (.int .u8 (x : Int)) ∧ w'.cell? ⟨X.heap.size, 1, none⟩ = some (.int .u32 (r : Int)) ∧ w'.cell? ⟨X.heap.size, 2, none⟩ = some (.int .u32 (b : Int)) ∧ w'.rangeAt w.heap.size 0 (u8s S))) (by kernel_rfl) HD.out (fun hHeld => ?_)
    refine wpAnyH_take (i := 0) (v := ?_) rfl (by kernel_rfl) (by kernel_rfl) (by kernel_rfl) (fun _ _ _ h => h) (Or.inl ⟨by kernel_rfl, ?_⟩) hHeld ?_
    rotate_left
    · (intro w hSw; first | (go_simp; done) | (go_simp; with_reducible rfl))
    (try simp only [Act.put, List.getElem_toArray, List.getElem_cons_succ, List.getElem_cons_zero, List.setIfInBounds_toArray, List.set_cons_zero, List.set_cons_succ])
    refine wpAnyH_take (i := 1) (v := ?_) rfl (by kernel_rfl) (by kernel_rfl) (by kernel_rfl) (fun _ _ _ h => h) (Or.inl ⟨by kernel_rfl, ?_⟩) hHeld ?_
    rotate_left
    · (intro w hSw; first | (go_simp; done) | (go_simp; with_reducible rfl))
    (try simp only [Act.put, List.getElem_toArray, List.getElem_cons_succ, List.getElem_cons_zero, List.setIfInBounds_toArray, List.set_cons_zero, List.set_cons_succ])
    refine wpAnyH_take (i := 2) (v := ?_) rfl (by kernel_rfl) (by kernel_rfl) (by kernel_rfl) (fun _ _ _ h => h) (Or.inl ⟨by kernel_rfl, ?_⟩) hHeld ?_
    rotate_left
    · (intro w hSw; first | (go_simp; done) | (go_simp; with_reducible rfl))
    (try simp only [Act.put, List.getElem_toArray, List.getElem_cons_succ, List.getElem_cons_zero, List.setIfInBounds_toArray, List.set_cons_zero, List.set_cons_succ])
    refine wpAnyH_take (i := 3) (v := ?_) rfl (by kernel_rfl) (by kernel_rfl) (by kernel_rfl) (fun _ _ _ h => h) (Or.inl ⟨by kernel_rfl, ?_⟩) hHeld ?_
    rotate_left
    · (intro w hSw; first | (go_simp; done) | (go_simp; with_reducible rfl))
    (try simp only [Act.put, List.getElem_toArray, List.getElem_cons_succ, List.getElem_cons_zero, List.setIfInBounds_toArray, List.set_cons_zero, List.set_cons_succ])
    refine wpAnyH_take (i := 4) (v := ?_) rfl (by kernel_rfl) (by kernel_rfl) (by kernel_rfl) (fun _ _ _ h => h) (Or.inl ⟨by kernel_rfl, ?_⟩) hHeld ?_
    rotate_left
    · (intro w hSw; first | (go_simp; done) | (go_simp; with_reducible rfl))
    (try simp only [Act.put, List.getElem_toArray, List.getElem_cons_succ, List.getElem_cons_zero, List.setIfInBounds_toArray, List.set_cons_zero, List.set_cons_succ])
    refine wpAnyH_take (i := 5) (v := undef) rfl (by kernel_rfl) (by kernel_rfl) (by kernel_rfl) (fun _ _ _ h => h) (Or.inr ⟨by kernel_rfl, rfl⟩) hHeld ?_
    (try simp only [Act.put, List.getElem_toArray, List.getElem_cons_succ, List.getElem_cons_zero, List.setIfInBounds_toArray, List.set_cons_zero, List.set_cons_succ])
    refine wpAnyH_take (i := 6) (v := undef) rfl (by kernel_rfl) (by kernel_rfl) (by kernel_rfl) (fun _ _ _ h => h) (Or.inr ⟨by kernel_rfl, rfl⟩) hHeld ?_
    (try simp only [Act.put, List.getElem_toArray, List.getElem_cons_succ, List.getElem_cons_zero, List.setIfInBounds_toArray, List.set_cons_zero, List.set_cons_succ])
    refine wpAnyH_take (i := 7) (v := undef) rfl (by kernel_rfl) (by kernel_rfl) (by kernel_rfl) (fun _ _ _ h => h) (Or.inr ⟨by kernel_rfl, rfl⟩) hHeld ?_
    (try simp only [Act.put, List.getElem_toArray, List.getElem_cons_succ, List.getElem_cons_zero, List.setIfInBounds_toArray, List.set_cons_zero, List.set_cons_succ])
    refine wpAnyH_take (i := 8) (v := undef) rfl (by kernel_rfl) (by kernel_rfl) (by kernel_rfl) (fun _ _ _ h => h) (Or.inr ⟨by kernel_rfl, rfl⟩) hHeld ?_
    (try simp only [Act.put, List.getElem_toArray, List.getElem_cons_succ, List.getElem_cons_zero, List.setIfInBounds_toArray, List.set_cons_zero, List.set_cons_succ])
    refine wpAnyH_take (i := 9) (v := ?_) rfl (by kernel_rfl) (by kernel_rfl) (by kernel_rfl) (fun _ _ _ h => h) (Or.inl ⟨by kernel_rfl, ?_⟩) hHeld ?_
    rotate_left
    · (intro w hSw; first | (go_simp; done) | (go_simp; with_reducible rfl))
    (try simp only [Act.put, List.getElem_toArray, List.getElem_cons_succ, List.getElem_cons_zero, List.setIfInBounds_toArray, List.set_cons_zero, List.set_cons_succ])
    refine wpAnyH_ready (rs := [10]) (by kernel_rfl) (by simp) (AllReadyH.cons rfl (fun K hK => ?_) AllReadyH.nil)
    have hH := hHeld
    (go_simp; skip)
    refine hK.out _ _ (by exact ⟨far3 hH.1 hqs, far3 hH.2.1 hqs, far3 hH.2.2.1 hqs, far3r hH.2.2.2 (by omega)⟩) (fun hHq1 => ?_)
    clear hK K hH 
    (try simp only [Act.put, List.getElem_toArray, List.getElem_cons_succ, List.getElem_cons_zero, List.setIfInBounds_toArray, List.set_cons_zero, List.set_cons_succ])
    refine wpAnyH_take (i := 11) (v := ?_) rfl (by kernel_rfl) (by kernel_rfl) (by kernel_rfl) (fun _ _ _ h => h) (Or.inl ⟨by kernel_rfl, ?_⟩) hHq1 ?_
    rotate_left
    · (intro w hSw; first | (go_simp; done) | (go_simp; with_reducible rfl))
    (try simp only [Act.put, List.getElem_toArray, List.getElem_cons_succ, List.getElem_cons_zero, List.setIfInBounds_toArray, List.set_cons_zero, List.set_cons_succ])
    refine wpAnyH_done (by kernel_rfl) ?_ _
    have hEnd := hHq1
    clear hEnd hHeld
    go_wp2_with fail
    refine bodyPost_ret (v := .tuple #[pv x r b, .bool false]) (by simp [results, Tryz.results117, go_sem, s0, s1, s2, f0, f1, f2]) rfl ⟨?_, ?_⟩
    · rw [HE.out]
      unfold supH supR supB
      rw [HXX.out, HRR.out, HBB.out]
    · exact chg3 HCY.out.drew (by omega)
end Go.Proofs.YtcadnlilijkneaaGreat
namespace Go.Proofs.YtcadnlilijkneaaGreat
open Go.RowKit Go.Shelf Go.Deep
set_option linter.unusedVariables false
set_option linter.unusedSimpArgs false
attribute [local go_sem] Oper.semAt_some

def secN (fr to_ : Nat) : Nat := (to_ + 63) / 64 - fr / 64
def ceilS (to_ : Nat) : Nat := (to_ + 63) / 64
abbrev SN (to_ : Nat) := {k : Nat // k < ceilS to_}
def encS (f to_ : Nat) (k : SN to_) : Array Value := #[.int .i64 (((f + k.1 : Nat)) : Int), .int .i64 ((k.1 * 64 : Nat) : Int)]
def valS {to_ : Nat} (xs : List (SN to_)) : List Nat := xs.map (·.1)
theorem secN_lt (fr to_ j : Nat) : j < secN fr to_ ↔ (fr / 64 + j) * 64 < to_ := by unfold secN; omega
theorem valS_snoc {to_ : Nat} (xs : List (SN to_)) (x : SN to_) : valS (xs ++ [x]) = valS xs ++ [x.1] := by simp [valS]
theorem range_snoc (q j : Nat) : List.range' q (j + 1) = List.range' q j ++ [q + j] := by rw [List.range'_concat]; simp
set_option maxRecDepth 100000 in
set_option maxHeartbeats 2000000 in
theorem sect_stops (n bf bt bi f fr to_ : Nat) (w : World) (hf : Own w bf 3 [.int .i64 (fr : Int)]) (ht : Own w bt 3 [.int .i64 (to_ : Int)]) (hi : Own w bi 3 [.int .i64 (f : Int)]) (hfr : fr ≤ 1000000) (hto : to_ ≤ 1000000) (hff : f ≤ 1000000)
    (Kp : World → World → Prop) (hK : ∀ W W', Kp W W' → Same [bf, bt, bi] W W') :
    SeqStopsK Fence.wide n Tryz.prog 229 #[.pointer (some ⟨bf, 0, none⟩), .pointer (some ⟨bt, 0, none⟩), .pointer (some ⟨bi, 0, none⟩)] (encS f to_) Kp (fun xs => valS xs = List.range' (fr / 64) (secN fr to_)) (fun _ => True) (secN fr to_) w := by
  intro l J Jx W hW hJ hJx hY h0
  have hfW := hf.below hW hf.lt
  have htW := ht.below hW ht.lt
  have hiW := hi.below hW hi.lt
  obtain ⟨q, HQ⟩ : ∃ q, Hid (fr / 64 = q) := ⟨_, Lib.hid rfl⟩
  obtain ⟨m, HM⟩ : ∃ m, Hid (secN fr to_ = m) := ⟨_, Lib.hid rfl⟩
  rw [HQ.out, HM.out]
  rw [HM.out] at hY
  have c1 := hfW.cell 0
  simp at c1
  have hq : (fr : Int) / 64 = (q : Int) := by rw [← HQ.out]; omega
  have hqm : q ≤ 1000000 := by rw [← HQ.out]; omega
  have HF := Lib.hid hfW
  have HT := Lib.hid htW
  have HI := Lib.hid hiW
  clear hf ht hi hfW htW hiW
  refine callsIn_of_wp Tryz.func229 rfl trivial ?_ rfl
  simp only [Tryz.ntmps229, List.size_toArray, List.length_cons, List.length_nil, Nat.reduceAdd, Nat.reduceSub, Array.replicate_succ, Array.replicate_zero, List.push_toArray, List.append_toArray, List.nil_append, List.cons_append]
  gi_wp2_with fail
  gi_loopw [5] (fun i wr => ∃ (j : Nat) (pre : List (SN to_)), i = .int .i64 ((q + j : Nat) : Int) ∧ j ≤ m ∧ valS pre = List.range' q j ∧ J pre wr ∧ Same [bf, bt, bi] W wr) (fun i _ => q + m - (intOf i).toNat)
  case atStart => exact ⟨0, [], rfl, Nat.zero_le _, rfl, h0, Same.refl _ _⟩
  case round =>
    obtain ⟨j, pre, rfl, hj, hpre, hjj, hS⟩ := hrel
    have c2 := (HT.out.same hS (by simp)).cell 0
    have c3 := (HI.out.same hS (by simp)).cell 0
    simp at c2 c3
    have HS := Lib.hid hS
    have hmb : m ≤ 1000000 := by rw [← HM.out]; unfold secN; omega
    obtain ⟨k, HK⟩ : ∃ k, Hid (q + j = k) := ⟨_, Lib.hid rfl⟩
    rw [HK.out]
    have hkb : k ≤ 2000000 := by rw [← HK.out]; omega
    have hpl : pre.length = j := by have := congrArg List.length hpre; simpa [valS] using this
    have HPL := Lib.hid hpl
    have HPR := Lib.hid hpre
    clear hpl hpre hS
    by_cases hlt : j < m
    · have hk : k * 64 < to_ := by rw [← HK.out, ← HQ.out]; exact (secN_lt fr to_ j).1 (by rw [HM.out]; exact hlt)
      have hd : decide ((k : Int) * 64 < (to_ : Int)) = true := by simp; omega
      have hkc : k < ceilS to_ := by unfold ceilS; omega
      obtain ⟨fn, tmps, assign, body, hyy, hR⟩ := hY pre ⟨k, hkc⟩ _ hjj (by rw [HPL.out]; exact hlt)
      dsimp only [encS] at hyy
      rw [show ((f + k : Nat) : Int) = (f : Int) + (k : Int) by omega, show ((k * 64 : Nat) : Int) = (k : Int) * 64 by omega] at hyy
      have HPO := Lib.hid (show valS (pre ++ [⟨k, hkc⟩]) = List.range' q (j + 1) by rw [valS_snoc, HPR.out, range_snoc, HK.out])
      generalize (⟨k, hkc⟩ : SN to_) = x at hR HPO
      clear hY
      gi_wp2_with fail
      refine ⟨(fun h => by cases h), (roundIn_any hR).mono ?_⟩
      rintro e W5 (⟨rfl, hj5, hk5⟩ | ⟨rfl, hjx5⟩)
      · gi_wp2_with fail
        go_roundw
        case rel => exact ⟨j + 1, pre ++ [x], by have := HK.out; congr 1; omega, hlt, HPO.out, hj5, HS.out.trans (hK _ _ hk5)⟩
        case measure => have := HK.out; simp [intOf]; omega
      · gi_wp2_with fail
        refine bodyPost_ret (results_none rfl _ _ _) rfl ?_
        exact ⟨⟨_, rfl⟩, .inr ⟨pre ++ [x], trivial, hjx5⟩⟩
    · have hk : ¬ k * 64 < to_ := by rw [← HK.out, ← HQ.out]; exact fun h => hlt (by rw [← HM.out]; exact (secN_lt fr to_ j).2 h)
      have hd : decide ((k : Int) * 64 < (to_ : Int)) = false := by simp; omega
      have hjm : j = m := by omega
      have HJM := Lib.hid hjm
      clear hjm hY
      gi_wp2_with fail
      go_end0
      exact ⟨⟨_, rfl⟩, .inl ⟨pre, by rw [HPR.out, HJM.out], hjj⟩⟩
theorem halfSectors_any (w : World) {q p g b n : Nat} {F : Nat → Sec} {m : Nat → Option Sec} (hq : w.cell? ⟨q, 0, none⟩ = some (.pointer (some ⟨p, 0, none⟩))) (hd : Dsk w p g b n F m) :
    Calls Tryz.prog 178 #[.pointer (some ⟨q, 0, none⟩)] w fun e w' => e = .returned (.int .i64 ((hsec n : Nat) : Int)) ∧ w = w' := by
  have h1 := hd.one
  have h2 := hd.top
  have HL := Lib.hid (len_ok w hd)
  have e1 : ((n : Int) - 1) / 2 = ((hsec n : Nat) : Int) := by unfold hsec; omega
  obtain ⟨s, HS⟩ : ∃ s, Hid (hsec n = s) := ⟨_, Lib.hid rfl⟩
  rw [HS.out] at e1 ⊢
  have hn1 : (1 : Int) ≤ (n : Int) := by omega
  have E1 := Lib.hid e1
  clear hd e1
  go_enter Tryz.func178, Tryz.ntmps178
  go_wp2_with (first | (go_at_call 116; refine HL.out.mono ?_; rintro e w' ⟨rfl, rfl⟩) | fail)
  go_ret
  exact ⟨ret_int E1.out, rfl⟩
theorem halfSize_any (w : World) {q p g b n : Nat} {F : Nat → Sec} {m : Nat → Option Sec} (hq : w.cell? ⟨q, 0, none⟩ = some (.pointer (some ⟨p, 0, none⟩))) (hd : Dsk w p g b n F m) :
    Calls Tryz.prog 118 #[.pointer (some ⟨q, 0, none⟩)] w fun e w' => e = .returned (.int .i64 ((hsec n * 64 : Nat) : Int)) ∧ w = w' := by
  have h2 := hd.top
  have HL := Lib.hid (halfSectors_any w hq hd)
  have hs : hsec n ≤ 1024 := by unfold hsec; omega
  obtain ⟨s, HS⟩ : ∃ s, Hid (hsec n = s) := ⟨_, Lib.hid rfl⟩
  rw [HS.out] at HL hs ⊢
  clear hd hq
  go_enter Tryz.func118, Tryz.ntmps118
  go_wp2_with (first | (go_at_call 178; refine HL.out.mono ?_; rintro e w' ⟨rfl, rfl⟩) | fail)
  go_ret
  exact ⟨ret_int (by omega), rfl⟩
def sectorsV (w : World) : Value := .func (.func 229) #[] #[.pointer (some ⟨w.heap.size, 0, none⟩), .pointer (some ⟨w.heap.size + 1, 0, none⟩), .pointer (some ⟨w.heap.size + 2, 0, none⟩)]
def sectorsW (w : World) (f fr to_ : Nat) : World := ((w.alloc (.cells #[.int .i64 (fr : Int)] 3)).alloc (.cells #[.int .i64 (to_ : Int)] 3)).alloc (.cells #[.int .i64 (f : Int)] 3)
theorem sectors_any (w : World) {q p g b n : Nat} {F : Nat → Sec} {m : Nat → Option Sec} (hq : w.cell? ⟨q, 0, none⟩ = some (.pointer (some ⟨p, 0, none⟩))) (hd : Dsk w p g b n F m) (h fr to_ : Nat) (hh : h ≤ 1) (hfr : fr ≤ 1000000) (hto : to_ ≤ 1000000) :
    Calls Tryz.prog 179 #[.pointer (some ⟨q, 0, none⟩), .int .i64 (h : Int), .int .i64 (fr : Int), .int .i64 (to_ : Int)] w fun e w' => e = .returned (sectorsV w) ∧ w' = sectorsW w (1 + h * hsec n) fr to_ := by
  have h2 := hd.top
  have hC : Chg [] w ((w.alloc (.cells #[.int .i64 (fr : Int)] 3)).alloc (.cells #[.int .i64 (to_ : Int)] 3)) := ((Chg.refl [] w).alloc _).alloc _
  have HL := Lib.hid (halfSectors_any _ (hC.cell hq (by simp)) (hd.kept hC))
  have hs : hsec n ≤ 1024 := by unfold hsec; omega
  obtain ⟨s, HS⟩ : ∃ s, Hid (hsec n = s) := ⟨_, Lib.hid rfl⟩
  rw [HS.out] at HL hs ⊢
  clear hd hq hC
  obtain ⟨f, HF⟩ : ∃ f : Nat, Hid (1 + h * s = f) := ⟨_, Lib.hid rfl⟩
  rw [HF.out]
  have e1 : (h : Int) * (s : Int) = ((f : Int) - 1) := by rw [← HF.out]; simp; omega
  have E2 := Lib.hid (show (1 : Int) + ((f : Int) - 1) = (f : Int) by omega)
  have hf1 : 1 ≤ f := by rw [← HF.out]; omega
  have hf2 : f ≤ 2000 := by
    rw [← HF.out]
    have : h * s ≤ 1 * 1024 := Nat.mul_le_mul hh hs
    omega
  go_enter Tryz.func179, Tryz.ntmps179
  go_wp2_with (first | (go_at_call 178; refine HL.out.mono ?_; rintro e w' ⟨rfl, rfl⟩) | fail)
  go_ret
  exact ⟨rfl, by rw [E2.out]; rfl⟩
end Go.Proofs.YtcadnlilijkneaaGreat
namespace Go.Proofs.YtcadnlilijkneaaGreat
open Go.RowKit Go.Shelf Go.Deep
set_option linter.unusedVariables false
set_option linter.unusedSimpArgs false
attribute [local go_sem] Oper.semAt_some

section
variable {P : Program}
theorem roundWp {l n : Nat} {o : Oper} {a : Act} {w : World} {K K' : Act → World → Prop} {Q : Exit → Act → World → Prop} (hd : ∀ c, o.op ≠ .defer c) (hK : ∀ a w, K a w → K' a w) (h : o.wp P a w K Q) : o.wpIn (Fence.wide.inRound l) n P a w K' Q := by
  refine ⟨fun _ _ => trivial, ?_⟩
  rw [Oper.semAt_eq _ _ _ hd]
  unfold Oper.wp at h
  generalize (execOp a.eval o).run P w = r at *
  cases r with
  | ok x w' =>
    cases x <;> simp only [Oper.upon] at h <;> simp only [Oper.uponIn]
    case value => exact hK _ _ h
    case skip => exact hK _ _ h
    case defer => exact hK _ _ h
    case enter f args =>
      refine ⟨(fun e => by cases e), CallsIn.inRound l (callsIn_wide.2 (h.mono fun e w'' he => ?_))⟩
      cases e <;> first | exact hK _ _ he | exact he
    case row row args =>
      refine ⟨(fun e => by cases e), fun c cs _ => ?_⟩
      obtain ⟨v, w'', hv, hs⟩ := h c cs
      exact ⟨v, w'', hK _ _ hv, stepsIn_wide.2 hs⟩
  | halt x w' => cases x <;> simp only [Oper.upon] at h <;> first | exact h | exact h.elim
theorem roundOp {l n : Nat} {ops : Array Oper} {Q : Exit → Act → World → Prop} {K K' : Act → World → Prop} {i : Nat} {a : Act} {w : World} (hout : ¬ LetsOut Q) (hd : ∀ (i : Nat) (o : Oper), ops[i]? = some o → ∀ c, o.op ≠ .defer c)
    (hK : ∀ a w, K a w → K' a w) (h : wpOp P ops Q i K a w) : wpOpIn (Fence.wide.inRound l) n P ops Q i K' a w := by
  unfold wpOp at h
  unfold wpOpIn
  cases ho : ops[i]? with
  | none => simp only [ho] at h; exact hK _ _ h
  | some o =>
    simp only [ho] at h
    dsimp only
    split
    · rename_i hw
      simp only [hw, if_true] at h
      exact roundWp (hd i o ho) hK (h.resolve_right (fun x => hout x.2))
    · rename_i hw
      simp only [hw, if_false, Bool.false_eq_true] at h
      exact ⟨fun _ _ => trivial, hK _ _ h⟩
theorem roundAny {l n : Nat} {ops : Array Oper} {Q : Exit → Act → World → Prop} {md : Region.Mode} (hout : ¬ LetsOut Q) (hd : ∀ (i : Nat) (o : Oper), ops[i]? = some o → ∀ c, o.op ≠ .defer c) :
    ∀ (fuel : Nat) (listed : Array Bool) (a : Act) (w : World), wpAny P md ops Q fuel listed a w → wpAnyIn (Fence.wide.inRound l) n P md ops Q fuel listed a w
  | 0, _, _, _, h => h
  | fuel + 1, _, _, _, h => ⟨h.1, fun i hi => roundOp hout hd (fun a w => roundAny hout hd fuel _ a w) (h.2 i hi)⟩
def noDefer (ops : Array Oper) : Bool := ops.all fun o => match o.op with | .defer _ => false | _ => true
theorem noDefer_spec {ops : Array Oper} (h : noDefer ops = true) : ∀ (i : Nat) (o : Oper), ops[i]? = some o → ∀ c, o.op ≠ .defer c := by
  intro i o ho c e
  unfold noDefer at h
  rw [Array.all_eq_true] at h
  obtain ⟨hi, he⟩ := Array.getElem?_eq_some_iff.1 ho
  have := h i hi
  rw [he, e] at this
  simp at this
theorem round_region {l n id : Nat} {ops : Array Oper} {Q : Exit → Act → World → Prop} {a : Act} {w : World} (S : World → Prop) (hm : P.follows .mixedOrders = true) (hout : ¬ LetsOut Q) (hd : noDefer ops = true)
    (h : wpAnyH P .any ops Q S ops.size (Array.replicate ops.size false) a w.drew) : (Code.region id ops true).wpIn (Fence.wide.inRound l) n P Q a w :=
  wpIn_region_any hm (roundAny hout (noDefer_spec hd) _ _ _ _ (wpAny_of_held _ _ _ _ h))
theorem round_one {l n : Nat} {ops : Array Oper} {Q : Exit → Act → World → Prop} {rest : List Oper} {o : Oper} {a : Act} {w : World} (hgd : o.guard = none) (hd : ∀ c, o.op ≠ .defer c)
    (h : ∀ K : Act → World → Prop, (∀ a w, wpListIn (Fence.wide.inRound l) n P ops Q rest a w → K a w) → o.wp P a w K Q) : wpListIn (Fence.wide.inRound l) n P ops Q (o :: rest) a w :=
  wpListIn_plain hgd fun K hK => roundWp hd (fun _ _ h => h) (h K hK)
end
section
variable {l n : Nat} {w : World} {ops : Array Oper} {rest : List Oper} {o : Oper} {a : Act} {Q : Exit → Act → World → Prop}
theorem round_alloc37 (ho : o.op = .alloc 107) (hgd : o.guard = none)
    (h : wpListIn (Fence.wide.inRound l) n Tryz.prog ops Q rest (a.put o.dst (.pointer (some ⟨w.heap.size, 0, none⟩))) (w.alloc (.cells (u8s zsec).toArray 107))) : wpListIn (Fence.wide.inRound l) n Tryz.prog ops Q (o :: rest) a w :=
  round_one hgd (by rw [ho]; intro c e; cases e) fun K hK => by
    unfold Oper.wp execOp
    simp only [ho, Sem.run_bind]
    simp [Instr.alloc, zero37 w, newVar, newRow, sv, Value.cells]
    exact hK _ _ h
theorem round_laid {W : World} (x y : Operand) (ho : o.op = .store 107 x y) (hgd : o.guard = none) (S : Sec) (hW : W = w.alloc (.cells (u8s zsec).toArray 107)) (hx : a.eval x = .pointer (some ⟨w.heap.size, 0, none⟩)) (hy : a.eval y = sv S) (hS : S.length = 64)
    (h : ∀ w', w'.rangeAt w.heap.size 0 (u8s S) → Chg [] w w' → wpListIn (Fence.wide.inRound l) n Tryz.prog ops Q rest (a.put o.dst undef) w') : wpListIn (Fence.wide.inRound l) n Tryz.prog ops Q (o :: rest) a W := by
  subst hW
  refine round_one hgd (by rw [ho]; intro c e; cases e) fun K hK => ?_
  refine wp_store_mid _ x y ho w.heap.size 0 (u8s S).toArray hx hy (by simpa [hS] using there_box w zsec 107 zsec_len) (by simpa [hS] using info37) (all_oneCell_toArray (u8s_one S)) (hK _ _ (h _ ?_ ?_))
  · simpa using World.rangeAt_setCells_same _ _ _ _ (by rw [u8s_length, hS]; exact there_box w zsec _ zsec_len)
  · simpa using ((Chg.refl [] w).alloc _).setCells (Or.inr (Nat.le_refl _)) _ _
end
def NoPanic (Q : Exit → Act → World → Prop) : Exit → Act → World → Prop
  | .panic _, _, _ => False
  | e, a, w => Q e a w
theorem wp_noPanic {P : Program} {c : Code} {Q : Exit → Act → World → Prop} {a : Act} {w : World} (h : c.wp P (NoPanic Q) a w) : c.wp P Q a w :=
  Code.wp_mono (fun e a w h => by cases e <;> first | exact h | exact h.elim) h
theorem gen_w2 {M : Act → World → Prop} {A : Act} {X : World} (P : World → Prop) (hP : P X) (h : ∀ W, P W → M A W) : M A X := h X hP
theorem wpList_laid {w W : World} {ops : Array Oper} {rest : List Oper} {o : Oper} {a : Act} {Q : Exit → Act → World → Prop} (hgd : o.guard = none) (x y : Operand) (ho : o.op = .store 107 x y) (S : Sec) (hW : W = w.alloc (.cells (u8s zsec).toArray 107)) (hx : a.eval x = .pointer (some ⟨w.heap.size, 0, none⟩)) (hy : a.eval y = sv S) (hS : S.length = 64)
    (h : ∀ w', w'.rangeAt w.heap.size 0 (u8s S) → Chg [] w w' → wpList Tryz.prog ops Q rest (a.put o.dst undef) w') : wpList Tryz.prog ops Q (o :: rest) a W := by
  subst hW
  refine wpList_store37 hgd x y ho w.heap.size 0 S hx hy (there_box w zsec _ zsec_len) hS (h _ ?_ ?_)
  · exact World.rangeAt_setCells_same _ _ _ _ (by rw [u8s_length, hS]; exact there_box w zsec _ zsec_len)
  · exact ((Chg.refl [] w).alloc _).setCells (Or.inr (Nat.le_refl _)) _ _
theorem step_appK {P : Program} {w : World} {ops : Array Oper} {o : Oper} {a : Act} {K : Act → World → Prop} {Q : Exit → Act → World → Prop} {E : Prop} (hgd : o.guard = none) (s x : Operand) (t : TypeId)
    (ho : o.op = .call { callee := .builtin .append, args := #[s, x], argTypes := #[t, t] })
    (e : TypeId) (z : Value) (bytes : Nat) (ht : P.underlying t = some (.slice e)) (hinfo : (P.info? e).map (fun i => (i.zero, i.size, i.bytes)) = some (some z, 1, bytes)) (hzs : z.cells.size = 1)
    (v : Value) (xs : List Value) (hs : a.eval s = v) (hown : Lst w 0 e v xs)
    (A : Option Addr) (B m c : Nat) (news : List Value) (hx : a.eval x = .slice A m c) (hm : news.length = m) (hro : Ro w B A news) (h1 : ∀ u ∈ news, u.oneCell' = true)
    (hlen : (xs.length + m) * bytes ≤ 140737488355328) (hlen2 : xs.length + m ≤ 140737488355328)
    (h : ∀ v' w', Hid (AppK w w' e v v' xs news) → K (a.put o.dst v') w') :
    if Region.wanted o (yielded ops a.tmps) = true then Oper.wp P o a w K Q else E := by
  have hw : Region.wanted o (yielded ops a.tmps) = true := by simp [Region.wanted, hgd]
  rw [if_pos hw]
  exact wp_appK s x t ho e z bytes ht hinfo hzs v xs hs hown A B m c news hx hm hro h1 hlen hlen2 h
end Go.Proofs.YtcadnlilijkneaaGreat
