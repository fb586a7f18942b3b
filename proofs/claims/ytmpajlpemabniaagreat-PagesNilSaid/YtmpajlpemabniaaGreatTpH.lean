/-
  Contract of package tape's superOf. No claim of its own.
-/
import Derived.Test.YtmpajlpemabniaaGreatJ15
namespace Go.Proofs.YtmpajlpemabniaaGreat
open Go.RowKit
set_option linter.unusedVariables false
set_option linter.unusedSimpArgs false

/-- a sector is a superblock -/
def isSup (S : Sec) : Prop := ∃ h r b, h ≤ 1 ∧ r < 4294967296 ∧ b < 4294967296 ∧ S = supS h r b
/-- the numbers that a sector tells as a superblock -/
def supH (S : Sec) : Nat := (S.getD 0 0).toNat
def supR (S : Sec) : Nat := nb ((S.drop 1).take 4)
def supB (S : Sec) : Nat := nb ((S.drop 5).take 4)
theorem supR_lt {S : Sec} (h : S.length = 64) : supR S < 4294967296 := by
  have := nb_lt 4 ((S.drop 1).take 4) (by rw [List.length_take, List.length_drop]; omega)
  have h3 : (256 : Nat) ^ 4 = 4294967296 := by decide
  unfold supR; omega
theorem supB_lt {S : Sec} (h : S.length = 64) : supB S < 4294967296 := by
  have := nb_lt 4 ((S.drop 5).take 4) (by rw [List.length_take, List.length_drop]; omega)
  have h3 : (256 : Nat) ^ 4 = 4294967296 := by decide
  unfold supB; omega
theorem supH_lt (S : Sec) : supH S < 256 := UInt8.toNat_lt _
theorem sup_of {h r b : Nat} (hh : h ≤ 1) (hr : r < 4294967296) (hb : b < 4294967296) : supH (supS h r b) = h ∧ supR (supS h r b) = r ∧ supB (supS h r b) = b := by
  obtain ⟨a1, a2, a3⟩ := supS_parts (h := h) (r := r) (b := b)
  have h3 : (256 : Nat) ^ 4 = 4294967296 := by decide
  unfold supH supR supB
  rw [a1, a2, a3, nb_be 4 r (by omega), nb_be 4 b (by omega)]
  refine ⟨?_, rfl, rfl⟩
  simp
  omega
theorem isSup_iff {S : Sec} (hS : S.length = 64) : isSup S ↔ supH S ≤ 1 ∧ supS (supH S) (supR S) (supB S) = S := by
  constructor
  · rintro ⟨h, r, b, h1, h2, h3, rfl⟩
    obtain ⟨e1, e2, e3⟩ := sup_of h1 h2 h3
    rw [e1, e2, e3]
    exact ⟨h1, rfl⟩
  · rintro ⟨h1, h2⟩
    exact ⟨_, _, _, h1, supR_lt hS, supB_lt hS, h2.symm⟩
theorem exec_load37 {w : World} {a : Act} {o : Oper} {x : Operand} (ho : o.op = .load 59 x) (b off : Nat) (hx : a.eval x = .pointer (some ⟨b, off, none⟩)) (S : Sec) (hr : w.rangeAt b off (u8s S)) (hS : S.length = 64) : Sem.run Tryz.prog (execOp a.eval o) w = .ok (.value (sv S)) w := by
  unfold execOp
  simp only [ho, hx, Instr.loadAt, Instr.sureAddr, Sem.run_bind, Sem.run_pure, Result.andThen_ok, load37 hr hS]
theorem far3r {w : World} {B b o i j k : Nat} {x y z : Value} {vs : List Value} (h : w.rangeAt b o vs) (hne : b ≠ B) : (((w.setCell ⟨B, i, none⟩ x).setCell ⟨B, j, none⟩ y).setCell ⟨B, k, none⟩ z).rangeAt b o vs :=
  Chg.range (l := [B]) ((((Chg.refl _ w).setCell (by simp) _).setCell (by simp) _).setCell (by simp) _) h (by simp; exact hne)
theorem chg3 {a w : World} {B i j k : Nat} {x y z : Value} (h : Chg [] a w) (hB : a.heap.size ≤ B) : Chg [] a (((w.setCell ⟨B, i, none⟩ x).setCell ⟨B, j, none⟩ y).setCell ⟨B, k, none⟩ z) :=
  ((h.setCell (p := ⟨B, i, none⟩) (.inr hB) _).setCell (p := ⟨B, j, none⟩) (.inr hB) _).setCell (p := ⟨B, k, none⟩) (.inr hB) _
/-- a goal to which several ways lead is shown once -/
theorem both {G H : Prop} (main : G → H) (fin : G) : H := main fin
/-- what superOf tells -/
def SupT (S : Sec) (w : World) (e : Ending) (w' : World) : Prop :=
  e = .returned (.tuple #[pv (supH S) (supR S) (supB S), .bool (decide (supH S ≤ 1 ∧ supS (supH S) (supR S) (supB S) = S))]) ∧ Chg [] w w'
set_option maxHeartbeats 4000000 in
set_option maxRecDepth 100000 in
theorem superOf_any (w : World) (S : Sec) (hS : S.length = 64) :
    Calls Tryz.prog 77 #[sv S] w (SupT S w) := by
  obtain ⟨X, HX⟩ : ∃ X, Hid ((w.alloc (.cells (u8s S).toArray 59)).alloc (.cells #[.int .u8 0, .int .u32 0, .int .u32 0] 150) = X) := ⟨_, Lib.hid rfl⟩
  have hO : Own X w.heap.size 59 (u8s S) := by rw [← HX.out]; exact (Own.new w 59 (u8s S)).alloc _
  have hP : Own X (w.heap.size + 1) 150 [.int .u8 0, .int .u32 0, .int .u32 0] := by rw [← HX.out]; have := Own.new (w.alloc (.cells (u8s S).toArray 59)) 150 [.int .u8 0, .int .u32 0, .int .u32 0]; rwa [World.size_alloc] at this
  have hsX : X.heap.size = w.heap.size + 2 := by rw [← HX.out]; simp
  have hcell : ∀ W, Chg [] X W → ∀ i, i < 64 → W.cell? ⟨w.heap.size, i, none⟩ = some (.int .u8 ((S.getD i 0).toNat : Nat)) := fun W hW i hi => by
    rw [(hO.chg hW (by simp)).cell, List.getElem?_eq_getElem (by rw [u8s_length, hS]; exact hi)]
    simp [u8s, List.getD, hS, hi]
  have hnum : ∀ W k, Chg [] X W → k + 4 ≤ 64 → Calls Tryz.prog 131 #[.slice (some ⟨w.heap.size, k, none⟩) 4 (64 - k)] W fun e w' => e = .returned (.int .u32 ((nb ((S.drop k).take 4) : Nat) : Int)) ∧ W = w' := fun W k hW hk => by
    have e : ((S.drop k).take 4).length = 4 := by rw [List.length_take, List.length_drop, hS]; omega
    have h := number_any W (some ⟨w.heap.size, k, none⟩) ((S.drop k).take 4) (64 - k) W.heap.size (by
      refine .inr ⟨w.heap.size, k, rfl, by have := hW.size; omega, fun i hi => ?_⟩
      rw [u8s_length, e] at hi
      rw [hcell W hW _ (by omega), u8s_getD _ _ (by rw [e]; exact hi)]
      simp [List.getD, List.getElem?_take, hi, List.getElem?_drop]) (by omega)
    rw [e] at h
    exact h
  have c0 := hcell X (Chg.refl _ _) 0 (by omega)
  obtain ⟨x, HXX⟩ : ∃ x, Hid ((S.getD 0 0).toNat = x) := ⟨_, Lib.hid rfl⟩
  obtain ⟨r, HRR⟩ : ∃ r, Hid (nb ((S.drop 1).take 4) = r) := ⟨_, Lib.hid rfl⟩
  obtain ⟨b, HBB⟩ : ∃ b, Hid (nb ((S.drop 5).take 4) = b) := ⟨_, Lib.hid rfl⟩
  rw [HXX.out] at c0
  have h1 := fun W hW => hnum W 1 hW (by omega)
  have h2 := fun W hW => hnum W 5 hW (by omega)
  simp only [HRR.out] at h1
  simp only [HBB.out] at h2
  have H1 := Lib.hid h1
  have H2 := Lib.hid h2
  clear h1 h2
  have HO := Lib.hid hO
  have HP := Lib.hid hP
  have HS := Lib.hid hsX
  have hCX : Chg [] w X := by rw [← HX.out]; exact ((Chg.refl [] w).alloc _).alloc _
  have HC := Lib.hid hCX
  have HL := Lib.hid hS
  clear hO hP hsX hcell hnum hCX hS
  go_enter Tryz.func77, Tryz.ntmps77
  go_wp2_with (first
    | (refine wpList_box37 rfl _ rfl S rfl ?_)
    | fail)
  simp only [HX.out]
  apply both
  intro FIN
  refine wp_region_held_drew (S := (fun w' => w'.cell? ⟨w.heap.size, 0, none⟩ = some (.int .u8 (x : Int)) ∧ Chg [] X w')) (by kernel_rfl) ⟨c0, (Chg.refl [] X).drew⟩ (fun hHeld => ?_)
  refine wpAnyH_take (i := 0) (v := ?_) rfl (by kernel_rfl) (by kernel_rfl) (by kernel_rfl) (fun _ _ _ h => h) (Or.inl ⟨by kernel_rfl, ?_⟩) hHeld ?_
  rotate_left
  · (intro w hSw; first | (go_simp; done) | (go_simp; with_reducible rfl))
  (try simp only [Act.put, List.getElem_toArray, List.getElem_cons_succ, List.getElem_cons_zero, List.setIfInBounds_toArray, List.set_cons_zero, List.set_cons_succ])
  refine wpAnyH_take (i := 1) (v := ?_) rfl (by kernel_rfl) (by kernel_rfl) (by kernel_rfl) (fun _ _ _ h => h) (Or.inl ⟨by kernel_rfl, ?_⟩) hHeld ?_
  rotate_left
  · (intro w hSw; first | (go_simp; done) | (go_simp; with_reducible rfl))
  (try simp only [Act.put, List.getElem_toArray, List.getElem_cons_succ, List.getElem_cons_zero, List.setIfInBounds_toArray, List.set_cons_zero, List.set_cons_succ])
  refine wpAnyH_take (i := 2) (v := ?_) rfl (by kernel_rfl) (by kernel_rfl) (by kernel_rfl) (fun _ _ _ h => h) (Or.inl ⟨by kernel_rfl, ?_⟩) hHeld ?_
  rotate_left
  · (intro w hSw; first | (go_simp; done) | (go_simp; with_reducible rfl))
  (try simp only [Act.put, List.getElem_toArray, List.getElem_cons_succ, List.getElem_cons_zero, List.setIfInBounds_toArray, List.set_cons_zero, List.set_cons_succ])
  refine wpAnyH_take (i := 4) (v := ?_) rfl (by kernel_rfl) (by kernel_rfl) (by kernel_rfl) (fun _ _ _ h => h) (Or.inl ⟨by kernel_rfl, ?_⟩) hHeld ?_
  rotate_left
  · (intro w hSw; first | (go_simp; done) | (go_simp; with_reducible rfl))
  (try simp only [Act.put, List.getElem_toArray, List.getElem_cons_succ, List.getElem_cons_zero, List.setIfInBounds_toArray, List.set_cons_zero, List.set_cons_succ])
  refine wpAnyH_ready (rs := [3,7]) (by kernel_rfl) (by simp) (AllReadyH.cons rfl (fun K hK => ?_) (AllReadyH.cons rfl (fun K hK => ?_) AllReadyH.nil))
  · have hH := hHeld
    (go_simp; go_at_call 131; refine (H1.out _ hH.2).mono ?_; rintro e w9 ⟨rfl, rfl⟩)
    refine hK.out _ _ (by exact hH) (fun hHq1 => ?_)
    clear hK K hH 
    (try simp only [Act.put, List.getElem_toArray, List.getElem_cons_succ, List.getElem_cons_zero, List.setIfInBounds_toArray, List.set_cons_zero, List.set_cons_succ])
    refine wpAnyH_ready (rs := [5,7]) (by kernel_rfl) (by simp) (AllReadyH.cons rfl (fun K hK => ?_) (AllReadyH.cons rfl (fun K hK => ?_) AllReadyH.nil))
    · have hH := hHq1
      (go_simp; go_at_call 131; refine (H2.out _ hH.2).mono ?_; rintro e w9 ⟨rfl, rfl⟩)
      refine hK.out _ _ (by exact hH) (fun hHq2 => ?_)
      clear hK K hH hHq1
      (try simp only [Act.put, List.getElem_toArray, List.getElem_cons_succ, List.getElem_cons_zero, List.setIfInBounds_toArray, List.set_cons_zero, List.set_cons_succ])
      refine wpAnyH_take (i := 6) (v := ?_) rfl (by kernel_rfl) (by kernel_rfl) (by kernel_rfl) (fun _ _ _ h => h) (Or.inl ⟨by kernel_rfl, ?_⟩) hHq2 ?_
      rotate_left
      · (intro w hSw; first | (go_simp; done) | (go_simp; with_reducible rfl))
      (try simp only [Act.put, List.getElem_toArray, List.getElem_cons_succ, List.getElem_cons_zero, List.setIfInBounds_toArray, List.set_cons_zero, List.set_cons_succ])
      refine wpAnyH_ready (rs := [7]) (by kernel_rfl) (by simp) (AllReadyH.cons rfl (fun K hK => ?_) AllReadyH.nil)
      have hH := hHq2
      (go_simp; skip)
      refine hK.out _ _ (by exact ⟨(((Chg.refl [] _).alloc _).cell hH.1 (by simp)), hH.2.alloc _⟩) (fun hHq3 => ?_)
      clear hK K hH hHq2
      (try simp only [Act.put, List.getElem_toArray, List.getElem_cons_succ, List.getElem_cons_zero, List.setIfInBounds_toArray, List.set_cons_zero, List.set_cons_succ])
      refine wpAnyH_ready (rs := [8]) (by kernel_rfl) (by simp) (AllReadyH.cons rfl (fun K hK => ?_) AllReadyH.nil)
      have hH := hHq3
      (go_simp; skip)
      refine hK.out _ _ (by exact ⟨(((Chg.refl [] X).alloc _).cell c0 (by simp)), ((Chg.refl [] X).alloc _).drew⟩) (fun hHq4 => ?_)
      clear hK K hH hHq3
      (try simp only [Act.put, List.getElem_toArray, List.getElem_cons_succ, List.getElem_cons_zero, List.setIfInBounds_toArray, List.set_cons_zero, List.set_cons_succ])
      refine wpAnyH_done (by kernel_rfl) ?_ _
      have hEnd := hHq4
      exact FIN
    · have hH := hHq1
      (go_simp; skip)
      refine hK.out _ _ (by exact ⟨(((Chg.refl [] _).alloc _).cell hH.1 (by simp)), hH.2.alloc _⟩) (fun hHq5 => ?_)
      clear hK K hH hHq1
      (try simp only [Act.put, List.getElem_toArray, List.getElem_cons_succ, List.getElem_cons_zero, List.setIfInBounds_toArray, List.set_cons_zero, List.set_cons_succ])
      refine wpAnyH_ready (rs := [5]) (by kernel_rfl) (by simp) (AllReadyH.cons rfl (fun K hK => ?_) AllReadyH.nil)
      have hH := hHq5
      (go_simp; go_at_call 131; refine (H2.out _ hH.2).mono ?_; rintro e w9 ⟨rfl, rfl⟩)
      refine hK.out _ _ (by exact hH) (fun hHq6 => ?_)
      clear hK K hH hHq5
      (try simp only [Act.put, List.getElem_toArray, List.getElem_cons_succ, List.getElem_cons_zero, List.setIfInBounds_toArray, List.set_cons_zero, List.set_cons_succ])
      refine wpAnyH_take (i := 6) (v := ?_) rfl (by kernel_rfl) (by kernel_rfl) (by kernel_rfl) (fun _ _ _ h => h) (Or.inl ⟨by kernel_rfl, ?_⟩) hHq6 ?_
      rotate_left
      · (intro w hSw; first | (go_simp; done) | (go_simp; with_reducible rfl))
      (try simp only [Act.put, List.getElem_toArray, List.getElem_cons_succ, List.getElem_cons_zero, List.setIfInBounds_toArray, List.set_cons_zero, List.set_cons_succ])
      refine wpAnyH_ready (rs := [8]) (by kernel_rfl) (by simp) (AllReadyH.cons rfl (fun K hK => ?_) AllReadyH.nil)
      have hH := hHq6
      (go_simp; skip)
      refine hK.out _ _ (by exact ⟨(((Chg.refl [] X).alloc _).cell c0 (by simp)), ((Chg.refl [] X).alloc _).drew⟩) (fun hHq7 => ?_)
      clear hK K hH hHq6
      (try simp only [Act.put, List.getElem_toArray, List.getElem_cons_succ, List.getElem_cons_zero, List.setIfInBounds_toArray, List.set_cons_zero, List.set_cons_succ])
      refine wpAnyH_done (by kernel_rfl) ?_ _
      have hEnd := hHq7
      exact FIN
  · have hH := hHeld
    (go_simp; skip)
    refine hK.out _ _ (by exact ⟨(((Chg.refl [] _).alloc _).cell hH.1 (by simp)), hH.2.alloc _⟩) (fun hHq8 => ?_)
    clear hK K hH 
    (try simp only [Act.put, List.getElem_toArray, List.getElem_cons_succ, List.getElem_cons_zero, List.setIfInBounds_toArray, List.set_cons_zero, List.set_cons_succ])
    refine wpAnyH_ready (rs := [3]) (by kernel_rfl) (by simp) (AllReadyH.cons rfl (fun K hK => ?_) AllReadyH.nil)
    have hH := hHq8
    (go_simp; go_at_call 131; refine (H1.out _ hH.2).mono ?_; rintro e w9 ⟨rfl, rfl⟩)
    refine hK.out _ _ (by exact hH) (fun hHq9 => ?_)
    clear hK K hH hHq8
    (try simp only [Act.put, List.getElem_toArray, List.getElem_cons_succ, List.getElem_cons_zero, List.setIfInBounds_toArray, List.set_cons_zero, List.set_cons_succ])
    refine wpAnyH_ready (rs := [5]) (by kernel_rfl) (by simp) (AllReadyH.cons rfl (fun K hK => ?_) AllReadyH.nil)
    have hH := hHq9
    (go_simp; go_at_call 131; refine (H2.out _ hH.2).mono ?_; rintro e w9 ⟨rfl, rfl⟩)
    refine hK.out _ _ (by exact hH) (fun hHq10 => ?_)
    clear hK K hH hHq9
    (try simp only [Act.put, List.getElem_toArray, List.getElem_cons_succ, List.getElem_cons_zero, List.setIfInBounds_toArray, List.set_cons_zero, List.set_cons_succ])
    refine wpAnyH_take (i := 6) (v := ?_) rfl (by kernel_rfl) (by kernel_rfl) (by kernel_rfl) (fun _ _ _ h => h) (Or.inl ⟨by kernel_rfl, ?_⟩) hHq10 ?_
    rotate_left
    · (intro w hSw; first | (go_simp; done) | (go_simp; with_reducible rfl))
    (try simp only [Act.put, List.getElem_toArray, List.getElem_cons_succ, List.getElem_cons_zero, List.setIfInBounds_toArray, List.set_cons_zero, List.set_cons_succ])
    refine wpAnyH_ready (rs := [8]) (by kernel_rfl) (by simp) (AllReadyH.cons rfl (fun K hK => ?_) AllReadyH.nil)
    have hH := hHq10
    (go_simp; skip)
    refine hK.out _ _ (by exact ⟨(((Chg.refl [] X).alloc _).cell c0 (by simp)), ((Chg.refl [] X).alloc _).drew⟩) (fun hHq11 => ?_)
    clear hK K hH hHq10
    (try simp only [Act.put, List.getElem_toArray, List.getElem_cons_succ, List.getElem_cons_zero, List.setIfInBounds_toArray, List.set_cons_zero, List.set_cons_succ])
    refine wpAnyH_done (by kernel_rfl) ?_ _
    have hEnd := hHq11
    exact FIN
  obtain ⟨Y, HY⟩ : ∃ Y, Hid ((X.alloc (.cells #[.int .u8 (x : Int), .int .u32 (r : Int), .int .u32 (b : Int)] 150)).drew = Y) := ⟨_, Lib.hid rfl⟩
  have hCY : Chg [] X Y := by rw [← HY.out]; exact ((Chg.refl [] X).alloc _).drew
  have hQ : Own Y X.heap.size 150 [.int .u8 (x : Int), .int .u32 (r : Int), .int .u32 (b : Int)] := by rw [← HY.out]; exact (Own.new X 150 [.int .u8 (x : Int), .int .u32 (r : Int), .int .u32 (b : Int)])
  have hPY := HP.out.chg hCY (by simp)
  have hOY := HO.out.chg hCY (by simp)
  have hx : x < 256 := by rw [← HXX.out]; exact UInt8.toNat_lt _
  have hr : r < 4294967296 := by rw [← HRR.out]; exact supR_lt HL.out
  have hb : b < 4294967296 := by rw [← HBB.out]; exact supB_lt HL.out
  have HSE := Lib.hid (fun W => sector_any W x r b hx hr hb)
  have hrg : Y.rangeAt w.heap.size 0 (u8s S) := fun j v hv => by rw [Nat.zero_add, hOY.cell]; exact hv
  have d0 := hQ.cell 0
  have d1 := hQ.cell 1
  have d2 := hQ.cell 2
  simp at d0 d1 d2
  have HD := Lib.hid (And.intro d0 (And.intro d1 (And.intro d2 hrg)))
  have HPY := Lib.hid hPY
  have hqs : X.heap.size ≠ w.heap.size + 1 := by have := HS.out; omega
  have hqb : w.heap.size + 1 < Y.heap.size := hPY.lt
  have HCY := Lib.hid (HC.out.trans hCY)
  clear hQ hPY hOY hCY d0 d1 d2 hrg c0 H1 H2
  simp only [HY.out]
  by_cases hx1 : x ≤ 1
  case' pos =>
    have hd : decide ((x : Int) ≤ 1) = true := by simp; omega
    have he : ∀ W, (binOp .eql 59 (sv (supS x r b)) (sv S)).run Tryz.prog W = .ok (.bool (decide (supS x r b = S))) W := run_eql_sec 59 Tryz.underlying59 (supS x r b) S (supS_len _ _ _) HL.out
    have HE := Lib.hid (show decide (supS x r b = S) = decide (supH S ≤ 1 ∧ supS (supH S) (supR S) (supB S) = S) by
      rw [decide_eq_decide]
      unfold supH supR supB
      rw [HXX.out, HRR.out, HBB.out]
      exact ⟨fun h => ⟨hx1, h⟩, fun h => h.2⟩)
    obtain ⟨T, HT⟩ : ∃ T, Hid (supS x r b = T) := ⟨_, Lib.hid rfl⟩
    obtain ⟨q, HQ⟩ : ∃ q, Hid (decide (supS x r b = S) = q) := ⟨_, Lib.hid rfl⟩
    simp only [HQ.out] at he
    rw [HQ.out] at HE
    rw [HT.out] at he HSE
    have hTl : T.length = 64 := by rw [← HT.out]; exact supS_len _ _ _
    go_wp2_with fail
    refine wp_region_held_drew (S := (fun w' => w'.cell? ⟨X.heap.size, 0, none⟩ = some (.int .u8 (x : Int)) ∧ w'.cell? ⟨X.heap.size, 1, none⟩ = some (.int .u32 (r : Int)) ∧ w'.cell? ⟨X.heap.size, 2, none⟩ = some (.int .u32 (b : Int)) ∧ w'.rangeAt w.heap.size 0 (u8s S))) (by kernel_rfl) HD.out (fun hHeld => ?_)
    refine wpAnyH_take (i := 0) (v := ?_) rfl (by kernel_rfl) (by kernel_rfl) (by kernel_rfl) (fun _ _ _ h => h) (Or.inl ⟨by kernel_rfl, ?_⟩) hHeld ?_
    rotate_left
    · (intro w hSw; first | (go_simp; done) | (go_simp; with_reducible rfl))
    (try simp only [Act.put, List.getElem_toArray, List.getElem_cons_succ, List.getElem_cons_zero, List.setIfInBounds_toArray, List.set_cons_zero, List.set_cons_succ])
    refine wpAnyH_take (i := 1) (v := ?_) rfl (by kernel_rfl) (by kernel_rfl) (by kernel_rfl) (fun _ _ _ h => h) (Or.inl ⟨by kernel_rfl, ?_⟩) hHeld ?_
    rotate_left
    · (intro w hSw; first | (go_simp; done) | (go_simp; with_reducible rfl))
    (try simp only [Act.put, List.getElem_toArray, List.getElem_cons_succ, List.getElem_cons_zero, List.setIfInBounds_toArray, List.set_cons_zero, List.set_cons_succ])
    refine wpAnyH_take (i := 2) (v := ?_) rfl (by kernel_rfl) (by kernel_rfl) (by kernel_rfl) (fun _ _ _ h => h) (Or.inl ⟨by kernel_rfl, ?_⟩) hHeld ?_
    rotate_left
    · (intro w hSw; first | (go_simp; done) | (go_simp; with_reducible rfl))
    (try simp only [Act.put, List.getElem_toArray, List.getElem_cons_succ, List.getElem_cons_zero, List.setIfInBounds_toArray, List.set_cons_zero, List.set_cons_succ])
    refine wpAnyH_take (i := 3) (v := ?_) rfl (by kernel_rfl) (by kernel_rfl) (by kernel_rfl) (fun _ _ _ h => h) (Or.inl ⟨by kernel_rfl, ?_⟩) hHeld ?_
    rotate_left
    · (intro w hSw; first | (go_simp; done) | (go_simp; with_reducible rfl))
    (try simp only [Act.put, List.getElem_toArray, List.getElem_cons_succ, List.getElem_cons_zero, List.setIfInBounds_toArray, List.set_cons_zero, List.set_cons_succ])
    refine wpAnyH_take (i := 4) (v := ?_) rfl (by kernel_rfl) (by kernel_rfl) (by kernel_rfl) (fun _ _ _ h => h) (Or.inl ⟨by kernel_rfl, ?_⟩) hHeld ?_
    rotate_left
    · (intro w hSw; first | (go_simp; done) | (go_simp; with_reducible rfl))
    (try simp only [Act.put, List.getElem_toArray, List.getElem_cons_succ, List.getElem_cons_zero, List.setIfInBounds_toArray, List.set_cons_zero, List.set_cons_succ])
    refine wpAnyH_take (i := 5) (v := ?_) rfl (by kernel_rfl) (by kernel_rfl) (by kernel_rfl) (fun _ _ _ h => h) (Or.inl ⟨by kernel_rfl, ?_⟩) hHeld ?_
    rotate_left
    · (intro w hSw; first | (go_simp; done) | (go_simp; with_reducible rfl))
    (try simp only [Act.put, List.getElem_toArray, List.getElem_cons_succ, List.getElem_cons_zero, List.setIfInBounds_toArray, List.set_cons_zero, List.set_cons_succ])
    refine wpAnyH_take (i := 7) (v := sv S) rfl (by kernel_rfl) (by kernel_rfl) (by kernel_rfl) (fun _ _ _ h => h) (Or.inl ⟨by kernel_rfl, ?_⟩) hHeld ?_
    · (intro w hSw; exact exec_load37 rfl _ 0 rfl S hSw.2.2.2 HL.out)
    (try simp only [Act.put, List.getElem_toArray, List.getElem_cons_succ, List.getElem_cons_zero, List.setIfInBounds_toArray, List.set_cons_zero, List.set_cons_succ])
    refine wpAnyH_ready (rs := [6]) (by kernel_rfl) (by simp) (AllReadyH.cons rfl (fun K hK => ?_) AllReadyH.nil)
    have hH := hHeld
    (go_simp; go_at_call 132; refine (HSE.out _).mono ?_; rintro e w9 ⟨rfl, hc9⟩)
    refine hK.out _ _ (by exact ⟨hc9.cell hH.1 (by simp), hc9.cell hH.2.1 (by simp), hc9.cell hH.2.2.1 (by simp), hc9.range hH.2.2.2 (by simp)⟩) (fun hHq1 => ?_)
    clear hK K hH 
    have hP9 := HPY.out.chg (((Chg.refl [] Y).drew).trans hc9) (by simp); have s0 := hP9.cell 0; have s1 := hP9.cell 1; have s2 := hP9.cell 2; have f0 := hP9.frozen 0; have f1 := hP9.frozen 1; have f2 := hP9.frozen 2; simp at s0 s1 s2
    (try simp only [Act.put, List.getElem_toArray, List.getElem_cons_succ, List.getElem_cons_zero, List.setIfInBounds_toArray, List.set_cons_zero, List.set_cons_succ])
    refine wpAnyH_take (i := 8) (v := ?_) rfl (by kernel_rfl) (by kernel_rfl) (by kernel_rfl) (fun _ _ _ h => h) (Or.inl ⟨by kernel_rfl, ?_⟩) hHq1 ?_
    rotate_left
    · (intro w hSw; first | (go_simp; done) | (go_simp; with_reducible rfl))
    (try simp only [Act.put, List.getElem_toArray, List.getElem_cons_succ, List.getElem_cons_zero, List.setIfInBounds_toArray, List.set_cons_zero, List.set_cons_succ])
    refine wpAnyH_take (i := 9) (v := ?_) rfl (by kernel_rfl) (by kernel_rfl) (by kernel_rfl) (fun _ _ _ h => h) (Or.inl ⟨by kernel_rfl, ?_⟩) hHq1 ?_
    rotate_left
    · (intro w hSw; first | (go_simp; done) | (go_simp; with_reducible rfl))
    (try simp only [Act.put, List.getElem_toArray, List.getElem_cons_succ, List.getElem_cons_zero, List.setIfInBounds_toArray, List.set_cons_zero, List.set_cons_succ])
    refine wpAnyH_ready (rs := [10]) (by kernel_rfl) (by simp) (AllReadyH.cons rfl (fun K hK => ?_) AllReadyH.nil)
    have hH := hHq1
    (go_simp; skip)
    refine hK.out _ _ (by exact ⟨far3 hH.1 hqs, far3 hH.2.1 hqs, far3 hH.2.2.1 hqs, far3r hH.2.2.2 (by omega)⟩) (fun hHq2 => ?_)
    clear hK K hH hHq1
    (try simp only [Act.put, List.getElem_toArray, List.getElem_cons_succ, List.getElem_cons_zero, List.setIfInBounds_toArray, List.set_cons_zero, List.set_cons_succ])
    refine wpAnyH_take (i := 11) (v := ?_) rfl (by kernel_rfl) (by kernel_rfl) (by kernel_rfl) (fun _ _ _ h => h) (Or.inl ⟨by kernel_rfl, ?_⟩) hHq2 ?_
    rotate_left
    · (intro w hSw; first | (go_simp; done) | (go_simp; with_reducible rfl))
    (try simp only [Act.put, List.getElem_toArray, List.getElem_cons_succ, List.getElem_cons_zero, List.setIfInBounds_toArray, List.set_cons_zero, List.set_cons_succ])
    refine wpAnyH_done (by kernel_rfl) ?_ _
    have hEnd := hHq2
    have hC9 : Chg [] Y w9 := ((Chg.refl [] Y).drew).trans hc9
    clear hEnd hHeld
    go_wp2_with fail
    refine bodyPost_ret (v := .tuple #[pv x r b, .bool q]) (by simp [results, Tryz.results77, go_sem, s0, s1, s2, f0, f1, f2]) rfl ⟨?_, ?_⟩
    · rw [← HE.out]
      unfold supH supR supB
      rw [HXX.out, HRR.out, HBB.out]
    · exact chg3 (HCY.out.trans hC9) (by omega)
  case' neg =>
    have hd : decide ((x : Int) ≤ 1) = false := by simp; omega
    have HE := Lib.hid (show decide (supH S ≤ 1 ∧ supS (supH S) (supR S) (supB S) = S) = false by
      refine decide_eq_false fun h => hx1 ?_
      have := h.1
      unfold supH at this
      rw [HXX.out] at this
      exact this)
    have s0 := HPY.out.cell 0
    have s1 := HPY.out.cell 1
    have s2 := HPY.out.cell 2
    have f0 := HPY.out.frozen 0
    have f1 := HPY.out.frozen 1
    have f2 := HPY.out.frozen 2
    simp at s0 s1 s2
    go_wp2_with fail
    refine wp_region_held_drew (S := (fun w' => w'.cell? ⟨X.heap.size, 0, none⟩ = some (.int .u8 (x : Int)) ∧ w'.cell? ⟨X.heap.size, 1, none⟩ = some (.int .u32 (r : Int)) ∧ w'.cell? ⟨X.heap.size, 2, none⟩ = some (.int .u32 (b : Int)) ∧ w'.rangeAt w.heap.size 0 (u8s S))) (by kernel_rfl) HD.out (fun hHeld => ?_)
    refine wpAnyH_take (i := 0) (v := ?_) rfl (by kernel_rfl) (by kernel_rfl) (by kernel_rfl) (fun _ _ _ h => h) (Or.inl ⟨by kernel_rfl, ?_⟩) hHeld ?_
    rotate_left
    · (intro w hSw; first | (go_simp; done) | (go_simp; with_reducible rfl))
    (try simp only [Act.put, List.getElem_toArray, List.getElem_cons_succ, List.getElem_cons_zero, List.setIfInBounds_toArray, List.set_cons_zero, List.set_cons_succ])
    refine wpAnyH_take (i := 1) (v := ?_) rfl (by kernel_rfl) (by kernel_rfl) (by kernel_rfl) (fun _ _ _ h => h) (Or.inl ⟨by kernel_rfl, ?_⟩) hHeld ?_
    rotate_left
    · (intro w hSw; first | (go_simp; done) | (go_simp; with_reducible rfl))
    (try simp only [Act.put, List.getElem_toArray, List.getElem_cons_succ, List.getElem_cons_zero, List.setIfInBounds_toArray, List.set_cons_zero, List.set_cons_succ])
    refine wpAnyH_take (i := 2) (v := ?_) rfl (by kernel_rfl) (by kernel_rfl) (by kernel_rfl) (fun _ _ _ h => h) (Or.inl ⟨by kernel_rfl, ?_⟩) hHeld ?_
    rotate_left
    · (intro w hSw; first | (go_simp; done) | (go_simp; with_reducible rfl))
    (try simp only [Act.put, List.getElem_toArray, List.getElem_cons_succ, List.getElem_cons_zero, List.setIfInBounds_toArray, List.set_cons_zero, List.set_cons_succ])
    refine wpAnyH_take (i := 3) (v := ?_) rfl (by kernel_rfl) (by kernel_rfl) (by kernel_rfl) (fun _ _ _ h => h) (Or.inl ⟨by kernel_rfl, ?_⟩) hHeld ?_
    rotate_left
    · (intro w hSw; first | (go_simp; done) | (go_simp; with_reducible rfl))
    (try simp only [Act.put, List.getElem_toArray, List.getElem_cons_succ, List.getElem_cons_zero, List.setIfInBounds_toArray, List.set_cons_zero, List.set_cons_succ])
    refine wpAnyH_take (i := 4) (v := ?_) rfl (by kernel_rfl) (by kernel_rfl) (by kernel_rfl) (fun _ _ _ h => h) (Or.inl ⟨by kernel_rfl, ?_⟩) hHeld ?_
    rotate_left
    · (intro w hSw; first | (go_simp; done) | (go_simp; with_reducible rfl))
    (try simp only [Act.put, List.getElem_toArray, List.getElem_cons_succ, List.getElem_cons_zero, List.setIfInBounds_toArray, List.set_cons_zero, List.set_cons_succ])
    refine wpAnyH_take (i := 5) (v := undef) rfl (by kernel_rfl) (by kernel_rfl) (by kernel_rfl) (fun _ _ _ h => h) (Or.inr ⟨by kernel_rfl, rfl⟩) hHeld ?_
    (try simp only [Act.put, List.getElem_toArray, List.getElem_cons_succ, List.getElem_cons_zero, List.setIfInBounds_toArray, List.set_cons_zero, List.set_cons_succ])
    refine wpAnyH_take (i := 6) (v := undef) rfl (by kernel_rfl) (by kernel_rfl) (by kernel_rfl) (fun _ _ _ h => h) (Or.inr ⟨by kernel_rfl, rfl⟩) hHeld ?_
    (try simp only [Act.put, List.getElem_toArray, List.getElem_cons_succ, List.getElem_cons_zero, List.setIfInBounds_toArray, List.set_cons_zero, List.set_cons_succ])
    refine wpAnyH_take (i := 7) (v := undef) rfl (by kernel_rfl) (by kernel_rfl) (by kernel_rfl) (fun _ _ _ h => h) (Or.inr ⟨by kernel_rfl, rfl⟩) hHeld ?_
    (try simp only [Act.put, List.getElem_toArray, List.getElem_cons_succ, List.getElem_cons_zero, List.setIfInBounds_toArray, List.set_cons_zero, List.set_cons_succ])
    refine wpAnyH_take (i := 8) (v := undef) rfl (by kernel_rfl) (by kernel_rfl) (by kernel_rfl) (fun _ _ _ h => h) (Or.inr ⟨by kernel_rfl, rfl⟩) hHeld ?_
    (try simp only [Act.put, List.getElem_toArray, List.getElem_cons_succ, List.getElem_cons_zero, List.setIfInBounds_toArray, List.set_cons_zero, List.set_cons_succ])
    refine wpAnyH_take (i := 9) (v := ?_) rfl (by kernel_rfl) (by kernel_rfl) (by kernel_rfl) (fun _ _ _ h => h) (Or.inl ⟨by kernel_rfl, ?_⟩) hHeld ?_
    rotate_left
    · (intro w hSw; first | (go_simp; done) | (go_simp; with_reducible rfl))
    (try simp only [Act.put, List.getElem_toArray, List.getElem_cons_succ, List.getElem_cons_zero, List.setIfInBounds_toArray, List.set_cons_zero, List.set_cons_succ])
    refine wpAnyH_ready (rs := [10]) (by kernel_rfl) (by simp) (AllReadyH.cons rfl (fun K hK => ?_) AllReadyH.nil)
    have hH := hHeld
    (go_simp; skip)
    refine hK.out _ _ (by exact ⟨far3 hH.1 hqs, far3 hH.2.1 hqs, far3 hH.2.2.1 hqs, far3r hH.2.2.2 (by omega)⟩) (fun hHq1 => ?_)
    clear hK K hH 
    (try simp only [Act.put, List.getElem_toArray, List.getElem_cons_succ, List.getElem_cons_zero, List.setIfInBounds_toArray, List.set_cons_zero, List.set_cons_succ])
    refine wpAnyH_take (i := 11) (v := ?_) rfl (by kernel_rfl) (by kernel_rfl) (by kernel_rfl) (fun _ _ _ h => h) (Or.inl ⟨by kernel_rfl, ?_⟩) hHq1 ?_
    rotate_left
    · (intro w hSw; first | (go_simp; done) | (go_simp; with_reducible rfl))
    (try simp only [Act.put, List.getElem_toArray, List.getElem_cons_succ, List.getElem_cons_zero, List.setIfInBounds_toArray, List.set_cons_zero, List.set_cons_succ])
    refine wpAnyH_done (by kernel_rfl) ?_ _
    have hEnd := hHq1
    clear hEnd hHeld
    go_wp2_with fail
    refine bodyPost_ret (v := .tuple #[pv x r b, .bool false]) (by simp [results, Tryz.results77, go_sem, s0, s1, s2, f0, f1, f2]) rfl ⟨?_, ?_⟩
    · rw [HE.out]
      unfold supH supR supB
      rw [HXX.out, HRR.out, HBB.out]
    · exact chg3 HCY.out.drew (by omega)
end Go.Proofs.YtmpajlpemabniaaGreat
