/-
  Contracts of the document's Drop, Add and Meet of lists of runs. No claim of its own.
-/
import Derived.Test.YtoadbkiklabceaaNm
import Derived.Test.YtoadbkiklabceaaAli
namespace Go.Proofs.Ytoadbkiklabceaa
open Go.RowKit Go.Shelf Go.Deep
set_option linter.unusedVariables false
set_option linter.unusedSimpArgs false

def cutsL (L : List Rn) (r : Rn) : List Rn := L.flatMap fun x => [(x.1, min x.2 r.1), (max x.1 r.2, x.2)]
theorem mem_cutsL {r : Rn} (hr : r.1 < r.2) {L : List Rn} (hL : ∀ x ∈ L, x.1 < x.2) (n : Nat) : mem (cutsL L r) n = (mem L n && !inR r n) := by
  unfold cutsL
  induction L with
  | nil => rfl
  | cons x L ih =>
    rw [List.flatMap_cons, mem_append, ih fun y hy => hL y (by simp [hy])]
    have hx := hL x (by simp)
    have e : mem [(x.1, min x.2 r.1), (max x.1 r.2, x.2)] n = (inR x n && !inR r n) := by
      simp only [mem_cons, mem_nil, Bool.or_false]
      have e1 : ∀ z : Rn, inR z n = decide (z.1 ≤ n ∧ n < z.2) := fun z => by simp [inR]
      rw [e1, e1, e1, e1, Bool.eq_iff_iff]
      simp only [Bool.or_eq_true, Bool.and_eq_true, Bool.not_eq_true', decide_eq_true_eq, decide_eq_false_iff_not]
      omega
    rw [e, mem_cons]
    cases inR x n <;> cases mem L n <;> cases inR r n <;> rfl
theorem cutsL_len (L : List Rn) (r : Rn) : (cutsL L r).length = L.length * 2 := by
  unfold cutsL
  induction L with
  | nil => rfl
  | cons x L ih => rw [List.flatMap_cons, List.length_append, ih]; simp; omega
theorem cutsL_snoc (L : List Rn) (r x : Rn) : cutsL (L ++ [x]) r = cutsL L r ++ [(x.1, min x.2 r.1), (max x.1 r.2, x.2)] := by simp [cutsL]
theorem norm_drop {L M : List Rn} {r : Rn} (hL : NF L) (hM : NF M) (hr : r.1 < r.2) (h : ∀ q, mem M q = mem (cutsL L r) q) : M = cutL L r := by
  obtain ⟨h1, h2⟩ := cutL_ok hL r
  exact hM.ext h1 fun n => by rw [h, h2, mem_cutsL hr hL.nonempty]
theorem norm_same {L M : List Rn} (hL : NF L) (hM : NF M) (h : ∀ q, mem M q = mem L q) : M = L := hM.ext hL h
theorem norm_add {L M : List Rn} {r : Rn} (hL : NF L) (hM : NF M) (h : ∀ q, mem M q = mem (L ++ [r]) q) : M = putL L r := by
  obtain ⟨h1, h2⟩ := putL_ok hL r
  exact hM.ext h1 fun n => by rw [h, h2, mem_append]; simp
set_option maxHeartbeats 2000000 in
set_option maxRecDepth 100000 in
theorem rDrop_any (w : World) (a : Option Addr) (L : List Rn) (c B0 : Nat) (hro : Ro w B0 a (rcs L)) (hB0 : B0 ≤ w.heap.size) (hN : NF L) (hl : L.length ≤ 100000) (r : Rn) :
    Calls Try.prog 14 #[.slice a L.length c, rv r] w fun e w' => ∃ v, e = .returned v ∧ Lr w' w.heap.size 31 v (cutL L r) ∧ Below w.heap.size w w' := by
  obtain ⟨n, HN⟩ : ∃ n, Hid (L.length = n) := ⟨_, Lib.hid rfl⟩
  rw [HN.out] at hl ⊢
  have HR := Lib.hid (hro.mono hB0)
  have HNF := Lib.hid hN
  clear hro hN
  by_cases hr : r.1 < r.2
  · have hd0 : decide (r.2 ≤ r.1) = false := by simp; exact hr
    have HRR := Lib.hid hr
    obtain ⟨W0, HW0⟩ : ∃ W0, Hid (w.alloc (rb r 31) = W0) := ⟨_, Lib.hid rfl⟩
    have hoR : Own W0 w.heap.size 31 [.int .u64 (r.1 : Int), .int .u64 (r.2 : Int)] := by rw [← HW0.out]; exact Own.new w _ _
    have hB0' : Below w.heap.size w W0 := by rw [← HW0.out]; exact (Below.refl _ w).alloc (Nat.le_refl _) _
    clear hr
    go_enter Try.func14, Try.ntmps14
    go_wp2_with fail
    rw [HW0.out]
    obtain ⟨R, HRW⟩ : ∃ R, Hid (w.heap.size = R) := ⟨_, Lib.hid rfl⟩
    rw [HRW.out] at hoR ⊢
    go_loopw [5, 6] (fun s5 i wr => ∃ k : Nat, i = .int .i64 k ∧ k ≤ n ∧ Lr wr (R + 1) 31 s5 (cutsL (L.take k) r) ∧ Own wr R 31 [.int .u64 (r.1 : Int), .int .u64 (r.2 : Int)] ∧ Below R w wr) (fun _ i _ => n - (intOf i).toNat)
    case atStart => exact ⟨0, rfl, Nat.zero_le _, Lr.nil _ _ _, hoR, by rw [← HRW.out]; exact hB0'⟩
    case round =>
      obtain ⟨k, rfl, hk, hv, hor, hb⟩ := hrel
      by_cases hlt : k < n
      · have hkL : k < L.length := by rw [HN.out]; exact hlt
        obtain ⟨g, off, rfl, hg, hcl⟩ := HR.out.rn (by omega)
        obtain ⟨h1, h2⟩ := hcl k hkL
        have hgR : g < R := by rw [← HRW.out]; exact hg
        have hx1 := (hb.cell (p := ⟨g, off + k * 2, none⟩) hgR).trans h1
        have hx2 := (hb.cell (p := ⟨g, off + k * 2 + 1, none⟩) hgR).trans h2
        have hr1 := hor.cell 0
        have hr2 := hor.cell 1
        simp at hr1 hr2
        have HT := Lib.hid (show cutsL (L.take (k + 1)) r = cutsL (L.take k) r ++ [((el L k).1, min (el L k).2 r.1), (max (el L k).1 r.2, (el L k).2)] by rw [take_el hkL, cutsL_snoc])
        have hlk : (cutsL (L.take k) r).length = k * 2 := by rw [cutsL_len, List.length_take]; omega
        have HLK := Lib.hid hlk
        generalize el L k = x at *
        have hd1 : decide (k < n) = true := by simpa using hlt
        have hk0 : (0 : Int) ≤ (k : Int) := by omega
        have hk1 : (k : Int) < (n : Int) := by omega
        have hkb : (k : Int) ≤ 4000000 := by omega
        have hkn : k + 1 ≤ n := hlt
        have HKM := Lib.hid (show n - (k + 1) < n - k by omega)
        have hRl := hor.lt
        have hgr : g < wr.heap.size := by omega
        have HV := Lib.hid (show Lr wr.drew (R + 1) 31 u5 (cutsL (L.take k) r) from hv)
        have HOR := Lib.hid (show Own wr.drew R 31 [.int .u64 (r.1 : Int), .int .u64 (r.2 : Int)] from hor)
        have HB := Lib.hid (show Below R w wr.drew from hb.drew)
        have hst : wr.drew.cell? ⟨g, off + k * 2, none⟩ = some (.int .u64 (x.1 : Int)) ∧ wr.drew.cell? ⟨g, off + k * 2 + 1, none⟩ = some (.int .u64 (x.2 : Int)) ∧ wr.drew.cell? ⟨R, 0, none⟩ = some (.int .u64 (r.1 : Int)) ∧ wr.drew.cell? ⟨R, 1, none⟩ = some (.int .u64 (r.2 : Int)) := ⟨hx1, hx2, hr1, hr2⟩
        obtain ⟨V, HVV⟩ : ∃ V : List Rn, Hid (V = [(x.1, min x.2 r.1), (max x.1 r.2, x.2)]) := ⟨_, Lib.hid rfl⟩
        rw [← HVV.out] at HT
        have HVC := Lib.hid (show rcs V = [.int .u64 (x.1 : Int), .int .u64 (min (x.2 : Int) (r.1 : Int)), .int .u64 (max (x.1 : Int) (r.2 : Int)), .int .u64 (x.2 : Int)] by
          rw [HVV.out]
          simp only [rcs]
          rw [show ((min x.2 r.1 : Nat) : Int) = min (x.2 : Int) (r.1 : Int) by omega, show ((max x.1 r.2 : Nat) : Int) = max (x.1 : Int) (r.2 : Int) by omega])
        have HVL := Lib.hid (show V.length = 2 by rw [HVV.out]; rfl)
        have hmx : Try.prog.follows .mixedOrders = true := by kernel_rfl
        clear hcl h1 h2 hv hor hb hlk hx1 hx2 hr1 hr2 hlt hoR
        go_wp2_with fail
        refine wp_region_held_drew (S := (fun w' => w'.cell? ⟨g, off + k * 2, none⟩ = some (.int .u64 (x.1 : Int)) ∧ w'.cell? ⟨g, off + k * 2 + 1, none⟩ = some (.int .u64 (x.2 : Int)) ∧ w'.cell? ⟨R, 0, none⟩ = some (.int .u64 (r.1 : Int)) ∧ w'.cell? ⟨R, 1, none⟩ = some (.int .u64 (r.2 : Int)))) (by kernel_rfl) hst (fun hHeld => ?_)
        refine wpAnyH_take (i := 0) (v := ?_) rfl (by kernel_rfl) (by kernel_rfl) (by kernel_rfl) (fun _ _ _ h => h) (Or.inl ⟨by kernel_rfl, ?_⟩) hHeld ?_
        rotate_left
        · (intro w hSw; first | (go_simp; done) | (go_simp; with_reducible rfl))
        (try simp only [Act.put, List.getElem_toArray, List.getElem_cons_succ, List.getElem_cons_zero, List.setIfInBounds_toArray, List.set_cons_zero, List.set_cons_succ])
        refine wpAnyH_take (i := 1) (v := ?_) rfl (by kernel_rfl) (by kernel_rfl) (by kernel_rfl) (fun _ _ _ h => h) (Or.inl ⟨by kernel_rfl, ?_⟩) hHeld ?_
        rotate_left
        · (intro w hSw; first | (go_simp; done) | (go_simp; with_reducible rfl))
        (try simp only [Act.put, List.getElem_toArray, List.getElem_cons_succ, List.getElem_cons_zero, List.setIfInBounds_toArray, List.set_cons_zero, List.set_cons_succ])
        refine wpAnyH_take (i := 2) (v := ?_) rfl (by kernel_rfl) (by kernel_rfl) (by kernel_rfl) (fun _ _ _ h => h) (Or.inl ⟨by kernel_rfl, ?_⟩) hHeld ?_
        rotate_left
        · (intro w hSw; first | (go_simp; done) | (go_simp; with_reducible rfl))
        (try simp only [Act.put, List.getElem_toArray, List.getElem_cons_succ, List.getElem_cons_zero, List.setIfInBounds_toArray, List.set_cons_zero, List.set_cons_succ])
        refine wpAnyH_take (i := 3) (v := ?_) rfl (by kernel_rfl) (by kernel_rfl) (by kernel_rfl) (fun _ _ _ h => h) (Or.inl ⟨by kernel_rfl, ?_⟩) hHeld ?_
        rotate_left
        · (intro w hSw; first | (go_simp; done) | (go_simp; with_reducible rfl))
        (try simp only [Act.put, List.getElem_toArray, List.getElem_cons_succ, List.getElem_cons_zero, List.setIfInBounds_toArray, List.set_cons_zero, List.set_cons_succ])
        refine wpAnyH_take (i := 4) (v := ?_) rfl (by kernel_rfl) (by kernel_rfl) (by kernel_rfl) (fun _ _ _ h => h) (Or.inl ⟨by kernel_rfl, ?_⟩) hHeld ?_
        rotate_left
        · (intro w hSw; first | (go_simp; done) | (go_simp; with_reducible rfl))
        (try simp only [Act.put, List.getElem_toArray, List.getElem_cons_succ, List.getElem_cons_zero, List.setIfInBounds_toArray, List.set_cons_zero, List.set_cons_succ])
        refine wpAnyH_take (i := 5) (v := ?_) rfl (by kernel_rfl) (by kernel_rfl) (by kernel_rfl) (fun _ _ _ h => h) (Or.inl ⟨by kernel_rfl, ?_⟩) hHeld ?_
        rotate_left
        · (intro w hSw; first | (go_simp; done) | (go_simp; with_reducible rfl))
        (try simp only [Act.put, List.getElem_toArray, List.getElem_cons_succ, List.getElem_cons_zero, List.setIfInBounds_toArray, List.set_cons_zero, List.set_cons_succ])
        refine wpAnyH_take (i := 6) (v := ?_) rfl (by kernel_rfl) (by kernel_rfl) (by kernel_rfl) (fun _ _ _ h => h) (Or.inl ⟨by kernel_rfl, ?_⟩) hHeld ?_
        rotate_left
        · (intro w hSw; first | (go_simp; done) | (go_simp; with_reducible rfl))
        (try simp only [Act.put, List.getElem_toArray, List.getElem_cons_succ, List.getElem_cons_zero, List.setIfInBounds_toArray, List.set_cons_zero, List.set_cons_succ])
        refine wpAnyH_take (i := 7) (v := ?_) rfl (by kernel_rfl) (by kernel_rfl) (by kernel_rfl) (fun _ _ _ h => h) (Or.inl ⟨by kernel_rfl, ?_⟩) hHeld ?_
        rotate_left
        · (intro w hSw; first | (go_simp; done) | (go_simp; with_reducible rfl))
        (try simp only [Act.put, List.getElem_toArray, List.getElem_cons_succ, List.getElem_cons_zero, List.setIfInBounds_toArray, List.set_cons_zero, List.set_cons_succ])
        refine wpAnyH_take (i := 8) (v := ?_) rfl (by kernel_rfl) (by kernel_rfl) (by kernel_rfl) (fun _ _ _ h => h) (Or.inl ⟨by kernel_rfl, ?_⟩) hHeld ?_
        rotate_left
        · (intro w hSw; first | (go_simp; done) | (go_simp; with_reducible rfl))
        (try simp only [Act.put, List.getElem_toArray, List.getElem_cons_succ, List.getElem_cons_zero, List.setIfInBounds_toArray, List.set_cons_zero, List.set_cons_succ])
        refine wpAnyH_take (i := 9) (v := ?_) rfl (by kernel_rfl) (by kernel_rfl) (by kernel_rfl) (fun _ _ _ h => h) (Or.inl ⟨by kernel_rfl, ?_⟩) hHeld ?_
        rotate_left
        · (intro w hSw; first | (go_simp; done) | (go_simp; with_reducible rfl))
        (try simp only [Act.put, List.getElem_toArray, List.getElem_cons_succ, List.getElem_cons_zero, List.setIfInBounds_toArray, List.set_cons_zero, List.set_cons_succ])
        refine wpAnyH_take (i := 10) (v := ?_) rfl (by kernel_rfl) (by kernel_rfl) (by kernel_rfl) (fun _ _ _ h => h) (Or.inl ⟨by kernel_rfl, ?_⟩) hHeld ?_
        rotate_left
        · (intro w hSw; first | (go_simp; done) | (go_simp; with_reducible rfl))
        (try simp only [Act.put, List.getElem_toArray, List.getElem_cons_succ, List.getElem_cons_zero, List.setIfInBounds_toArray, List.set_cons_zero, List.set_cons_succ])
        refine wpAnyH_take (i := 11) (v := ?_) rfl (by kernel_rfl) (by kernel_rfl) (by kernel_rfl) (fun _ _ _ h => h) (Or.inl ⟨by kernel_rfl, ?_⟩) hHeld ?_
        rotate_left
        · (intro w hSw; first | (go_simp; done) | (go_simp; with_reducible rfl))
        (try simp only [Act.put, List.getElem_toArray, List.getElem_cons_succ, List.getElem_cons_zero, List.setIfInBounds_toArray, List.set_cons_zero, List.set_cons_succ])
        refine wpAnyH_take (i := 12) (v := ?_) rfl (by kernel_rfl) (by kernel_rfl) (by kernel_rfl) (fun _ _ _ h => h) (Or.inl ⟨by kernel_rfl, ?_⟩) hHeld ?_
        rotate_left
        · (intro w hSw; first | (go_simp; done) | (go_simp; with_reducible rfl))
        (try simp only [Act.put, List.getElem_toArray, List.getElem_cons_succ, List.getElem_cons_zero, List.setIfInBounds_toArray, List.set_cons_zero, List.set_cons_succ])
        refine wpAnyH_take (i := 13) (v := ?_) rfl (by kernel_rfl) (by kernel_rfl) (by kernel_rfl) (fun _ _ _ h => h) (Or.inl ⟨by kernel_rfl, ?_⟩) hHeld ?_
        rotate_left
        · (intro w hSw; first | (go_simp; done) | (go_simp; with_reducible rfl))
        (try simp only [Act.put, List.getElem_toArray, List.getElem_cons_succ, List.getElem_cons_zero, List.setIfInBounds_toArray, List.set_cons_zero, List.set_cons_succ])
        refine wpAnyH_take (i := 14) (v := ?_) rfl (by kernel_rfl) (by kernel_rfl) (by kernel_rfl) (fun _ _ _ h => h) (Or.inl ⟨by kernel_rfl, ?_⟩) hHeld ?_
        rotate_left
        · (intro w hSw; first | (go_simp; done) | (go_simp; with_reducible rfl))
        (try simp only [Act.put, List.getElem_toArray, List.getElem_cons_succ, List.getElem_cons_zero, List.setIfInBounds_toArray, List.set_cons_zero, List.set_cons_succ])
        refine wpAnyH_take (i := 15) (v := ?_) rfl (by kernel_rfl) (by kernel_rfl) (by kernel_rfl) (fun _ _ _ h => h) (Or.inl ⟨by kernel_rfl, ?_⟩) hHeld ?_
        rotate_left
        · (intro w hSw; first | (go_simp; done) | (go_simp; with_reducible rfl))
        (try simp only [Act.put, List.getElem_toArray, List.getElem_cons_succ, List.getElem_cons_zero, List.setIfInBounds_toArray, List.set_cons_zero, List.set_cons_succ])
        refine wpAnyH_take (i := 16) (v := ?_) rfl (by kernel_rfl) (by kernel_rfl) (by kernel_rfl) (fun _ _ _ h => h) (Or.inl ⟨by kernel_rfl, ?_⟩) hHeld ?_
        rotate_left
        · (intro w hSw; first | (go_simp; done) | (go_simp; with_reducible rfl))
        (try simp only [Act.put, List.getElem_toArray, List.getElem_cons_succ, List.getElem_cons_zero, List.setIfInBounds_toArray, List.set_cons_zero, List.set_cons_succ])
        refine wpAnyH_take (i := 17) (v := ?_) rfl (by kernel_rfl) (by kernel_rfl) (by kernel_rfl) (fun _ _ _ h => h) (Or.inl ⟨by kernel_rfl, ?_⟩) hHeld ?_
        rotate_left
        · (intro w hSw; first | (go_simp; done) | (go_simp; with_reducible rfl))
        (try simp only [Act.put, List.getElem_toArray, List.getElem_cons_succ, List.getElem_cons_zero, List.setIfInBounds_toArray, List.set_cons_zero, List.set_cons_succ])
        refine wpAnyH_take (i := 18) (v := ?_) rfl (by kernel_rfl) (by kernel_rfl) (by kernel_rfl) (fun _ _ _ h => h) (Or.inl ⟨by kernel_rfl, ?_⟩) hHeld ?_
        rotate_left
        · (intro w hSw; first | (go_simp; done) | (go_simp; with_reducible rfl))
        (try simp only [Act.put, List.getElem_toArray, List.getElem_cons_succ, List.getElem_cons_zero, List.setIfInBounds_toArray, List.set_cons_zero, List.set_cons_succ])
        refine wpAnyH_take (i := 19) (v := ?_) rfl (by kernel_rfl) (by kernel_rfl) (by kernel_rfl) (fun _ _ _ h => h) (Or.inl ⟨by kernel_rfl, ?_⟩) hHeld ?_
        rotate_left
        · (intro w hSw; first | (go_simp; done) | (go_simp; with_reducible rfl))
        (try simp only [Act.put, List.getElem_toArray, List.getElem_cons_succ, List.getElem_cons_zero, List.setIfInBounds_toArray, List.set_cons_zero, List.set_cons_succ])
        refine wpAnyH_take (i := 20) (v := ?_) rfl (by kernel_rfl) (by kernel_rfl) (by kernel_rfl) (fun _ _ _ h => h) (Or.inl ⟨by kernel_rfl, ?_⟩) hHeld ?_
        rotate_left
        · (intro w hSw; first | (go_simp; done) | (go_simp; with_reducible rfl))
        (try simp only [Act.put, List.getElem_toArray, List.getElem_cons_succ, List.getElem_cons_zero, List.setIfInBounds_toArray, List.set_cons_zero, List.set_cons_succ])
        refine wpAnyH_take (i := 21) (v := ?_) rfl (by kernel_rfl) (by kernel_rfl) (by kernel_rfl) (fun _ _ _ h => h) (Or.inl ⟨by kernel_rfl, ?_⟩) hHeld ?_
        rotate_left
        · (intro w hSw; first | (go_simp; done) | (go_simp; with_reducible rfl))
        (try simp only [Act.put, List.getElem_toArray, List.getElem_cons_succ, List.getElem_cons_zero, List.setIfInBounds_toArray, List.set_cons_zero, List.set_cons_succ])
        refine wpAnyH_take (i := 22) (v := ?_) rfl (by kernel_rfl) (by kernel_rfl) (by kernel_rfl) (fun _ _ _ h => h) (Or.inl ⟨by kernel_rfl, ?_⟩) hHeld ?_
        rotate_left
        · (intro w hSw; first | (go_simp; done) | (go_simp; with_reducible rfl))
        (try simp only [Act.put, List.getElem_toArray, List.getElem_cons_succ, List.getElem_cons_zero, List.setIfInBounds_toArray, List.set_cons_zero, List.set_cons_succ])
        refine wpAnyH_take (i := 23) (v := ?_) rfl (by kernel_rfl) (by kernel_rfl) (by kernel_rfl) (fun _ _ _ h => h) (Or.inl ⟨by kernel_rfl, ?_⟩) hHeld ?_
        rotate_left
        · (intro w hSw; first | (go_simp; done) | (go_simp; with_reducible rfl))
        (try simp only [Act.put, List.getElem_toArray, List.getElem_cons_succ, List.getElem_cons_zero, List.setIfInBounds_toArray, List.set_cons_zero, List.set_cons_succ])
        refine wpAnyH_take (i := 24) (v := ?_) rfl (by kernel_rfl) (by kernel_rfl) (by kernel_rfl) (fun _ _ _ h => h) (Or.inl ⟨by kernel_rfl, ?_⟩) hHeld ?_
        rotate_left
        · (intro w hSw; first | (go_simp; done) | (go_simp; with_reducible rfl))
        (try simp only [Act.put, List.getElem_toArray, List.getElem_cons_succ, List.getElem_cons_zero, List.setIfInBounds_toArray, List.set_cons_zero, List.set_cons_succ])
        refine wpAnyH_take (i := 25) (v := ?_) rfl (by kernel_rfl) (by kernel_rfl) (by kernel_rfl) (fun _ _ _ h => h) (Or.inl ⟨by kernel_rfl, ?_⟩) hHeld ?_
        rotate_left
        · (intro w hSw; first | (go_simp; done) | (go_simp; with_reducible rfl))
        (try simp only [Act.put, List.getElem_toArray, List.getElem_cons_succ, List.getElem_cons_zero, List.setIfInBounds_toArray, List.set_cons_zero, List.set_cons_succ])
        refine wpAnyH_take (i := 26) (v := ?_) rfl (by kernel_rfl) (by kernel_rfl) (by kernel_rfl) (fun _ _ _ h => h) (Or.inl ⟨by kernel_rfl, ?_⟩) hHeld ?_
        rotate_left
        · (intro w hSw; first | (go_simp; done) | (go_simp; with_reducible rfl))
        (try simp only [Act.put, List.getElem_toArray, List.getElem_cons_succ, List.getElem_cons_zero, List.setIfInBounds_toArray, List.set_cons_zero, List.set_cons_succ])
        refine wpAnyH_take (i := 27) (v := ?_) rfl (by kernel_rfl) (by kernel_rfl) (by kernel_rfl) (fun _ _ _ h => h) (Or.inl ⟨by kernel_rfl, ?_⟩) hHeld ?_
        rotate_left
        · (intro w hSw; first | (go_simp; done) | (go_simp; with_reducible rfl))
        (try simp only [Act.put, List.getElem_toArray, List.getElem_cons_succ, List.getElem_cons_zero, List.setIfInBounds_toArray, List.set_cons_zero, List.set_cons_succ])
        refine wpAnyH_take (i := 28) (v := ?_) rfl (by kernel_rfl) (by kernel_rfl) (by kernel_rfl) (fun _ _ _ h => h) (Or.inl ⟨by kernel_rfl, ?_⟩) hHeld ?_
        rotate_left
        · (intro w hSw; first | (go_simp; done) | (go_simp; with_reducible rfl))
        (try simp only [Act.put, List.getElem_toArray, List.getElem_cons_succ, List.getElem_cons_zero, List.setIfInBounds_toArray, List.set_cons_zero, List.set_cons_succ])
        refine wpAnyH_ready (rs := [29]) (by kernel_rfl) (by simp) (AllReadyH.cons rfl (fun K hK => ?_) AllReadyH.nil)
        have hH := hHeld
        (go_simp; skip)
        refine hK.out _ _ (by exact ⟨(World.cell?_alloc_lt _ _ _ hgr).trans hH.1, (World.cell?_alloc_lt _ _ _ hgr).trans hH.2.1, (World.cell?_alloc_lt _ _ _ hRl).trans hH.2.2.1, (World.cell?_alloc_lt _ _ _ hRl).trans hH.2.2.2⟩) (fun hHq1 => ?_)
        clear hK K hH 
        (try simp only [Act.put, List.getElem_toArray, List.getElem_cons_succ, List.getElem_cons_zero, List.setIfInBounds_toArray, List.set_cons_zero, List.set_cons_succ])
        refine wpAnyH_ready (rs := [30]) (by kernel_rfl) (by simp) (AllReadyH.cons rfl (fun K hK => ?_) AllReadyH.nil)
        have hH := hHq1
        (refine step_appS (by rfl) (.tmp 20) (.tmp 49) 26 (by rfl) (R + 1) 31 zR 16 Try.underlying26 Try.infoF rfl _ (cutsL (L.take k) r) (by rfl) (HV.out.alloc _) (some ⟨wr.heap.size, 0, none⟩) (wr.heap.size + 1) 2 2 V (by rfl) HVL.out (by rw [HVC.out]; exact (Own.new wr.drew 31 _).ro _ (by simp)) (by rw [HLK.out]; omega) (by rw [HLK.out]; omega) (by simp; omega) ?_; intro v4 w4 H4 hg4 hn4; have hb4 := belowG hg4 (B := R + 1) (fun q hq => (HV.out.lt q hq).1) (by simp; omega))
        refine hK.out _ _ (by exact ⟨(hb4.cell (p := ⟨g, off + k * 2, none⟩) (by show g < R + 1; omega)).trans hH.1, (hb4.cell (p := ⟨g, off + k * 2 + 1, none⟩) (by show g < R + 1; omega)).trans hH.2.1, (hb4.cell (p := ⟨R, 0, none⟩) (by show R < R + 1; omega)).trans hH.2.2.1, (hb4.cell (p := ⟨R, 1, none⟩) (by show R < R + 1; omega)).trans hH.2.2.2⟩) (fun hHq2 => ?_)
        clear hK K hH hHq1
        (try simp only [Act.put, List.getElem_toArray, List.getElem_cons_succ, List.getElem_cons_zero, List.setIfInBounds_toArray, List.set_cons_zero, List.set_cons_succ])
        refine wpAnyH_take (i := 31) (v := ?_) rfl (by kernel_rfl) (by kernel_rfl) (by kernel_rfl) (fun _ _ _ h => h) (Or.inl ⟨by kernel_rfl, ?_⟩) hHq2 ?_
        rotate_left
        · (intro w hSw; first | (go_simp; done) | (go_simp; with_reducible rfl))
        (try simp only [Act.put, List.getElem_toArray, List.getElem_cons_succ, List.getElem_cons_zero, List.setIfInBounds_toArray, List.set_cons_zero, List.set_cons_succ])
        refine wpAnyH_done (by kernel_rfl) ?_ _
        have hEnd := hHq2
        have hB4 : Below R w w4 := (HB.out.alloc (by have := HB.out.size; have := HRW.out; omega) _).trans (hb4.mono (by omega) : Below R _ _)
        have hO4 : Own w4 R 31 [.int .u64 (r.1 : Int), .int .u64 (r.2 : Int)] := (HOR.out.alloc _).below hb4 (by omega)
        clear hg4 hn4 hb4 hEnd hst
        go_wp2_with fail
        go_roundw
        case rel => exact ⟨k + 1, by go_num, hkn, by rw [HT.out]; exact H4.out, hO4, hB4⟩
        case measure => have := HKM.out; simp [intOf]; omega
      · have ht : L.take k = L := List.take_of_length_le (by rw [HN.out]; omega)
        rw [ht] at hv
        obtain ⟨a5, c5, rfl, hro5, _, _, _, _⟩ := hv.form
        have hd1 : decide (k < n) = false := by simpa using hlt
        have hcl : (cutsL L r).length ≤ 1000000 := by rw [cutsL_len, HN.out]; omega
        have HNM := Lib.hid (Norm_any wr a5 (cutsL L r) c5 wr.heap.size hro5 (Nat.le_refl _) hcl)
        have HB := Lib.hid hb
        clear hv hor hb hro5 hlt
        go_wp2_with (go_at_call 29; refine HNM.out.mono ?_; rintro e w6 ⟨v6, M, rfl, hl6, hn6, hm6, _, hb6⟩)
        go_ret
        have hbs := HB.out.size
        exact ⟨v6, rfl, by rw [← norm_drop HNF.out hn6 HRR.out hm6]; exact hl6.base hbs, by rw [HRW.out]; exact HB.out.trans (hb6.mono (by have := HRW.out; omega))⟩
  · have hd0 : decide (r.2 ≤ r.1) = true := by simp; omega
    have hcut : cutL L r = L := by unfold cutL; rw [if_neg hr]
    rw [hcut]
    have HNM := Lib.hid (fun W (hW : Below w.heap.size w W) => Norm_any W a L c w.heap.size (HR.out.below hW (Nat.le_refl _)) hW.size (by rw [HN.out]; omega))
    rw [HN.out] at HNM
    clear hr hcut
    go_enter Try.func14, Try.ntmps14
    go_wp2_with fail
    have hb1 : Below w.heap.size w (w.alloc (rb r 31)) := (Below.refl _ w).alloc (Nat.le_refl _) _
    refine (HNM.out _ hb1).mono ?_
    rintro e w6 ⟨v6, M, rfl, hl6, hn6, hm6, _, hb6⟩
    go_wp2_with fail
    go_ret
    exact ⟨v6, rfl, by rw [← norm_same HNF.out hn6 hm6]; exact hl6.base hb1.size, hb1.trans (hb6.mono hb1.size)⟩
theorem gen_w {M : Act → World → Prop} {A : Act} {X : World} (P : World → Prop) (hP : P X) (h : ∀ W, P W → M A W) : M A X := h X hP
theorem grown_alloc (X : World) (o : Obj) : X.grownBy (X.alloc o) none := ⟨rfl, rfl, rfl, by simp, fun k hk _ => Below.heap_alloc X o k hk⟩
theorem grown_lt {X W : World} (h : X.grownBy W none) : X.heap.size ≤ W.heap.size := h.size
theorem ne_none (v : Value) : v.ownBlock = none ∨ v.ownBlock ≠ none := by cases v.ownBlock <;> simp
set_option maxHeartbeats 2000000 in
set_option maxRecDepth 100000 in
theorem rAdd_any (w : World) (a : Option Addr) (L : List Rn) (c B0 : Nat) (hro : Ro w B0 a (rcs L)) (hB0 : B0 ≤ w.heap.size) (hN : NF L) (hl : L.length ≤ 100000) (r : Rn) :
    Calls Try.prog 15 #[.slice a L.length c, rv r] w fun e w' => ∃ v, e = .returned v ∧ Lr w' w.heap.size 31 v (putL L r) ∧ Below w.heap.size w w' := by
  obtain ⟨n, HN⟩ : ∃ n, Hid (L.length = n) := ⟨_, Lib.hid rfl⟩
  rw [HN.out] at hl ⊢
  have HR := Lib.hid (hro.mono hB0)
  have HNF := Lib.hid hN
  clear hro hN
  go_enter Try.func15, Try.ntmps15
  go_wp2_with fail
  obtain ⟨R, HRW⟩ : ∃ R, Hid (w.heap.size = R) := ⟨_, Lib.hid rfl⟩
  obtain ⟨w0, HW0⟩ : ∃ w0, Hid ((w.alloc (.cells #[.int .u64 (r.1 : Int), .int .u64 (r.2 : Int)] 31)).drew = w0) := ⟨_, Lib.hid rfl⟩
  have ho0 : Own w0 R 31 [.int .u64 (r.1 : Int), .int .u64 (r.2 : Int)] := by rw [← HW0.out, ← HRW.out]; exact Own.new w _ _
  have hb0 : Below R w w0 := by rw [← HW0.out, ← HRW.out]; exact ((Below.refl _ w).alloc (Nat.le_refl _) _).drew
  have hR1 : R + 1 ≤ w0.heap.size := ho0.lt
  have HS := Lib.hid (show ∀ W, Below (R + 1) w0 W → W.cell? ⟨R, 0, none⟩ = some (.int .u64 (r.1 : Int)) ∧ W.cell? ⟨R, 1, none⟩ = some (.int .u64 (r.2 : Int)) ∧ Below (R + 1) w0 W from fun W hW => by
    have h := ho0.below hW (Nat.lt_succ_self R)
    exact ⟨by rw [h.cell]; rfl, by rw [h.cell]; rfl, hW⟩)
  have HRO := Lib.hid (show ∀ W, Below (R + 1) w0 W → Ro W w.heap.size a (rcs L) from fun W hW => HR.out.below (hb0.trans (hW.mono (by omega))) (by rw [HRW.out]; exact Nat.le_refl _))
  rw [HRW.out]
  refine wp_region_held_drew (S := fun W => W.cell? ⟨R, 0, none⟩ = some (.int .u64 (r.1 : Int)) ∧ W.cell? ⟨R, 1, none⟩ = some (.int .u64 (r.2 : Int)) ∧ Below (R + 1) w0 W) (by kernel_rfl) (by rw [HW0.out]; exact HS.out w0 (Below.refl _ _)) (fun hHeld => ?_)
  rw [HW0.out] at hHeld ⊢
  refine wpAnyH_take (i := 1) (v := ?_) rfl (by kernel_rfl) (by kernel_rfl) (by kernel_rfl) (fun _ _ _ h => h) (Or.inl ⟨by kernel_rfl, ?_⟩) hHeld ?_
  rotate_left
  · (intro w hSw; first | (go_simp; done) | (go_simp; with_reducible rfl))
  (try simp only [Act.put, List.getElem_toArray, List.getElem_cons_succ, List.getElem_cons_zero, List.setIfInBounds_toArray, List.set_cons_zero, List.set_cons_succ])
  refine wpAnyH_take (i := 3) (v := ?_) rfl (by kernel_rfl) (by kernel_rfl) (by kernel_rfl) (fun _ _ _ h => h) (Or.inl ⟨by kernel_rfl, ?_⟩) hHeld ?_
  rotate_left
  · (intro w hSw; first | (go_simp; done) | (go_simp; with_reducible rfl))
  (try simp only [Act.put, List.getElem_toArray, List.getElem_cons_succ, List.getElem_cons_zero, List.setIfInBounds_toArray, List.set_cons_zero, List.set_cons_succ])
  refine wpAnyH_ready (rs := [0, 4]) (by kernel_rfl) (by simp) (AllReadyH.cons rfl (fun K hK => ?_) (AllReadyH.cons rfl (fun K hK => ?_) AllReadyH.nil))
  · go_simp
    refine gen_w (fun W => Lr W (R + 1) 31 (.slice (some ⟨w0.heap.size, 0, none⟩) 0 0) [] ∧ Below (R + 1) w0 W ∧ w0.grownBy W none) ⟨Lr.lit w0 (R + 1) 31 [] (Nat.le_trans hR1 ((Below.refl (R + 1) w0)).size) (by simp), ((Below.refl (R + 1) w0)).alloc (Nat.le_trans hR1 ((Below.refl (R + 1) w0)).size) _, grown_alloc w0 _⟩ (fun W1 hW1 => ?_)
    refine hK.out _ _ (HS.out _ hW1.2.1) (fun hq1 => ?_)
    clear hK K
    (try simp only [Act.put, List.getElem_toArray, List.getElem_cons_succ, List.getElem_cons_zero, List.setIfInBounds_toArray, List.set_cons_zero, List.set_cons_succ])
    refine wpAnyH_ready (rs := [2, 4]) (by kernel_rfl) (by simp) (AllReadyH.cons rfl (fun K hK => ?_) (AllReadyH.cons rfl (fun K hK => ?_) AllReadyH.nil))
    · refine step_appS (by rfl) (.tmp 5) (.tmp 6) 26 (by rfl) (R + 1) 31 zR 16 Try.underlying26 Try.infoF rfl _ [] (by rfl) (hW1.1) a w.heap.size n c L (by rfl) HN.out (HRO.out _ (hW1.2.1)) (by simp; omega) (by simp; omega) (Nat.le_trans hR1 (hW1.2.1).size) ?_
      intro v7 w7 H7 hg7 hn7
      have hb7 : Below (R + 1) w0 w7 := (hW1.2.1).trans (belowG hg7 (B := R + 1) (fun q hq => ((hW1.1).lt q hq).1) (Nat.le_trans hR1 (hW1.2.1).size))
      refine hK.out _ _ (HS.out _ hb7) (fun hq2 => ?_)
      clear hK K
      (try simp only [Act.put, List.getElem_toArray, List.getElem_cons_succ, List.getElem_cons_zero, List.setIfInBounds_toArray, List.set_cons_zero, List.set_cons_succ])
      refine wpAnyH_ready (rs := [4]) (by kernel_rfl) (by simp) (AllReadyH.cons rfl (fun K hK => ?_) AllReadyH.nil)
      go_simp
      refine gen_w (fun W => Own W w7.heap.size 31 [.int .u64 (r.1 : Int), .int .u64 (r.2 : Int)] ∧ Below (R + 1) w0 W ∧ w7.grownBy W none) ⟨Own.new w7 31 [.int .u64 (r.1 : Int), .int .u64 (r.2 : Int)], (hb7).alloc (Nat.le_trans hR1 (hb7).size) _, grown_alloc w7 _⟩ (fun W9 hW9 => ?_)
      refine hK.out _ _ (HS.out _ hW9.2.1) (fun hq3 => ?_)
      clear hK K
      (try simp only [Act.put, List.getElem_toArray, List.getElem_cons_succ, List.getElem_cons_zero, List.setIfInBounds_toArray, List.set_cons_zero, List.set_cons_succ])
      refine wpAnyH_ready (rs := [5]) (by kernel_rfl) (by simp) (AllReadyH.cons rfl (fun K hK => ?_) AllReadyH.nil)
      refine step_appS (by rfl) (.tmp 7) (.tmp 9) 26 (by rfl) (R + 1) 31 zR 16 Try.underlying26 Try.infoF rfl _ ([] ++ L) (by rfl) (H7.out.kept hW9.2.2 (ne_none _)) (some ⟨_, 0, none⟩) W9.heap.size 1 1 [r] (by rfl) rfl ((hW9.1).ro _ (hW9.1).lt) (by simp [HN.out]; omega) (by simp [HN.out]; omega) (Nat.le_trans hR1 (hW9.2.1).size) ?_
      intro v10 w10 H10 hg10 hn10
      have hb10 : Below (R + 1) w0 w10 := (hW9.2.1).trans (belowG hg10 (B := R + 1) (fun q hq => ((H7.out.kept hW9.2.2 (ne_none _)).lt q hq).1) (Nat.le_trans hR1 (hW9.2.1).size))
      obtain ⟨a10, c10, rfl, hro10, _, _, _, _⟩ := H10.out.form
      have HNM := Lib.hid (Norm_any w10 a10 ([] ++ L ++ [r]) c10 w10.heap.size hro10 (Nat.le_refl _) (by simp [HN.out]; omega))
      obtain ⟨N2, HN2⟩ : ∃ N2, Hid (([] ++ L ++ [r]).length = N2) := ⟨_, Lib.hid rfl⟩
      rw [HN2.out] at HNM ⊢
      refine hK.out _ _ (HS.out _ hb10) (fun hq10 => ?_)
      clear hK K
      (try simp only [Act.put, List.getElem_toArray, List.getElem_cons_succ, List.getElem_cons_zero, List.setIfInBounds_toArray, List.set_cons_zero, List.set_cons_succ])
      refine wpAnyH_ready (rs := [6]) (by kernel_rfl) (by simp) (AllReadyH.cons rfl (fun K hK => ?_) AllReadyH.nil)
      go_simp
      go_at_call 29
      refine HNM.out.mono ?_
      rintro e w11 ⟨v11, M, rfl, hl11, hn11, hm11, _, hb11⟩
      have hb12 : Below (R + 1) w0 w11 := hb10.trans (hb11.mono (Nat.le_trans hR1 hb10.size))
      refine hK.out _ _ (HS.out _ hb12) (fun hq11 => ?_)
      clear hK K
      (try simp only [Act.put, List.getElem_toArray, List.getElem_cons_succ, List.getElem_cons_zero, List.setIfInBounds_toArray, List.set_cons_zero, List.set_cons_succ])
      refine wpAnyH_take (i := 7) (v := ?_) rfl (by kernel_rfl) (by kernel_rfl) (by kernel_rfl) (fun _ _ _ h => h) (Or.inl ⟨by kernel_rfl, ?_⟩) hq11 ?_
      rotate_left
      · (intro w hSw; first | (go_simp; done) | (go_simp; with_reducible rfl))
      (try simp only [Act.put, List.getElem_toArray, List.getElem_cons_succ, List.getElem_cons_zero, List.setIfInBounds_toArray, List.set_cons_zero, List.set_cons_succ])
      refine wpAnyH_done (by kernel_rfl) ?_ _
      go_wp2_with fail
      go_ret
      have hfin : Below R w w11 := hb0.trans (hb12.mono (by omega))
      exact ⟨v11, rfl, by rw [← norm_add HNF.out hn11 (fun q => by rw [hm11, List.nil_append])]; exact hl11.base (by rw [HRW.out]; exact Nat.le_trans (by omega) hb10.size), by rw [HRW.out]; exact hfin⟩
    · go_simp
      refine gen_w (fun W => Own W W1.heap.size 31 [.int .u64 (r.1 : Int), .int .u64 (r.2 : Int)] ∧ Below (R + 1) w0 W ∧ W1.grownBy W none) ⟨Own.new W1 31 [.int .u64 (r.1 : Int), .int .u64 (r.2 : Int)], (hW1.2.1).alloc (Nat.le_trans hR1 (hW1.2.1).size) _, grown_alloc W1 _⟩ (fun W9 hW9 => ?_)
      refine hK.out _ _ (HS.out _ hW9.2.1) (fun hq2 => ?_)
      clear hK K
      (try simp only [Act.put, List.getElem_toArray, List.getElem_cons_succ, List.getElem_cons_zero, List.setIfInBounds_toArray, List.set_cons_zero, List.set_cons_succ])
      have h59 := hW1.1.kept hW9.2.2 (ne_none _)
      have hne59 := grown_lt hW1.2.2
      refine wpAnyH_ready (rs := [2]) (by kernel_rfl) (by simp) (AllReadyH.cons rfl (fun K hK => ?_) AllReadyH.nil)
      refine step_appS (by rfl) (.tmp 5) (.tmp 6) 26 (by rfl) (R + 1) 31 zR 16 Try.underlying26 Try.infoF rfl _ [] (by rfl) (h59) a w.heap.size n c L (by rfl) HN.out (HRO.out _ (hW9.2.1)) (by simp; omega) (by simp; omega) (Nat.le_trans hR1 (hW9.2.1).size) ?_
      intro v7 w7 H7 hg7 hn7
      have hb7 : Below (R + 1) w0 w7 := (hW9.2.1).trans (belowG hg7 (B := R + 1) (fun q hq => ((h59).lt q hq).1) (Nat.le_trans hR1 (hW9.2.1).size))
      have hO97 : Own w7 W1.heap.size 31 [.int .u64 (r.1 : Int), .int .u64 (r.2 : Int)] := hW9.1.grown hg7 (by intro e; injection e with e; have := (hW1.1.lt _ rfl).2; omega)
      refine hK.out _ _ (HS.out _ hb7) (fun hq3 => ?_)
      clear hK K
      (try simp only [Act.put, List.getElem_toArray, List.getElem_cons_succ, List.getElem_cons_zero, List.setIfInBounds_toArray, List.set_cons_zero, List.set_cons_succ])
      refine wpAnyH_ready (rs := [5]) (by kernel_rfl) (by simp) (AllReadyH.cons rfl (fun K hK => ?_) AllReadyH.nil)
      refine step_appS (by rfl) (.tmp 7) (.tmp 9) 26 (by rfl) (R + 1) 31 zR 16 Try.underlying26 Try.infoF rfl _ ([] ++ L) (by rfl) (H7.out) (some ⟨_, 0, none⟩) w7.heap.size 1 1 [r] (by rfl) rfl ((hO97).ro _ (hO97).lt) (by simp [HN.out]; omega) (by simp [HN.out]; omega) (Nat.le_trans hR1 (hb7).size) ?_
      intro v10 w10 H10 hg10 hn10
      have hb10 : Below (R + 1) w0 w10 := (hb7).trans (belowG hg10 (B := R + 1) (fun q hq => ((H7.out).lt q hq).1) (Nat.le_trans hR1 (hb7).size))
      obtain ⟨a10, c10, rfl, hro10, _, _, _, _⟩ := H10.out.form
      have HNM := Lib.hid (Norm_any w10 a10 ([] ++ L ++ [r]) c10 w10.heap.size hro10 (Nat.le_refl _) (by simp [HN.out]; omega))
      obtain ⟨N2, HN2⟩ : ∃ N2, Hid (([] ++ L ++ [r]).length = N2) := ⟨_, Lib.hid rfl⟩
      rw [HN2.out] at HNM ⊢
      refine hK.out _ _ (HS.out _ hb10) (fun hq10 => ?_)
      clear hK K
      (try simp only [Act.put, List.getElem_toArray, List.getElem_cons_succ, List.getElem_cons_zero, List.setIfInBounds_toArray, List.set_cons_zero, List.set_cons_succ])
      refine wpAnyH_ready (rs := [6]) (by kernel_rfl) (by simp) (AllReadyH.cons rfl (fun K hK => ?_) AllReadyH.nil)
      go_simp
      go_at_call 29
      refine HNM.out.mono ?_
      rintro e w11 ⟨v11, M, rfl, hl11, hn11, hm11, _, hb11⟩
      have hb12 : Below (R + 1) w0 w11 := hb10.trans (hb11.mono (Nat.le_trans hR1 hb10.size))
      refine hK.out _ _ (HS.out _ hb12) (fun hq11 => ?_)
      clear hK K
      (try simp only [Act.put, List.getElem_toArray, List.getElem_cons_succ, List.getElem_cons_zero, List.setIfInBounds_toArray, List.set_cons_zero, List.set_cons_succ])
      refine wpAnyH_take (i := 7) (v := ?_) rfl (by kernel_rfl) (by kernel_rfl) (by kernel_rfl) (fun _ _ _ h => h) (Or.inl ⟨by kernel_rfl, ?_⟩) hq11 ?_
      rotate_left
      · (intro w hSw; first | (go_simp; done) | (go_simp; with_reducible rfl))
      (try simp only [Act.put, List.getElem_toArray, List.getElem_cons_succ, List.getElem_cons_zero, List.setIfInBounds_toArray, List.set_cons_zero, List.set_cons_succ])
      refine wpAnyH_done (by kernel_rfl) ?_ _
      go_wp2_with fail
      go_ret
      have hfin : Below R w w11 := hb0.trans (hb12.mono (by omega))
      exact ⟨v11, rfl, by rw [← norm_add HNF.out hn11 (fun q => by rw [hm11, List.nil_append])]; exact hl11.base (by rw [HRW.out]; exact Nat.le_trans (by omega) hb10.size), by rw [HRW.out]; exact hfin⟩
  · go_simp
    refine gen_w (fun W => Own W w0.heap.size 31 [.int .u64 (r.1 : Int), .int .u64 (r.2 : Int)] ∧ Below (R + 1) w0 W ∧ w0.grownBy W none) ⟨Own.new w0 31 [.int .u64 (r.1 : Int), .int .u64 (r.2 : Int)], ((Below.refl (R + 1) w0)).alloc (Nat.le_trans hR1 ((Below.refl (R + 1) w0)).size) _, grown_alloc w0 _⟩ (fun W9 hW9 => ?_)
    refine hK.out _ _ (HS.out _ hW9.2.1) (fun hq1 => ?_)
    clear hK K
    (try simp only [Act.put, List.getElem_toArray, List.getElem_cons_succ, List.getElem_cons_zero, List.setIfInBounds_toArray, List.set_cons_zero, List.set_cons_succ])
    refine wpAnyH_ready (rs := [0]) (by kernel_rfl) (by simp) (AllReadyH.cons rfl (fun K hK => ?_) AllReadyH.nil)
    go_simp
    refine gen_w (fun W => Lr W (R + 1) 31 (.slice (some ⟨W9.heap.size, 0, none⟩) 0 0) [] ∧ Below (R + 1) w0 W ∧ W9.grownBy W none) ⟨Lr.lit W9 (R + 1) 31 [] (Nat.le_trans hR1 (hW9.2.1).size) (by simp), (hW9.2.1).alloc (Nat.le_trans hR1 (hW9.2.1).size) _, grown_alloc W9 _⟩ (fun W1 hW1 => ?_)
    refine hK.out _ _ (HS.out _ hW1.2.1) (fun hq2 => ?_)
    clear hK K
    (try simp only [Act.put, List.getElem_toArray, List.getElem_cons_succ, List.getElem_cons_zero, List.setIfInBounds_toArray, List.set_cons_zero, List.set_cons_succ])
    have hO91 := hW9.1.grown hW1.2.2 (by simp)
    refine wpAnyH_ready (rs := [2]) (by kernel_rfl) (by simp) (AllReadyH.cons rfl (fun K hK => ?_) AllReadyH.nil)
    refine step_appS (by rfl) (.tmp 5) (.tmp 6) 26 (by rfl) (R + 1) 31 zR 16 Try.underlying26 Try.infoF rfl _ [] (by rfl) (hW1.1) a w.heap.size n c L (by rfl) HN.out (HRO.out _ (hW1.2.1)) (by simp; omega) (by simp; omega) (Nat.le_trans hR1 (hW1.2.1).size) ?_
    intro v7 w7 H7 hg7 hn7
    have hb7 : Below (R + 1) w0 w7 := (hW1.2.1).trans (belowG hg7 (B := R + 1) (fun q hq => ((hW1.1).lt q hq).1) (Nat.le_trans hR1 (hW1.2.1).size))
    have hO97 : Own w7 w0.heap.size 31 [.int .u64 (r.1 : Int), .int .u64 (r.2 : Int)] := hO91.grown hg7 (by intro e; injection e with e; have e2 : w0.heap.size = W9.heap.size := e; have := hW9.1.lt; omega)
    refine hK.out _ _ (HS.out _ hb7) (fun hq3 => ?_)
    clear hK K
    (try simp only [Act.put, List.getElem_toArray, List.getElem_cons_succ, List.getElem_cons_zero, List.setIfInBounds_toArray, List.set_cons_zero, List.set_cons_succ])
    refine wpAnyH_ready (rs := [5]) (by kernel_rfl) (by simp) (AllReadyH.cons rfl (fun K hK => ?_) AllReadyH.nil)
    refine step_appS (by rfl) (.tmp 7) (.tmp 9) 26 (by rfl) (R + 1) 31 zR 16 Try.underlying26 Try.infoF rfl _ ([] ++ L) (by rfl) (H7.out) (some ⟨_, 0, none⟩) w7.heap.size 1 1 [r] (by rfl) rfl ((hO97).ro _ (hO97).lt) (by simp [HN.out]; omega) (by simp [HN.out]; omega) (Nat.le_trans hR1 (hb7).size) ?_
    intro v10 w10 H10 hg10 hn10
    have hb10 : Below (R + 1) w0 w10 := (hb7).trans (belowG hg10 (B := R + 1) (fun q hq => ((H7.out).lt q hq).1) (Nat.le_trans hR1 (hb7).size))
    obtain ⟨a10, c10, rfl, hro10, _, _, _, _⟩ := H10.out.form
    have HNM := Lib.hid (Norm_any w10 a10 ([] ++ L ++ [r]) c10 w10.heap.size hro10 (Nat.le_refl _) (by simp [HN.out]; omega))
    obtain ⟨N2, HN2⟩ : ∃ N2, Hid (([] ++ L ++ [r]).length = N2) := ⟨_, Lib.hid rfl⟩
    rw [HN2.out] at HNM ⊢
    refine hK.out _ _ (HS.out _ hb10) (fun hq10 => ?_)
    clear hK K
    (try simp only [Act.put, List.getElem_toArray, List.getElem_cons_succ, List.getElem_cons_zero, List.setIfInBounds_toArray, List.set_cons_zero, List.set_cons_succ])
    refine wpAnyH_ready (rs := [6]) (by kernel_rfl) (by simp) (AllReadyH.cons rfl (fun K hK => ?_) AllReadyH.nil)
    go_simp
    go_at_call 29
    refine HNM.out.mono ?_
    rintro e w11 ⟨v11, M, rfl, hl11, hn11, hm11, _, hb11⟩
    have hb12 : Below (R + 1) w0 w11 := hb10.trans (hb11.mono (Nat.le_trans hR1 hb10.size))
    refine hK.out _ _ (HS.out _ hb12) (fun hq11 => ?_)
    clear hK K
    (try simp only [Act.put, List.getElem_toArray, List.getElem_cons_succ, List.getElem_cons_zero, List.setIfInBounds_toArray, List.set_cons_zero, List.set_cons_succ])
    refine wpAnyH_take (i := 7) (v := ?_) rfl (by kernel_rfl) (by kernel_rfl) (by kernel_rfl) (fun _ _ _ h => h) (Or.inl ⟨by kernel_rfl, ?_⟩) hq11 ?_
    rotate_left
    · (intro w hSw; first | (go_simp; done) | (go_simp; with_reducible rfl))
    (try simp only [Act.put, List.getElem_toArray, List.getElem_cons_succ, List.getElem_cons_zero, List.setIfInBounds_toArray, List.set_cons_zero, List.set_cons_succ])
    refine wpAnyH_done (by kernel_rfl) ?_ _
    go_wp2_with fail
    go_ret
    have hfin : Below R w w11 := hb0.trans (hb12.mono (by omega))
    exact ⟨v11, rfl, by rw [← norm_add HNF.out hn11 (fun q => by rw [hm11, List.nil_append])]; exact hl11.base (by rw [HRW.out]; exact Nat.le_trans (by omega) hb10.size), by rw [HRW.out]; exact hfin⟩
end Go.Proofs.Ytoadbkiklabceaa
