/-
  Contract of the document's Meet of two lists of runs. No claim of its own.
-/
import Derived.Test.YtoadbkiklabceaaRg
namespace Go.Proofs.Ytoadbkiklabceaa
open Go.RowKit Go.Shelf Go.Deep
set_option linter.unusedVariables false
set_option linter.unusedSimpArgs false

def rowX (x : Rn) (B : List Rn) : List Rn := B.map fun y => (max x.1 y.1, min x.2 y.2)
def crossL (A B : List Rn) : List Rn := A.flatMap fun x => rowX x B
theorem mem_rowX (x : Rn) (B : List Rn) (n : Nat) : mem (rowX x B) n = (inR x n && mem B n) := by
  unfold rowX
  induction B with
  | nil => simp
  | cons y B ih =>
    rw [List.map_cons, mem_cons, ih, mem_cons]
    have e : inR (max x.1 y.1, min x.2 y.2) n = (inR x n && inR y n) := by
      rw [Bool.eq_iff_iff, Bool.and_eq_true, inR_iff, inR_iff, inR_iff]
      show (max x.1 y.1 ≤ n ∧ n < min x.2 y.2) ↔ _
      omega
    rw [e]
    cases inR x n <;> cases inR y n <;> cases mem B n <;> rfl
theorem mem_crossL (A B : List Rn) (n : Nat) : mem (crossL A B) n = (mem A n && mem B n) := by
  unfold crossL
  induction A with
  | nil => rfl
  | cons x A ih =>
    rw [List.flatMap_cons, mem_append, mem_rowX, ih, mem_cons]
    cases inR x n <;> cases mem A n <;> cases mem B n <;> rfl
theorem rowX_len (x : Rn) (B : List Rn) : (rowX x B).length = B.length := by simp [rowX]
theorem crossL_len (A B : List Rn) : (crossL A B).length = A.length * B.length := by
  unfold crossL
  induction A with
  | nil => simp
  | cons x A ih => rw [List.flatMap_cons, List.length_append, rowX_len, ih, List.length_cons, Nat.add_mul]; omega
theorem crossL_snoc (A B : List Rn) (x : Rn) : crossL (A ++ [x]) B = crossL A B ++ rowX x B := by simp [crossL]
theorem rowX_snoc (x y : Rn) (B : List Rn) : rowX x (B ++ [y]) = rowX x B ++ [(max x.1 y.1, min x.2 y.2)] := by simp [rowX]
theorem norm_meet {A B M : List Rn} (hA : NF A) (hB : NF B) (hM : NF M) (h : ∀ q, mem M q = mem (crossL A B) q) : M = meetL A B := by
  obtain ⟨h1, h2⟩ := meetL_ok hA hB
  exact hM.ext h1 fun n => by rw [h, h2, mem_crossL]
set_option maxHeartbeats 2000000 in
set_option maxRecDepth 100000 in
theorem rMeet_any (w : World) (a b : Option Addr) (A B : List Rn) (c d : Nat) (ha : Ro w w.heap.size a (rcs A)) (hb : Ro w w.heap.size b (rcs B)) (hA : NF A) (hB : NF B) (hla : A.length ≤ 1000) (hlb : B.length ≤ 1000) :
    Calls Try.prog 33 #[.slice a A.length c, .slice b B.length d] w fun e w' => ∃ v, e = .returned v ∧ Lr w' w.heap.size 31 v (meetL A B) ∧ Below w.heap.size w w' := by
  obtain ⟨n, HN⟩ : ∃ n, Hid (A.length = n) := ⟨_, Lib.hid rfl⟩
  obtain ⟨m, HM⟩ : ∃ m, Hid (B.length = m) := ⟨_, Lib.hid rfl⟩
  rw [HN.out] at hla ⊢
  rw [HM.out] at hlb ⊢
  have HRA := Lib.hid ha
  have HRB := Lib.hid hb
  have HNF := Lib.hid (And.intro hA hB)
  clear ha hb hA hB
  obtain ⟨R, HRW⟩ : ∃ R, Hid (w.heap.size = R) := ⟨_, Lib.hid rfl⟩
  rw [HRW.out] at HRA HRB ⊢
  go_enter Try.func33, Try.ntmps33
  go_wp2_with fail
  go_loopw [5, 6] (fun s5 i wr => ∃ k : Nat, i = .int .i64 k ∧ k ≤ n ∧ Lr wr R 31 s5 (crossL (A.take k) B) ∧ Below R w wr) (fun _ i _ => n - (intOf i).toNat)
  case atStart => exact ⟨0, rfl, Nat.zero_le _, Lr.nil _ _ _, Below.refl _ _⟩
  case round =>
    obtain ⟨k, rfl, hk, hv, hb⟩ := hrel
    by_cases hlt : k < n
    · have hkL : k < A.length := by rw [HN.out]; exact hlt
      obtain ⟨g, off, rfl, hg, hcl⟩ := HRA.out.rn (by omega)
      obtain ⟨h1, h2⟩ := hcl k hkL
      have HT := Lib.hid (show crossL (A.take (k + 1)) B = crossL (A.take k) B ++ rowX (el A k) B by rw [take_el hkL, crossL_snoc])
      have hlk : (crossL (A.take k) B).length = k * m := by rw [crossL_len, List.length_take, HM.out, Nat.min_eq_left (by omega)]
      have hkm : k * m ≤ 1000 * 1000 := Nat.mul_le_mul (by omega) hlb
      have HLK := Lib.hid (show (crossL (A.take k) B).length ≤ 1000000 by omega)
      generalize el A k = x at *
      have HX := Lib.hid (And.intro h1 h2)
      have hd1 : decide (k < n) = true := by simpa using hlt
      have hk0 : (0 : Int) ≤ (k : Int) := by omega
      have hk1 : (k : Int) < (n : Int) := by omega
      have hkb : (k : Int) ≤ 4000000 := by omega
      have hkn : k + 1 ≤ n := hlt
      have HKM := Lib.hid (show n - (k + 1) < n - k by omega)
      have HV := Lib.hid hv
      have HB := Lib.hid hb
      clear hcl h1 h2 hv hb hlt hlk hkm
      go_wp2_with fail
      go_loopw [5, 7] (fun s5 i wr => ∃ j : Nat, i = .int .i64 j ∧ j ≤ m ∧ Lr wr R 31 s5 (crossL (A.take k) B ++ rowX x (B.take j)) ∧ Below R w wr) (fun _ i _ => m - (intOf i).toNat)
      case atStart => exact ⟨0, rfl, Nat.zero_le _, by simpa [rowX] using HV.out, HB.out⟩
      case round =>
        obtain ⟨j, rfl, hj, hv, hb⟩ := hrel
        by_cases hlt2 : j < m
        · have hjL : j < B.length := by rw [HM.out]; exact hlt2
          obtain ⟨g', off', rfl, hg', hcl'⟩ := HRB.out.rn (by omega)
          obtain ⟨h3, h4⟩ := hcl' j hjL
          have hx1 := (hb.cell (p := ⟨g, off + k * 2, none⟩) hg).trans HX.out.1
          have hx2 := (hb.cell (p := ⟨g, off + k * 2 + 1, none⟩) hg).trans HX.out.2
          have hy1 := (hb.cell (p := ⟨g', off' + j * 2, none⟩) hg').trans h3
          have hy2 := (hb.cell (p := ⟨g', off' + j * 2 + 1, none⟩) hg').trans h4
          have HT2 := Lib.hid (show rowX x (B.take (j + 1)) = rowX x (B.take j) ++ [(max x.1 (el B j).1, min x.2 (el B j).2)] by rw [take_el hjL, rowX_snoc])
          have HLJ := Lib.hid (show (crossL (A.take k) B ++ rowX x (B.take j)).length ≤ 1001000 by rw [List.length_append, rowX_len, List.length_take]; have := HLK.out; omega)
          generalize el B j = y at *
          have hd2 : decide (j < m) = true := by simpa using hlt2
          have hj0 : (0 : Int) ≤ (j : Int) := by omega
          have hj1 : (j : Int) < (m : Int) := by omega
          have hjb : (j : Int) ≤ 4000000 := by omega
          have hjn : j + 1 ≤ m := hlt2
          have HJM := Lib.hid (show m - (j + 1) < m - j by omega)
          have hbs := hb.size
          have hgr : g < wr.heap.size := by have := HRW.out; omega
          have hgr' : g' < wr.heap.size := by have := HRW.out; omega
          have hRl : R ≤ wr.heap.size := by have := HRW.out; omega
          have HV2 := Lib.hid (show Lr wr.drew R 31 u5 (crossL (A.take k) B ++ rowX x (B.take j)) from hv)
          have HB2 := Lib.hid (show Below R w wr.drew from hb.drew)
          have hst : wr.drew.cell? ⟨g, off + k * 2, none⟩ = some (.int .u64 (x.1 : Int)) ∧ wr.drew.cell? ⟨g, off + k * 2 + 1, none⟩ = some (.int .u64 (x.2 : Int)) ∧ wr.drew.cell? ⟨g', off' + j * 2, none⟩ = some (.int .u64 (y.1 : Int)) ∧ wr.drew.cell? ⟨g', off' + j * 2 + 1, none⟩ = some (.int .u64 (y.2 : Int)) := ⟨hx1, hx2, hy1, hy2⟩
          obtain ⟨V, HVV⟩ : ∃ V : List Rn, Hid (V = [(max x.1 y.1, min x.2 y.2)]) := ⟨_, Lib.hid rfl⟩
          rw [← HVV.out] at HT2
          have HVC := Lib.hid (show rcs V = [.int .u64 (max (x.1 : Int) (y.1 : Int)), .int .u64 (min (x.2 : Int) (y.2 : Int))] by
            rw [HVV.out]
            simp only [rcs]
            rw [show ((min x.2 y.2 : Nat) : Int) = min (x.2 : Int) (y.2 : Int) by omega, show ((max x.1 y.1 : Nat) : Int) = max (x.1 : Int) (y.1 : Int) by omega])
          have HVL := Lib.hid (show V.length = 1 by rw [HVV.out]; rfl)
          clear hcl' h3 h4 hv hb hx1 hx2 hy1 hy2 hlt2
          go_wp2_with fail
          refine wp_region_held_drew (S := (fun w' => w'.cell? ⟨g, off + k * 2, none⟩ = some (.int .u64 (x.1 : Int)) ∧ w'.cell? ⟨g, off + k * 2 + 1, none⟩ = some (.int .u64 (x.2 : Int)) ∧ w'.cell? ⟨g', off' + j * 2, none⟩ = some (.int .u64 (y.1 : Int)) ∧ w'.cell? ⟨g', off' + j * 2 + 1, none⟩ = some (.int .u64 (y.2 : Int)))) (by kernel_rfl) hst (fun hHeld => ?_)
          refine wpAnyH_take (i := 0) (v := ?_) rfl (by kernel_rfl) (by kernel_rfl) (by kernel_rfl) (fun _ _ _ h => h) (Or.inl ⟨by kernel_rfl, ?_⟩) hHeld ?_
          rotate_left
          · (intro w hSw; first | (go_simp; done) | (go_simp; with_reducible rfl))
          (try simp only [Act.put, List.getElem_toArray, List.getElem_cons_succ, List.getElem_cons_zero, List.setIfInBounds_toArray, List.set_cons_zero, List.set_cons_succ])
          refine wpAnyH_take (i := 1) (v := ?_) rfl (by kernel_rfl) (by kernel_rfl) (by kernel_rfl) (fun _ _ _ h => h) (Or.inl ⟨by kernel_rfl, ?_⟩) hHeld ?_
          rotate_left
          · (intro w hSw; first | (go_simp; done) | (go_simp; with_reducible rfl))
          (try simp only [Act.put, List.getElem_toArray, List.getElem_cons_succ, List.getElem_cons_zero, List.setIfInBounds_toArray, List.set_cons_zero, List.set_cons_succ])
          refine wpAnyH_take (i := 2) (v := ?_) rfl (by kernel_rfl) (by kernel_rfl) (by kernel_rfl) (fun _ _ _ h => h) (Or.inl ⟨by kernel_rfl, ?_⟩) hHeld ?_
          rotate_left
          · (intro w hSw; first | (go_simp; done) | (go_simp; with_reducible rfl))
          (try simp only [Act.put, List.getElem_toArray, List.getElem_cons_succ, List.getElem_cons_zero, List.setIfInBounds_toArray, List.set_cons_zero, List.set_cons_succ])
          refine wpAnyH_take (i := 3) (v := ?_) rfl (by kernel_rfl) (by kernel_rfl) (by kernel_rfl) (fun _ _ _ h => h) (Or.inl ⟨by kernel_rfl, ?_⟩) hHeld ?_
          rotate_left
          · (intro w hSw; first | (go_simp; done) | (go_simp; with_reducible rfl))
          (try simp only [Act.put, List.getElem_toArray, List.getElem_cons_succ, List.getElem_cons_zero, List.setIfInBounds_toArray, List.set_cons_zero, List.set_cons_succ])
          refine wpAnyH_take (i := 4) (v := ?_) rfl (by kernel_rfl) (by kernel_rfl) (by kernel_rfl) (fun _ _ _ h => h) (Or.inl ⟨by kernel_rfl, ?_⟩) hHeld ?_
          rotate_left
          · (intro w hSw; first | (go_simp; done) | (go_simp; with_reducible rfl))
          (try simp only [Act.put, List.getElem_toArray, List.getElem_cons_succ, List.getElem_cons_zero, List.setIfInBounds_toArray, List.set_cons_zero, List.set_cons_succ])
          refine wpAnyH_take (i := 5) (v := ?_) rfl (by kernel_rfl) (by kernel_rfl) (by kernel_rfl) (fun _ _ _ h => h) (Or.inl ⟨by kernel_rfl, ?_⟩) hHeld ?_
          rotate_left
          · (intro w hSw; first | (go_simp; done) | (go_simp; with_reducible rfl))
          (try simp only [Act.put, List.getElem_toArray, List.getElem_cons_succ, List.getElem_cons_zero, List.setIfInBounds_toArray, List.set_cons_zero, List.set_cons_succ])
          refine wpAnyH_take (i := 6) (v := ?_) rfl (by kernel_rfl) (by kernel_rfl) (by kernel_rfl) (fun _ _ _ h => h) (Or.inl ⟨by kernel_rfl, ?_⟩) hHeld ?_
          rotate_left
          · (intro w hSw; first | (go_simp; done) | (go_simp; with_reducible rfl))
          (try simp only [Act.put, List.getElem_toArray, List.getElem_cons_succ, List.getElem_cons_zero, List.setIfInBounds_toArray, List.set_cons_zero, List.set_cons_succ])
          refine wpAnyH_take (i := 7) (v := ?_) rfl (by kernel_rfl) (by kernel_rfl) (by kernel_rfl) (fun _ _ _ h => h) (Or.inl ⟨by kernel_rfl, ?_⟩) hHeld ?_
          rotate_left
          · (intro w hSw; first | (go_simp; done) | (go_simp; with_reducible rfl))
          (try simp only [Act.put, List.getElem_toArray, List.getElem_cons_succ, List.getElem_cons_zero, List.setIfInBounds_toArray, List.set_cons_zero, List.set_cons_succ])
          refine wpAnyH_take (i := 8) (v := ?_) rfl (by kernel_rfl) (by kernel_rfl) (by kernel_rfl) (fun _ _ _ h => h) (Or.inl ⟨by kernel_rfl, ?_⟩) hHeld ?_
          rotate_left
          · (intro w hSw; first | (go_simp; done) | (go_simp; with_reducible rfl))
          (try simp only [Act.put, List.getElem_toArray, List.getElem_cons_succ, List.getElem_cons_zero, List.setIfInBounds_toArray, List.set_cons_zero, List.set_cons_succ])
          refine wpAnyH_take (i := 9) (v := ?_) rfl (by kernel_rfl) (by kernel_rfl) (by kernel_rfl) (fun _ _ _ h => h) (Or.inl ⟨by kernel_rfl, ?_⟩) hHeld ?_
          rotate_left
          · (intro w hSw; first | (go_simp; done) | (go_simp; with_reducible rfl))
          (try simp only [Act.put, List.getElem_toArray, List.getElem_cons_succ, List.getElem_cons_zero, List.setIfInBounds_toArray, List.set_cons_zero, List.set_cons_succ])
          refine wpAnyH_take (i := 10) (v := ?_) rfl (by kernel_rfl) (by kernel_rfl) (by kernel_rfl) (fun _ _ _ h => h) (Or.inl ⟨by kernel_rfl, ?_⟩) hHeld ?_
          rotate_left
          · (intro w hSw; first | (go_simp; done) | (go_simp; with_reducible rfl))
          (try simp only [Act.put, List.getElem_toArray, List.getElem_cons_succ, List.getElem_cons_zero, List.setIfInBounds_toArray, List.set_cons_zero, List.set_cons_succ])
          refine wpAnyH_take (i := 11) (v := ?_) rfl (by kernel_rfl) (by kernel_rfl) (by kernel_rfl) (fun _ _ _ h => h) (Or.inl ⟨by kernel_rfl, ?_⟩) hHeld ?_
          rotate_left
          · (intro w hSw; first | (go_simp; done) | (go_simp; with_reducible rfl))
          (try simp only [Act.put, List.getElem_toArray, List.getElem_cons_succ, List.getElem_cons_zero, List.setIfInBounds_toArray, List.set_cons_zero, List.set_cons_succ])
          refine wpAnyH_take (i := 12) (v := ?_) rfl (by kernel_rfl) (by kernel_rfl) (by kernel_rfl) (fun _ _ _ h => h) (Or.inl ⟨by kernel_rfl, ?_⟩) hHeld ?_
          rotate_left
          · (intro w hSw; first | (go_simp; done) | (go_simp; with_reducible rfl))
          (try simp only [Act.put, List.getElem_toArray, List.getElem_cons_succ, List.getElem_cons_zero, List.setIfInBounds_toArray, List.set_cons_zero, List.set_cons_succ])
          refine wpAnyH_take (i := 13) (v := ?_) rfl (by kernel_rfl) (by kernel_rfl) (by kernel_rfl) (fun _ _ _ h => h) (Or.inl ⟨by kernel_rfl, ?_⟩) hHeld ?_
          rotate_left
          · (intro w hSw; first | (go_simp; done) | (go_simp; with_reducible rfl))
          (try simp only [Act.put, List.getElem_toArray, List.getElem_cons_succ, List.getElem_cons_zero, List.setIfInBounds_toArray, List.set_cons_zero, List.set_cons_succ])
          refine wpAnyH_take (i := 14) (v := ?_) rfl (by kernel_rfl) (by kernel_rfl) (by kernel_rfl) (fun _ _ _ h => h) (Or.inl ⟨by kernel_rfl, ?_⟩) hHeld ?_
          rotate_left
          · (intro w hSw; first | (go_simp; done) | (go_simp; with_reducible rfl))
          (try simp only [Act.put, List.getElem_toArray, List.getElem_cons_succ, List.getElem_cons_zero, List.setIfInBounds_toArray, List.set_cons_zero, List.set_cons_succ])
          refine wpAnyH_take (i := 15) (v := ?_) rfl (by kernel_rfl) (by kernel_rfl) (by kernel_rfl) (fun _ _ _ h => h) (Or.inl ⟨by kernel_rfl, ?_⟩) hHeld ?_
          rotate_left
          · (intro w hSw; first | (go_simp; done) | (go_simp; with_reducible rfl))
          (try simp only [Act.put, List.getElem_toArray, List.getElem_cons_succ, List.getElem_cons_zero, List.setIfInBounds_toArray, List.set_cons_zero, List.set_cons_succ])
          refine wpAnyH_take (i := 16) (v := ?_) rfl (by kernel_rfl) (by kernel_rfl) (by kernel_rfl) (fun _ _ _ h => h) (Or.inl ⟨by kernel_rfl, ?_⟩) hHeld ?_
          rotate_left
          · (intro w hSw; first | (go_simp; done) | (go_simp; with_reducible rfl))
          (try simp only [Act.put, List.getElem_toArray, List.getElem_cons_succ, List.getElem_cons_zero, List.setIfInBounds_toArray, List.set_cons_zero, List.set_cons_succ])
          refine wpAnyH_take (i := 17) (v := ?_) rfl (by kernel_rfl) (by kernel_rfl) (by kernel_rfl) (fun _ _ _ h => h) (Or.inl ⟨by kernel_rfl, ?_⟩) hHeld ?_
          rotate_left
          · (intro w hSw; first | (go_simp; done) | (go_simp; with_reducible rfl))
          (try simp only [Act.put, List.getElem_toArray, List.getElem_cons_succ, List.getElem_cons_zero, List.setIfInBounds_toArray, List.set_cons_zero, List.set_cons_succ])
          refine wpAnyH_take (i := 18) (v := ?_) rfl (by kernel_rfl) (by kernel_rfl) (by kernel_rfl) (fun _ _ _ h => h) (Or.inl ⟨by kernel_rfl, ?_⟩) hHeld ?_
          rotate_left
          · (intro w hSw; first | (go_simp; done) | (go_simp; with_reducible rfl))
          (try simp only [Act.put, List.getElem_toArray, List.getElem_cons_succ, List.getElem_cons_zero, List.setIfInBounds_toArray, List.set_cons_zero, List.set_cons_succ])
          refine wpAnyH_take (i := 19) (v := ?_) rfl (by kernel_rfl) (by kernel_rfl) (by kernel_rfl) (fun _ _ _ h => h) (Or.inl ⟨by kernel_rfl, ?_⟩) hHeld ?_
          rotate_left
          · (intro w hSw; first | (go_simp; done) | (go_simp; with_reducible rfl))
          (try simp only [Act.put, List.getElem_toArray, List.getElem_cons_succ, List.getElem_cons_zero, List.setIfInBounds_toArray, List.set_cons_zero, List.set_cons_succ])
          refine wpAnyH_take (i := 20) (v := ?_) rfl (by kernel_rfl) (by kernel_rfl) (by kernel_rfl) (fun _ _ _ h => h) (Or.inl ⟨by kernel_rfl, ?_⟩) hHeld ?_
          rotate_left
          · (intro w hSw; first | (go_simp; done) | (go_simp; with_reducible rfl))
          (try simp only [Act.put, List.getElem_toArray, List.getElem_cons_succ, List.getElem_cons_zero, List.setIfInBounds_toArray, List.set_cons_zero, List.set_cons_succ])
          refine wpAnyH_take (i := 21) (v := ?_) rfl (by kernel_rfl) (by kernel_rfl) (by kernel_rfl) (fun _ _ _ h => h) (Or.inl ⟨by kernel_rfl, ?_⟩) hHeld ?_
          rotate_left
          · (intro w hSw; first | (go_simp; done) | (go_simp; with_reducible rfl))
          (try simp only [Act.put, List.getElem_toArray, List.getElem_cons_succ, List.getElem_cons_zero, List.setIfInBounds_toArray, List.set_cons_zero, List.set_cons_succ])
          refine wpAnyH_take (i := 22) (v := ?_) rfl (by kernel_rfl) (by kernel_rfl) (by kernel_rfl) (fun _ _ _ h => h) (Or.inl ⟨by kernel_rfl, ?_⟩) hHeld ?_
          rotate_left
          · (intro w hSw; first | (go_simp; done) | (go_simp; with_reducible rfl))
          (try simp only [Act.put, List.getElem_toArray, List.getElem_cons_succ, List.getElem_cons_zero, List.setIfInBounds_toArray, List.set_cons_zero, List.set_cons_succ])
          refine wpAnyH_take (i := 23) (v := ?_) rfl (by kernel_rfl) (by kernel_rfl) (by kernel_rfl) (fun _ _ _ h => h) (Or.inl ⟨by kernel_rfl, ?_⟩) hHeld ?_
          rotate_left
          · (intro w hSw; first | (go_simp; done) | (go_simp; with_reducible rfl))
          (try simp only [Act.put, List.getElem_toArray, List.getElem_cons_succ, List.getElem_cons_zero, List.setIfInBounds_toArray, List.set_cons_zero, List.set_cons_succ])
          refine wpAnyH_ready (rs := [24]) (by kernel_rfl) (by simp) (AllReadyH.cons rfl (fun K hK => ?_) AllReadyH.nil)
          have hH := hHeld
          (go_simp; skip)
          refine hK.out _ _ (by exact ⟨(World.cell?_alloc_lt _ _ _ hgr).trans hH.1, (World.cell?_alloc_lt _ _ _ hgr).trans hH.2.1, (World.cell?_alloc_lt _ _ _ hgr').trans hH.2.2.1, (World.cell?_alloc_lt _ _ _ hgr').trans hH.2.2.2⟩) (fun hHq1 => ?_)
          clear hK K hH 
          (try simp only [Act.put, List.getElem_toArray, List.getElem_cons_succ, List.getElem_cons_zero, List.setIfInBounds_toArray, List.set_cons_zero, List.set_cons_succ])
          refine wpAnyH_ready (rs := [25]) (by kernel_rfl) (by simp) (AllReadyH.cons rfl (fun K hK => ?_) AllReadyH.nil)
          have hH := hHq1
          (refine step_appS (by rfl) (.tmp 20) (.tmp 44) 26 (by rfl) R 31 zR 16 Try.underlying26 Try.infoF rfl _ (crossL (A.take k) B ++ rowX x (B.take j)) (by rfl) (HV2.out.alloc _) (some ⟨wr.heap.size, 0, none⟩) (wr.heap.size + 1) 1 1 V (by rfl) HVL.out (by rw [HVC.out]; exact (Own.new wr.drew 31 _).ro _ (by simp)) (by have := HLJ.out; omega) (by have := HLJ.out; omega) (by simp; omega) ?_; intro v4 w4 H4 hg4 hn4; have hb4 := belowG hg4 (B := R) (fun q hq => (HV2.out.lt q hq).1) (by simp; omega))
          refine hK.out _ _ (by exact ⟨(hb4.cell (p := ⟨g, off + k * 2, none⟩) hg).trans hH.1, (hb4.cell (p := ⟨g, off + k * 2 + 1, none⟩) hg).trans hH.2.1, (hb4.cell (p := ⟨g', off' + j * 2, none⟩) hg').trans hH.2.2.1, (hb4.cell (p := ⟨g', off' + j * 2 + 1, none⟩) hg').trans hH.2.2.2⟩) (fun hHq2 => ?_)
          clear hK K hH hHq1
          (try simp only [Act.put, List.getElem_toArray, List.getElem_cons_succ, List.getElem_cons_zero, List.setIfInBounds_toArray, List.set_cons_zero, List.set_cons_succ])
          refine wpAnyH_take (i := 26) (v := ?_) rfl (by kernel_rfl) (by kernel_rfl) (by kernel_rfl) (fun _ _ _ h => h) (Or.inl ⟨by kernel_rfl, ?_⟩) hHq2 ?_
          rotate_left
          · (intro w hSw; first | (go_simp; done) | (go_simp; with_reducible rfl))
          (try simp only [Act.put, List.getElem_toArray, List.getElem_cons_succ, List.getElem_cons_zero, List.setIfInBounds_toArray, List.set_cons_zero, List.set_cons_succ])
          refine wpAnyH_done (by kernel_rfl) ?_ _
          have hEnd := hHq2
          have hB4 : Below R w w4 := (HB2.out.alloc hRl _).trans hb4
          clear hg4 hn4 hb4 hEnd hst
          go_wp2_with fail
          go_roundw
          case rel => exact ⟨j + 1, by go_num, hjn, by rw [HT2.out, ← List.append_assoc]; exact H4.out, hB4⟩
          case measure => have := HJM.out; simp [intOf]; omega
        · have ht : B.take j = B := List.take_of_length_le (by rw [HM.out]; omega)
          rw [ht] at hv
          have hd2 : decide (j < m) = false := by simpa using hlt2
          have HV2 := Lib.hid hv
          have HB2 := Lib.hid hb
          clear hv hb hlt2
          go_wp2_with fail
          go_roundw
          case rel => exact ⟨k + 1, by go_num, hkn, by rw [HT.out]; exact HV2.out, HB2.out⟩
          case measure => have := HKM.out; simp [intOf]; omega
    · have ht : A.take k = A := List.take_of_length_le (by rw [HN.out]; omega)
      rw [ht] at hv
      obtain ⟨a5, c5, rfl, hro5, _, _, _, _⟩ := hv.form
      have hd1 : decide (k < n) = false := by simpa using hlt
      have hnm : n * m ≤ 1000 * 1000 := Nat.mul_le_mul hla hlb
      have hcl : (crossL A B).length ≤ 1000000 := by rw [crossL_len, HN.out, HM.out]; omega
      have HNM := Lib.hid (Norm_any wr a5 (crossL A B) c5 wr.heap.size hro5 (Nat.le_refl _) hcl)
      have HB := Lib.hid hb
      clear hv hb hro5 hlt hnm
      go_wp2_with (go_at_call 29; refine HNM.out.mono ?_; rintro e w6 ⟨v6, M, rfl, hl6, hn6, hm6, _, hb6⟩)
      go_ret
      have hbs := HB.out.size
      rw [HRW.out] at hbs
      exact ⟨v6, rfl, by rw [← norm_meet HNF.out.1 HNF.out.2 hn6 hm6]; exact hl6.base hbs, HB.out.trans (hb6.mono hbs)⟩
end Go.Proofs.Ytoadbkiklabceaa
