/-
  widths of package cell, and slices.Repeat below it, by their contracts. No claim of their own.
-/
import Derived.Test.YtdpaofedepnnbaaGreatCeA
import Derived.Deep.RegionLaw
namespace Go.Proofs.YtdpaofedepnnbaaGreat
open Go.RowKit Go.Deep
set_option linter.unusedVariables false
set_option linter.unusedSimpArgs false

set_option maxHeartbeats 400000 in
theorem mul64_any (n : Nat) (w : World) (h : n ≤ 1000) :
    Calls Tryz.prog 140 #[.int .u64 1, .int .u64 (n : Int)] w fun e w' => e = .returned (.tuple #[.int .u64 0, .int .u64 (n : Int)]) ∧ w = w' := by
  have h1 : bits BinOp.and IntKind.u64 (n : Int) 4294967295 = (n : Int) := by
    have := u64_and_nat n 4294967295 (by omega) (by omega)
    rw [show ((4294967295 : Nat) : Int) = 4294967295 by rfl] at this
    rw [this, show (4294967295 : Nat) = 2 ^ 32 - 1 by rfl, Nat.and_two_pow_sub_one_eq_mod, Nat.mod_eq_of_lt (by omega)]
  have h2 : bits BinOp.and IntKind.u64 1 4294967295 = 1 := by decide
  have h3 : bits BinOp.and IntKind.u64 0 4294967295 = 0 := by decide
  have h4 : (n : Int) / 4294967296 = 0 := by omega
  go_enter Tryz.func140, Tryz.ntmps140
  go_wp2
  go_ret2
  exact ⟨rfl, rfl⟩
set_option maxHeartbeats 400000 in
theorem mul_any (n : Nat) (w : World) (h : n ≤ 1000) :
    Calls Tryz.prog 124 #[.int .u64 1, .int .u64 (n : Int)] w fun e w' => e = .returned (.tuple #[.int .u64 0, .int .u64 (n : Int)]) ∧ w = w' := by
  go_enter Tryz.func124, Tryz.ntmps124
  go_wp2_with fail
  refine (mul64_any n _ h).mono ?_
  rintro e w' ⟨rfl, rfl⟩
  go_wp2_with fail
  go_ret2
  exact ⟨rfl, rfl⟩

theorem Tryz.info_i64 : (Tryz.prog.info? 3).map (fun i => (i.zero, i.size, i.bytes)) = some (some (.int .i64 0), 1, 8) := by kernel_rfl
theorem Tryz.size_i64 : (Tryz.prog.info? 3).map (·.size) = some 1 := by kernel_rfl
theorem made_i64s (n : Nat) : madeCells #[.int .i64 0] n = (i64s (List.replicate n 0)).toArray := by
  apply Array.ext
  · simp [size_madeCells, i64s]
  · intro i h1 h2
    simp [madeCells, i64s, Nat.mod_one]
theorem own_madei (w : World) (n : Nat) : Own (w.alloc (.cells (madeCells #[.int .i64 0] n) 3)) w.heap.size 3 (i64s (List.replicate n 0)) := by
  rw [made_i64s]
  exact Own.new w 3 _
theorem i64s_oneCell (bs : List Int) : ∀ v ∈ i64s bs, v.oneCell' = true := by
  intro v hv
  simp only [i64s, List.mem_map] at hv
  obtain ⟨x, _, rfl⟩ := hv
  rfl
/-- the row on the way: k of n are laid -/
def rpt (x : Int) (n k : Nat) : List Int := List.replicate k x ++ List.replicate (n - k) 0
theorem rpt_zero (x : Int) (n : Nat) : rpt x n 0 = List.replicate n 0 := by simp [rpt]
theorem rpt_full (x : Int) (n : Nat) : rpt x n n = List.replicate n x := by simp [rpt]
@[simp] theorem rpt_length (x : Int) (n k : Nat) (h : k ≤ n) : (rpt x n k).length = n := by simp [rpt]; omega
theorem rpt_step (x : Int) (n k m : Nat) (h : k + m ≤ n) : splice (i64s (rpt x n k)) k (i64s (List.replicate m x)) = i64s (rpt x n (k + m)) := by
  unfold splice rpt i64s
  simp only [List.map_append, List.map_replicate, List.length_replicate]
  rw [List.take_append_of_le_length (by simp), List.take_of_length_le (by simp), List.drop_append, List.drop_of_length_le (by simp)]
  simp only [List.length_replicate, List.drop_replicate, List.nil_append]
  rw [show n - k - (k + m - k) = n - (k + m) by omega, ← List.append_assoc, List.replicate_append_replicate]
set_option maxHeartbeats 1000000 in
theorem repeat_any (x : Int) (n : Nat) (a : Option Addr) (c B : Nat) (w : World) (hro : Ro w B a (i64s [x])) (hB : B ≤ w.heap.size) (hn : n ≤ 1000) :
    Calls Tryz.prog 104 #[.slice a 1 c, .int .i64 (n : Int)] w fun e w' => e = .returned (.slice (some ⟨w.heap.size, 0, none⟩) n n) ∧ Own w' w.heap.size 3 (i64s (List.replicate n x)) ∧ Below w.heap.size w w' := by
  have hmk := fun W => run_make_row' (P := Tryz.prog) 33 3 (.int .i64 0) 8 Tryz.underlying33 Tryz.info_i64 rfl .i64 .i64 n (by omega) (by omega) W
  have e1 : IntKind.u64.wrap (n : Int) = (n : Int) := wrap_u64_nat _ (by omega)
  have HM := Lib.hid (fun W => mul_any n W hn)
  have HRO := Lib.hid hro
  obtain ⟨k0, HK0⟩ : ∃ k0, Hid (k0 = min 1 n) := ⟨_, Lib.hid rfl⟩
  go_enter Tryz.func104, Tryz.ntmps104
  go_wp2_with fail
  refine (HM.out _).mono ?_
  rintro e w' ⟨rfl, rfl⟩
  have hown := own_madei w n
  have HO := Lib.hid hown
  clear hown hro
  go_wp2_with (with_reducible refine wpList_copy_splice rfl (.tmp 31) (.tmp 32) 33 33 rfl 3 Tryz.underlying33 Tryz.size_i64 _ _ _ _ _ _ rfl rfl w.heap.size 0 (i64s (List.replicate n 0)) 3 ?hg (i64s (List.replicate k0 x)) ?hn ?hp ?hf ?h1 w.heap.size w ?hb ?hg2 ?_)
  case hg => exact HO.out
  case hn => rw [i64s_length, List.length_replicate]; exact HK0.out
  case hp =>
    intro h0
    have h0 : 0 < k0 := by simpa using h0
    have e : k0 = 1 := by have := HK0.out; omega
    subst e
    first
      | exact ⟨rfl, ((HRO.out.below ((Below.refl _ _).alloc hB _) (Nat.le_refl _)).src (by simp))⟩
      | exact ((HRO.out.below ((Below.refl _ _).alloc hB _) (Nat.le_refl _)).src (by simp))
  case hf => rw [i64s_length, i64s_length, List.length_replicate, List.length_replicate]; have := HK0.out; omega
  case h1 => exact i64s_oneCell _
  case hb => exact (Below.refl _ _).alloc (Nat.le_refl _) _
  case hg2 => exact Nat.le_refl _
  intro w2 ho2 hb2
  have hs := rpt_step x n 0 k0 (by have := HK0.out; omega)
  rw [rpt_zero, Nat.zero_add] at hs
  rw [hs] at ho2
  have HO2 : Hid (Own w2 w.heap.size 3 (i64s (rpt x n k0))) := ho2
  have HB2 := Lib.hid hb2
  clear hs ho2 hb2
  go_wp2_with fail
  go_loopw [8] (fun i wr => ∃ k : Nat, k ≤ n ∧ i = .int .i64 (k : Int) ∧ Hid (min 1 n ≤ k) ∧ Hid (Own wr w.heap.size 3 (i64s (rpt x n k))) ∧ Hid (Below w.heap.size w wr)) (fun i _ => n - (intOf i).toNat)
  case atStart => exact ⟨k0, by have := HK0.out; omega, by simp, Lib.hid (by rw [HK0.out]; exact Nat.le_refl _), HO2, HB2⟩
  case round =>
    obtain ⟨k, hk, rfl, HK, HO3, HB3⟩ := hrel
    by_cases hlt : k < n
    · have hk1 : (k : Int) < (n : Int) := by omega
      have hk2 : (0 : Int) ≤ (k : Int) := by omega
      have hk3 : ¬ n = k := by omega
      obtain ⟨m, hm⟩ : ∃ m, m = Nat.min k (n - k) := ⟨_, rfl⟩
      have hm1 : m ≤ k := by rw [hm]; exact Nat.min_le_left _ _
      have hm2 : m ≤ n - k := by rw [hm]; exact Nat.min_le_right _ _
      have hm3 : 0 < m := by rw [hm]; have := HK.out; exact Nat.lt_min.2 ⟨by omega, by omega⟩
      have ho3 := HO3.out
      obtain ⟨W4, hrun, hown4, hb4⟩ : ∃ W4, (Builtin.copy_ #[33, 33] 3 #[.slice (some ⟨w.heap.size, k, none⟩) (n - k) (n - k), .slice (some ⟨w.heap.size, 0, none⟩) k n]).run Tryz.prog wr.drew = .ok (.int .i64 (m : Int)) W4 ∧ Own W4 w.heap.size 3 (i64s (rpt x n (k + m))) ∧ Below w.heap.size w W4 := by
        have h0 := run_copy_row (P := Tryz.prog) wr.drew 33 33 3 3 w.heap.size k (n - k) (n - k) ⟨w.heap.size, 0, none⟩ k n (i64s (rpt x n k)).toArray 3 (i64s (List.replicate m x)) Tryz.underlying33 Tryz.size_i64 ho3 (by simpa using hm) (fun j v hj => by
          have hj' := hj
          rw [add_off, Nat.zero_add]
          have hlt' : j < m := by
            have := (List.getElem?_eq_some_iff.1 hj).1
            simpa using this
          have e := ho3.cell j
          refine (show wr.drew.cell? _ = wr.cell? _ from rfl).trans (e.trans ?_)
          rw [← hj]
          unfold rpt i64s
          simp only [List.map_append, List.map_replicate]
          rw [List.getElem?_append_left (by simp; omega), List.getElem?_replicate, List.getElem?_replicate, if_pos (by omega), if_pos hlt']) (by simp [rpt_length x n k hk]; omega) (i64s_oneCell _)
        have hs := rpt_step x n k m (by omega)
        unfold splice at hs
        simp only [List.toList_toArray, List.append_assoc] at h0
        rw [hs] at h0
        refine ⟨_, by simpa [goInt] using h0, ?_, below_setRow HB3.out.drew (Nat.le_refl _) _⟩
        exact setRow_heap _ _ _ _ _ _ ho3
      have hsum : (k : Int) + (m : Int) = ((k + m : Nat) : Int) := by omega
      have HO4 := Lib.hid hown4
      have HB4 := Lib.hid hb4
      have HM4 := Lib.hid hm3
      clear hm ho3 hown4 hb4 hsum
      go_wp2_with fail
      go_region
      go_wp2_with fail
      go_roundw
      case rel => exact ⟨k + m, by omega, by go_num, Lib.hid (by have := HK.out; omega), HO4, HB4⟩
      case measure => simp [intOf]; omega
    · obtain rfl : k = n := by omega
      go_wp2_with fail
      go_ret
      refine ⟨rfl, ?_, HB3.out⟩
      have := HO3.out
      rwa [rpt_full] at this

theorem Own.lst {w : World} {g base : Nat} {e : TypeId} {xs : List Value} (h : Own w g e xs) (hb : base ≤ g) (n : Nat) (hn : xs.length = n) (hm : n ≤ maxLen) : Lst w base e (.slice (some ⟨g, 0, none⟩) n n) xs := by
  subst hn
  exact ⟨by simp, .inr ⟨g, xs.length, xs.toArray, rfl, hb, h, Nat.le_refl _, hm, by simp, by simp⟩⟩
/-- the widths of so many Backs, and of what is ahead -/
def wid (n : Nat) : List Int := 12 :: List.replicate n 46
@[simp] theorem wid_length (n : Nat) : (wid n).length = n + 1 := by simp [wid]
set_option maxHeartbeats 1000000 in
theorem widths_any (n : Nat) (w : World) (hn : n ≤ 1000) :
    Calls Tryz.prog 71 #[.int .i64 (n : Int)] w fun e w' => ∃ a c, e = .returned (.slice a (n + 1) c) ∧ Ro w' w'.heap.size a (i64s (wid n)) ∧ Below w.heap.size w w' := by
  obtain ⟨W, hW⟩ : ∃ W, (w.alloc (.cells #[.int .i64 12] 3)).alloc (.cells #[.int .i64 46] 3) = W := ⟨_, rfl⟩
  have hWb : Below w.heap.size w W := by rw [← hW]; exact ((Below.refl _ _).alloc (Nat.le_refl _) _).alloc (by simp) _
  have o1 : Own W w.heap.size 3 (i64s [12]) := by rw [← hW]; exact (Own.new w _ _).alloc _
  have o2 : Own W (w.heap.size + 1) 3 (i64s [46]) := by
    rw [← hW]
    have := Own.new (w.alloc (.cells #[.int .i64 12] 3)) 3 (i64s [46])
    simp only [World.size_alloc] at this
    exact this
  have hz : W.heap.size = w.heap.size + 2 := by rw [← hW]; simp
  have HC := Lib.hid (repeat_any 46 n (some ⟨w.heap.size + 1, 0, none⟩) 1 (w.heap.size + 2) W (o2.ro _ (by omega)) (by omega) hn)
  have HO := Lib.hid o1
  have HW := Lib.hid hW
  have HWb := Lib.hid hWb
  have HZ := Lib.hid hz
  clear o1 o2 hW hWb hz
  go_enter Tryz.func71, Tryz.ntmps71
  go_wp2_with fail
  rw [HW.out]
  refine HC.out.mono ?_
  rintro e w2 ⟨rfl, ho, hb⟩
  have HB := Lib.hid hb
  have HO1 := Lib.hid (HO.out.below hb (by have := HZ.out; omega))
  have HO2 := Lib.hid ho
  clear hb ho
  have hlst := Lib.hid (HO1.out.lst (base := w.heap.size) (Nat.le_refl _) 1 rfl (by decide))
  have hbel := Lib.hid (HWb.out.trans (HB.out.mono HWb.out.size))
  go_wp2_with (at_builtin; refine wpList_appB rfl (.tmp 3) (.tmp 6) 33 rfl w.heap.size 3 (.int .i64 0) 8 Tryz.underlying33 Tryz.info_i64 rfl _ (i64s [12]) rfl hlst.out (some ⟨W.heap.size, 0, none⟩) w2.heap.size n n (i64s (List.replicate n 46)) rfl (by simp) (HO2.out.ro _ HO2.out.lt) (i64s_oneCell _) (by simp; omega) (by simp; omega) w.heap.size w hbel.out (Nat.le_refl _) hbel.out.size ?_)
  intro v' w3 hl hb3 hs3
  have HL := Lib.hid hl.out
  have HB3 := Lib.hid hb3
  clear hl hb3 hs3
  go_wp2_with fail
  go_ret
  obtain ⟨a, c, rfl, hro, _, _⟩ := HL.out.form
  exact ⟨a, c, by simp [i64s], hro, HB3.out⟩
end Go.Proofs.YtdpaofedepnnbaaGreat
