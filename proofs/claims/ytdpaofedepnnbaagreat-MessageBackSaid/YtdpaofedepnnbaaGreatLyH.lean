/-
  The law package's questions of size; Has and SameChain of the document's answer. No claim of their own.
-/
import Derived.Test.YtdpaofedepnnbaaGreatLyB
namespace Go.Proofs.YtdpaofedepnnbaaGreat
open Go.RowKit Go.Deep Go.Shelf
set_option linter.unusedVariables false
set_option linter.unusedSimpArgs false

set_option maxHeartbeats 1000000 in
theorem has_any (L : List Int) (x : Int) (a : Option Addr) (c B : Nat) (w : World) (hro : Ro w B a (i64s L)) (hB : B ≤ w.heap.size) (hl : L.length ≤ 1000000) :
    Calls Tryz.prog 120 #[.slice a L.length c, .int .i64 x] w fun e w' => e = .returned (.bool (decide (x ∈ L))) ∧ Below w.heap.size w w' := by
  have HRO := Lib.hid hro
  have HS := Lib.hid hB
  generalize hN : L.length = n at *
  have HN := Lib.hid hN
  have hn1 : (n : Int) ≤ 1000000 := by omega
  obtain ⟨t, HT⟩ : ∃ t, Hid (decide (x ∈ L) = t) := ⟨_, Lib.hid rfl⟩
  rw [HT.out]
  clear hro hB hN
  go_enter Tryz.func120, Tryz.ntmps120
  go_wp2_with fail
  go_loopw [5] (fun i wr => ∃ k : Nat, k ≤ n ∧ i = .int .i64 (k : Int) ∧ Hid (∀ j, j < k → L.getD j 0 ≠ x) ∧ Hid (Below w.heap.size w wr)) (fun i _ => n - (intOf i).toNat)
  case atStart => exact ⟨0, Nat.zero_le _, rfl, Lib.hid (by omega), Lib.hid (Below.refl _ _)⟩
  case round =>
    obtain ⟨k, hk, rfl, HM, HBk⟩ := hrel
    by_cases hlt : k < n
    · have hkL : k < L.length := by rw [HN.out]; exact hlt
      obtain ⟨b, off, rfl, hb, hc⟩ := (HRO.out.below HBk.out HS.out).i64 (show 0 < L.length by omega)
      have e1 := hc k hkL
      clear hc
      have hk0 : (0 : Int) ≤ (k : Int) := by omega
      have hk1 : (k : Int) < (n : Int) := by omega
      have HMEM : Hid (L.getD k 0 ∈ L) := Lib.hid (by simp [List.getD, hkL])
      obtain ⟨y, hy⟩ : ∃ y, L.getD k 0 = y := ⟨_, rfl⟩
      rw [hy] at e1
      have HY := Lib.hid hy
      clear hy
      by_cases hx : y = x
      · subst hx
        obtain rfl : t = true := by rw [← HT.out]; simp only [decide_eq_true_eq]; rw [← HY.out]; exact HMEM.out
        go_wp2_with fail
        go_ret
        exact ⟨rfl, HBk.out⟩
      · have hx' : (y == x) = false := by rw [beq_eq_false_iff_ne]; exact hx
        have HX := Lib.hid hx
        clear hx
        go_wp2_with fail
        go_roundw
        case rel =>
          refine ⟨k + 1, by omega, by go_num, Lib.hid fun j hj => ?_, HBk⟩
          by_cases e : j = k
          · subst e; rw [HY.out]; exact HX.out
          · exact HM.out j (by omega)
        case measure => simp [intOf]; omega
    · obtain rfl : k = n := by omega
      obtain rfl : t = false := by
        rw [← HT.out]
        simp only [decide_eq_false_iff_not]
        intro hm
        obtain ⟨j, hj, e⟩ := List.getElem_of_mem hm
        exact HM.out j (by rw [HN.out] at hj; exact hj) (by simp [List.getD, hj, e])
      go_wp2_with fail
      go_ret
      exact ⟨rfl, HBk.out⟩

set_option maxHeartbeats 1000000 in
theorem sameChain_any (L M : List Int) (a a2 : Option Addr) (c c2 B : Nat) (w : World) (hro : Ro w B a (i64s L)) (hro2 : Ro w B a2 (i64s M)) (hB : B ≤ w.heap.size) (hl : L.length ≤ 1000000) (hl2 : M.length ≤ 1000000) :
    Calls Tryz.prog 92 #[.slice a L.length c, .slice a2 M.length c2] w fun e w' => e = .returned (.bool (decide (L = M))) ∧ Below w.heap.size w w' := by
  by_cases hlm : L.length = M.length
  · have HRO := Lib.hid hro
    have HRO2 := Lib.hid hro2
    have HS := Lib.hid hB
    have HN2 := Lib.hid hlm
    rw [← hlm] at hl2 ⊢
    generalize hN : L.length = n at *
    have HN := Lib.hid hN
    have hn1 : (n : Int) ≤ 1000000 := by omega
    obtain ⟨t, HT⟩ : ∃ t, Hid (decide (L = M) = t) := ⟨_, Lib.hid rfl⟩
    rw [HT.out]
    clear hro hro2 hB hN hlm hl2
    go_enter Tryz.func92, Tryz.ntmps92
    go_wp2_with fail
    go_loopw [5] (fun i wr => ∃ k : Nat, k ≤ n ∧ i = .int .i64 (k : Int) ∧ Hid (∀ j, j < k → L.getD j 0 = M.getD j 0) ∧ Hid (Below w.heap.size w wr)) (fun i _ => n - (intOf i).toNat)
    case atStart => exact ⟨0, Nat.zero_le _, rfl, Lib.hid (by omega), Lib.hid (Below.refl _ _)⟩
    case round =>
      obtain ⟨k, hk, rfl, HM, HBk⟩ := hrel
      by_cases hlt : k < n
      · have hkL : k < L.length := by rw [HN.out]; exact hlt
        have hkM : k < M.length := by rw [← HN2.out]; exact hlt
        obtain ⟨b, off, rfl, hb, hc⟩ := (HRO.out.below HBk.out HS.out).i64 (show 0 < L.length by omega)
        obtain ⟨b2, off2, rfl, hb2, hc2⟩ := (HRO2.out.below HBk.out HS.out).i64 (show 0 < M.length by omega)
        have e1 := hc k hkL
        have e2 := hc2 k hkM
        clear hc hc2
        have hk0 : (0 : Int) ≤ (k : Int) := by omega
        have hk1 : (k : Int) < (n : Int) := by omega
        obtain ⟨y, hy⟩ : ∃ y, L.getD k 0 = y := ⟨_, rfl⟩
        obtain ⟨z, hz⟩ : ∃ z, M.getD k 0 = z := ⟨_, rfl⟩
        rw [hy] at e1
        rw [hz] at e2
        have HY := Lib.hid hy
        have HZ := Lib.hid hz
        clear hy hz
        by_cases hx : y = z
        · have hx' : (y != z) = false := by rw [bne_eq_false_iff_eq]; exact hx
          have HX := Lib.hid hx
          clear hx
          go_wp2_with fail
          go_region
          go_wp2_with fail
          go_roundw
          case rel =>
            refine ⟨k + 1, by omega, by go_num, Lib.hid fun j hj => ?_, Lib.hid HBk.out.drew⟩
            by_cases e : j = k
            · subst e; rw [HY.out, HZ.out]; exact HX.out
            · exact HM.out j (by omega)
          case measure => simp [intOf]; omega
        · have hx' : (y != z) = true := by rw [bne_iff_ne]; exact hx
          obtain rfl : t = false := by
            rw [← HT.out]
            simp only [decide_eq_false_iff_not]
            rintro rfl
            exact hx (HY.out.symm.trans HZ.out)
          clear hx
          go_wp2_with fail
          go_region
          go_wp2_with fail
          go_ret
          exact ⟨rfl, HBk.out.drew⟩
      · obtain rfl : k = n := by omega
        obtain rfl : t = true := by
          rw [← HT.out]
          simp only [decide_eq_true_eq]
          apply List.ext_getElem (by rw [HN.out]; exact HN2.out)
          intro i h1 h2
          have := HM.out i (by rw [HN.out] at h1; exact h1)
          simpa [List.getD, h1, h2] using this
        go_wp2_with fail
        go_ret
        exact ⟨rfl, HBk.out⟩
  · have e : decide (L = M) = false := by simp only [decide_eq_false_iff_not]; rintro rfl; exact hlm rfl
    rw [e]
    generalize L.length = n at *
    generalize M.length = m at *
    have hne : ((n : Int) != (m : Int)) = true := by rw [bne_iff_ne]; omega
    clear hlm e hro hro2
    go_enter Tryz.func92, Tryz.ntmps92
    go_wp2_with fail
    go_ret
    exact ⟨rfl, Below.refl _ _⟩

set_option maxHeartbeats 1000000 in
theorem fitsC_any (L : List ChT) (a : Option Addr) (c B : Nat) (w : World) (hro : Ro w B a (chv L)) (hB : B ≤ w.heap.size) (hl : L.length ≤ 9223372036854775807) :
    Calls Tryz.prog 64 #[.slice a L.length c] w fun e w' => (∃ t, e = .returned (.bool t)) ∧ Below w.heap.size w w' := by
  have HRO := Lib.hid hro
  have HS := Lib.hid hB
  generalize hN : L.length = n at *
  have HN := Lib.hid hN
  have hn1 : (n : Int) ≤ 9223372036854775807 := by omega
  clear hro hB hN
  go_enter Tryz.func64, Tryz.ntmps64
  go_wp2_with fail
  go_loopw [3] (fun i wr => ∃ k : Nat, k ≤ n ∧ k ≤ 10 ∧ i = .int .i64 (k : Int) ∧ Hid (Below w.heap.size w wr)) (fun i _ => n - (intOf i).toNat)
  case atStart => exact ⟨0, Nat.zero_le _, Nat.zero_le _, rfl, Lib.hid (Below.refl _ _)⟩
  case round =>
    obtain ⟨k, hk, hk10, rfl, HBk⟩ := hrel
    by_cases hlt : k < n
    · have hkL : k < L.length := by rw [HN.out]; exact hlt
      obtain ⟨b, off, rfl, hb, hc⟩ := (HRO.out.below HBk.out HS.out).ch (show 0 < L.length by omega)
      have e1 := hc k hkL
      clear hc
      have hk0 : (0 : Int) ≤ (k : Int) := by omega
      have hk1 : (k : Int) < (n : Int) := by omega
      have hk2 : (k : Int) ≤ 10 := by omega
      generalize (ct L k).a = x2 at *
      generalize (ct L k).u.length = x3 at *
      generalize (ct L k).c = x4 at *
      by_cases h10 : k = 10
      · subst h10
        go_wp2_with fail
        go_ret
        exact ⟨⟨_, rfl⟩, HBk.out⟩
      · have h10' : ((k : Int) == 10) = false := by rw [beq_eq_false_iff_ne]; omega
        have HK10 := Lib.hid h10
        by_cases h3 : 10 < x3
        · have h3' : decide ((10 : Int) < (x3 : Int)) = true := by simp; omega
          clear h10 h3
          go_wp2_with fail
          go_ret
          exact ⟨⟨_, rfl⟩, HBk.out⟩
        · have h3' : decide ((10 : Int) < (x3 : Int)) = false := by simp; omega
          clear h10 h3
          go_wp2_with fail
          go_roundw
          case rel => exact ⟨k + 1, by omega, by have := HK10.out; omega, by go_num, HBk⟩
          case measure => simp [intOf]; omega
    · obtain rfl : k = n := by omega
      go_wp2_with fail
      go_ret
      exact ⟨⟨_, rfl⟩, HBk.out⟩

set_option maxHeartbeats 1000000 in
theorem fitsL_any (A : LyT) (B : Nat) (w : World) (h : LyIn w B A) (hB : B ≤ w.heap.size) (hf : SgFit A.sg) :
    Calls Tryz.prog 18 #[A.val] w fun e w' => (∃ t, e = .returned (.bool t)) ∧ Below w.heap.size w w' := by
  obtain ⟨W, HWW⟩ : ∃ W, Hid (w.alloc (.cells #[.int .u64 (A.e : Int), .slice A.a A.sg.length A.c, .int .i64 A.q] 38) = W) := ⟨_, Lib.hid rfl⟩
  have hWb : Below w.heap.size w W := by rw [← HWW.out]; exact (Below.refl _ _).alloc (Nat.le_refl _) _
  have o1 : Own W w.heap.size 38 [.int .u64 (A.e : Int), .slice A.a A.sg.length A.c, .int .i64 A.q] := by rw [← HWW.out]; exact Own.new w _ _
  have HIN := Lib.hid h
  have HB := Lib.hid hWb
  have HO := Lib.hid o1
  have HS := Lib.hid hB
  have HF := Lib.hid hf
  have hfl := hf.1
  clear h hWb o1 hB hf
  obtain ⟨ep, sa, c, L, q⟩ := A
  simp only [LyT.val] at *
  generalize hN : L.length = n at *
  have HN := Lib.hid hN
  have hn1 : (n : Int) ≤ 9223372036854775807 := by omega
  clear hN
  go_enter Tryz.func18, Tryz.ntmps18
  go_upto_region 1 with fail
  rw [HWW.out]
  go_wp2_with fail
  go_loopw [3] (fun i wr => ∃ k : Nat, k ≤ n ∧ k ≤ 10 ∧ i = .int .i64 (k : Int) ∧ Hid (Below w.heap.size w wr) ∧ Hid (Own wr w.heap.size 38 [.int .u64 (ep : Int), .slice sa n c, .int .i64 q])) (fun i _ => n - (intOf i).toNat)
  case atStart => exact ⟨0, Nat.zero_le _, Nat.zero_le _, rfl, HB, HO⟩
  case round =>
    obtain ⟨k, hk, hk10, rfl, HBk, HOk⟩ := hrel
    have d1 := HOk.out.cell 1
    have hz := HOk.out.lt
    simp at d1
    by_cases hlt : k < n
    · have hkL : k < L.length := by rw [HN.out]; exact hlt
      obtain ⟨b, off, rfl, hb, hc⟩ := (HIN.out.1.below HBk.out HS.out).sg (show 0 < L.length by omega)
      obtain ⟨e1, e2⟩ := hc k hkL
      clear hc
      have hk0 : (0 : Int) ≤ (k : Int) := by omega
      have hk1 : (k : Int) < (n : Int) := by omega
      have hk2 : (k : Int) ≤ 10 := by omega
      have HC := Lib.hid (fitsC_any (st L k).ch (st L k).a (st L k).c B wr ((HIN.out.2 _ (st_mem hkL)).1.below HBk.out HS.out) (Nat.le_trans HS.out HBk.out.size) (HF.out.2 _ (st_mem hkL)).1)
      generalize (st L k).f = x1 at *
      generalize (st L k).a = x2 at *
      generalize (st L k).ch.length = x3 at *
      generalize (st L k).c = x4 at *
      go_wp2_with fail
      refine HC.out.mono ?_
      rintro e w1 ⟨⟨t, rfl⟩, hb1⟩
      have HB1 := Lib.hid (HBk.out.trans (hb1.mono HBk.out.size))
      have HO1 := Lib.hid (HOk.out.below hb1 HOk.out.lt)
      clear hb1
      cases t with
      | false =>
        go_wp2_with fail
        go_ret
        exact ⟨⟨_, rfl⟩, HB1.out⟩
      | true =>
        by_cases h10 : k = 10
        · subst h10
          go_wp2_with fail
          go_ret
          exact ⟨⟨_, rfl⟩, HB1.out⟩
        · have h10' : ((k : Int) == 10) = false := by rw [beq_eq_false_iff_ne]; omega
          have HK10 := Lib.hid h10
          clear h10
          go_wp2_with fail
          go_roundw
          case rel => exact ⟨k + 1, by omega, by have := HK10.out; omega, by go_num, HB1, HO1⟩
          case measure => simp [intOf]; omega
    · obtain rfl : k = n := by omega
      go_wp2_with fail
      go_ret
      exact ⟨⟨_, rfl⟩, HBk.out⟩

/-- what is asked of a layout, by value -/
abbrev folV (a1 : Option Addr) (n1 c1 : Nat) (a2 : Option Addr) (n2 c2 : Nat) (sq : Int) (f : Nat) (a3 : Option Addr) (n3 c3 : Nat) : Value := .agg #[.slice a1 n1 c1, .slice a2 n2 c2, .int .i64 sq, .int .u64 (f : Int), .slice a3 n3 c3]
end Go.Proofs.YtdpaofedepnnbaaGreat
