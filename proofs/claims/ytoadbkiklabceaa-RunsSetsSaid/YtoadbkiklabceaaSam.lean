/-
  Contract of the document's Same: lists of runs. No claim of its own.
-/
import Derived.Test.YtoadbkiklabceaaTld
namespace Go.Proofs.Ytoadbkiklabceaa
open Go.RowKit Go.Shelf Go.Deep
set_option linter.unusedVariables false
set_option linter.unusedSimpArgs false

theorem take_succ_eq {A B : List Rn} {k : Nat} (ha : k < A.length) (hb : k < B.length) (ht : A.take k = B.take k) (he : el A k = el B k) : A.take (k + 1) = B.take (k + 1) := by
  rw [take_el ha, take_el hb, ht, he]
theorem ne_of_el {A B : List Rn} {k : Nat} (he : el A k ≠ el B k) : decide (A = B) = false := by
  simp only [decide_eq_false_iff_not]
  rintro rfl
  exact he rfl
set_option maxHeartbeats 2000000 in
set_option maxRecDepth 100000 in
theorem Same_any (w : World) (a b : Option Addr) (A B : List Rn) (c d : Nat) (ha : Ro w w.heap.size a (rcs A)) (hb : Ro w w.heap.size b (rcs B)) (hl : A.length ≤ 4000000) (hl2 : B.length ≤ 4000000) :
    Calls Try.prog 19 #[.slice a A.length c, .slice b B.length d] w fun e w' => e = .returned (.bool (decide (A = B))) ∧ Below w.heap.size w w' := by
  obtain ⟨n, HN⟩ : ∃ n, Hid (A.length = n) := ⟨_, Lib.hid rfl⟩
  obtain ⟨m, HM⟩ : ∃ m, Hid (B.length = m) := ⟨_, Lib.hid rfl⟩
  rw [HN.out] at hl ⊢
  rw [HM.out] at hl2 ⊢
  have HA := Lib.hid ha
  have HB := Lib.hid hb
  clear ha hb
  go_enter Try.func19, Try.ntmps19
  by_cases hnm : n = m
  · subst hnm
    have hd0 : decide ((n : Int) = (n : Int)) = true := by simp
    go_wp2_with fail
    go_loopw [5] (fun i wr => ∃ k : Nat, i = .int .i64 k ∧ k ≤ n ∧ A.take k = B.take k ∧ Below w.heap.size w wr) (fun i _ => n - (intOf i).toNat)
    case atStart => exact ⟨0, rfl, Nat.zero_le _, rfl, Below.refl _ _⟩
    case round =>
      obtain ⟨k, rfl, hk, ht, hbw⟩ := hrel
      by_cases hlt : k < n
      · have hkA : k < A.length := by rw [HN.out]; exact hlt
        have hkB : k < B.length := by rw [HM.out]; exact hlt
        obtain ⟨g, off, rfl, hg, hcl⟩ := HA.out.rn (by omega)
        obtain ⟨g', off', rfl, hg', hcl'⟩ := HB.out.rn (by omega)
        obtain ⟨h1, h2⟩ := hcl k hkA
        obtain ⟨h3, h4⟩ := hcl' k hkB
        have hx1 := (hbw.cell (p := ⟨g, off + k * 2, none⟩) hg).trans h1
        have hx2 := (hbw.cell (p := ⟨g, off + k * 2 + 1, none⟩) hg).trans h2
        have hy1 := (hbw.cell (p := ⟨g', off' + k * 2, none⟩) hg').trans h3
        have hy2 := (hbw.cell (p := ⟨g', off' + k * 2 + 1, none⟩) hg').trans h4
        have HTS := Lib.hid (take_succ_eq hkA hkB ht)
        have HNE := Lib.hid (@ne_of_el A B k)
        generalize el A k = x at *
        generalize el B k = y at *
        have hd1 : decide (k < n) = true := by simpa using hlt
        have hk0 : (0 : Int) ≤ (k : Int) := by omega
        have hk1 : (k : Int) < (n : Int) := by omega
        have hkb : (k : Int) ≤ 4000000 := by omega
        have HKM := Lib.hid (show n - (k + 1) < n - k by omega)
        have HBW := Lib.hid hbw
        obtain ⟨x1, x2⟩ := x
        obtain ⟨y1, y2⟩ := y
        clear hcl hcl' h1 h2 h3 h4 ht hbw
        simp only at hx1 hx2 hy1 hy2
        have HC := Lib.hid (show ((x1 : Int) = (y1 : Int)) = (x1 = y1) ∧ ((x2 : Int) = (y2 : Int)) = (x2 = y2) by simp [Int.natCast_inj])
        by_cases hc1 : x1 = y1
        · subst hc1
          by_cases hc2 : x2 = y2
          · subst hc2
            go_wp2_with fail
            go_region
            go_wp2_with fail
            go_roundw
            case rel => exact ⟨k + 1, by go_num, by omega, HTS.out trivial, by first | exact HBW.out | exact HBW.out.drew⟩
            case measure => have := HKM.out; simp [intOf]; omega
          · have he2 : ((x2 : Int) == (y2 : Int)) = false := by simp; omega
            have hF := HNE.out (by intro h; exact hc2 (congrArg Prod.snd h))
            have he3 : ((x2 : Int) = (y2 : Int)) = False := by simp; omega
            go_wp2_with fail
            go_region
            go_wp2_with fail
            go_ret
            exact ⟨by rw [hF]; rfl, HBW.out.drew⟩
        · have he2 : ((x1 : Int) == (y1 : Int)) = false := by simp; omega
          have he3 : ((x1 : Int) = (y1 : Int)) = False := by simp; omega
          have hF := HNE.out (by intro h; exact hc1 (congrArg Prod.fst h))
          go_wp2_with fail
          go_region
          go_wp2_with fail
          go_ret
          exact ⟨by rw [hF]; rfl, HBW.out.drew⟩
      · have ht' : decide (A = B) = true := by
          rw [List.take_of_length_le (by rw [HN.out]; omega), List.take_of_length_le (by rw [HM.out]; omega)] at ht
          simpa using ht
        have hd1 : decide (k < n) = false := by simpa using hlt
        go_wp2_with fail
        go_ret
        exact ⟨by rw [ht']; rfl, hbw⟩
  · have hd0 : decide ((n : Int) = (m : Int)) = false := by simp; omega
    have HF := Lib.hid (show decide (A = B) = false by simp only [decide_eq_false_iff_not]; rintro rfl; exact hnm (HN.out.symm.trans HM.out))
    go_wp2_with fail
    go_ret
    exact ⟨by rw [HF.out]; rfl, Below.refl _ _⟩
end Go.Proofs.Ytoadbkiklabceaa
