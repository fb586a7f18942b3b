/-
  The document's answers on bits, by their contracts: Extend, Reverse; and Extend of the program in the same words.
-/
import Derived.Test.YtogkhhgcljeddaaRefA
import Derived.Test.YtogkhhgcljeddaaBitsB
import Derived.Test.YtogkhhgcljeddaaExtMath
namespace Go.Proofs.Ytogkhhgcljeddaa
open Go.RowKit Go.Deep

/-- a width out of any number -/
def wd (n : Int) : Nat := (min (max n 0) 64).toNat
theorem wd_le (n : Int) : wd n ≤ 64 := by unfold wd; omega
theorem wd_int (n : Int) : min (max n 0) 64 = ((wd n : Nat) : Int) := by unfold wd; omega

theorem extend_is (v : Nat) (n : Int) (w : World) :
    Calls Try.prog 14 #[.int .u64 v, .int .i64 n] w fun e w' => e = .returned (.int .i64 (ext v (wd n))) ∧ w = w' := by
  have hl := wd_le n
  have e1 := limit_any n w
  rw [wd_int] at e1
  have hc := ext_code v (wd n) hl
  generalize wd n = m at *
  go_enter Try.func14, Try.ntmps14
  have HC := Lib.hid hc
  clear hc
  go_wp2_with fail
  refine e1.mono ?_
  rintro e w' ⟨rfl, rfl⟩
  clear e1
  go_wp2_with fail
  go_ret
  exact ⟨ret_int (by rw [← HC.out]), rfl⟩

set_option maxHeartbeats 400000 in
theorem refExtend_any (v : Nat) (n : Int) (w : World) (hv : v < 18446744073709551616) :
    Calls Try.prog 15 #[.int .u64 v, .int .i64 n] w fun e w' => e = .returned (.int .i64 (ext v (wd n))) ∧ Below w.heap.size w w' := by
  have hl := wd_le n
  have e1 := refWidth_any n w
  rw [wd_int] at e1
  rw [← extTo_all]
  generalize wd n = m at *
  go_enter Try.func15, Try.ntmps15
  go_wp2_with fail
  refine e1.mono ?_
  rintro e w' ⟨rfl, rfl⟩
  clear e1
  go_wp2_with fail
  refine (refDigits_any v m w hv hl).mono ?_
  rintro e w1 ⟨x, rfl, hown, hbel⟩
  obtain ⟨a1, c1, hve, hro, _, _⟩ := hown.form
  rw [show (i64s (bn (dig v m))).length = m by simp] at hve
  subst hve
  go_wp2_with fail
  go_loop [6, 7] (fun x i => ∃ j : Nat, j ≤ m ∧ i = .int .i64 (j : Int) ∧ x = .int .i64 (extTo v m j)) (fun _ i => m - (intOf i).toNat)
  case atStart => exact ⟨0, by omega, by simp, by simp [extTo]⟩
  case round =>
    obtain ⟨j, hj, rfl, rfl⟩ := hrel
    by_cases hlt : j < m
    · obtain ⟨b, off, rfl, hb, hc⟩ := hro.i64 (by simp; omega)
      have hcell := hc j (by simpa using hlt)
      rw [bn_getD] at hcell
      have hr := extTo_range63 v m j (by omega) (by omega) (by omega)
      have hbr := bi_range ((dig v m).getD j false)
      clear hc
      by_cases h0 : j = 0
      · subst h0
        have hcell0 : w1.cell? ⟨b, off, none⟩ = some (.int .i64 (bi ((dig v m).getD 0 false))) := hcell
        clear hcell
        have h1 := extTo_one v m (by omega)
        have hz : extTo v m 0 = 0 := by simp [extTo]
        rw [hz] at hr ⊢
        have H1 := Lib.hid h1
        clear h1 hz
        generalize bi ((dig v m).getD 0 false) = y at *
        go_wp2_with fail
        go_round
        case rel => exact ⟨1, by omega, by go_num, by rw [H1.out]⟩
        case measure => simp [intOf]; omega
      · have h1 := extTo_succ v m j (by omega)
        have H1 := Lib.hid h1
        clear h1
        have hne : ((j : Int) == 0) = false := by rw [beq_eq_false_iff_ne]; omega
        generalize extTo v m j = z at *
        generalize bi ((dig v m).getD j false) = y at *
        go_wp2_with fail
        go_round
        case rel => exact ⟨j + 1, by omega, by go_num, by rw [H1.out]⟩
        case measure => simp [intOf]; omega
    · obtain rfl : j = m := by omega
      go_wp2_with fail
      go_ret
      exact ⟨rfl, hbel⟩

theorem rev_succ (v m j : Nat) (hj : j < m) : nm (fun i => v.testBit i) (j + 1) = 2 * nm (fun i => v.testBit i) j + ((dig v m).getD (m - 1 - j) false).toNat := by
  simp only [nm]
  rw [dig_getD _ _ _ (by omega), show m - 1 - (m - 1 - j) = j from by omega]
theorem rev_all (v m : Nat) (hm : m ≤ 64) : nm (fun i => v.testBit i) m = revn v m := by
  apply Nat.eq_of_testBit_eq
  intro i
  rw [nm_bit, revn_bit v m i hm]

set_option maxHeartbeats 400000 in
theorem refReverse_any (v : Nat) (n : Int) (w : World) (hv : v < 18446744073709551616) :
    Calls Try.prog 17 #[.int .u64 v, .int .i64 n] w fun e w' => e = .returned (.int .u64 (revn v (wd n) : Nat)) ∧ Below w.heap.size w w' := by
  have hl := wd_le n
  have e1 := refWidth_any n w
  rw [wd_int] at e1
  generalize wd n = m at *
  rw [← rev_all v m hl]
  go_enter Try.func17, Try.ntmps17
  go_wp2_with fail
  refine e1.mono ?_
  rintro e w' ⟨rfl, rfl⟩
  clear e1
  go_wp2_with fail
  refine (refDigits_any v m w hv hl).mono ?_
  rintro e w1 ⟨x, rfl, hown, hbel⟩
  obtain ⟨a1, c1, hve, hro, _, _⟩ := hown.form
  rw [show (i64s (bn (dig v m))).length = m by simp] at hve
  subst hve
  go_wp2_with fail
  go_loop [6, 7] (fun x i => ∃ j : Nat, j ≤ m ∧ i = .int .i64 ((m : Int) - 1 - (j : Int)) ∧ x = .int .u64 (nm (fun i => v.testBit i) j : Nat)) (fun _ i => (intOf i + 1).toNat)
  case atStart => exact ⟨0, by omega, by simp, by simp [nm]⟩
  case round =>
    obtain ⟨j, hj, rfl, rfl⟩ := hrel
    by_cases hlt : j < m
    · obtain ⟨b, off, rfl, hb, hc⟩ := hro.i64 (by simp; omega)
      have hcell := hc (m - 1 - j) (by simp; omega)
      rw [bn_getD] at hcell
      have h1 := rev_succ v m j hlt
      have hlt1 := nm_lt (fun i => v.testBit i) j
      have hp := Nat.pow_le_pow_right (n := 2) (by omega) (show j ≤ 63 by omega)
      have hbr := bi_range ((dig v m).getD (m - 1 - j) false)
      rw [bi_toNat] at hcell hbr
      clear hc
      generalize ((dig v m).getD (m - 1 - j) false).toNat = y at *
      generalize nm (fun i => v.testBit i) j = z at *
      have hz : z < 9223372036854775808 := by omega
      have H1 := Lib.hid h1
      clear h1 hp hlt1
      obtain ⟨q, hq⟩ : ∃ q : Nat, q = m - 1 - j := ⟨_, rfl⟩
      have hq2 : (m : Int) - 1 - (j : Int) = (q : Int) := by omega
      rw [← hq] at hcell
      rw [hq2]
      have HQ := Lib.hid hq
      have hqm : q < m := by omega
      have HQ2 := Lib.hid hq2
      clear hq hq2
      go_wp2_with fail
      go_round
      case rel => exact ⟨j + 1, by omega, by have := HQ2.out; go_num, by rw [H1.out]; go_num⟩
      case measure => simp [intOf]
    · obtain rfl : j = m := by omega
      have hneg : (j : Int) - 1 - (j : Int) = -1 := by omega
      rw [hneg]
      go_wp2_with fail
      go_ret
      exact ⟨rfl, hbel⟩
end Go.Proofs.Ytogkhhgcljeddaa
