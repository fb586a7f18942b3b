/-
  The document's own answers of layer 2 by their contracts. No condition but the ranges that each theorem names.
-/
import Derived.Test.YtmpjmlcojhoaeaaCastB
namespace Go.Proofs.Ytmpjmlcojhoaeaa
open Go.RowKit

set_option maxHeartbeats 400000 in
theorem rwidth_any (n : Int) (w : World) :
    Calls Try.prog 35 #[.int .i64 n] w fun e w' => e = .returned (.int .i64 (wn n : Nat)) ∧ w = w' := by
  go_enter Try.func35, Try.ntmps35
  go_wp2_with fail
  all_goals go_ret
  all_goals exact ⟨ret_int (by have := wn_int n; omega), rfl⟩

set_option maxHeartbeats 400000 in
theorem power_any (i : Nat) (w : World) (hi : i ≤ 63) :
    Calls Try.prog 36 #[.int .i64 i] w fun e w' => e = .returned (.int .u64 (2 ^ i : Nat)) ∧ w = w' := by
  have h63 : ∀ k, k ≤ 63 → 2 ^ k ≤ 9223372036854775808 := fun k hk => Nat.pow_le_pow_right (n := 2) (by omega) hk
  go_enter Try.func36, Try.ntmps36
  go_wp2
  go_loop [3, 4] (fun v k => ∃ (j P : Nat), j ≤ i ∧ P = 2 ^ j ∧ v = .int .u64 (P : Int) ∧ k = .int .i64 (j : Int)) (fun _ k => i - (intOf k).toNat)
  case atStart => exact ⟨0, 1, by omega, rfl, rfl, rfl⟩
  case round =>
    obtain ⟨j, P, hj, hP, rfl, rfl⟩ := hrel
    have hle := h63 j (by omega)
    rw [← hP] at hle
    have HP := Lib.hid hP
    clear hP
    by_cases hlt : j < i
    · have hle2 := h63 (j + 1) (by omega)
      have H2 := Lib.hid hle2
      clear hle2
      have hlt2 : P < 9223372036854775808 := by
        have := H2.out; rw [Nat.pow_succ] at this; rw [HP.out]; omega
      go_wp2
      go_round
      case rel => exact ⟨j + 1, 2 * P, by omega, by rw [HP.out, Nat.pow_succ]; omega, by go_num, by go_num⟩
      case measure => simp [intOf]; omega
    · obtain rfl : j = i := by omega
      go_wp2
      go_ret
      exact ⟨ret_int (by rw [HP.out]; simp), rfl⟩

set_option maxHeartbeats 400000 in
theorem top_any (n : Int) (w : World) :
    Calls Try.prog 38 #[.int .i64 n] w fun e w' => e = .returned (.int .i64 (hp (wn n) - 1)) ∧ w = w' := by
  have h1 := wn_pos n
  have h2 := wn_le n
  have hw := rwidth_any n w
  generalize wn n = m at *
  have HW := Lib.hid hw
  clear hw
  go_enter Try.func38, Try.ntmps38
  go_wp2_with fail
  go_loop [3, 4] (fun v k => ∃ (j : Nat) (H : Int), 1 ≤ j ∧ j ≤ m ∧ H = hp j ∧ v = .int .i64 (H - 1) ∧ k = .int .i64 (j : Int)) (fun _ k => m - (intOf k).toNat)
  case atStart => exact ⟨1, 1, by omega, by omega, rfl, rfl, rfl⟩
  case round =>
    obtain ⟨j, H, hj1, hj, hH, rfl, rfl⟩ := hrel
    have ha := hp_pos j
    have hb := hp_le j (by omega)
    rw [← hH] at ha hb
    by_cases hlt : j < m
    · have hs := hp_two (j + 1) (by omega)
      have hs2 := hp_two j (by omega)
      have hc := hp_le (j + 1) (by omega)
      have hd : hp (j + 1) = 2 * H := by rw [hH, ← hs2]; rfl
      rw [hd] at hc
      have HH := Lib.hid hd
      clear hs hs2 hd hH
      go_wp2_with fail
      refine HW.out.mono ?_
      rintro e w' ⟨rfl, rfl⟩
      go_wp2_with fail
      go_round
      case rel => exact ⟨j + 1, 2 * H, by omega, by omega, HH.out.symm, by go_num, by go_num⟩
      case measure => simp [intOf]; omega
    · obtain rfl : j = m := by omega
      have HH := Lib.hid hH
      clear hH
      go_wp2_with fail
      refine HW.out.mono ?_
      rintro e w' ⟨rfl, rfl⟩
      go_wp2_with fail
      go_ret
      exact ⟨ret_int (by rw [HH.out]), rfl⟩

set_option maxHeartbeats 400000 in
theorem lowr_any (n : Int) (w : World) :
    Calls Try.prog 37 #[.int .i64 n] w fun e w' => e = .returned (.int .i64 (-hp (wn n))) ∧ w = w' := by
  have h2 := hp_le _ (wn_le n)
  have h1 := hp_pos (wn n)
  have ht := top_any n w
  generalize hp (wn n) = H at *
  have HT := Lib.hid ht
  clear ht
  go_enter Try.func37, Try.ntmps37
  go_wp2_with fail
  refine HT.out.mono ?_
  rintro e w' ⟨rfl, rfl⟩
  go_wp2_with fail
  go_ret
  exact ⟨ret_int (by omega), rfl⟩

set_option maxHeartbeats 400000 in
theorem rclamp_any (v n : Int) (w : World) :
    Calls Try.prog 19 #[.int .i64 v, .int .i64 n] w fun e w' => e = .returned (.int .i64 (clampN v (wn n))) ∧ w = w' := by
  have ht := top_any n w
  have hl := lowr_any n w
  unfold clampN
  generalize hp (wn n) = H at *
  have HT := Lib.hid ht
  have HL := Lib.hid hl
  clear ht hl
  go_enter Try.func19, Try.ntmps19
  go_wp2_with fail
  refine HL.out.mono ?_
  rintro e w' ⟨rfl, rfl⟩
  go_wp2_with fail
  refine HT.out.mono ?_
  rintro e w' ⟨rfl, rfl⟩
  go_wp2_with fail
  all_goals go_ret
  all_goals exact ⟨ret_int (by omega), rfl⟩

set_option maxHeartbeats 400000 in
theorem rfits_any (v n : Int) (w : World) :
    Calls Try.prog 15 #[.int .i64 v, .int .i64 n] w fun e w' => e = .returned (.bool (fitsN v (wn n))) ∧ w = w' := by
  have ht := top_any n w
  have hl := lowr_any n w
  unfold fitsN
  generalize hp (wn n) = H at *
  have HT := Lib.hid ht
  have HL := Lib.hid hl
  clear ht hl
  by_cases hg : -H ≤ v
  all_goals
    go_enter Try.func15, Try.ntmps15
    go_wp2_with fail
    refine HL.out.mono ?_
    rintro e w' ⟨rfl, rfl⟩
    go_wp2_with fail
  · refine HT.out.mono ?_
    rintro e w' ⟨rfl, rfl⟩
    go_wp2_with fail
    go_ret
    exact ⟨ret_bool (by rw [decide_eq_decide]; omega), rfl⟩
  · go_ret
    exact ⟨ret_bool (by simp; omega), rfl⟩

set_option maxHeartbeats 400000 in
theorem rnarrow_any (v : Nat) (n : Int) (w : World) (hv : v < 18446744073709551616) :
    Calls Try.prog 11 #[.int .u64 v, .int .i64 n] w fun e w' => e = .returned (.tuple #[.int .u64 (v % 2 ^ wn n : Nat), .bool (decide (v % 2 ^ wn n = v))]) ∧ w = w' := by
  have h1 := wn_pos n
  have h2 := wn_le n
  have hw := rwidth_any n w
  generalize wn n = m at *
  by_cases h64 : m = 64
  · have e : v % 2 ^ m = v := by rw [h64]; exact Nat.mod_eq_of_lt hv
    rw [e, decide_eq_true rfl]
    have HW := Lib.hid hw
    have ht : (((m : Nat) : Int) == 64) = true := by rw [beq_iff_eq]; omega
    clear hw e
    go_enter Try.func11, Try.ntmps11
    go_wp2_with fail
    refine HW.out.mono ?_
    rintro e w' ⟨rfl, rfl⟩
    go_wp2_with fail
    go_ret2
    exact ⟨rfl, rfl⟩
  · have hp := power_any m w (by omega)
    have hP : 0 < 2 ^ m := Nat.pow_pos (by omega)
    have hPl := pow_le_64 (n := m) (by omega)
    obtain ⟨r, hr⟩ : ∃ r, r = v % 2 ^ m := ⟨_, rfl⟩
    rw [← hr]
    generalize 2 ^ m = P at *
    have hri : ((v : Int) % (P : Int)) = (r : Int) := by rw [hr]; simp
    have hrl : r ≤ v := by rw [hr]; exact Nat.mod_le _ _
    have ht : (((m : Nat) : Int) == 64) = false := by rw [beq_eq_false_iff_ne]; omega
    have HW := Lib.hid hw
    have HP := Lib.hid hp
    clear hw hp hr
    go_enter Try.func11, Try.ntmps11
    go_wp2_with fail
    refine HW.out.mono ?_
    rintro e w' ⟨rfl, rfl⟩
    go_wp2_with fail
    refine HW.out.mono ?_
    rintro e w' ⟨rfl, rfl⟩
    go_wp2_with fail
    refine HP.out.mono ?_
    rintro e w' ⟨rfl, rfl⟩
    go_wp2_with fail
    go_ret2
    refine ⟨?_, rfl⟩
    show Ending.returned (.tuple #[.int .u64 ((v : Int) % (P : Int)), .bool ((r : Int) == (v : Int))]) = _
    rw [int_beq_nat, hri]

set_option maxHeartbeats 400000 in
theorem rsigned_any (v : Int) (w : World) (h0 : 0 ≤ v) (h1 : v < 18446744073709551616) :
    Calls Try.prog 13 #[.int .u64 v] w fun e w' => e = .returned (.tuple #[.int .i64 (if v < 9223372036854775808 then v else 0), .bool (decide (v < 9223372036854775808))]) ∧ w = w' := by
  by_cases h : v < 9223372036854775808
  · rw [if_pos h, decide_eq_true h]
    go_enter Try.func13, Try.ntmps13
    go_wp2
    go_ret2
    exact ⟨rfl, rfl⟩
  · rw [if_neg h, decide_eq_false h]
    go_enter Try.func13, Try.ntmps13
    go_wp2
    go_ret2
    exact ⟨rfl, rfl⟩

set_option maxHeartbeats 400000 in
theorem rzig_any (v : Int) (w : World) (h0 : -9223372036854775808 ≤ v) (h1 : v ≤ 9223372036854775807) :
    Calls Try.prog 26 #[.int .i64 v] w fun e w' => e = .returned (.int .u64 (zigN v)) ∧ w = w' := by
  by_cases h : 0 ≤ v
  all_goals
    go_enter Try.func26, Try.ntmps26
    go_wp2
    go_ret
    exact ⟨ret_int (by unfold zigN; split <;> omega), rfl⟩
set_option maxHeartbeats 400000 in
theorem rzag_any (v : Int) (w : World) (h0 : 0 ≤ v) (h1 : v < 18446744073709551616) :
    Calls Try.prog 28 #[.int .u64 v] w fun e w' => e = .returned (.int .i64 (zagN v)) ∧ w = w' := by
  by_cases h : v % 2 = 0
  · have hb : (v % 2 == 0) = true := by rw [beq_iff_eq]; exact h
    go_enter Try.func28, Try.ntmps28
    go_wp2
    go_ret
    exact ⟨ret_int (by unfold zagN; split <;> omega), rfl⟩
  · have hb : (v % 2 == 0) = false := by rw [beq_eq_false_iff_ne]; exact h
    go_enter Try.func28, Try.ntmps28
    go_wp2
    go_ret
    exact ⟨ret_int (by unfold zagN; split <;> omega), rfl⟩

set_option maxHeartbeats 400000 in
theorem rbetween_any (v a b : Int) (w : World) :
    Calls Try.prog 32 #[.int .i64 v, .int .i64 a, .int .i64 b] w fun e w' => e = .returned (.int .i64 (min (max v (min a b)) (max a b))) ∧ w = w' := by
  go_enter Try.func32, Try.ntmps32
  go_wp2
  all_goals go_ret
  all_goals exact ⟨ret_int (by omega), rfl⟩

theorem down_eq (a : Int) : (a - a % 2).tdiv 2 = a / 2 := by
  rw [show a - a % 2 = 2 * (a / 2) by omega, Int.mul_tdiv_cancel_left _ (by omega)]
theorem sq_mod2 (a : Int) : a.tmod 2 * a.tmod 2 = a % 2 := by
  have h : a.tmod 2 = 0 ∧ a % 2 = 0 ∨ a.tmod 2 = 1 ∧ a % 2 = 1 ∨ a.tmod 2 = -1 ∧ a % 2 = 1 := by
    have e := Int.tmod_eq_emod (a := a) (b := 2)
    split at e <;> omega
  rcases h with ⟨h1, h2⟩ | ⟨h1, h2⟩ | ⟨h1, h2⟩ <;> rw [h1, h2] <;> decide
set_option maxHeartbeats 400000 in
theorem odd_any (a : Int) (w : World) :
    Calls Try.prog 43 #[.int .i64 a] w fun e w' => e = .returned (.int .i64 (a % 2)) ∧ w = w' := by
  have hs := sq_mod2 a
  go_enter Try.func43, Try.ntmps43
  go_wp2_with fail
  go_ret
  exact ⟨ret_int rfl, rfl⟩
set_option maxHeartbeats 400000 in
theorem down_any (a : Int) (w : World) (h0 : -9223372036854775808 ≤ a) (h1 : a ≤ 9223372036854775807) :
    Calls Try.prog 42 #[.int .i64 a] w fun e w' => e = .returned (.int .i64 (a / 2)) ∧ w = w' := by
  have ho := odd_any a w
  obtain ⟨r, hr⟩ : ∃ r, r = a % 2 := ⟨_, rfl⟩
  rw [← hr] at ho
  have HO := Lib.hid ho
  clear ho
  go_enter Try.func42, Try.ntmps42
  go_wp2_with fail
  refine HO.out.mono ?_
  rintro e w' ⟨rfl, rfl⟩
  go_wp2_with fail
  go_ret
  exact ⟨ret_int (down_eq a), rfl⟩
set_option maxHeartbeats 400000 in
theorem rhalf_any (a b : Int) (w : World) (ha0 : -9223372036854775808 ≤ a) (ha1 : a ≤ 9223372036854775807) (hb0 : -9223372036854775808 ≤ b) (hb1 : b ≤ 9223372036854775807) :
    Calls Try.prog 30 #[.int .i64 a, .int .i64 b] w fun e w' => e = .returned (.int .i64 ((a + b) / 2)) ∧ w = w' := by
  have da := Lib.hid (down_any a w ha0 ha1)
  have db := Lib.hid (down_any b w hb0 hb1)
  have oa := Lib.hid (odd_any a w)
  have ob := Lib.hid (odd_any b w)
  have key : a / 2 + b / 2 + a % 2 * (b % 2) = (a + b) / 2 ∧ 0 ≤ a % 2 * (b % 2) ∧ a % 2 * (b % 2) ≤ 1 := by
    rcases mod2_cases a with hx | hx <;> rcases mod2_cases b with hy | hy <;> rw [hx, hy] <;> omega
  obtain ⟨k1, k2, k3⟩ := key
  generalize (a + b) / 2 = H at *
  go_enter Try.func30, Try.ntmps30
  go_wp2_with fail
  refine da.out.mono ?_
  rintro e w' ⟨rfl, rfl⟩
  go_wp2_with fail
  refine db.out.mono ?_
  rintro e w' ⟨rfl, rfl⟩
  go_wp2_with fail
  refine oa.out.mono ?_
  rintro e w' ⟨rfl, rfl⟩
  go_wp2_with fail
  refine ob.out.mono ?_
  rintro e w' ⟨rfl, rfl⟩
  go_wp2_with fail
  go_ret
  exact ⟨ret_int rfl, rfl⟩
set_option maxHeartbeats 400000 in
theorem rlog_yes (v : Nat) (w : World) (h0 : 0 < v) (h1 : v < 18446744073709551616) :
    Calls Try.prog 21 #[.int .u64 v] w fun e w' => e = .returned (.tuple #[.int .i64 (logN v : Nat), .bool true]) ∧ w = w' := by
  obtain ⟨a, b, c, _⟩ := logN_bounds v h0 h1
  have HL := Lib.hid (logN_eq v · h1)
  have HB := Lib.hid a
  generalize logN v = L at *
  clear a b
  go_enter Try.func21, Try.ntmps21
  go_wp2
  go_loop [0, 4] (fun x k => ∃ (j X : Nat), 0 < X ∧ X < 18446744073709551616 ∧ j ≤ 63 ∧ X = v / 2 ^ j ∧ x = .int .u64 (X : Int) ∧ k = .int .i64 (j : Int)) (fun x _ => (intOf x).toNat)
  case atStart => exact ⟨0, v, h0, h1, by omega, by simp, rfl, rfl⟩
  case round =>
    obtain ⟨j, X, hX0, hX1, hj, hX, rfl, rfl⟩ := hrel
    have HX := Lib.hid hX
    clear hX
    by_cases hlt : 1 < X
    · have hj2 : j + 1 ≤ 63 := by
        have h2 := HB.out
        have h3 := HX.out
        by_cases hh : j = 63
        · exfalso
          subst hh
          omega
        · omega
      go_wp2
      go_round
      case rel => exact ⟨j + 1, X / 2, by omega, by omega, hj2, by rw [HX.out, Nat.pow_succ, Nat.div_div_eq_div_mul], by go_num, by go_num⟩
      case measure => simp [intOf]; omega
    · have hX1 : X = 1 := by omega
      go_wp2
      go_ret2
      have e : L = j := by
        have h3 := HX.out
        have hP : 0 < 2 ^ j := Nat.pow_pos (by omega)
        rw [hX1] at h3
        have h4 := Nat.div_add_mod v (2 ^ j)
        have h5 := Nat.mod_lt v hP
        rw [← h3] at h4
        apply HL.out j (by omega)
        rw [Nat.pow_succ]; omega
      exact ⟨by rw [e]; rfl, rfl⟩
set_option maxHeartbeats 400000 in
theorem rlog_no (w : World) :
    Calls Try.prog 21 #[.int .u64 0] w fun e w' => e = .returned (.tuple #[.int .i64 0, .bool false]) ∧ w = w' := by
  go_enter Try.func21, Try.ntmps21
  go_wp2
  go_ret2
  exact ⟨rfl, rfl⟩
end Go.Proofs.Ytmpjmlcojhoaeaa
