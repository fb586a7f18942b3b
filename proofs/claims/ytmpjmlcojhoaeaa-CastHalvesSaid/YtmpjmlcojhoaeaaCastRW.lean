/-
  The document's own Wrap and Align by their contracts. No condition but the ranges that each theorem names.
-/
import Derived.Test.YtmpjmlcojhoaeaaCastR
namespace Go.Proofs.Ytmpjmlcojhoaeaa
open Go.RowKit

/-- a bit below the m-th depends on what is left of m bits alone -/
theorem bit_of_mod (x : Int) (m i : Nat) (h : i < m) : x % 2 ^ m / 2 ^ i % 2 = x / 2 ^ i % 2 := by
  have hP : (0 : Int) < 2 ^ i := Int.pow_pos (by omega)
  obtain ⟨d, rfl⟩ : ∃ d, m = i + (d + 1) := ⟨m - i - 1, by omega⟩
  have e := Int.emod_add_mul_ediv x (2 ^ (i + (d + 1)))
  generalize hq : x / 2 ^ (i + (d + 1)) = q at e
  generalize hr : x % 2 ^ (i + (d + 1)) = r at e
  rw [← e, Int.pow_add, Int.mul_assoc, Int.add_mul_ediv_left _ _ (by omega), Int.pow_succ, Int.mul_assoc, Int.mul_comm (2 ^ d), Int.mul_assoc]
  generalize (2 : Int) ^ i = P at *
  generalize q * 2 ^ d = z
  omega
theorem wrapN_bit (v : Int) (U m i : Nat) (hU : IntKind.u64.wrap v = (U : Int)) (hm : m ≤ 64) (h : i < m) : ((U / 2 ^ i % 2 : Nat) : Int) = wrapN v m / 2 ^ i % 2 := by
  have hd : ((2 : Int) ^ m) ∣ 18446744073709551616 := by
    have e2 : ((2 : Int) ^ m) = ((2 ^ m : Nat) : Int) := by simp
    rw [e2]
    exact Int.natCast_dvd_natCast.2 (Nat.pow_dvd_pow 2 hm : 2 ^ m ∣ 2 ^ 64)
  have e1 : (U : Int) % 2 ^ m = v % 2 ^ m := by
    rw [← hU, IntKind.wrap_u64, Int.emod_emod_of_dvd v hd]
  have e3 : wrapN v m % 2 ^ m = v % 2 ^ m := by
    have := @Int.bmod_emod v (2 ^ m)
    unfold wrapN
    simpa using this
  rw [← bit_of_mod (wrapN v m) m i h, e3, ← e1, bit_of_mod _ m i h]
  simp
theorem half_step (W : Int) (i : Nat) : W / 2 ^ i = 2 * (W / 2 ^ (i + 1)) + W / 2 ^ i % 2 := by
  have hP : (0 : Int) ≤ 2 ^ i := Int.le_of_lt (Int.pow_pos (by omega))
  have e := Int.ediv_ediv (x := W) (y := 2 ^ i) (z := 2)
  rw [if_neg (by omega)] at e
  rw [Int.pow_succ]
  omega
theorem first_step (v : Int) (m : Nat) (h1 : 1 ≤ m) : wrapN v m / 2 ^ (m - 1) = -(wrapN v m / 2 ^ (m - 1) % 2) := by
  have hr := wrapN_range v m h1
  have hp0 := hp_pos m
  have e : (2 : Int) ^ (m - 1) = hp m := rfl
  rw [e]
  by_cases h : 0 ≤ wrapN v m
  · rw [Int.ediv_eq_zero_of_lt h hr.2]; decide
  · have : wrapN v m / hp m = -1 := by
      rw [show wrapN v m = (wrapN v m + hp m) + hp m * (-1) by omega, Int.add_mul_ediv_left _ _ (by omega), Int.ediv_eq_zero_of_lt (by omega) (by omega)]
      rfl
    rw [this]; decide
theorem shift_range (W : Int) (j : Nat) (h1 : -9223372036854775808 ≤ W) (h2 : W ≤ 9223372036854775807) : -9223372036854775808 ≤ W / 2 ^ j ∧ W / 2 ^ j ≤ 9223372036854775807 := by
  have hP : (0 : Int) < 2 ^ j := Int.pow_pos (by omega)
  constructor
  · apply (Int.le_ediv_iff_mul_le hP).2
    have := Int.mul_le_mul_of_nonneg_left (show (1 : Int) ≤ 2 ^ j by omega) (show (0 : Int) ≤ 9223372036854775808 by omega)
    omega
  · by_cases hW : 0 ≤ W
    · have := Int.ediv_le_self (2 ^ j) hW
      omega
    · have : W / 2 ^ j < 0 := Int.ediv_neg_of_neg_of_pos (by omega) hP
      omega

set_option maxHeartbeats 400000 in
theorem rwrap_any (v n : Int) (w : World) :
    Calls Try.prog 17 #[.int .i64 v, .int .i64 n] w fun e w' => e = .returned (.int .i64 (wrapN v (wn n))) ∧ w = w' := by
  have h1 := wn_pos n
  have h2 := wn_le n
  have hw := rwidth_any n w
  obtain ⟨U, hU⟩ : ∃ U : Nat, IntKind.u64.wrap v = (U : Int) := ⟨(IntKind.u64.wrap v).toNat, by rw [IntKind.wrap_u64]; omega⟩
  have hUl : U < 18446744073709551616 := by rw [IntKind.wrap_u64] at hU; omega
  generalize wn n = m at *
  have HBIT := Lib.hid (fun i => wrapN_bit v U m i hU h2)
  have HFST := Lib.hid (first_step v m h1)
  have hr := wrapN_range v m h1
  have hpl := hp_le m h2
  have hp0 := hp_pos m
  have HR := Lib.hid (fun j => shift_range (wrapN v m) j (by omega) (by omega))
  have HSTEP := Lib.hid (half_step (wrapN v m))
  have HHP := Lib.hid (show hp m = 2 ^ (m - 1) from rfl)
  generalize wrapN v m = W at *
  have HRG := Lib.hid hr
  have HW := Lib.hid hw
  have HPW := Lib.hid (fun i w h => power_any i w h)
  clear hw hr
  go_enter Try.func17, Try.ntmps17
  go_wp2_with fail
  refine HW.out.mono ?_
  rintro e w' ⟨rfl, rfl⟩
  go_wp2_with fail
  go_loop [6, 7] (fun x i => ∃ (j : Nat) (X z : Int), j ≤ m ∧ X = (if j = m then 0 else W / 2 ^ j) ∧ z + 1 = (j : Int) ∧ x = .int .i64 X ∧ i = .int .i64 z) (fun _ i => (intOf i + 1).toNat)
  case atStart => exact ⟨m, 0, (m : Int) - 1, by omega, by simp, by omega, rfl, rfl⟩
  case round =>
    obtain ⟨j, X, z, hj, hX, hz, rfl, rfl⟩ := hrel
    have HX := Lib.hid hX
    clear hX
    rcases Nat.eq_zero_or_pos j with h0 | h0
    · subst h0
      obtain rfl : z = -1 := by omega
      go_wp2_with fail
      go_ret
      refine ⟨ret_int ?_, rfl⟩
      rw [HX.out, if_neg (by omega)]; simp
    · obtain ⟨i, rfl⟩ : ∃ i, j = i + 1 := ⟨j - 1, by omega⟩
      obtain rfl : z = (i : Int) := by omega
      have hb := HBIT.out i (by omega)
      obtain ⟨b, hbe⟩ : ∃ b, b = U / 2 ^ i % 2 := ⟨_, rfl⟩
      have hb2 : b < 2 := by rw [hbe]; exact Nat.mod_lt _ (by omega)
      rw [← hbe] at hb
      have hp2 := HPW.out i w (by omega)
      have hP : 0 < 2 ^ i := Nat.pow_pos (by omega)
      obtain ⟨q, hq⟩ : ∃ q, q = U / 2 ^ i := ⟨_, rfl⟩
      have hq1 : (U : Int) / ((2 ^ i : Nat) : Int) = (q : Int) := by rw [hq]; simp
      have hq2 : q % 2 = b := by rw [hbe, hq]
      have hq3 : q < 18446744073709551616 := by have := Nat.div_le_self U (2 ^ i); omega
      have hq4 : IntKind.u64.wrap ((U : Int) / ((2 ^ i : Nat) : Int)) = (q : Int) := by rw [hq1, wrap_u64_nat _ hq3]
      have hq5 : (q : Int).tmod 2 = (b : Int) := by rw [← hq2]; rfl
      have hq6 : (q : Int) % 2 = (b : Int) := by omega
      have hrg := HR.out i
      have hst := HSTEP.out i
      rw [← hb] at hst
      clear hbe hq hq2
      by_cases hm : i + 1 = m
      · have hX0 : X = 0 := by rw [HX.out, if_pos hm]
        subst hX0
        have hlast : W / 2 ^ i = -(b : Int) := by
          have := HFST.out
          rw [show m - 1 = i by omega, ← hb] at this
          exact this
        have HL := Lib.hid hlast
        have ht : (((i : Nat) : Int) == (m : Int) - 1) = true := by rw [beq_iff_eq]; omega
        clear hlast hst hrg hb
        generalize 2 ^ i = P at *
        go_wp2_with fail
        refine hp2.mono ?_
        rintro e w' ⟨rfl, rfl⟩
        go_wp2_with fail
        refine HW.out.mono ?_
        rintro e w' ⟨rfl, rfl⟩
        go_wp2_with fail
        go_round
        case rel => exact ⟨i, -(b : Int), (i : Int) - 1, by omega, by rw [if_neg (by omega)]; exact HL.out.symm, by omega, by go_num, by go_num⟩
        case measure => simp [intOf]
      · have hX0 : X = W / 2 ^ (i + 1) := by rw [HX.out, if_neg hm]
        rw [← hX0] at hst
        obtain ⟨Y, hY⟩ : ∃ Y, Y = W / 2 ^ i := ⟨_, rfl⟩
        rw [← hY] at hst hrg
        have HY := Lib.hid hY
        have ht : (((i : Nat) : Int) == (m : Int) - 1) = false := by rw [beq_eq_false_iff_ne]; omega
        clear hX0 hb hY
        generalize 2 ^ i = P at *
        go_wp2_with fail
        refine hp2.mono ?_
        rintro e w' ⟨rfl, rfl⟩
        go_wp2_with fail
        refine HW.out.mono ?_
        rintro e w' ⟨rfl, rfl⟩
        go_wp2_with fail
        go_round
        case rel => exact ⟨i, Y, (i : Int) - 1, by omega, by rw [if_neg (by omega)]; exact HY.out, by omega, by go_num, by go_num⟩
        case measure => simp [intOf]

theorem upN_of_zero (v k : Nat) (h : v % 2 ^ k = 0) : upN v k = v := upN_eq v k v (Nat.le_refl _) h (by have : 0 < 2 ^ k := Nat.pow_pos (by omega); omega)
theorem upN_of_pos (v k : Nat) (h : 0 < v % 2 ^ k) : upN v k = v - v % 2 ^ k + 2 ^ k := by
  have hP : 0 < 2 ^ k := Nat.pow_pos (by omega)
  have h1 := Nat.mod_lt v hP
  have h2 := Nat.div_add_mod v (2 ^ k)
  have h3 := Nat.mod_le v (2 ^ k)
  apply upN_eq
  · omega
  · rw [show v - v % 2 ^ k + 2 ^ k = 2 ^ k * (v / 2 ^ k + 1) by rw [Nat.mul_add]; omega]
    exact Nat.mul_mod_right _ _
  · omega

set_option maxHeartbeats 400000 in
theorem ralign_yes (v : Nat) (n : Int) (w : World) (hv : v < 18446744073709551616) (h : upN v (an n) < 18446744073709551616) :
    Calls Try.prog 23 #[.int .u64 v, .int .i64 n] w fun e w' => e = .returned (.tuple #[.int .u64 (upN v (an n) : Nat), .bool true]) ∧ w = w' := by
  have hk := an_le n
  have hki := an_int n
  have hpw : ∀ z : Int, z = (an n : Int) → Calls Try.prog 36 #[.int .i64 z] w fun e w' => e = .returned (.int .u64 (2 ^ an n : Nat)) ∧ w = w' := fun z hz => by rw [hz]; exact power_any _ w hk
  have hz := upN_of_zero v (an n)
  have hq := upN_of_pos v (an n)
  have hP : 0 < 2 ^ an n := Nat.pow_pos (by omega)
  have hPl : 2 ^ an n ≤ 9223372036854775808 := Nat.pow_le_pow_right (n := 2) (by omega) hk
  have hrl := Nat.mod_le v (2 ^ an n)
  obtain ⟨r, hr⟩ : ∃ r, r = v % 2 ^ an n := ⟨_, rfl⟩
  rw [← hr] at hz hq hrl
  have hri : ((v : Int) % ((2 ^ an n : Nat) : Int)) = (r : Int) := by rw [hr]; simp
  clear hr
  generalize upN v (an n) = u at *
  generalize 2 ^ an n = P at *
  have HPW := Lib.hid hpw
  clear hpw
  by_cases h0 : r = 0
  · have hu := hz h0
    subst hu
    have ht : ((r : Int) == 0) = true := by rw [beq_iff_eq]; omega
    clear hz hq
    go_enter Try.func23, Try.ntmps23
    go_wp2_with fail
    all_goals
      refine (HPW.out _ (by omega)).mono ?_
      rintro e w' ⟨rfl, rfl⟩
      go_wp2_with fail
      go_ret2
      exact ⟨rfl, rfl⟩
  · have hu := hq (by omega)
    have ht : ((r : Int) == 0) = false := by rw [beq_eq_false_iff_ne]; omega
    have hui : (v : Int) - (r : Int) + (P : Int) = (u : Int) := by omega
    clear hz hq hu
    go_enter Try.func23, Try.ntmps23
    go_wp2_with fail
    all_goals
      refine (HPW.out _ (by omega)).mono ?_
      rintro e w' ⟨rfl, rfl⟩
      go_wp2_with fail
      go_ret2
      exact ⟨rfl, rfl⟩
set_option maxHeartbeats 400000 in
theorem ralign_no (v : Nat) (n : Int) (w : World) (hv : v < 18446744073709551616) (h : ¬ upN v (an n) < 18446744073709551616) :
    Calls Try.prog 23 #[.int .u64 v, .int .i64 n] w fun e w' => e = .returned (.tuple #[.int .u64 0, .bool false]) ∧ w = w' := by
  have hk := an_le n
  have hki := an_int n
  have hpw : ∀ z : Int, z = (an n : Int) → Calls Try.prog 36 #[.int .i64 z] w fun e w' => e = .returned (.int .u64 (2 ^ an n : Nat)) ∧ w = w' := fun z hz => by rw [hz]; exact power_any _ w hk
  have hz := upN_of_zero v (an n)
  have hq := upN_of_pos v (an n)
  have hP : 0 < 2 ^ an n := Nat.pow_pos (by omega)
  have hPl : 2 ^ an n ≤ 9223372036854775808 := Nat.pow_le_pow_right (n := 2) (by omega) hk
  have hrl := Nat.mod_le v (2 ^ an n)
  obtain ⟨r, hr⟩ : ∃ r, r = v % 2 ^ an n := ⟨_, rfl⟩
  rw [← hr] at hz hq hrl
  have hri : ((v : Int) % ((2 ^ an n : Nat) : Int)) = (r : Int) := by rw [hr]; simp
  clear hr
  generalize upN v (an n) = u at *
  generalize 2 ^ an n = P at *
  have HPW := Lib.hid hpw
  clear hpw
  have h0 : ¬ r = 0 := fun e => by have := hz e; omega
  have hu := hq (by omega)
  have ht : ((r : Int) == 0) = false := by rw [beq_eq_false_iff_ne]; omega
  clear hz hq
  go_enter Try.func23, Try.ntmps23
  go_wp2_with fail
  all_goals
    refine (HPW.out _ (by omega)).mono ?_
    rintro e w' ⟨rfl, rfl⟩
    go_wp2_with fail
    go_ret2
    exact ⟨rfl, rfl⟩
end Go.Proofs.Ytmpjmlcojhoaeaa
