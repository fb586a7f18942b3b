/-
  The small functions of package bits: bytesFor, lowest, limit, Extend, Reverse by their contracts. No condition but the ranges that each theorem names.
-/
import Derived.Test.YtcadnlilijkneaaGreatGb1
namespace Go.Proofs.YtcadnlilijkneaaGreat
open Go.RowKit
set_option linter.unusedVariables false
set_option linter.unusedSimpArgs false

set_option maxHeartbeats 400000 in
theorem bytesFor_any (n : Int) (w : World) (h0 : 0 ≤ n) (h1 : n ≤ 1000000) :
    Calls Tryz.prog 182 #[.int .i64 n] w fun e w' => e = .returned (.int .i64 ((n + 7) / 8)) ∧ w = w' := by
  go_enter Tryz.func182, Tryz.ntmps182
  go_wp2
  go_ret
  exact ⟨ret_int (by omega), rfl⟩

theorem lowest_eq (v : Int) (n : Nat) (hn : n ≤ 64) :
    bits BinOp.and IntKind.u64 v (IntKind.u64.wrap (IntKind.u64.wrap (2 ^ n) - 1)) = v % 2 ^ n := by
  have h2 : (2 : Nat) ^ n ≤ 2 ^ 64 := Nat.pow_le_pow_right (by omega) hn
  have h3 : 0 < 2 ^ n := Nat.pow_pos (by omega)
  have e2 : ((2 : Int) ^ n) = ((2 ^ n : Nat) : Int) := by simp
  have e : IntKind.u64.wrap (IntKind.u64.wrap (2 ^ n) - 1) = ((2 ^ n - 1 : Nat) : Int) := by
    rw [IntKind.wrap_u64, IntKind.wrap_u64, e2]
    omega
  have hx := and_wrap_left v ((2 ^ n - 1 : Nat) : Int)
  obtain ⟨x, hx0⟩ : ∃ x : Nat, v % 18446744073709551616 = (x : Int) := ⟨(v % 18446744073709551616).toNat, by omega⟩
  rw [e, ← hx, hx0, u64_and_nat x (2 ^ n - 1) (by omega) (by omega), Nat.and_two_pow_sub_one_eq_mod]
  have hd : ((2 : Int) ^ n) ∣ 18446744073709551616 := by
    rw [e2]
    exact Int.natCast_dvd_natCast.2 (Nat.pow_dvd_pow 2 hn : 2 ^ n ∣ 2 ^ 64)
  have h5 := Int.emod_emod_of_dvd v hd
  rw [← h5, hx0]; simp

set_option maxHeartbeats 400000 in
theorem lowest_any (v n : Int) (w : World) (h0 : 0 ≤ n) (hn : n ≤ 64) :
    Calls Tryz.prog 230 #[.int .u64 v, .int .i64 n] w fun e w' => e = .returned (.int .u64 (v % 2 ^ n.toNat)) ∧ w = w' := by
  obtain ⟨m, rfl⟩ := Int.eq_ofNat_of_zero_le h0
  go_enter Tryz.func230, Tryz.ntmps230
  go_wp2
  go_ret
  exact ⟨ret_int (lowest_eq v m (by omega)), rfl⟩

set_option maxHeartbeats 400000 in
theorem span_any (l : List Int) (a : Option Addr) (c B : Nat) (w : World) (h : Ro w B a (i64s l)) (hl : l.length ≤ 1000000) :
    Calls Tryz.prog 181 #[.slice a l.length c] w fun e w' => e = .returned (.tuple #[.int .i64 ((spanOf l).getD 0), .bool (spanOf l).isSome]) ∧ w = w' := by
  go_enter Tryz.func181, Tryz.ntmps181
  go_wp2
  go_loop [4, 9] (fun t i => ∃ k : Nat, k ≤ l.length ∧ i = .int .i64 (k : Int) ∧ t = .int .i64 (l.take k).sum ∧ 0 ≤ (l.take k).sum ∧ (l.take k).sum ≤ 64 * k ∧ ∀ i, i < k → 0 ≤ l.getD i 0 ∧ l.getD i 0 ≤ 64) (fun _ i => l.length - (intOf i).toNat)
  case atStart => exact ⟨0, by omega, by simp, by simp, by simp, by simp, by omega⟩
  case round =>
    obtain ⟨k, hk, rfl, rfl, hs0, hs1, hall⟩ := hrel
    by_cases hlt : k < l.length
    · obtain ⟨b, off, rfl, hb, hc⟩ := h.i64 (by omega)
      have hcell := hc k hlt
      have hsum := sum_take l k hlt
      have hbad := spanOf_bad l k hlt
      clear hc
      obtain ⟨x, hx⟩ : ∃ x, x = l.getD k 0 := ⟨_, rfl⟩
      rw [← hx] at hcell hsum hbad
      have HS := Lib.hid hsum; clear hsum
      have HX := Lib.hid hx; clear hx
      obtain ⟨t, ht⟩ : ∃ t, t = (l.take k).sum := ⟨_, rfl⟩
      rw [← ht] at hs0 hs1
      by_cases h0 : x < 0
      · have HB := Lib.hid (hbad (by omega)); clear hbad
        clear ht
        go_wp2
        go_ret2
        rw [HB.out]
        exact ⟨rfl, rfl⟩
      by_cases h64 : 64 < x
      · have HB := Lib.hid (hbad (by omega)); clear hbad
        clear ht
        go_wp2
        go_ret2
        rw [HB.out]
        exact ⟨rfl, rfl⟩
      clear hbad
      rw [← ht]
      have HT := Lib.hid ht; clear ht
      go_wp2
      go_round
      case rel =>
        have hT := HT.out
        have hS := HS.out
        refine ⟨k + 1, by omega, by go_num, by rw [hS, ← hT], by omega, by omega, fun i hi => ?_⟩
        by_cases e : i = k
        · subst e; rw [← HX.out]; omega
        · exact hall i (by omega)
      case measure => simp [intOf]; omega
    · obtain rfl : k = l.length := by omega
      have HB := Lib.hid (spanOf_ok l hall)
      go_wp2
      go_ret2
      rw [HB.out]
      exact ⟨rfl, rfl⟩

end Go.Proofs.YtcadnlilijkneaaGreat
