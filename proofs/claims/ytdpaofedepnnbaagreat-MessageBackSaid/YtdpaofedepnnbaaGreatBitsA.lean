/-
  The small functions of package bits: bytesFor, lowest, limit, Extend, Reverse by their contracts. No condition but the ranges that each theorem names.
-/
import Derived.Test.YtdpaofedepnnbaaGreatBase
namespace Go.Proofs.YtdpaofedepnnbaaGreat
set_option linter.unusedVariables false
set_option linter.unusedSimpArgs false
open Go.RowKit

set_option maxHeartbeats 400000 in
theorem bytesFor_any (n : Int) (w : World) (h0 : 0 ≤ n) (h1 : n ≤ 1000000) :
    Calls Tryz.prog 78 #[.int .i64 n] w fun e w' => e = .returned (.int .i64 ((n + 7) / 8)) ∧ w = w' := by
  go_enter Tryz.func78, Tryz.ntmps78
  go_wp2
  go_ret
  exact ⟨ret_int (by omega), rfl⟩

theorem lowest_eq (v : Int) (n : Nat) (hn : n ≤ 64) :
    bits BinOp.and IntKind.u64 v (IntKind.u64.wrap (IntKind.u64.wrap (2 ^ n) - 1)) = v % 2 ^ n := by
  have h2 : (2 : Nat) ^ n ≤ 2 ^ 64 := Nat.pow_le_pow_right (by omega) hn
  have h3 : 0 < 2 ^ n := Nat.pow_pos (by omega)
  have e2 : ((2 : Int) ^ n) = ((2 ^ n : Nat) : Int) := by simp
  have e : IntKind.u64.wrap (IntKind.u64.wrap (2 ^ n) - 1) = ((2 ^ n - 1 : Nat) : Int) := by
    rw [IntKind.wrap_u64, IntKind.wrap_u64, e2]
    omega
  have hx := and_wrap_left v ((2 ^ n - 1 : Nat) : Int)
  obtain ⟨x, hx0⟩ : ∃ x : Nat, v % 18446744073709551616 = (x : Int) := ⟨(v % 18446744073709551616).toNat, by omega⟩
  rw [e, ← hx, hx0, u64_and_nat x (2 ^ n - 1) (by omega) (by omega), Nat.and_two_pow_sub_one_eq_mod]
  have hd : ((2 : Int) ^ n) ∣ 18446744073709551616 := by
    rw [e2]
    exact Int.natCast_dvd_natCast.2 (Nat.pow_dvd_pow 2 hn : 2 ^ n ∣ 2 ^ 64)
  have h5 := Int.emod_emod_of_dvd v hd
  rw [← h5, hx0]; simp

set_option maxHeartbeats 400000 in
theorem lowest_any (v n : Int) (w : World) (h0 : 0 ≤ n) (hn : n ≤ 64) :
    Calls Tryz.prog 77 #[.int .u64 v, .int .i64 n] w fun e w' => e = .returned (.int .u64 (v % 2 ^ n.toNat)) ∧ w = w' := by
  obtain ⟨m, rfl⟩ := Int.eq_ofNat_of_zero_le h0
  go_enter Tryz.func77, Tryz.ntmps77
  go_wp2
  go_ret
  exact ⟨ret_int (lowest_eq v m (by omega)), rfl⟩

set_option maxHeartbeats 400000 in
theorem load_any (bs : List UInt8) (a : Option Addr) (c B k n : Nat) (w : World) (h : Ro w B a (u8s bs)) (hn : n ≤ 64) (hk : k + n ≤ 8 * bs.length) (hl : bs.length ≤ 1000000) :
    Calls Tryz.prog 113 #[.slice a bs.length c, .int .i64 k, .int .i64 n] w fun e w' => e = .returned (.int .u64 (num bs k n : Nat)) ∧ w = w' := by
  go_enter Tryz.func113, Tryz.ntmps113
  go_wp2
  go_loop [1, 2, 7] (fun x y v => ∃ j : Nat, j ≤ n ∧ x = .int .i64 ((k + j : Nat) : Int) ∧ y = .int .i64 ((n - j : Nat) : Int) ∧ v = .int .u64 (num bs k j : Nat)) (fun _ y _ => (intOf y).toNat)
  case atStart => exact ⟨0, by omega, by simp, by simp, by simp [num]⟩
  case round =>
    obtain ⟨j, hj, rfl, rfl, rfl⟩ := hrel
    by_cases hlt : j < n
    · obtain ⟨b, off, rfl, hb, hc⟩ := h.u8 (by omega)
      have hcell := hc ((k + j) / 8) (by omega)
      have hp : 0 < n - j := by omega
      have b1 : 0 ≤ 8 - ((k : Int) + (j : Int)) % 8 := by omega
      by_cases hm : 8 - (k + j) % 8 ≤ n - j
      · have hm' : 8 - ((k : Int) + (j : Int)) % 8 ≤ ((n - j : Nat) : Int) := by omega
        go_wp2_with (go_at_call 77; refine (lowest_any _ _ _ (by omega) (by omega)).mono ?_; rintro e w' ⟨rfl, rfl⟩)
        go_round
        case rel => exact ⟨j + (8 - (k + j) % 8), by omega, by go_num, by go_num, congrArg _ (load_end1 bs k j (by omega))⟩
        case measure => simp [intOf]; omega
      · have hm' : ¬ 8 - ((k : Int) + (j : Int)) % 8 ≤ ((n - j : Nat) : Int) := by omega
        go_wp2_with (go_at_call 77; refine (lowest_any _ _ _ (by omega) (by omega)).mono ?_; rintro e w' ⟨rfl, rfl⟩)
        go_round
        case rel => exact ⟨j + (n - j), by omega, by go_num, by go_num, congrArg _ (load_end bs k j (n - j) (by omega) (by omega))⟩
        case measure => simp [intOf]; omega
    · obtain rfl : j = n := by omega
      go_wp2
      go_ret
      exact ⟨rfl, rfl⟩

set_option maxHeartbeats 400000 in
theorem span_any (l : List Int) (a : Option Addr) (c B : Nat) (w : World) (h : Ro w B a (i64s l)) (hl : l.length ≤ 1000000) :
    Calls Tryz.prog 76 #[.slice a l.length c] w fun e w' => e = .returned (.tuple #[.int .i64 ((spanOf l).getD 0), .bool (spanOf l).isSome]) ∧ w = w' := by
  go_enter Tryz.func76, Tryz.ntmps76
  go_wp2
  go_loop [4, 9] (fun t i => ∃ k : Nat, k ≤ l.length ∧ i = .int .i64 (k : Int) ∧ t = .int .i64 (l.take k).sum ∧ 0 ≤ (l.take k).sum ∧ (l.take k).sum ≤ 64 * k ∧ ∀ i, i < k → 0 ≤ l.getD i 0 ∧ l.getD i 0 ≤ 64) (fun _ i => l.length - (intOf i).toNat)
  case atStart => exact ⟨0, by omega, by simp, by simp, by simp, by simp, by omega⟩
  case round =>
    obtain ⟨k, hk, rfl, rfl, hs0, hs1, hall⟩ := hrel
    by_cases hlt : k < l.length
    · obtain ⟨b, off, rfl, hb, hc⟩ := h.i64 (by omega)
      have hcell := hc k hlt
      have hsum := sum_take l k hlt
      have hbad := spanOf_bad l k hlt
      clear hc
      obtain ⟨x, hx⟩ : ∃ x, x = l.getD k 0 := ⟨_, rfl⟩
      rw [← hx] at hcell hsum hbad
      have HS := Lib.hid hsum; clear hsum
      have HX := Lib.hid hx; clear hx
      obtain ⟨t, ht⟩ : ∃ t, t = (l.take k).sum := ⟨_, rfl⟩
      rw [← ht] at hs0 hs1
      by_cases h0 : x < 0
      · have HB := Lib.hid (hbad (by omega)); clear hbad
        clear ht
        go_wp2
        go_ret2
        rw [HB.out]
        exact ⟨rfl, rfl⟩
      by_cases h64 : 64 < x
      · have HB := Lib.hid (hbad (by omega)); clear hbad
        clear ht
        go_wp2
        go_ret2
        rw [HB.out]
        exact ⟨rfl, rfl⟩
      clear hbad
      rw [← ht]
      have HT := Lib.hid ht; clear ht
      go_wp2
      go_round
      case rel =>
        have hT := HT.out
        have hS := HS.out
        refine ⟨k + 1, by omega, by go_num, by rw [hS, ← hT], by omega, by omega, fun i hi => ?_⟩
        by_cases e : i = k
        · subst e; rw [← HX.out]; omega
        · exact hall i (by omega)
      case measure => simp [intOf]; omega
    · obtain rfl : k = l.length := by omega
      have HB := Lib.hid (spanOf_ok l hall)
      go_wp2
      go_ret2
      rw [HB.out]
      exact ⟨rfl, rfl⟩

theorem span1 (n : Int) (b c : Nat) (w : World) (hc : w.cell? ⟨b, 0, none⟩ = some (.int .i64 n)) :
    Calls Tryz.prog 76 #[.slice (some ⟨b, 0, none⟩) 1 c] w fun e w' => e = .returned (.tuple #[.int .i64 ((spanOf [n]).getD 0), .bool (spanOf [n]).isSome]) ∧ w = w' :=
  span_any [n] (some ⟨b, 0, none⟩) c (b + 1) w (.inr ⟨b, 0, rfl, by omega, fun i hi => by
    obtain rfl : i = 0 := by simpa [i64s] using hi
    simpa [i64s] using hc⟩) (by simp)
theorem span1_ok (n : Int) (h0 : 0 ≤ n) (h1 : n ≤ 64) (b c : Nat) (w : World) (hc : w.cell? ⟨b, 0, none⟩ = some (.int .i64 n)) :
    Calls Tryz.prog 76 #[.slice (some ⟨b, 0, none⟩) 1 c] w fun e w' => e = .returned (.tuple #[.int .i64 n, .bool true]) ∧ w = w' := by
  have e : spanOf [n] = some n := by simp [spanOf, h0, h1]
  have := span1 n b c w hc
  rw [e] at this
  exact this
theorem span1_bad (n : Int) (h0 : n < 0 ∨ 64 < n) (b c : Nat) (w : World) (hc : w.cell? ⟨b, 0, none⟩ = some (.int .i64 n)) :
    Calls Tryz.prog 76 #[.slice (some ⟨b, 0, none⟩) 1 c] w fun e w' => e = .returned (.tuple #[.int .i64 0, .bool false]) ∧ w = w' := by
  have e : spanOf [n] = none := spanOf_bad [n] 0 (by simp) (by simp; omega)
  have := span1 n b c w hc
  rw [e] at this
  exact this

set_option maxHeartbeats 400000 in
theorem inside_any (a : Option Addr) (len c : Nat) (k n : Int) (w : World) (hl : len ≤ 1000000) (hk0 : -9223372036854775808 ≤ k) (hk : k ≤ 9223372036854775807) :
    Calls Tryz.prog 112 #[.slice a len c, .int .i64 k, .int .i64 n] w fun e w' => e = .returned (.bool (decide (0 ≤ n ∧ n ≤ 64 ∧ 0 ≤ k ∧ k + n ≤ 8 * len))) ∧ Below w.heap.size w w' := by
  by_cases hn : 0 ≤ n ∧ n ≤ 64
  · obtain ⟨h0, h1⟩ := hn
    by_cases hk1 : 0 ≤ k
    · go_enter Tryz.func112, Tryz.ntmps112
      go_wp2_with (go_at_call 76; refine (span1_ok n h0 h1 _ _ _ (cell_one_new _ _ _ 0 _ rfl)).mono ?_; rintro e w' ⟨rfl, rfl⟩)
      go_ret
      exact ⟨ret_bool (by rw [decide_eq_decide]; omega), (Below.refl _ _).alloc (Nat.le_refl _) _⟩
    · go_enter Tryz.func112, Tryz.ntmps112
      go_wp2_with (go_at_call 76; refine (span1_ok n h0 h1 _ _ _ (cell_one_new _ _ _ 0 _ rfl)).mono ?_; rintro e w' ⟨rfl, rfl⟩)
      go_ret
      exact ⟨ret_bool (by simp; omega), (Below.refl _ _).alloc (Nat.le_refl _) _⟩
  · go_enter Tryz.func112, Tryz.ntmps112
    go_wp2_with (go_at_call 76; refine (span1_bad n (by omega) _ _ _ (cell_one_new _ _ _ 0 _ rfl)).mono ?_; rintro e w' ⟨rfl, rfl⟩)
    go_ret
    exact ⟨ret_bool (by simp; omega), (Below.refl _ _).alloc (Nat.le_refl _) _⟩

theorem inside_yes (a : Option Addr) (len c : Nat) (k n : Int) (w : World) (hl : len ≤ 1000000) (hn0 : 0 ≤ n) (hn : n ≤ 64) (hk0 : 0 ≤ k) (hk : k + n ≤ 8 * len) :
    Calls Tryz.prog 112 #[.slice a len c, .int .i64 k, .int .i64 n] w fun e w' => e = .returned (.bool true) ∧ Below w.heap.size w w' := by
  have h := inside_any a len c k n w hl (by omega) (by omega)
  rw [decide_eq_true (by omega)] at h
  exact h
theorem inside_no (a : Option Addr) (len c : Nat) (k n : Int) (w : World) (hl : len ≤ 1000000) (hk0 : -9223372036854775808 ≤ k) (hk : k ≤ 9223372036854775807) (h : ¬ (0 ≤ n ∧ n ≤ 64 ∧ 0 ≤ k ∧ k + n ≤ 8 * len)) :
    Calls Tryz.prog 112 #[.slice a len c, .int .i64 k, .int .i64 n] w fun e w' => e = .returned (.bool false) ∧ Below w.heap.size w w' := by
  have h2 := inside_any a len c k n w hl (by omega) (by omega)
  rw [decide_eq_false h] at h2
  exact h2

/-- Get: the number, or nothing -/
theorem get_yes (bs : List UInt8) (a : Option Addr) (c B : Nat) (k n : Int) (w : World) (h : Ro w B a (u8s bs)) (hB : B ≤ w.heap.size) (hl : bs.length ≤ 1000000) (hn0 : 0 ≤ n) (hn : n ≤ 64) (hk0 : 0 ≤ k) (hk : k + n ≤ 8 * bs.length) :
    Calls Tryz.prog 89 #[.slice a bs.length c, .int .i64 k, .int .i64 n] w fun e w' => e = .returned (.tuple #[.int .u64 (num bs k.toNat n.toNat : Nat), .bool true]) ∧ Below w.heap.size w w' := by
  obtain ⟨k, rfl⟩ := Int.eq_ofNat_of_zero_le hk0
  obtain ⟨n, rfl⟩ := Int.eq_ofNat_of_zero_le hn0
  go_enter Tryz.func89, Tryz.ntmps89
  go_wp2_with fail
  refine (inside_yes _ _ _ _ _ _ hl hn0 hn hk0 hk).mono ?_
  rintro e w' ⟨rfl, hb⟩
  go_wp2_with fail
  refine (load_any bs a c B k n w' (h.below hb hB) (by omega) (by omega) hl).mono ?_
  rintro e w'' ⟨rfl, rfl⟩
  go_wp2_with fail
  go_ret2
  exact ⟨rfl, hb⟩
theorem get_no (a : Option Addr) (len c : Nat) (k n : Int) (w : World) (hl : len ≤ 1000000) (hk0 : -9223372036854775808 ≤ k) (hk : k ≤ 9223372036854775807) (h : ¬ (0 ≤ n ∧ n ≤ 64 ∧ 0 ≤ k ∧ k + n ≤ 8 * len)) :
    Calls Tryz.prog 89 #[.slice a len c, .int .i64 k, .int .i64 n] w fun e w' => e = .returned (.tuple #[.int .u64 0, .bool false]) ∧ Below w.heap.size w w' := by
  go_enter Tryz.func89, Tryz.ntmps89
  go_wp2_with fail
  refine (inside_no _ _ _ _ _ _ hl hk0 hk h).mono ?_
  rintro e w' ⟨rfl, hb⟩
  go_wp2_with fail
  go_ret2
  exact ⟨rfl, hb⟩
end Go.Proofs.YtdpaofedepnnbaaGreat
