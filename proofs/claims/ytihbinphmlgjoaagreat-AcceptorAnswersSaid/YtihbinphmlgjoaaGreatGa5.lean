/-
  The small functions of package bits: bytesFor, lowest, limit, Extend, Reverse by their contracts. No condition but the ranges that each theorem names.
-/
import Derived.Test.YtihbinphmlgjoaaGreatGa1
namespace Go.Proofs.YtihbinphmlgjoaaGreat
open Go.RowKit
set_option linter.unusedVariables false
set_option linter.unusedSimpArgs false

set_option maxHeartbeats 400000 in
theorem bytesFor_any (n : Int) (w : World) (h0 : 0 ≤ n) (h1 : n ≤ 1000000) :
    Calls Tryz.prog 113 #[.int .i64 n] w fun e w' => e = .returned (.int .i64 ((n + 7) / 8)) ∧ w = w' := by
  go_enter Tryz.func113, Tryz.ntmps113
  go_wp2
  go_ret
  exact ⟨ret_int (by omega), rfl⟩

theorem lowest_eq (v : Int) (n : Nat) (hn : n ≤ 64) :
    bits BinOp.and IntKind.u64 v (IntKind.u64.wrap (IntKind.u64.wrap (2 ^ n) - 1)) = v % 2 ^ n := by
  have h2 : (2 : Nat) ^ n ≤ 2 ^ 64 := Nat.pow_le_pow_right (by omega) hn
  have h3 : 0 < 2 ^ n := Nat.pow_pos (by omega)
  have e2 : ((2 : Int) ^ n) = ((2 ^ n : Nat) : Int) := by simp
  have e : IntKind.u64.wrap (IntKind.u64.wrap (2 ^ n) - 1) = ((2 ^ n - 1 : Nat) : Int) := by
    rw [IntKind.wrap_u64, IntKind.wrap_u64, e2]
    omega
  have hx := and_wrap_left v ((2 ^ n - 1 : Nat) : Int)
  obtain ⟨x, hx0⟩ : ∃ x : Nat, v % 18446744073709551616 = (x : Int) := ⟨(v % 18446744073709551616).toNat, by omega⟩
  rw [e, ← hx, hx0, u64_and_nat x (2 ^ n - 1) (by omega) (by omega), Nat.and_two_pow_sub_one_eq_mod]
  have hd : ((2 : Int) ^ n) ∣ 18446744073709551616 := by
    rw [e2]
    exact Int.natCast_dvd_natCast.2 (Nat.pow_dvd_pow 2 hn : 2 ^ n ∣ 2 ^ 64)
  have h5 := Int.emod_emod_of_dvd v hd
  rw [← h5, hx0]; simp

set_option maxHeartbeats 400000 in
theorem lowest_any (v n : Int) (w : World) (h0 : 0 ≤ n) (hn : n ≤ 64) :
    Calls Tryz.prog 150 #[.int .u64 v, .int .i64 n] w fun e w' => e = .returned (.int .u64 (v % 2 ^ n.toNat)) ∧ w = w' := by
  obtain ⟨m, rfl⟩ := Int.eq_ofNat_of_zero_le h0
  go_enter Tryz.func150, Tryz.ntmps150
  go_wp2
  go_ret
  exact ⟨ret_int (lowest_eq v m (by omega)), rfl⟩

set_option maxHeartbeats 400000 in
theorem load_any (bs : List UInt8) (a : Option Addr) (c B k n : Nat) (w : World) (h : Ro w B a (u8s bs)) (hn : n ≤ 64) (hk : k + n ≤ 8 * bs.length) (hl : bs.length ≤ 1000000) :
    Calls Tryz.prog 114 #[.slice a bs.length c, .int .i64 k, .int .i64 n] w fun e w' => e = .returned (.int .u64 (num bs k n : Nat)) ∧ w = w' := by
  go_enter Tryz.func114, Tryz.ntmps114
  go_wp2
  go_loop [1, 2, 7] (fun x y v => ∃ j : Nat, j ≤ n ∧ x = .int .i64 ((k + j : Nat) : Int) ∧ y = .int .i64 ((n - j : Nat) : Int) ∧ v = .int .u64 (num bs k j : Nat)) (fun _ y _ => (intOf y).toNat)
  case atStart => exact ⟨0, by omega, by simp, by simp, by simp [num]⟩
  case round =>
    obtain ⟨j, hj, rfl, rfl, rfl⟩ := hrel
    by_cases hlt : j < n
    · obtain ⟨b, off, rfl, hb, hc⟩ := h.u8 (by omega)
      have hcell := hc ((k + j) / 8) (by omega)
      have hp : 0 < n - j := by omega
      have b1 : 0 ≤ 8 - ((k : Int) + (j : Int)) % 8 := by omega
      by_cases hm : 8 - (k + j) % 8 ≤ n - j
      · have hm' : 8 - ((k : Int) + (j : Int)) % 8 ≤ ((n - j : Nat) : Int) := by omega
        go_wp2_with (go_at_call 150; refine (lowest_any _ _ _ (by omega) (by omega)).mono ?_; rintro e w' ⟨rfl, rfl⟩)
        go_round
        case rel => exact ⟨j + (8 - (k + j) % 8), by omega, by go_num, by go_num, congrArg _ (load_end1 bs k j (by omega))⟩
        case measure => simp [intOf]; omega
      · have hm' : ¬ 8 - ((k : Int) + (j : Int)) % 8 ≤ ((n - j : Nat) : Int) := by omega
        go_wp2_with (go_at_call 150; refine (lowest_any _ _ _ (by omega) (by omega)).mono ?_; rintro e w' ⟨rfl, rfl⟩)
        go_round
        case rel => exact ⟨j + (n - j), by omega, by go_num, by go_num, congrArg _ (load_end bs k j (n - j) (by omega) (by omega))⟩
        case measure => simp [intOf]; omega
    · obtain rfl : j = n := by omega
      go_wp2
      go_ret
      exact ⟨rfl, rfl⟩

set_option maxHeartbeats 400000 in
theorem span_any (l : List Int) (a : Option Addr) (c B : Nat) (w : World) (h : Ro w B a (i64s l)) (hl : l.length ≤ 1000000) :
    Calls Tryz.prog 112 #[.slice a l.length c] w fun e w' => e = .returned (.tuple #[.int .i64 ((spanOf l).getD 0), .bool (spanOf l).isSome]) ∧ w = w' := by
  go_enter Tryz.func112, Tryz.ntmps112
  go_wp2
  go_loop [4, 9] (fun t i => ∃ k : Nat, k ≤ l.length ∧ i = .int .i64 (k : Int) ∧ t = .int .i64 (l.take k).sum ∧ 0 ≤ (l.take k).sum ∧ (l.take k).sum ≤ 64 * k ∧ ∀ i, i < k → 0 ≤ l.getD i 0 ∧ l.getD i 0 ≤ 64) (fun _ i => l.length - (intOf i).toNat)
  case atStart => exact ⟨0, by omega, by simp, by simp, by simp, by simp, by omega⟩
  case round =>
    obtain ⟨k, hk, rfl, rfl, hs0, hs1, hall⟩ := hrel
    by_cases hlt : k < l.length
    · obtain ⟨b, off, rfl, hb, hc⟩ := h.i64 (by omega)
      have hcell := hc k hlt
      have hsum := sum_take l k hlt
      have hbad := spanOf_bad l k hlt
      clear hc
      obtain ⟨x, hx⟩ : ∃ x, x = l.getD k 0 := ⟨_, rfl⟩
      rw [← hx] at hcell hsum hbad
      have HS := Lib.hid hsum; clear hsum
      have HX := Lib.hid hx; clear hx
      obtain ⟨t, ht⟩ : ∃ t, t = (l.take k).sum := ⟨_, rfl⟩
      rw [← ht] at hs0 hs1
      by_cases h0 : x < 0
      · have HB := Lib.hid (hbad (by omega)); clear hbad
        clear ht
        go_wp2
        go_ret2
        rw [HB.out]
        exact ⟨rfl, rfl⟩
      by_cases h64 : 64 < x
      · have HB := Lib.hid (hbad (by omega)); clear hbad
        clear ht
        go_wp2
        go_ret2
        rw [HB.out]
        exact ⟨rfl, rfl⟩
      clear hbad
      rw [← ht]
      have HT := Lib.hid ht; clear ht
      go_wp2
      go_round
      case rel =>
        have hT := HT.out
        have hS := HS.out
        refine ⟨k + 1, by omega, by go_num, by rw [hS, ← hT], by omega, by omega, fun i hi => ?_⟩
        by_cases e : i = k
        · subst e; rw [← HX.out]; omega
        · exact hall i (by omega)
      case measure => simp [intOf]; omega
    · obtain rfl : k = l.length := by omega
      have HB := Lib.hid (spanOf_ok l hall)
      go_wp2
      go_ret2
      rw [HB.out]
      exact ⟨rfl, rfl⟩

theorem span1 (n : Int) (b c : Nat) (w : World) (hc : w.cell? ⟨b, 0, none⟩ = some (.int .i64 n)) :
    Calls Tryz.prog 112 #[.slice (some ⟨b, 0, none⟩) 1 c] w fun e w' => e = .returned (.tuple #[.int .i64 ((spanOf [n]).getD 0), .bool (spanOf [n]).isSome]) ∧ w = w' :=
  span_any [n] (some ⟨b, 0, none⟩) c (b + 1) w (.inr ⟨b, 0, rfl, by omega, fun i hi => by
    obtain rfl : i = 0 := by simpa [i64s] using hi
    simpa [i64s] using hc⟩) (by simp)
theorem span1_ok (n : Int) (h0 : 0 ≤ n) (h1 : n ≤ 64) (b c : Nat) (w : World) (hc : w.cell? ⟨b, 0, none⟩ = some (.int .i64 n)) :
    Calls Tryz.prog 112 #[.slice (some ⟨b, 0, none⟩) 1 c] w fun e w' => e = .returned (.tuple #[.int .i64 n, .bool true]) ∧ w = w' := by
  have e : spanOf [n] = some n := by simp [spanOf, h0, h1]
  have := span1 n b c w hc
  rw [e] at this
  exact this
theorem span1_bad (n : Int) (h0 : n < 0 ∨ 64 < n) (b c : Nat) (w : World) (hc : w.cell? ⟨b, 0, none⟩ = some (.int .i64 n)) :
    Calls Tryz.prog 112 #[.slice (some ⟨b, 0, none⟩) 1 c] w fun e w' => e = .returned (.tuple #[.int .i64 0, .bool false]) ∧ w = w' := by
  have e : spanOf [n] = none := spanOf_bad [n] 0 (by simp) (by simp; omega)
  have := span1 n b c w hc
  rw [e] at this
  exact this

set_option maxHeartbeats 400000 in
theorem inside_any (a : Option Addr) (len c : Nat) (k n : Int) (w : World) (hl : len ≤ 1000000) (hk0 : -9223372036854775808 ≤ k) (hk : k ≤ 9223372036854775807) :
    Calls Tryz.prog 209 #[.slice a len c, .int .i64 k, .int .i64 n] w fun e w' => e = .returned (.bool (decide (0 ≤ n ∧ n ≤ 64 ∧ 0 ≤ k ∧ k + n ≤ 8 * len))) ∧ Below w.heap.size w w' := by
  by_cases hn : 0 ≤ n ∧ n ≤ 64
  · obtain ⟨h0, h1⟩ := hn
    by_cases hk1 : 0 ≤ k
    · go_enter Tryz.func209, Tryz.ntmps209
      go_wp2_with (go_at_call 112; refine (span1_ok n h0 h1 _ _ _ (cell_one_new _ _ _ 0 _ rfl)).mono ?_; rintro e w' ⟨rfl, rfl⟩)
      go_ret
      exact ⟨ret_bool (by rw [decide_eq_decide]; omega), (Below.refl _ _).alloc (Nat.le_refl _) _⟩
    · go_enter Tryz.func209, Tryz.ntmps209
      go_wp2_with (go_at_call 112; refine (span1_ok n h0 h1 _ _ _ (cell_one_new _ _ _ 0 _ rfl)).mono ?_; rintro e w' ⟨rfl, rfl⟩)
      go_ret
      exact ⟨ret_bool (by simp; omega), (Below.refl _ _).alloc (Nat.le_refl _) _⟩
  · go_enter Tryz.func209, Tryz.ntmps209
    go_wp2_with (go_at_call 112; refine (span1_bad n (by omega) _ _ _ (cell_one_new _ _ _ 0 _ rfl)).mono ?_; rintro e w' ⟨rfl, rfl⟩)
    go_ret
    exact ⟨ret_bool (by simp; omega), (Below.refl _ _).alloc (Nat.le_refl _) _⟩

theorem inside_yes (a : Option Addr) (len c : Nat) (k n : Int) (w : World) (hl : len ≤ 1000000) (hn0 : 0 ≤ n) (hn : n ≤ 64) (hk0 : 0 ≤ k) (hk : k + n ≤ 8 * len) :
    Calls Tryz.prog 209 #[.slice a len c, .int .i64 k, .int .i64 n] w fun e w' => e = .returned (.bool true) ∧ Below w.heap.size w w' := by
  have h := inside_any a len c k n w hl (by omega) (by omega)
  rw [decide_eq_true (by omega)] at h
  exact h
theorem inside_no (a : Option Addr) (len c : Nat) (k n : Int) (w : World) (hl : len ≤ 1000000) (hk0 : -9223372036854775808 ≤ k) (hk : k ≤ 9223372036854775807) (h : ¬ (0 ≤ n ∧ n ≤ 64 ∧ 0 ≤ k ∧ k + n ≤ 8 * len)) :
    Calls Tryz.prog 209 #[.slice a len c, .int .i64 k, .int .i64 n] w fun e w' => e = .returned (.bool false) ∧ Below w.heap.size w w' := by
  have h2 := inside_any a len c k n w hl (by omega) (by omega)
  rw [decide_eq_false h] at h2
  exact h2

/-- Get: the number, or nothing -/
theorem get_yes (bs : List UInt8) (a : Option Addr) (c B : Nat) (k n : Int) (w : World) (h : Ro w B a (u8s bs)) (hB : B ≤ w.heap.size) (hl : bs.length ≤ 1000000) (hn0 : 0 ≤ n) (hn : n ≤ 64) (hk0 : 0 ≤ k) (hk : k + n ≤ 8 * bs.length) :
    Calls Tryz.prog 178 #[.slice a bs.length c, .int .i64 k, .int .i64 n] w fun e w' => e = .returned (.tuple #[.int .u64 (num bs k.toNat n.toNat : Nat), .bool true]) ∧ Below w.heap.size w w' := by
  obtain ⟨k, rfl⟩ := Int.eq_ofNat_of_zero_le hk0
  obtain ⟨n, rfl⟩ := Int.eq_ofNat_of_zero_le hn0
  go_enter Tryz.func178, Tryz.ntmps178
  go_wp2_with fail
  refine (inside_yes _ _ _ _ _ _ hl hn0 hn hk0 hk).mono ?_
  rintro e w' ⟨rfl, hb⟩
  go_wp2_with fail
  refine (load_any bs a c B k n w' (h.below hb hB) (by omega) (by omega) hl).mono ?_
  rintro e w'' ⟨rfl, rfl⟩
  go_wp2_with fail
  go_ret2
  exact ⟨rfl, hb⟩
theorem get_no (a : Option Addr) (len c : Nat) (k n : Int) (w : World) (hl : len ≤ 1000000) (hk0 : -9223372036854775808 ≤ k) (hk : k ≤ 9223372036854775807) (h : ¬ (0 ≤ n ∧ n ≤ 64 ∧ 0 ≤ k ∧ k + n ≤ 8 * len)) :
    Calls Tryz.prog 178 #[.slice a len c, .int .i64 k, .int .i64 n] w fun e w' => e = .returned (.tuple #[.int .u64 0, .bool false]) ∧ Below w.heap.size w w' := by
  go_enter Tryz.func178, Tryz.ntmps178
  go_wp2_with fail
  refine (inside_no _ _ _ _ _ _ hl hk0 hk h).mono ?_
  rintro e w' ⟨rfl, hb⟩
  go_wp2_with fail
  go_ret2
  exact ⟨rfl, hb⟩
end Go.Proofs.YtihbinphmlgjoaaGreat
namespace Go.Proofs.YtihbinphmlgjoaaGreat
set_option linter.unusedVariables false
set_option linter.unusedSimpArgs false

def bitB (bs : List UInt8) (i : Nat) : Bool := (bs.getD (i / 8) 0).toNat.testBit (7 - i % 8)
theorem bit_bitB (bs : List UInt8) (i : Nat) : bit bs i = (bitB bs i).toNat := by
  unfold bit bitB
  rw [Nat.toNat_testBit]

def nbP (x V s t : Nat) : Nat := (x &&& (255 - (2 ^ t - 1) * 2 ^ s)) ||| ((V % 256 * 2 ^ s % 256) &&& ((2 ^ t - 1) * 2 ^ s))
theorem mask_lt (s t : Nat) (h : s + t ≤ 8) : (2 ^ t - 1) * 2 ^ s < 256 := by
  have h1 : 0 < 2 ^ t := Nat.pow_pos (by omega)
  have h2 : 0 < 2 ^ s := Nat.pow_pos (by omega)
  have h3 : (2 : Nat) ^ (s + t) ≤ 2 ^ 8 := Nat.pow_le_pow_right (by omega) h
  rw [Nat.pow_add, Nat.mul_comm] at h3
  have h4 : (2 ^ t - 1) * 2 ^ s < 2 ^ t * 2 ^ s := Nat.mul_lt_mul_of_pos_right (by omega) h2
  omega
theorem nbP_lt (x V s t : Nat) (hx : x < 256) (h : s + t ≤ 8) : nbP x V s t < 256 := by
  unfold nbP
  have h1 := mask_lt s t h
  exact Nat.or_lt_two_pow (n := 8) (Nat.lt_of_le_of_lt Nat.and_le_left hx) (Nat.lt_of_le_of_lt Nat.and_le_right h1)
theorem nb_bit (x V s t q : Nat) (h : s + t ≤ 8) (hq : q < 8) : (nbP x V s t).testBit q = if s ≤ q ∧ q < s + t then V.testBit (q - s) else x.testBit q := by
  have h1 := mask_lt s t h
  unfold nbP
  have e : 255 - (2 ^ t - 1) * 2 ^ s = 2 ^ 8 - ((2 ^ t - 1) * 2 ^ s + 1) := by omega
  rw [Nat.testBit_or, Nat.testBit_and, Nat.testBit_and, e, Nat.testBit_two_pow_sub_succ h1, show (256 : Nat) = 2 ^ 8 from rfl]
  simp only [Nat.testBit_mod_two_pow, Nat.testBit_mul_two_pow, Nat.testBit_two_pow_sub_one, decide_eq_true hq]
  by_cases c1 : s ≤ q
  · by_cases c2 : q < s + t
    · rw [if_pos ⟨c1, c2⟩, decide_eq_true c1, decide_eq_true (show q - s < t by omega), decide_eq_true (show q - s < 8 by omega)]; simp
    · rw [if_neg (by omega), decide_eq_true c1, decide_eq_false (show ¬ q - s < t by omega)]; simp
  · rw [if_neg (by omega), decide_eq_false c1]; simp
theorem nb_int (x V s t : Nat) (hx : x < 256) (h : s + t ≤ 8) :
    bits BinOp.or IntKind.u8 (bits BinOp.andNot IntKind.u8 (x : Int) ((2 ^ t - 1) % 256 * 2 ^ s % 256)) (bits BinOp.and IntKind.u8 ((V : Int) % 256 * 2 ^ s % 256) ((2 ^ t - 1) % 256 * 2 ^ s % 256)) = ((nbP x V s t : Nat) : Int) := by
  have h1 := mask_lt s t h
  have h2 : 0 < 2 ^ t := Nat.pow_pos (by omega)
  have h3 : (2 : Nat) ^ t ≤ 2 ^ 8 := Nat.pow_le_pow_right (by omega) (by omega)
  have e0 : ((2 : Int) ^ t - 1) % 256 = ((2 ^ t - 1 : Nat) : Int) := by
    have : ((2 : Int) ^ t) = ((2 ^ t : Nat) : Int) := by simp
    rw [this]; omega
  have e1 : ((2 : Int) ^ t - 1) % 256 * 2 ^ s % 256 = (((2 ^ t - 1) * 2 ^ s : Nat) : Int) := by
    rw [e0]
    have : (((2 ^ t - 1 : Nat) : Int) * 2 ^ s) = (((2 ^ t - 1) * 2 ^ s : Nat) : Int) := by simp
    rw [this]; omega
  have e2 : ((V : Int) % 256 * 2 ^ s % 256) = ((V % 256 * 2 ^ s % 256 : Nat) : Int) := by rw [Int.natCast_emod, Int.natCast_mul, Int.natCast_emod, Int.natCast_pow]; rfl
  have h4 : x &&& (255 - (2 ^ t - 1) * 2 ^ s) ≤ x := Nat.and_le_left
  have h5 : V % 256 * 2 ^ s % 256 &&& ((2 ^ t - 1) * 2 ^ s) ≤ (2 ^ t - 1) * 2 ^ s := Nat.and_le_right
  rw [e1, e2, u8_andNot_nat _ _ hx h1, u8_and_nat _ _ (by omega) h1, u8_or_nat _ _ (by omega) (by omega)]
  rfl
theorem nb_int0 (x V t : Nat) (hx : x < 256) (h : t ≤ 8) :
    bits BinOp.or IntKind.u8 (bits BinOp.andNot IntKind.u8 (x : Int) ((2 ^ t - 1) % 256)) (bits BinOp.and IntKind.u8 ((V : Int) % 256) ((2 ^ t - 1) % 256)) = ((nbP x V 0 t : Nat) : Int) := by
  have := nb_int x V 0 t hx (by omega)
  rw [← this]
  simp

/-- the bytes cs are bs with the lowest n bits of v at k -/
def IsPut (bs cs : List UInt8) (k n v : Nat) : Prop := cs.length = bs.length ∧ ∀ m, m < 8 * bs.length → bitB cs m = if k ≤ m ∧ m < k + n then v.testBit (n - 1 - (m - k)) else bitB bs m
/-- on the way: the first j of them -/
def IsPutTo (bs cs : List UInt8) (k n v j : Nat) : Prop := cs.length = bs.length ∧ ∀ m, m < 8 * bs.length → bitB cs m = if k ≤ m ∧ m < k + j then v.testBit (n - 1 - (m - k)) else bitB bs m
theorem IsPutTo.start (bs : List UInt8) (k n v : Nat) : IsPutTo bs bs k n v 0 := ⟨rfl, fun m _ => by rw [if_neg (by omega)]⟩
theorem IsPutTo.stop {bs cs : List UInt8} {k n v : Nat} (h : IsPutTo bs cs k n v n) : IsPut bs cs k n v := h
theorem set_getD (cs : List UInt8) (i j : Nat) (x : UInt8) (hi : i < cs.length) : (cs.set i x).getD j 0 = if i = j then x else cs.getD j 0 := by
  simp only [List.getD, List.getElem?_set]
  by_cases h : i = j
  · subst h; simp [hi]
  · simp [h]
theorem IsPutTo.step {bs cs : List UInt8} {k n v j : Nat} (h : IsPutTo bs cs k n v j) (t : Nat) (hk : k + n ≤ 8 * bs.length) (hjt : j + t ≤ n) (ht : 0 < t) (hr : (k + j) % 8 + t ≤ 8) (N : Nat)
    (hN : N = nbP (cs.getD ((k + j) / 8) 0).toNat (v / 2 ^ (n - j - t)) (8 - (k + j) % 8 - t) t) : IsPutTo bs (cs.set ((k + j) / 8) (UInt8.ofNat N)) k n v (j + t) := by
  obtain ⟨h1, h2⟩ := h
  have hNlt : N < 256 := by rw [hN]; exact nbP_lt _ _ _ _ (cs.getD ((k + j) / 8) 0).toNat_lt (by omega)
  refine ⟨by simpa using h1, fun m hm => ?_⟩
  have h2 := h2 m hm
  unfold bitB at h2 ⊢
  rw [set_getD _ _ _ _ (by omega)]
  by_cases e : (k + j) / 8 = m / 8
  · rw [if_pos e]
    have eN : (UInt8.ofNat N).toNat = N := by simp; omega
    rw [eN, hN, nb_bit _ _ _ _ _ (by omega) (by omega)]
    by_cases c : k + j ≤ m ∧ m < k + j + t
    · rw [if_pos (by omega), if_pos (by omega), Nat.testBit_div_two_pow]
      congr 1
      omega
    · rw [if_neg (by omega), e, h2]
      by_cases c2 : k ≤ m ∧ m < k + j
      · rw [if_pos c2, if_pos (by omega)]
      · rw [if_neg c2, if_neg (by omega)]
  · rw [if_neg e, h2]
    by_cases c2 : k ≤ m ∧ m < k + j
    · rw [if_pos c2, if_pos (by omega)]
    · rw [if_neg c2, if_neg (by omega)]
theorem u8_of (N : Nat) (h : N < 256) : ((UInt8.ofNat N).toNat : Int) = (N : Int) := by simp; omega
end Go.Proofs.YtihbinphmlgjoaaGreat
namespace Go.Proofs.YtihbinphmlgjoaaGreat
open Go.RowKit Go.Deep
set_option linter.unusedVariables false
set_option linter.unusedSimpArgs false

set_option maxHeartbeats 400000 in
theorem store_any (bs : List UInt8) (g c k n v : Nat) (w : World) (h : Own w g 5 (u8s bs)) (hn : n ≤ 64) (hk : k + n ≤ 8 * bs.length) (hl : bs.length ≤ 1000000) :
    Calls Tryz.prog 169 #[.slice (some ⟨g, 0, none⟩) bs.length c, .int .i64 k, .int .i64 n, .int .u64 v] w fun e w' => e = .returned (.tuple #[]) ∧ ∃ cs : List UInt8, IsPut bs cs k n v ∧ Own w' g 5 (u8s cs) ∧ w.grownBy w' (some g) ∧ w'.heap.size = w.heap.size := by
  go_enter Tryz.func169, Tryz.ntmps169
  go_wp2
  go_loopw [1, 2] (fun x y wr => ∃ (j : Nat) (cs : List UInt8), j ≤ n ∧ x = .int .i64 ((k + j : Nat) : Int) ∧ y = .int .i64 ((n - j : Nat) : Int) ∧ Own wr g 5 (u8s cs) ∧ IsPutTo bs cs k n v j ∧ w.grownBy wr (some g) ∧ wr.heap.size = w.heap.size) (fun _ y _ => (intOf y).toNat)
  case atStart => exact ⟨0, bs, by omega, by simp, by simp, h, IsPutTo.start _ _ _ _, only_refl _ _, rfl⟩
  case round =>
    obtain ⟨j, cs, hj, rfl, rfl, ho, hput, hg, hsz⟩ := hrel
    have hcs := hput.1
    by_cases hlt : j < n
    · have hc := ho.cell ((k + j) / 8)
      have hf := ho.frozen ((k + j) / 8)
      have hp : 0 < n - j := by omega
      have b1 : 0 ≤ 8 - ((k : Int) + (j : Int)) % 8 := by omega
      have hcell : wr.cell? ⟨g, (k + j) / 8, none⟩ = some (.int .u8 ((cs.getD ((k + j) / 8) 0).toNat : Nat)) := by
        rw [hc]; simp [u8s, List.getD, show (k + j) / 8 < cs.length from by omega]
      clear hc
      obtain ⟨x, hx⟩ : ∃ x, x = cs.getD ((k + j) / 8) 0 := ⟨_, rfl⟩
      rw [← hx] at hcell
      have HX := Lib.hid hx; clear hx
      have HZ := Lib.hid hsz; clear hsz
      have HC := Lib.hid hcs; clear hcs
      by_cases hm : 8 - (k + j) % 8 ≤ n - j
      · have hm' : 8 - ((k : Int) + (j : Int)) % 8 ≤ ((n - j : Nat) : Int) := by omega
        go_wp2
        go_roundw
        case measure => simp [intOf]; omega
        case rel =>
          have hN := nb_int0 x.toNat (v / 2 ^ (n - j - (8 - (k + j) % 8))) (8 - (k + j) % 8) x.toNat_lt (by omega)
          have hlt8 := nbP_lt x.toNat (v / 2 ^ (n - j - (8 - (k + j) % 8))) 0 (8 - (k + j) % 8) x.toNat_lt (by omega)
          have hstep := hput.step (8 - (k + j) % 8) hk (by omega) (by omega) (by omega) _ rfl
          rw [← HX.out, Nat.sub_self] at hstep
          rw [Int.natCast_ediv, Int.natCast_pow] at hN
          refine ⟨j + (8 - (k + j) % 8), cs.set ((k + j) / 8) (UInt8.ofNat (nbP x.toNat (v / 2 ^ (n - j - (8 - (k + j) % 8))) 0 (8 - (k + j) % 8))), by omega, by go_num, by go_num, ?_, hstep, only_set hg _ _, (set_size _ _ _).trans HZ.out⟩
          refine (congrArg (fun z => Own (wr.setCell ⟨g, (k + j) / 8, none⟩ (.int .u8 z)) g 5 _) hN).mpr ?_
          have := ho.set ((k + j) / 8) (.int .u8 (nbP x.toNat (v / 2 ^ (n - j - (8 - (k + j) % 8))) 0 (8 - (k + j) % 8) : Nat))
          unfold u8s at this ⊢
          rw [List.map_set, u8_of _ hlt8]
          exact this
      · have hm' : ((n - j : Nat) : Int) < 8 - ((k : Int) + (j : Int)) % 8 := by omega
        go_wp2
        go_roundw
        case measure => simp [intOf]; omega
        case rel =>
          have hN := nb_int x.toNat v (8 - (k + j) % 8 - (n - j)) (n - j) x.toNat_lt (by omega)
          have hlt8 := nbP_lt x.toNat v (8 - (k + j) % 8 - (n - j)) (n - j) x.toNat_lt (by omega)
          have hstep := hput.step (n - j) hk (by omega) (by omega) (by omega) _ rfl
          rw [← HX.out, Nat.sub_self, Nat.pow_zero, Nat.div_one] at hstep
          refine ⟨j + (n - j), cs.set ((k + j) / 8) (UInt8.ofNat (nbP x.toNat v (8 - (k + j) % 8 - (n - j)) (n - j))), by omega, by go_num, by go_num, ?_, hstep, only_set hg _ _, (set_size _ _ _).trans HZ.out⟩
          refine (congrArg (fun z => Own (wr.setCell ⟨g, (k + j) / 8, none⟩ (.int .u8 z)) g 5 _) hN).mpr ?_
          have := ho.set ((k + j) / 8) (.int .u8 (nbP x.toNat v (8 - (k + j) % 8 - (n - j)) (n - j) : Nat))
          unfold u8s at this ⊢
          rw [List.map_set, u8_of _ hlt8]
          exact this
    · obtain rfl : j = n := by omega
      go_wp2
      go_end0
      exact ⟨rfl, cs, hput.stop, ho, hg, hsz⟩

theorem store_len (bs : List UInt8) (len g c k n v : Nat) (w : World) (hlen : bs.length = len) (h : Own w g 5 (u8s bs)) (hn : n ≤ 64) (hk : k + n ≤ 8 * len) (hl : len ≤ 1000000) :
    Calls Tryz.prog 169 #[.slice (some ⟨g, 0, none⟩) len c, .int .i64 k, .int .i64 n, .int .u64 v] w fun e w' => e = .returned (.tuple #[]) ∧ ∃ cs : List UInt8, IsPut bs cs k n v ∧ Own w' g 5 (u8s cs) ∧ w.grownBy w' (some g) ∧ w'.heap.size = w.heap.size := by
  subst hlen
  exact store_any bs g c k n v w h hn hk hl
theorem made_u8s (n : Nat) : madeCells #[.int .u8 0] n = (u8s (List.replicate n 0)).toArray := by
  apply Array.ext
  · simp [size_madeCells, u8s]
  · intro i h1 h2
    simp [madeCells, u8s, Nat.mod_one]
theorem own_made (w : World) (n : Nat) : Own (w.alloc (.cells (madeCells #[.int .u8 0] n) 5)) w.heap.size 5 (u8s (List.replicate n 0)) := by
  rw [made_u8s]
  exact Own.new w 5 _
theorem Tryz.info_u8 : (Tryz.prog.info? 5).map (fun i => (i.zero, i.size, i.bytes)) = some (some (.int .u8 0), 1, 1) := by kernel_rfl
theorem Tryz.size_u8 : (Tryz.prog.info? 5).map (·.size) = some 1 := by kernel_rfl
theorem u8s_oneCell (bs : List UInt8) : ∀ v ∈ u8s bs, v.oneCell' = true := by
  intro v hv
  simp only [u8s, List.mem_map] at hv
  obtain ⟨x, _, rfl⟩ := hv
  rfl
theorem splice_all (cur cs : List Value) (h : cur.length = cs.length) : splice cur 0 cs = cs := by
  unfold splice
  simp [← h]
theorem Ro.src {w : World} {B : Nat} {a : Option Addr} {vs : List Value} (h : Ro w B a vs) (h0 : 0 < vs.length) : ∃ ad, a = some ad ∧ ∀ j v, vs[j]? = some v → w.cell? (ad.add j) = some v := by
  obtain ⟨b, off, rfl, hb, hc⟩ := h.at_ (by intro e; subst e; simp at h0)
  refine ⟨_, rfl, fun j v hv => ?_⟩
  have hj : j < vs.length := (List.getElem?_eq_some_iff.1 hv).1
  have := hc j hj
  have e : (⟨b, off, none⟩ : Addr).add j = ⟨b, off + j, none⟩ := by unfold Addr.add; split <;> simp_all
  rw [e, this]
  simp [List.getD, hv]

end Go.Proofs.YtihbinphmlgjoaaGreat
namespace Go.Proofs.YtihbinphmlgjoaaGreat
set_option linter.unusedVariables false
set_option linter.unusedSimpArgs false

theorem getD_left {α : Type} (a b : List α) (d : α) (i : Nat) (h : i < a.length) : (a ++ b).getD i d = a.getD i d := by
  simp [List.getD, List.getElem?_append_left h]
theorem getD_right {α : Type} (a b : List α) (d : α) (i : Nat) (h : a.length ≤ i) : (a ++ b).getD i d = b.getD (i - a.length) d := by
  simp [List.getD, List.getElem?_append_right h]
/-- the lowest n bits, the highest first -/
def dig (v n : Nat) : List Bool := (List.range n).map fun i => v.testBit (n - 1 - i)
@[simp] theorem dig_length (v n : Nat) : (dig v n).length = n := by simp [dig]
theorem dig_getD (v n i : Nat) (h : i < n) : (dig v n).getD i false = v.testBit (n - 1 - i) := by
  simp [dig, List.getD, h]
def packB : List Nat → List Nat → List Bool
  | n :: ns, v :: vs => dig v n ++ packB ns vs
  | _, _ => []
theorem packB_length (ns vs : List Nat) (h : ns.length = vs.length) : (packB ns vs).length = ns.sum := by
  induction ns generalizing vs with
  | nil => simp [packB]
  | cons n ns ih =>
    cases vs with
    | nil => simp at h
    | cons v vs => simp [packB, ih vs (by simpa using h)]
theorem packB_take (ns vs : List Nat) (i : Nat) (h1 : i < ns.length) (h2 : i < vs.length) : packB (ns.take (i + 1)) (vs.take (i + 1)) = packB (ns.take i) (vs.take i) ++ dig (vs.getD i 0) (ns.getD i 0) := by
  induction ns generalizing vs i with
  | nil => simp at h1
  | cons n ns ih =>
    cases vs with
    | nil => simp at h2
    | cons v vs =>
      cases i with
      | zero => simp [packB, List.getD]
      | succ i =>
        have := ih vs i (by simpa using h1) (by simpa using h2)
        simp only [List.take_succ_cons, packB, this, List.append_assoc]
        simp [List.getD]
theorem sum_take_nat (l : List Nat) (k : Nat) (hk : k < l.length) : (l.take (k + 1)).sum = (l.take k).sum + l.getD k 0 := by
  have e : l.getD k 0 = l[k] := by simp [hk]
  rw [e, List.take_succ_eq_append_getElem hk, List.sum_append]; simp
theorem sum_take_le (l : List Nat) (k : Nat) : (l.take k).sum ≤ l.sum := by
  conv => rhs; rw [← List.take_append_drop k l]
  rw [List.sum_append]; omega

/-- all bits of bytes -/
def rowB (bs : List UInt8) : List Bool := (List.range (8 * bs.length)).map (bitB bs)
@[simp] theorem rowB_length (bs : List UInt8) : (rowB bs).length = 8 * bs.length := by simp [rowB]
theorem rowB_getD (bs : List UInt8) (i : Nat) : (rowB bs).getD i false = if i < 8 * bs.length then bitB bs i else false := by
  unfold rowB
  by_cases h : i < 8 * bs.length <;> simp [List.getD, h]
theorem byte_ext (x y : UInt8) (h : ∀ q, q < 8 → x.toNat.testBit q = y.toNat.testBit q) : x = y := by
  apply UInt8.toNat_inj.1
  apply Nat.eq_of_testBit_eq
  intro q
  by_cases hq : q < 8
  · exact h q hq
  · have h8 : (2 : Nat) ^ 8 ≤ 2 ^ q := Nat.pow_le_pow_right (by omega) (by omega)
    rw [Nat.testBit_lt_two_pow (Nat.lt_of_lt_of_le x.toNat_lt h8), Nat.testBit_lt_two_pow (Nat.lt_of_lt_of_le y.toNat_lt h8)]
/-- bits tell the bytes -/
theorem bytes_ext (a b : List UInt8) (hl : a.length = b.length) (h : ∀ m, m < 8 * a.length → bitB a m = bitB b m) : a = b := by
  apply List.ext_getElem hl
  intro i h1 h2
  apply byte_ext
  intro q hq
  have := h (8 * i + (7 - q)) (by omega)
  unfold bitB at this
  rw [show (8 * i + (7 - q)) / 8 = i from by omega, show 7 - (8 * i + (7 - q)) % 8 = q from by omega] at this
  simpa [List.getD, h1, h2] using this

/-- the widths as numbers -/
def nat (l : List Int) : List Nat := l.map Int.toNat
@[simp] theorem nat_length (l : List Int) : (nat l).length = l.length := by simp [nat]
theorem nat_getD (l : List Int) (i : Nat) : (nat l).getD i 0 = (l.getD i 0).toNat := by
  unfold nat
  by_cases h : i < l.length <;> simp [List.getD, h]
theorem spanOf_some {l : List Int} {t : Int} (h : spanOf l = some t) : (∀ i, i < l.length → 0 ≤ l.getD i 0 ∧ l.getD i 0 ≤ 64) ∧ t = ((nat l).sum : Int) := by
  unfold spanOf at h
  split at h
  · rename_i ha
    rw [List.all_eq_true] at ha
    refine ⟨fun i hi => ?_, ?_⟩
    · have := ha l[i] (List.getElem_mem hi)
      have e : l.getD i 0 = l[i] := by simp [hi]
      rw [e]; simpa using this
    · injection h with h
      rw [← h]
      clear h
      induction l with
      | nil => simp [nat]
      | cons x r ih =>
        have hx := ha x (by simp)
        simp only [decide_eq_true_eq] at hx
        have := ih (fun y hy => ha y (by simp [hy]))
        simp only [List.sum_cons, nat, List.map_cons] at *
        omega
  · cases h
theorem nat_sum_le (l : List Int) (h : ∀ i, i < l.length → 0 ≤ l.getD i 0 ∧ l.getD i 0 ≤ 64) : (nat l).sum ≤ 64 * l.length := by
  induction l with
  | nil => simp [nat]
  | cons x r ih =>
    have h0 := h 0 (by simp)
    have := ih (fun i hi => by simpa [List.getD] using h (i + 1) (by simp; omega))
    simp only [nat, List.map_cons, List.sum_cons, List.length_cons, List.getD_cons_zero] at *
    omega
/-- what Pack takes -/
def PackOk (l : List Int) (vs : List Nat) : Prop := (spanOf l).isSome ∧ l.length = vs.length ∧ ∀ i, i < l.length → vs.getD i 0 < 2 ^ (l.getD i 0).toNat
/-- what Pack makes -/
def IsPack (l : List Int) (vs : List Nat) (cs : List UInt8) : Prop := cs.length = ((nat l).sum + 7) / 8 ∧ ∀ m, m < 8 * cs.length → bitB cs m = (packB (nat l) vs).getD m false
theorem IsPack.unique {l : List Int} {vs : List Nat} {a b : List UInt8} (ha : IsPack l vs a) (hb : IsPack l vs b) : a = b :=
  bytes_ext a b (ha.1.trans hb.1.symm) fun m hm => by rw [ha.2 m hm, hb.2 m (by have := ha.1; have := hb.1; omega)]
def IsPackTo (l : List Int) (vs : List Nat) (cs : List UInt8) (i : Nat) : Prop := cs.length = ((nat l).sum + 7) / 8 ∧ ∀ m, m < 8 * cs.length → bitB cs m = (packB ((nat l).take i) (vs.take i)).getD m false
theorem zeros_bit (n m : Nat) : bitB (List.replicate n 0) m = false := by
  unfold bitB
  have : (List.replicate n (0 : UInt8)).getD (m / 8) 0 = 0 := by
    by_cases h : m / 8 < n <;> simp [List.getD, h]
  rw [this]; simp
theorem IsPackTo.start (l : List Int) (vs : List Nat) : IsPackTo l vs (List.replicate (((nat l).sum + 7) / 8) 0) 0 := ⟨by simp, fun m _ => by rw [zeros_bit]; simp [packB]⟩
theorem IsPackTo.stop {l : List Int} {vs : List Nat} {cs : List UInt8} (hl : l.length = vs.length) (h : IsPackTo l vs cs l.length) : IsPack l vs cs := by
  refine ⟨h.1, fun m hm => ?_⟩
  rw [h.2 m hm, List.take_of_length_le (by simp), List.take_of_length_le (by omega)]
theorem IsPackTo.step {l : List Int} {vs : List Nat} {cs ds : List UInt8} {i : Nat} (h : IsPackTo l vs cs i) (hl : l.length = vs.length) (hi : i < l.length)
    (hp : IsPut cs ds ((nat l).take i).sum (l.getD i 0).toNat (vs.getD i 0)) : IsPackTo l vs ds (i + 1) := by
  refine ⟨hp.1.trans h.1, fun m hm => ?_⟩
  have hm' : m < 8 * cs.length := by have := hp.1; omega
  rw [hp.2 m hm', packB_take _ _ _ (by simpa using hi) (by omega), nat_getD]
  have hlen : (packB ((nat l).take i) (vs.take i)).length = ((nat l).take i).sum := packB_length _ _ (by simp; omega)
  have h2 := h.2 m hm'
  by_cases c : ((nat l).take i).sum ≤ m ∧ m < ((nat l).take i).sum + (l.getD i 0).toNat
  · rw [if_pos c, getD_right _ _ _ _ (by omega), hlen, dig_getD _ _ _ (by omega)]
  · rw [if_neg c, h2]
    by_cases c2 : m < ((nat l).take i).sum
    · rw [getD_left _ _ _ _ (by omega)]
    · rw [getD_right _ _ _ _ (by omega), hlen]
      generalize (l.getD i 0).toNat = N at *
      simp only [List.getD]
      rw [List.getElem?_eq_none (by omega), List.getElem?_eq_none (by rw [dig_length]; omega)]
end Go.Proofs.YtihbinphmlgjoaaGreat
namespace Go.Proofs.YtihbinphmlgjoaaGreat
set_option linter.unusedVariables false
set_option linter.unusedSimpArgs false

/-- a bit as a number -/
def bi (b : Bool) : Int := if b then 1 else 0
def bn (l : List Bool) : List Int := l.map bi
@[simp] theorem bn_length (l : List Bool) : (bn l).length = l.length := by simp [bn]
theorem bn_getD (l : List Bool) (i : Nat) : (bn l).getD i 0 = bi (l.getD i false) := by
  unfold bn
  by_cases h : i < l.length
  · simp [List.getD, h]
  · simp [List.getD, h, bi]
theorem bn_append (a b : List Bool) : bn (a ++ b) = bn a ++ bn b := by simp [bn]
theorem bi_toNat (b : Bool) : bi b = ((b.toNat : Nat) : Int) := by cases b <;> rfl
theorem bi_range (b : Bool) : 0 ≤ bi b ∧ bi b ≤ 1 := by cases b <;> simp [bi]

/-- the number whose bits are f 0, f 1, .. from the highest on -/
def nm (f : Nat → Bool) : Nat → Nat
  | 0 => 0
  | n + 1 => 2 * nm f n + (f n).toNat
theorem toNat_le (b : Bool) : b.toNat ≤ 1 := by cases b <;> simp
theorem nm_lt (f : Nat → Bool) (n : Nat) : nm f n < 2 ^ n := by
  induction n with
  | zero => simp [nm]
  | succ n ih => have := toNat_le (f n); simp only [nm]; rw [Nat.pow_succ]; omega
theorem nm_congr (f g : Nat → Bool) (n : Nat) (h : ∀ i, i < n → f i = g i) : nm f n = nm g n := by
  induction n with
  | zero => rfl
  | succ n ih => simp only [nm]; rw [ih (fun i hi => h i (by omega)), h n (by omega)]
theorem nm_bit (f : Nat → Bool) (n j : Nat) : (nm f n).testBit j = (decide (j < n) && f (n - 1 - j)) := by
  induction n generalizing j with
  | zero => simp [nm]
  | succ n ih =>
    simp only [nm]
    cases j with
    | zero =>
      rw [Nat.testBit_zero]
      cases hf : f n <;> simp [hf] <;> omega
    | succ j =>
      have e : (2 * nm f n + (f n).toNat) / 2 = nm f n := by have := toNat_le (f n); omega
      rw [Nat.testBit_succ, e, ih j, show n + 1 - 1 - (j + 1) = n - 1 - j from by omega]
      congr 1
      simp
theorem num_nm (bs : List UInt8) (k n : Nat) : num bs k n = nm (fun j => bitB bs (k + j)) n := by
  induction n with
  | zero => rfl
  | succ n ih => simp only [num, nm]; rw [ih, bit_bitB]
theorem dig_succ (v n : Nat) : dig v (n + 1) = v.testBit n :: dig v n := by
  unfold dig
  rw [List.range_succ_eq_map, List.map_cons, List.map_map]
  congr 1
  apply List.map_congr_left
  intro i _
  simp only [Function.comp]
  congr 1
  omega
theorem nm_dig (v n : Nat) : nm (fun j => (dig v n).getD j false) n = v % 2 ^ n := by
  apply Nat.eq_of_testBit_eq
  intro i
  rw [nm_bit, Nat.testBit_mod_two_pow]
  by_cases h : i < n
  · rw [dig_getD _ _ _ (by omega), decide_eq_true h, show n - 1 - (n - 1 - i) = i from by omega]
  · rw [decide_eq_false h]; simp

theorem u8_ofNat (N : Nat) (h : N < 256) : (UInt8.ofNat N).toNat = N := by simp; omega
/-- bytes whose bits are the list's, filled up with 0 -/
def IsBytes (l : List Bool) (cs : List UInt8) : Prop := cs.length = (l.length + 7) / 8 ∧ ∀ m, m < 8 * cs.length → bitB cs m = l.getD m false
theorem IsBytes.unique {l : List Bool} {a b : List UInt8} (ha : IsBytes l a) (hb : IsBytes l b) : a = b :=
  bytes_ext a b (ha.1.trans hb.1.symm) fun m hm => by rw [ha.2 m hm, hb.2 m (by have := ha.1; have := hb.1; omega)]
/-- on the way: i bytes -/
def IsBytesTo (l : List Bool) (cs : List UInt8) (i : Nat) : Prop := cs.length = i ∧ ∀ m, m < 8 * i → bitB cs m = l.getD m false
theorem IsBytesTo.start (l : List Bool) : IsBytesTo l [] 0 := ⟨rfl, by omega⟩
theorem IsBytesTo.step {l : List Bool} {cs : List UInt8} {i : Nat} (h : IsBytesTo l cs i) : IsBytesTo l (cs ++ [UInt8.ofNat (nm (fun j => l.getD (8 * i + j) false) 8)]) (i + 1) := by
  obtain ⟨h1, h2⟩ := h
  refine ⟨by simp [h1], fun m hm => ?_⟩
  unfold bitB
  by_cases c : m < 8 * i
  · rw [getD_left _ _ _ _ (by omega)]
    exact h2 m c
  · rw [getD_right _ _ _ _ (by omega), show m / 8 - cs.length = 0 from by omega]
    have hlt := nm_lt (fun j => l.getD (8 * i + j) false) 8
    have e : (UInt8.ofNat (nm (fun j => l.getD (8 * i + j) false) 8)).toNat = nm (fun j => l.getD (8 * i + j) false) 8 := u8_ofNat _ (by omega)
    rw [List.getD_cons_zero, e, nm_bit, decide_eq_true (by omega), Bool.true_and]
    congr 1
    omega
theorem IsBytesTo.stop {l : List Bool} {cs : List UInt8} {i : Nat} (h : IsBytesTo l cs i) (hi : i = (l.length + 7) / 8) : IsBytes l cs := by
  subst hi
  exact ⟨h.1, fun m hm => h.2 m (by rw [h.1] at hm; exact hm)⟩
theorem take_rowB (bs : List UInt8) (k : Nat) (hk : k < 8 * bs.length) : (rowB bs).take (k + 1) = (rowB bs).take k ++ [bitB bs k] := by
  rw [List.take_succ_eq_append_getElem (by simpa using hk)]
  simp [rowB]
/-- what Put of the document makes -/
theorem isPut_of_bytes {bs cs : List UInt8} {k n v : Nat} (hk : k + n ≤ 8 * bs.length) (h : IsBytes ((rowB bs).take k ++ dig v n ++ (rowB bs).drop (k + n)) cs) : IsPut bs cs k n v := by
  obtain ⟨h1, h2⟩ := h
  have hl : ((rowB bs).take k ++ dig v n ++ (rowB bs).drop (k + n)).length = 8 * bs.length := by
    simp only [List.length_append, List.length_take, List.length_drop, rowB_length, dig_length]; omega
  rw [hl] at h1
  have hc : cs.length = bs.length := by omega
  refine ⟨hc, fun m hm => ?_⟩
  rw [h2 m (by omega)]
  have ht : ((rowB bs).take k).length = k := by rw [List.length_take, rowB_length]; omega
  by_cases c1 : m < k
  · rw [if_neg (by omega), List.append_assoc, getD_left _ _ _ _ (by omega)]
    have : ((rowB bs).take k).getD m false = (rowB bs).getD m false := by simp [List.getD, List.getElem?_take, c1]
    rw [this, rowB_getD, if_pos hm]
  · by_cases c2 : m < k + n
    · rw [if_pos (by omega), List.append_assoc, getD_right _ _ _ _ (by omega), ht, getD_left _ _ _ _ (by rw [dig_length]; omega), dig_getD _ _ _ (by omega)]
    · have hl2 : ((rowB bs).take k ++ dig v n).length = k + n := by rw [List.length_append, ht, dig_length]
      rw [if_neg (by omega), getD_right _ _ _ _ (by omega), hl2]
      have : ((rowB bs).drop (k + n)).getD (m - (k + n)) false = (rowB bs).getD m false := by
        simp only [List.getD, List.getElem?_drop]
        rw [show k + n + (m - (k + n)) = m from by omega]
      rw [this, rowB_getD, if_pos hm]
theorem IsPut.unique {bs a b : List UInt8} {k n v : Nat} (ha : IsPut bs a k n v) (hb : IsPut bs b k n v) : a = b :=
  bytes_ext a b (ha.1.trans hb.1.symm) fun m hm => by rw [ha.2 m (by have := ha.1; omega), hb.2 m (by have := ha.1; omega)]
theorem isPack_of_bytes {l : List Int} {vs : List Nat} {cs : List UInt8} (hl : l.length = vs.length) (h : IsBytes (packB (nat l) vs) cs) : IsPack l vs cs := by
  have := packB_length (nat l) vs (by simpa using hl)
  exact ⟨by rw [← this]; exact h.1, h.2⟩
end Go.Proofs.YtihbinphmlgjoaaGreat
namespace Go.Proofs.YtihbinphmlgjoaaGreat
set_option linter.unusedVariables false
set_option linter.unusedSimpArgs false

/-- what Unpack takes -/
def UnpOk (l : List Int) (bs : List UInt8) : Prop := (spanOf l).isSome ∧ bs.length = ((nat l).sum + 7) / 8 ∧ num bs (nat l).sum (8 * bs.length - (nat l).sum) = 0
/-- what it gives, the first i of them -/
def IsUnpTo (l : List Int) (bs : List UInt8) (vs : List Nat) (i : Nat) : Prop := vs.length = l.length ∧ ∀ j, j < i → vs.getD j 0 = num bs ((nat l).take j).sum (l.getD j 0).toNat
def IsUnp (l : List Int) (bs : List UInt8) (vs : List Nat) : Prop := IsUnpTo l bs vs l.length
theorem setN_getD (vs : List Nat) (i j x : Nat) (hi : i < vs.length) : (vs.set i x).getD j 0 = if i = j then x else vs.getD j 0 := by
  simp only [List.getD, List.getElem?_set]
  by_cases h : i = j
  · subst h; simp [hi]
  · simp [h]
theorem IsUnpTo.step {l : List Int} {bs : List UInt8} {vs : List Nat} {i : Nat} (h : IsUnpTo l bs vs i) (hi : i < l.length) : IsUnpTo l bs (vs.set i (num bs ((nat l).take i).sum (l.getD i 0).toNat)) (i + 1) := by
  refine ⟨by simpa using h.1, fun j hj => ?_⟩
  rw [setN_getD _ _ _ _ (by rw [h.1]; exact hi)]
  by_cases e : i = j
  · rw [if_pos e, e]
  · rw [if_neg e]; exact h.2 j (by omega)
theorem IsUnp.unique {l : List Int} {bs : List UInt8} {a b : List Nat} (ha : IsUnp l bs a) (hb : IsUnp l bs b) : a = b := by
  apply List.ext_getElem (ha.1.trans hb.1.symm)
  intro i h1 h2
  have e1 := ha.2 i (by rw [← ha.1]; exact h1)
  have e2 := hb.2 i (by rw [← ha.1]; exact h1)
  rw [← e2] at e1
  simpa [List.getD, h1, h2] using e1

/-- the first i of them, as a list of its own -/
def unpL (l : List Int) (bs : List UInt8) (i : Nat) : List Nat := (List.range i).map fun j => num bs ((nat l).take j).sum (l.getD j 0).toNat
@[simp] theorem unpL_length (l : List Int) (bs : List UInt8) (i : Nat) : (unpL l bs i).length = i := by simp [unpL]
theorem unpL_succ (l : List Int) (bs : List UInt8) (i : Nat) : unpL l bs (i + 1) = unpL l bs i ++ [num bs ((nat l).take i).sum (l.getD i 0).toNat] := by simp [unpL, List.range_succ]
theorem unpL_is (l : List Int) (bs : List UInt8) : IsUnp l bs (unpL l bs l.length) := by
  refine ⟨by simp, fun j hj => ?_⟩
  simp [unpL, List.getD, hj]
theorem unpL_lt (l : List Int) (bs : List UInt8) (n i : Nat) (h : ∀ i, i < n → 0 ≤ l.getD i 0 ∧ l.getD i 0 ≤ 64) : (unpL l bs n).getD i 0 < 18446744073709551616 := by
  by_cases hi : i < n
  · have e : (unpL l bs n).getD i 0 = num bs ((nat l).take i).sum (l.getD i 0).toNat := by simp [unpL, List.getD, hi]
    rw [e]
    have h1 := num_lt bs ((nat l).take i).sum (l.getD i 0).toNat
    have h2 := pow_le_64 (n := (l.getD i 0).toNat) (by have := h i hi; omega)
    omega
  · have e : (unpL l bs n).getD i 0 = 0 := by simp [List.getD]; rw [List.getElem?_eq_none (by simp; omega)]; rfl
    rw [e]; omega
theorem dig_nm (f : Nat → Bool) (n : Nat) : dig (nm f n) n = (List.range n).map f := by
  unfold dig
  apply List.map_congr_left
  intro i hi
  rw [List.mem_range] at hi
  rw [nm_bit, decide_eq_true (by omega), Bool.true_and]
  congr 1
  omega
theorem rowB_take_add (bs : List UInt8) (s n : Nat) (h : s + n ≤ 8 * bs.length) : (rowB bs).take (s + n) = (rowB bs).take s ++ (List.range n).map fun j => bitB bs (s + j) := by
  apply List.ext_getElem
  · simp; omega
  · intro i h1 h2
    rw [List.length_take, rowB_length] at h1
    by_cases c : i < s
    · rw [List.getElem_append_left (by rw [List.length_take, rowB_length]; omega)]
      simp
    · rw [List.getElem_append_right (by rw [List.length_take, rowB_length]; omega)]
      simp only [List.length_take, rowB_length, List.getElem_take, List.getElem_map, List.getElem_range]
      unfold rowB
      simp only [List.getElem_map, List.getElem_range]
      congr 1
      omega
theorem unp_row {l : List Int} {bs : List UInt8} {vs : List Nat} (h : IsUnp l bs vs) (hs : (nat l).sum ≤ 8 * bs.length) : ∀ i, i ≤ l.length → packB ((nat l).take i) (vs.take i) = (rowB bs).take ((nat l).take i).sum := by
  intro i
  induction i with
  | zero => intro _; simp [packB]
  | succ i ih =>
    intro hi
    have h1 := h.1
    have hst := sum_take_nat (nat l) i (by simp; omega)
    have hle := sum_take_le (nat l) (i + 1)
    rw [packB_take _ _ _ (by simp; omega) (by omega), ih (by omega), hst, nat_getD] at *
    rw [rowB_take_add _ _ _ (by omega), h.2 i (by omega), num_nm, dig_nm]
theorem num_zero (bs : List UInt8) (k n : Nat) : num bs k n = 0 ↔ ∀ j, j < n → bitB bs (k + j) = false := by
  rw [num_nm]
  constructor
  · intro h j hj
    have := nm_bit (fun j => bitB bs (k + j)) n (n - 1 - j)
    rw [h, decide_eq_true (by omega), show n - 1 - (n - 1 - j) = j from by omega] at this
    simpa using this.symm
  · intro h
    apply Nat.eq_of_testBit_eq
    intro i
    rw [nm_bit]
    by_cases hi : i < n
    · rw [h _ (by omega)]; simp
    · rw [decide_eq_false hi]; simp
theorem isPack_self {l : List Int} {bs : List UInt8} {vs : List Nat} (hok : UnpOk l bs) (h : IsUnp l bs vs) : IsPack l vs bs := by
  obtain ⟨_, hlen, hz⟩ := hok
  have hs : (nat l).sum ≤ 8 * bs.length := by omega
  refine ⟨hlen, fun m hm => ?_⟩
  have hr := unp_row h hs l.length (Nat.le_refl _)
  have h1 := h.1
  rw [List.take_of_length_le (by simp), List.take_of_length_le (by omega)] at hr
  rw [hr]
  by_cases c : m < (nat l).sum
  · have : ((rowB bs).take (nat l).sum).getD m false = (rowB bs).getD m false := by simp [List.getD, List.getElem?_take, c]
    rw [this, rowB_getD, if_pos hm]
  · have e : ((rowB bs).take (nat l).sum).getD m false = false := by simp only [List.getD]; rw [List.getElem?_eq_none (by rw [List.length_take, rowB_length]; omega)]; rfl
    rw [e]
    have := (num_zero _ _ _).1 hz (m - (nat l).sum) (by omega)
    rwa [show (nat l).sum + (m - (nat l).sum) = m from by omega] at this
theorem packOk_unp {l : List Int} {bs : List UInt8} {vs : List Nat} (hs : (spanOf l).isSome) (h : IsUnp l bs vs) : PackOk l vs :=
  ⟨hs, h.1.symm, fun i hi => by rw [h.2 i hi]; exact num_lt _ _ _⟩
theorem unpOk_of {l : List Int} {bs : List UInt8} {vs : List Nat} (hs : (spanOf l).isSome) (hlv : l.length = vs.length) (h : IsPack l vs bs) : UnpOk l bs := by
  refine ⟨hs, h.1, (num_zero _ _ _).2 fun j hj => ?_⟩
  have hpl := packB_length (nat l) vs (by simpa using hlv)
  have := h.2 ((nat l).sum + j) (by omega)
  rw [this]
  simp only [List.getD]
  rw [List.getElem?_eq_none (by omega)]
  rfl
theorem packB_split (ns vs : List Nat) (i : Nat) (h : ns.length = vs.length) : packB ns vs = packB (ns.take i) (vs.take i) ++ packB (ns.drop i) (vs.drop i) := by
  induction ns generalizing vs i with
  | nil => simp [packB]
  | cons n ns ih =>
    cases vs with
    | nil => simp at h
    | cons v vs =>
      cases i with
      | zero => simp [packB]
      | succ i =>
        simp only [List.take_succ_cons, List.drop_succ_cons, packB, List.append_assoc]
        rw [← ih vs i (by simpa using h)]
theorem packB_at (ns vs : List Nat) (i j : Nat) (h : ns.length = vs.length) (hi : i < ns.length) (hj : j < ns.getD i 0) : (packB ns vs).getD ((ns.take i).sum + j) false = (dig (vs.getD i 0) (ns.getD i 0)).getD j false := by
  rw [packB_split ns vs (i + 1) h, packB_take ns vs i hi (by omega)]
  have hl := packB_length (ns.take i) (vs.take i) (by simp; omega)
  rw [List.append_assoc, getD_right _ _ _ _ (by omega), hl, getD_left _ _ _ _ (by rw [dig_length]; omega)]
  congr 1
  omega
theorem isUnp_of_pack {l : List Int} {vs : List Nat} {cs : List UInt8} (hok : PackOk l vs) (h : IsPack l vs cs) : IsUnp l cs vs := by
  obtain ⟨hs, hlen, hfit⟩ := hok
  refine ⟨hlen.symm, fun i hi => ?_⟩
  have hsl := sum_take_nat (nat l) i (by simpa using hi)
  have hle := sum_take_le (nat l) (i + 1)
  rw [nat_getD] at hsl
  have e := nm_congr (fun j => bitB cs (((nat l).take i).sum + j)) (fun j => (dig (vs.getD i 0) (l.getD i 0).toNat).getD j false) (l.getD i 0).toNat (fun j hj => by
    have := packB_at (nat l) vs i j (by simpa using hlen) (by simpa using hi) (by rw [nat_getD]; exact hj)
    rw [nat_getD] at this
    have h2 := h.2 (((nat l).take i).sum + j) (by have := h.1; omega)
    exact h2.trans this)
  rw [num_nm, e, nm_dig, Nat.mod_eq_of_lt (hfit i hi)]
theorem not_unpOk_more {l : List Int} {vs : List Nat} {cs : List UInt8} (h : IsPack l vs cs) : ¬ UnpOk l (cs ++ [0]) := by
  intro hu
  have h1 := hu.2.1
  have h2 := h.1
  rw [List.length_append] at h1
  simp only [List.length_cons, List.length_nil] at h1
  omega
end Go.Proofs.YtihbinphmlgjoaaGreat
