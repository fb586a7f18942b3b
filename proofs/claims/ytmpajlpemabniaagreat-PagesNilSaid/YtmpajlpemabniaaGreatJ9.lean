/-
  The small functions of package bits: bytesFor, lowest, limit, Extend, Reverse by their contracts. No condition but the ranges that each theorem names.
-/
import Derived.Test.YtmpajlpemabniaaGreatJ1
namespace Go.Proofs.YtmpajlpemabniaaGreat
open Go.RowKit
set_option linter.unusedVariables false
set_option linter.unusedSimpArgs false

set_option maxHeartbeats 400000 in
theorem bytesFor_any (n : Int) (w : World) (h0 : 0 ≤ n) (h1 : n ≤ 1000000) :
    Calls Tryz.prog 139 #[.int .i64 n] w fun e w' => e = .returned (.int .i64 ((n + 7) / 8)) ∧ w = w' := by
  go_enter Tryz.func139, Tryz.ntmps139
  go_wp2
  go_ret
  exact ⟨ret_int (by omega), rfl⟩

theorem lowest_eq (v : Int) (n : Nat) (hn : n ≤ 64) :
    bits BinOp.and IntKind.u64 v (IntKind.u64.wrap (IntKind.u64.wrap (2 ^ n) - 1)) = v % 2 ^ n := by
  have h2 : (2 : Nat) ^ n ≤ 2 ^ 64 := Nat.pow_le_pow_right (by omega) hn
  have h3 : 0 < 2 ^ n := Nat.pow_pos (by omega)
  have e2 : ((2 : Int) ^ n) = ((2 ^ n : Nat) : Int) := by simp
  have e : IntKind.u64.wrap (IntKind.u64.wrap (2 ^ n) - 1) = ((2 ^ n - 1 : Nat) : Int) := by
    rw [IntKind.wrap_u64, IntKind.wrap_u64, e2]
    omega
  have hx := and_wrap_left v ((2 ^ n - 1 : Nat) : Int)
  obtain ⟨x, hx0⟩ : ∃ x : Nat, v % 18446744073709551616 = (x : Int) := ⟨(v % 18446744073709551616).toNat, by omega⟩
  rw [e, ← hx, hx0, u64_and_nat x (2 ^ n - 1) (by omega) (by omega), Nat.and_two_pow_sub_one_eq_mod]
  have hd : ((2 : Int) ^ n) ∣ 18446744073709551616 := by
    rw [e2]
    exact Int.natCast_dvd_natCast.2 (Nat.pow_dvd_pow 2 hn : 2 ^ n ∣ 2 ^ 64)
  have h5 := Int.emod_emod_of_dvd v hd
  rw [← h5, hx0]; simp

set_option maxHeartbeats 400000 in
theorem lowest_any (v n : Int) (w : World) (h0 : 0 ≤ n) (hn : n ≤ 64) :
    Calls Tryz.prog 195 #[.int .u64 v, .int .i64 n] w fun e w' => e = .returned (.int .u64 (v % 2 ^ n.toNat)) ∧ w = w' := by
  obtain ⟨m, rfl⟩ := Int.eq_ofNat_of_zero_le h0
  go_enter Tryz.func195, Tryz.ntmps195
  go_wp2
  go_ret
  exact ⟨ret_int (lowest_eq v m (by omega)), rfl⟩

set_option maxHeartbeats 400000 in
theorem load_any (bs : List UInt8) (a : Option Addr) (c B k n : Nat) (w : World) (h : Ro w B a (u8s bs)) (hn : n ≤ 64) (hk : k + n ≤ 8 * bs.length) (hl : bs.length ≤ 1000000) :
    Calls Tryz.prog 137 #[.slice a bs.length c, .int .i64 k, .int .i64 n] w fun e w' => e = .returned (.int .u64 (num bs k n : Nat)) ∧ w = w' := by
  go_enter Tryz.func137, Tryz.ntmps137
  go_wp2
  go_loop [1, 2, 7] (fun x y v => ∃ j : Nat, j ≤ n ∧ x = .int .i64 ((k + j : Nat) : Int) ∧ y = .int .i64 ((n - j : Nat) : Int) ∧ v = .int .u64 (num bs k j : Nat)) (fun _ y _ => (intOf y).toNat)
  case atStart => exact ⟨0, by omega, by simp, by simp, by simp [num]⟩
  case round =>
    obtain ⟨j, hj, rfl, rfl, rfl⟩ := hrel
    by_cases hlt : j < n
    · obtain ⟨b, off, rfl, hb, hc⟩ := h.u8 (by omega)
      have hcell := hc ((k + j) / 8) (by omega)
      have hp : 0 < n - j := by omega
      have b1 : 0 ≤ 8 - ((k : Int) + (j : Int)) % 8 := by omega
      by_cases hm : 8 - (k + j) % 8 ≤ n - j
      · have hm' : 8 - ((k : Int) + (j : Int)) % 8 ≤ ((n - j : Nat) : Int) := by omega
        go_wp2_with (go_at_call 195; refine (lowest_any _ _ _ (by omega) (by omega)).mono ?_; rintro e w' ⟨rfl, rfl⟩)
        go_round
        case rel => exact ⟨j + (8 - (k + j) % 8), by omega, by go_num, by go_num, congrArg _ (load_end1 bs k j (by omega))⟩
        case measure => simp [intOf]; omega
      · have hm' : ¬ 8 - ((k : Int) + (j : Int)) % 8 ≤ ((n - j : Nat) : Int) := by omega
        go_wp2_with (go_at_call 195; refine (lowest_any _ _ _ (by omega) (by omega)).mono ?_; rintro e w' ⟨rfl, rfl⟩)
        go_round
        case rel => exact ⟨j + (n - j), by omega, by go_num, by go_num, congrArg _ (load_end bs k j (n - j) (by omega) (by omega))⟩
        case measure => simp [intOf]; omega
    · obtain rfl : j = n := by omega
      go_wp2
      go_ret
      exact ⟨rfl, rfl⟩

set_option maxHeartbeats 400000 in
theorem span_any (l : List Int) (a : Option Addr) (c B : Nat) (w : World) (h : Ro w B a (i64s l)) (hl : l.length ≤ 1000000) :
    Calls Tryz.prog 138 #[.slice a l.length c] w fun e w' => e = .returned (.tuple #[.int .i64 ((spanOf l).getD 0), .bool (spanOf l).isSome]) ∧ w = w' := by
  go_enter Tryz.func138, Tryz.ntmps138
  go_wp2
  go_loop [4, 9] (fun t i => ∃ k : Nat, k ≤ l.length ∧ i = .int .i64 (k : Int) ∧ t = .int .i64 (l.take k).sum ∧ 0 ≤ (l.take k).sum ∧ (l.take k).sum ≤ 64 * k ∧ ∀ i, i < k → 0 ≤ l.getD i 0 ∧ l.getD i 0 ≤ 64) (fun _ i => l.length - (intOf i).toNat)
  case atStart => exact ⟨0, by omega, by simp, by simp, by simp, by simp, by omega⟩
  case round =>
    obtain ⟨k, hk, rfl, rfl, hs0, hs1, hall⟩ := hrel
    by_cases hlt : k < l.length
    · obtain ⟨b, off, rfl, hb, hc⟩ := h.i64 (by omega)
      have hcell := hc k hlt
      have hsum := sum_take l k hlt
      have hbad := spanOf_bad l k hlt
      clear hc
      obtain ⟨x, hx⟩ : ∃ x, x = l.getD k 0 := ⟨_, rfl⟩
      rw [← hx] at hcell hsum hbad
      have HS := Lib.hid hsum; clear hsum
      have HX := Lib.hid hx; clear hx
      obtain ⟨t, ht⟩ : ∃ t, t = (l.take k).sum := ⟨_, rfl⟩
      rw [← ht] at hs0 hs1
      by_cases h0 : x < 0
      · have HB := Lib.hid (hbad (by omega)); clear hbad
        clear ht
        go_wp2
        go_ret2
        rw [HB.out]
        exact ⟨rfl, rfl⟩
      by_cases h64 : 64 < x
      · have HB := Lib.hid (hbad (by omega)); clear hbad
        clear ht
        go_wp2
        go_ret2
        rw [HB.out]
        exact ⟨rfl, rfl⟩
      clear hbad
      rw [← ht]
      have HT := Lib.hid ht; clear ht
      go_wp2
      go_round
      case rel =>
        have hT := HT.out
        have hS := HS.out
        refine ⟨k + 1, by omega, by go_num, by rw [hS, ← hT], by omega, by omega, fun i hi => ?_⟩
        by_cases e : i = k
        · subst e; rw [← HX.out]; omega
        · exact hall i (by omega)
      case measure => simp [intOf]; omega
    · obtain rfl : k = l.length := by omega
      have HB := Lib.hid (spanOf_ok l hall)
      go_wp2
      go_ret2
      rw [HB.out]
      exact ⟨rfl, rfl⟩

theorem span1 (n : Int) (b c : Nat) (w : World) (hc : w.cell? ⟨b, 0, none⟩ = some (.int .i64 n)) :
    Calls Tryz.prog 138 #[.slice (some ⟨b, 0, none⟩) 1 c] w fun e w' => e = .returned (.tuple #[.int .i64 ((spanOf [n]).getD 0), .bool (spanOf [n]).isSome]) ∧ w = w' :=
  span_any [n] (some ⟨b, 0, none⟩) c (b + 1) w (.inr ⟨b, 0, rfl, by omega, fun i hi => by
    obtain rfl : i = 0 := by simpa [i64s] using hi
    simpa [i64s] using hc⟩) (by simp)
theorem span1_ok (n : Int) (h0 : 0 ≤ n) (h1 : n ≤ 64) (b c : Nat) (w : World) (hc : w.cell? ⟨b, 0, none⟩ = some (.int .i64 n)) :
    Calls Tryz.prog 138 #[.slice (some ⟨b, 0, none⟩) 1 c] w fun e w' => e = .returned (.tuple #[.int .i64 n, .bool true]) ∧ w = w' := by
  have e : spanOf [n] = some n := by simp [spanOf, h0, h1]
  have := span1 n b c w hc
  rw [e] at this
  exact this
theorem span1_bad (n : Int) (h0 : n < 0 ∨ 64 < n) (b c : Nat) (w : World) (hc : w.cell? ⟨b, 0, none⟩ = some (.int .i64 n)) :
    Calls Tryz.prog 138 #[.slice (some ⟨b, 0, none⟩) 1 c] w fun e w' => e = .returned (.tuple #[.int .i64 0, .bool false]) ∧ w = w' := by
  have e : spanOf [n] = none := spanOf_bad [n] 0 (by simp) (by simp; omega)
  have := span1 n b c w hc
  rw [e] at this
  exact this

set_option maxHeartbeats 400000 in
theorem inside_any (a : Option Addr) (len c : Nat) (k n : Int) (w : World) (hl : len ≤ 1000000) (hk0 : -9223372036854775808 ≤ k) (hk : k ≤ 9223372036854775807) :
    Calls Tryz.prog 136 #[.slice a len c, .int .i64 k, .int .i64 n] w fun e w' => e = .returned (.bool (decide (0 ≤ n ∧ n ≤ 64 ∧ 0 ≤ k ∧ k + n ≤ 8 * len))) ∧ Below w.heap.size w w' := by
  by_cases hn : 0 ≤ n ∧ n ≤ 64
  · obtain ⟨h0, h1⟩ := hn
    by_cases hk1 : 0 ≤ k
    · go_enter Tryz.func136, Tryz.ntmps136
      go_wp2_with (go_at_call 138; refine (span1_ok n h0 h1 _ _ _ (cell_one_new _ _ _ 0 _ rfl)).mono ?_; rintro e w' ⟨rfl, rfl⟩)
      go_ret
      exact ⟨ret_bool (by rw [decide_eq_decide]; omega), (Below.refl _ _).alloc (Nat.le_refl _) _⟩
    · go_enter Tryz.func136, Tryz.ntmps136
      go_wp2_with (go_at_call 138; refine (span1_ok n h0 h1 _ _ _ (cell_one_new _ _ _ 0 _ rfl)).mono ?_; rintro e w' ⟨rfl, rfl⟩)
      go_ret
      exact ⟨ret_bool (by simp; omega), (Below.refl _ _).alloc (Nat.le_refl _) _⟩
  · go_enter Tryz.func136, Tryz.ntmps136
    go_wp2_with (go_at_call 138; refine (span1_bad n (by omega) _ _ _ (cell_one_new _ _ _ 0 _ rfl)).mono ?_; rintro e w' ⟨rfl, rfl⟩)
    go_ret
    exact ⟨ret_bool (by simp; omega), (Below.refl _ _).alloc (Nat.le_refl _) _⟩

theorem inside_yes (a : Option Addr) (len c : Nat) (k n : Int) (w : World) (hl : len ≤ 1000000) (hn0 : 0 ≤ n) (hn : n ≤ 64) (hk0 : 0 ≤ k) (hk : k + n ≤ 8 * len) :
    Calls Tryz.prog 136 #[.slice a len c, .int .i64 k, .int .i64 n] w fun e w' => e = .returned (.bool true) ∧ Below w.heap.size w w' := by
  have h := inside_any a len c k n w hl (by omega) (by omega)
  rw [decide_eq_true (by omega)] at h
  exact h
theorem inside_no (a : Option Addr) (len c : Nat) (k n : Int) (w : World) (hl : len ≤ 1000000) (hk0 : -9223372036854775808 ≤ k) (hk : k ≤ 9223372036854775807) (h : ¬ (0 ≤ n ∧ n ≤ 64 ∧ 0 ≤ k ∧ k + n ≤ 8 * len)) :
    Calls Tryz.prog 136 #[.slice a len c, .int .i64 k, .int .i64 n] w fun e w' => e = .returned (.bool false) ∧ Below w.heap.size w w' := by
  have h2 := inside_any a len c k n w hl (by omega) (by omega)
  rw [decide_eq_false h] at h2
  exact h2

/-- Get: the number, or nothing -/
theorem get_yes (bs : List UInt8) (a : Option Addr) (c B : Nat) (k n : Int) (w : World) (h : Ro w B a (u8s bs)) (hB : B ≤ w.heap.size) (hl : bs.length ≤ 1000000) (hn0 : 0 ≤ n) (hn : n ≤ 64) (hk0 : 0 ≤ k) (hk : k + n ≤ 8 * bs.length) :
    Calls Tryz.prog 86 #[.slice a bs.length c, .int .i64 k, .int .i64 n] w fun e w' => e = .returned (.tuple #[.int .u64 (num bs k.toNat n.toNat : Nat), .bool true]) ∧ Below w.heap.size w w' := by
  obtain ⟨k, rfl⟩ := Int.eq_ofNat_of_zero_le hk0
  obtain ⟨n, rfl⟩ := Int.eq_ofNat_of_zero_le hn0
  go_enter Tryz.func86, Tryz.ntmps86
  go_wp2_with fail
  refine (inside_yes _ _ _ _ _ _ hl hn0 hn hk0 hk).mono ?_
  rintro e w' ⟨rfl, hb⟩
  go_wp2_with fail
  refine (load_any bs a c B k n w' (h.below hb hB) (by omega) (by omega) hl).mono ?_
  rintro e w'' ⟨rfl, rfl⟩
  go_wp2_with fail
  go_ret2
  exact ⟨rfl, hb⟩
theorem get_no (a : Option Addr) (len c : Nat) (k n : Int) (w : World) (hl : len ≤ 1000000) (hk0 : -9223372036854775808 ≤ k) (hk : k ≤ 9223372036854775807) (h : ¬ (0 ≤ n ∧ n ≤ 64 ∧ 0 ≤ k ∧ k + n ≤ 8 * len)) :
    Calls Tryz.prog 86 #[.slice a len c, .int .i64 k, .int .i64 n] w fun e w' => e = .returned (.tuple #[.int .u64 0, .bool false]) ∧ Below w.heap.size w w' := by
  go_enter Tryz.func86, Tryz.ntmps86
  go_wp2_with fail
  refine (inside_no _ _ _ _ _ _ hl hk0 hk h).mono ?_
  rintro e w' ⟨rfl, hb⟩
  go_wp2_with fail
  go_ret2
  exact ⟨rfl, hb⟩
end Go.Proofs.YtmpajlpemabniaaGreat
namespace Go.Proofs.YtmpajlpemabniaaGreat
set_option linter.unusedVariables false
set_option linter.unusedSimpArgs false

def bitB (bs : List UInt8) (i : Nat) : Bool := (bs.getD (i / 8) 0).toNat.testBit (7 - i % 8)
theorem bit_bitB (bs : List UInt8) (i : Nat) : bit bs i = (bitB bs i).toNat := by
  unfold bit bitB
  rw [Nat.toNat_testBit]

def nbP (x V s t : Nat) : Nat := (x &&& (255 - (2 ^ t - 1) * 2 ^ s)) ||| ((V % 256 * 2 ^ s % 256) &&& ((2 ^ t - 1) * 2 ^ s))
theorem mask_lt (s t : Nat) (h : s + t ≤ 8) : (2 ^ t - 1) * 2 ^ s < 256 := by
  have h1 : 0 < 2 ^ t := Nat.pow_pos (by omega)
  have h2 : 0 < 2 ^ s := Nat.pow_pos (by omega)
  have h3 : (2 : Nat) ^ (s + t) ≤ 2 ^ 8 := Nat.pow_le_pow_right (by omega) h
  rw [Nat.pow_add, Nat.mul_comm] at h3
  have h4 : (2 ^ t - 1) * 2 ^ s < 2 ^ t * 2 ^ s := Nat.mul_lt_mul_of_pos_right (by omega) h2
  omega
theorem nbP_lt (x V s t : Nat) (hx : x < 256) (h : s + t ≤ 8) : nbP x V s t < 256 := by
  unfold nbP
  have h1 := mask_lt s t h
  exact Nat.or_lt_two_pow (n := 8) (Nat.lt_of_le_of_lt Nat.and_le_left hx) (Nat.lt_of_le_of_lt Nat.and_le_right h1)
theorem nb_bit (x V s t q : Nat) (h : s + t ≤ 8) (hq : q < 8) : (nbP x V s t).testBit q = if s ≤ q ∧ q < s + t then V.testBit (q - s) else x.testBit q := by
  have h1 := mask_lt s t h
  unfold nbP
  have e : 255 - (2 ^ t - 1) * 2 ^ s = 2 ^ 8 - ((2 ^ t - 1) * 2 ^ s + 1) := by omega
  rw [Nat.testBit_or, Nat.testBit_and, Nat.testBit_and, e, Nat.testBit_two_pow_sub_succ h1, show (256 : Nat) = 2 ^ 8 from rfl]
  simp only [Nat.testBit_mod_two_pow, Nat.testBit_mul_two_pow, Nat.testBit_two_pow_sub_one, decide_eq_true hq]
  by_cases c1 : s ≤ q
  · by_cases c2 : q < s + t
    · rw [if_pos ⟨c1, c2⟩, decide_eq_true c1, decide_eq_true (show q - s < t by omega), decide_eq_true (show q - s < 8 by omega)]; simp
    · rw [if_neg (by omega), decide_eq_true c1, decide_eq_false (show ¬ q - s < t by omega)]; simp
  · rw [if_neg (by omega), decide_eq_false c1]; simp
theorem nb_int (x V s t : Nat) (hx : x < 256) (h : s + t ≤ 8) :
    bits BinOp.or IntKind.u8 (bits BinOp.andNot IntKind.u8 (x : Int) ((2 ^ t - 1) % 256 * 2 ^ s % 256)) (bits BinOp.and IntKind.u8 ((V : Int) % 256 * 2 ^ s % 256) ((2 ^ t - 1) % 256 * 2 ^ s % 256)) = ((nbP x V s t : Nat) : Int) := by
  have h1 := mask_lt s t h
  have h2 : 0 < 2 ^ t := Nat.pow_pos (by omega)
  have h3 : (2 : Nat) ^ t ≤ 2 ^ 8 := Nat.pow_le_pow_right (by omega) (by omega)
  have e0 : ((2 : Int) ^ t - 1) % 256 = ((2 ^ t - 1 : Nat) : Int) := by
    have : ((2 : Int) ^ t) = ((2 ^ t : Nat) : Int) := by simp
    rw [this]; omega
  have e1 : ((2 : Int) ^ t - 1) % 256 * 2 ^ s % 256 = (((2 ^ t - 1) * 2 ^ s : Nat) : Int) := by
    rw [e0]
    have : (((2 ^ t - 1 : Nat) : Int) * 2 ^ s) = (((2 ^ t - 1) * 2 ^ s : Nat) : Int) := by simp
    rw [this]; omega
  have e2 : ((V : Int) % 256 * 2 ^ s % 256) = ((V % 256 * 2 ^ s % 256 : Nat) : Int) := by rw [Int.natCast_emod, Int.natCast_mul, Int.natCast_emod, Int.natCast_pow]; rfl
  have h4 : x &&& (255 - (2 ^ t - 1) * 2 ^ s) ≤ x := Nat.and_le_left
  have h5 : V % 256 * 2 ^ s % 256 &&& ((2 ^ t - 1) * 2 ^ s) ≤ (2 ^ t - 1) * 2 ^ s := Nat.and_le_right
  rw [e1, e2, u8_andNot_nat _ _ hx h1, u8_and_nat _ _ (by omega) h1, u8_or_nat _ _ (by omega) (by omega)]
  rfl
theorem nb_int0 (x V t : Nat) (hx : x < 256) (h : t ≤ 8) :
    bits BinOp.or IntKind.u8 (bits BinOp.andNot IntKind.u8 (x : Int) ((2 ^ t - 1) % 256)) (bits BinOp.and IntKind.u8 ((V : Int) % 256) ((2 ^ t - 1) % 256)) = ((nbP x V 0 t : Nat) : Int) := by
  have := nb_int x V 0 t hx (by omega)
  rw [← this]
  simp

/-- the bytes cs are bs with the lowest n bits of v at k -/
def IsPut (bs cs : List UInt8) (k n v : Nat) : Prop := cs.length = bs.length ∧ ∀ m, m < 8 * bs.length → bitB cs m = if k ≤ m ∧ m < k + n then v.testBit (n - 1 - (m - k)) else bitB bs m
/-- on the way: the first j of them -/
def IsPutTo (bs cs : List UInt8) (k n v j : Nat) : Prop := cs.length = bs.length ∧ ∀ m, m < 8 * bs.length → bitB cs m = if k ≤ m ∧ m < k + j then v.testBit (n - 1 - (m - k)) else bitB bs m
theorem IsPutTo.start (bs : List UInt8) (k n v : Nat) : IsPutTo bs bs k n v 0 := ⟨rfl, fun m _ => by rw [if_neg (by omega)]⟩
theorem IsPutTo.stop {bs cs : List UInt8} {k n v : Nat} (h : IsPutTo bs cs k n v n) : IsPut bs cs k n v := h
theorem set_getD (cs : List UInt8) (i j : Nat) (x : UInt8) (hi : i < cs.length) : (cs.set i x).getD j 0 = if i = j then x else cs.getD j 0 := by
  simp only [List.getD, List.getElem?_set]
  by_cases h : i = j
  · subst h; simp [hi]
  · simp [h]
theorem IsPutTo.step {bs cs : List UInt8} {k n v j : Nat} (h : IsPutTo bs cs k n v j) (t : Nat) (hk : k + n ≤ 8 * bs.length) (hjt : j + t ≤ n) (ht : 0 < t) (hr : (k + j) % 8 + t ≤ 8) (N : Nat)
    (hN : N = nbP (cs.getD ((k + j) / 8) 0).toNat (v / 2 ^ (n - j - t)) (8 - (k + j) % 8 - t) t) : IsPutTo bs (cs.set ((k + j) / 8) (UInt8.ofNat N)) k n v (j + t) := by
  obtain ⟨h1, h2⟩ := h
  have hNlt : N < 256 := by rw [hN]; exact nbP_lt _ _ _ _ (cs.getD ((k + j) / 8) 0).toNat_lt (by omega)
  refine ⟨by simpa using h1, fun m hm => ?_⟩
  have h2 := h2 m hm
  unfold bitB at h2 ⊢
  rw [set_getD _ _ _ _ (by omega)]
  by_cases e : (k + j) / 8 = m / 8
  · rw [if_pos e]
    have eN : (UInt8.ofNat N).toNat = N := by simp; omega
    rw [eN, hN, nb_bit _ _ _ _ _ (by omega) (by omega)]
    by_cases c : k + j ≤ m ∧ m < k + j + t
    · rw [if_pos (by omega), if_pos (by omega), Nat.testBit_div_two_pow]
      congr 1
      omega
    · rw [if_neg (by omega), e, h2]
      by_cases c2 : k ≤ m ∧ m < k + j
      · rw [if_pos c2, if_pos (by omega)]
      · rw [if_neg c2, if_neg (by omega)]
  · rw [if_neg e, h2]
    by_cases c2 : k ≤ m ∧ m < k + j
    · rw [if_pos c2, if_pos (by omega)]
    · rw [if_neg c2, if_neg (by omega)]
theorem u8_of (N : Nat) (h : N < 256) : ((UInt8.ofNat N).toNat : Int) = (N : Int) := by simp; omega
end Go.Proofs.YtmpajlpemabniaaGreat
namespace Go.Proofs.YtmpajlpemabniaaGreat
open Go.RowKit Go.Deep
set_option linter.unusedVariables false
set_option linter.unusedSimpArgs false

set_option maxHeartbeats 400000 in
theorem store_any (bs : List UInt8) (g c k n v : Nat) (w : World) (h : Own w g 5 (u8s bs)) (hn : n ≤ 64) (hk : k + n ≤ 8 * bs.length) (hl : bs.length ≤ 1000000) :
    Calls Tryz.prog 221 #[.slice (some ⟨g, 0, none⟩) bs.length c, .int .i64 k, .int .i64 n, .int .u64 v] w fun e w' => e = .returned (.tuple #[]) ∧ ∃ cs : List UInt8, IsPut bs cs k n v ∧ Own w' g 5 (u8s cs) ∧ w.grownBy w' (some g) ∧ w'.heap.size = w.heap.size := by
  go_enter Tryz.func221, Tryz.ntmps221
  go_wp2
  go_loopw [1, 2] (fun x y wr => ∃ (j : Nat) (cs : List UInt8), j ≤ n ∧ x = .int .i64 ((k + j : Nat) : Int) ∧ y = .int .i64 ((n - j : Nat) : Int) ∧ Own wr g 5 (u8s cs) ∧ IsPutTo bs cs k n v j ∧ w.grownBy wr (some g) ∧ wr.heap.size = w.heap.size) (fun _ y _ => (intOf y).toNat)
  case atStart => exact ⟨0, bs, by omega, by simp, by simp, h, IsPutTo.start _ _ _ _, only_refl _ _, rfl⟩
  case round =>
    obtain ⟨j, cs, hj, rfl, rfl, ho, hput, hg, hsz⟩ := hrel
    have hcs := hput.1
    by_cases hlt : j < n
    · have hc := ho.cell ((k + j) / 8)
      have hf := ho.frozen ((k + j) / 8)
      have hp : 0 < n - j := by omega
      have b1 : 0 ≤ 8 - ((k : Int) + (j : Int)) % 8 := by omega
      have hcell : wr.cell? ⟨g, (k + j) / 8, none⟩ = some (.int .u8 ((cs.getD ((k + j) / 8) 0).toNat : Nat)) := by
        rw [hc]; simp [u8s, List.getD, show (k + j) / 8 < cs.length from by omega]
      clear hc
      obtain ⟨x, hx⟩ : ∃ x, x = cs.getD ((k + j) / 8) 0 := ⟨_, rfl⟩
      rw [← hx] at hcell
      have HX := Lib.hid hx; clear hx
      have HZ := Lib.hid hsz; clear hsz
      have HC := Lib.hid hcs; clear hcs
      by_cases hm : 8 - (k + j) % 8 ≤ n - j
      · have hm' : 8 - ((k : Int) + (j : Int)) % 8 ≤ ((n - j : Nat) : Int) := by omega
        go_wp2
        go_roundw
        case measure => simp [intOf]; omega
        case rel =>
          have hN := nb_int0 x.toNat (v / 2 ^ (n - j - (8 - (k + j) % 8))) (8 - (k + j) % 8) x.toNat_lt (by omega)
          have hlt8 := nbP_lt x.toNat (v / 2 ^ (n - j - (8 - (k + j) % 8))) 0 (8 - (k + j) % 8) x.toNat_lt (by omega)
          have hstep := hput.step (8 - (k + j) % 8) hk (by omega) (by omega) (by omega) _ rfl
          rw [← HX.out, Nat.sub_self] at hstep
          rw [Int.natCast_ediv, Int.natCast_pow] at hN
          refine ⟨j + (8 - (k + j) % 8), cs.set ((k + j) / 8) (UInt8.ofNat (nbP x.toNat (v / 2 ^ (n - j - (8 - (k + j) % 8))) 0 (8 - (k + j) % 8))), by omega, by go_num, by go_num, ?_, hstep, only_set hg _ _, (set_size _ _ _).trans HZ.out⟩
          refine (congrArg (fun z => Own (wr.setCell ⟨g, (k + j) / 8, none⟩ (.int .u8 z)) g 5 _) hN).mpr ?_
          have := ho.set ((k + j) / 8) (.int .u8 (nbP x.toNat (v / 2 ^ (n - j - (8 - (k + j) % 8))) 0 (8 - (k + j) % 8) : Nat))
          unfold u8s at this ⊢
          rw [List.map_set, u8_of _ hlt8]
          exact this
      · have hm' : ((n - j : Nat) : Int) < 8 - ((k : Int) + (j : Int)) % 8 := by omega
        go_wp2
        go_roundw
        case measure => simp [intOf]; omega
        case rel =>
          have hN := nb_int x.toNat v (8 - (k + j) % 8 - (n - j)) (n - j) x.toNat_lt (by omega)
          have hlt8 := nbP_lt x.toNat v (8 - (k + j) % 8 - (n - j)) (n - j) x.toNat_lt (by omega)
          have hstep := hput.step (n - j) hk (by omega) (by omega) (by omega) _ rfl
          rw [← HX.out, Nat.sub_self, Nat.pow_zero, Nat.div_one] at hstep
          refine ⟨j + (n - j), cs.set ((k + j) / 8) (UInt8.ofNat (nbP x.toNat v (8 - (k + j) % 8 - (n - j)) (n - j))), by omega, by go_num, by go_num, ?_, hstep, only_set hg _ _, (set_size _ _ _).trans HZ.out⟩
          refine (congrArg (fun z => Own (wr.setCell ⟨g, (k + j) / 8, none⟩ (.int .u8 z)) g 5 _) hN).mpr ?_
          have := ho.set ((k + j) / 8) (.int .u8 (nbP x.toNat v (8 - (k + j) % 8 - (n - j)) (n - j) : Nat))
          unfold u8s at this ⊢
          rw [List.map_set, u8_of _ hlt8]
          exact this
    · obtain rfl : j = n := by omega
      go_wp2
      go_end0
      exact ⟨rfl, cs, hput.stop, ho, hg, hsz⟩

theorem store_len (bs : List UInt8) (len g c k n v : Nat) (w : World) (hlen : bs.length = len) (h : Own w g 5 (u8s bs)) (hn : n ≤ 64) (hk : k + n ≤ 8 * len) (hl : len ≤ 1000000) :
    Calls Tryz.prog 221 #[.slice (some ⟨g, 0, none⟩) len c, .int .i64 k, .int .i64 n, .int .u64 v] w fun e w' => e = .returned (.tuple #[]) ∧ ∃ cs : List UInt8, IsPut bs cs k n v ∧ Own w' g 5 (u8s cs) ∧ w.grownBy w' (some g) ∧ w'.heap.size = w.heap.size := by
  subst hlen
  exact store_any bs g c k n v w h hn hk hl
theorem made_u8s (n : Nat) : madeCells #[.int .u8 0] n = (u8s (List.replicate n 0)).toArray := by
  apply Array.ext
  · simp [size_madeCells, u8s]
  · intro i h1 h2
    simp [madeCells, u8s, Nat.mod_one]
theorem own_made (w : World) (n : Nat) : Own (w.alloc (.cells (madeCells #[.int .u8 0] n) 5)) w.heap.size 5 (u8s (List.replicate n 0)) := by
  rw [made_u8s]
  exact Own.new w 5 _
theorem Tryz.info_u8 : (Tryz.prog.info? 5).map (fun i => (i.zero, i.size, i.bytes)) = some (some (.int .u8 0), 1, 1) := by kernel_rfl
theorem Tryz.size_u8 : (Tryz.prog.info? 5).map (·.size) = some 1 := by kernel_rfl
theorem u8s_oneCell (bs : List UInt8) : ∀ v ∈ u8s bs, v.oneCell' = true := by
  intro v hv
  simp only [u8s, List.mem_map] at hv
  obtain ⟨x, _, rfl⟩ := hv
  rfl
theorem splice_all (cur cs : List Value) (h : cur.length = cs.length) : splice cur 0 cs = cs := by
  unfold splice
  simp [← h]
theorem Ro.src {w : World} {B : Nat} {a : Option Addr} {vs : List Value} (h : Ro w B a vs) (h0 : 0 < vs.length) : ∃ ad, a = some ad ∧ ∀ j v, vs[j]? = some v → w.cell? (ad.add j) = some v := by
  obtain ⟨b, off, rfl, hb, hc⟩ := h.at_ (by intro e; subst e; simp at h0)
  refine ⟨_, rfl, fun j v hv => ?_⟩
  have hj : j < vs.length := (List.getElem?_eq_some_iff.1 hv).1
  have := hc j hj
  have e : (⟨b, off, none⟩ : Addr).add j = ⟨b, off + j, none⟩ := by unfold Addr.add; split <;> simp_all
  rw [e, this]
  simp [List.getD, hv]

end Go.Proofs.YtmpajlpemabniaaGreat
