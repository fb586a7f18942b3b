/-
  The small functions of package adler by their contracts: residue, counted, split, sum, reduced. No condition but the ranges that each theorem names.
-/
import Derived.Test.YtlkojonchlcpdaaBase
import Derived.StillTailTactics
import Derived.Deep.RegionHeld3
namespace Go.Proofs.Ytlkojonchlcpdaa
open Go.RowKit

theorem tmod_neg (v : Int) (h : v < 0) : v.tmod 65521 = -((-v) % 65521) := by
  have h1 : v = -(-v) := by omega
  rw [h1, Int.neg_tmod, Int.tmod_eq_emod_of_nonneg (by omega), Int.neg_neg]

set_option maxHeartbeats 400000 in
theorem residue_any (v : Int) (w : World) (h0 : -9223372036854775808 ≤ v) (h1 : v ≤ 9223372036854775807) :
    Calls Try.prog 30 #[.int .i64 v] w fun e w' => e = .returned (.int .i64 (v % 65521)) ∧ w = w' := by
  by_cases hv : 0 ≤ v
  · go_enter Try.func30, Try.ntmps30
    go_wp2
    go_ret
    exact ⟨ret_int (by omega), rfl⟩
  · have ht := tmod_neg v (by omega)
    have hb0 : -65520 ≤ v.tmod 65521 := by omega
    have hb1 : v.tmod 65521 ≤ 0 := by omega
    have HT := Lib.hid ht
    clear ht
    go_enter Try.func30, Try.ntmps30
    go_wp2
    all_goals go_ret
    all_goals exact ⟨ret_int (by have := HT.out; omega), rfl⟩

set_option maxHeartbeats 400000 in
theorem counted_any (n : Int) (w : World) (h0 : -9223372036854775808 ≤ n) (h1 : n ≤ 9223372036854775807) :
    Calls Try.prog 27 #[.int .i64 n] w fun e w' => e = .returned (.int .i64 (max n 0 % 65521)) ∧ w = w' := by
  by_cases hn : 0 ≤ n
  · go_enter Try.func27, Try.ntmps27
    go_wp2_with fail
    refine (residue_any _ _ (by omega) (by omega)).mono ?_
    rintro e w' ⟨rfl, rfl⟩
    go_wp2_with fail
    go_ret
    exact ⟨ret_int (by omega), rfl⟩
  · go_enter Try.func27, Try.ntmps27
    go_wp2_with fail
    refine (residue_any _ _ (by omega) (by omega)).mono ?_
    rintro e w' ⟨rfl, rfl⟩
    go_wp2_with fail
    go_ret
    exact ⟨ret_int (by omega), rfl⟩

theorem split_low (s : Nat) (h : s < 4294967296) : bits BinOp.and IntKind.u32 (s : Int) 65535 = ((s % 65536 : Nat) : Int) := by
  rw [show (65535 : Int) = ((2 ^ 16 - 1 : Nat) : Int) from rfl, u32_and_nat _ _ (by omega) (by omega), Nat.and_two_pow_sub_one_eq_mod]

set_option maxHeartbeats 400000 in
theorem split_any (s : Nat) (w : World) (h1 : s < 4294967296) :
    Calls Try.prog 23 #[.int .u32 (s : Int)] w fun e w' => e = .returned (.agg #[.int .i64 ((s % 65536 : Nat) : Int), .int .i64 ((s / 65536 : Nat) : Int)]) ∧ Below w.heap.size w w' := by
  have hl := split_low s h1
  go_enter Try.func23, Try.ntmps23
  go_wp2
  exact bodyPost_ret (v := .agg #[.int .i64 ((s % 65536 : Nat) : Int), .int .i64 ((s / 65536 : Nat) : Int)]) (by simp [results, Try.results23, go_sem]) rfl ⟨rfl, (Below.refl _ _).alloc (Nat.le_refl _) _⟩

/-- the same, the halves by letters -/
theorem split_is (s p q : Nat) (w : World) (h1 : s = 65536 * q + p) (hp : p < 65536) (hq : q < 65536) :
    Calls Try.prog 23 #[.int .u32 (s : Int)] w fun e w' => e = .returned (.agg #[.int .i64 (p : Int), .int .i64 (q : Int)]) ∧ Below w.heap.size w w' := by
  have h := split_any s w (by omega)
  rw [show s % 65536 = p by omega, show s / 65536 = q by omega] at h
  exact h

theorem hsum_or (a b : Nat) (ha : a < 65536) (hb : b < 65536) : bits BinOp.or IntKind.u32 ((b : Int) * 65536) (a : Int) = ((65536 * b + a : Nat) : Int) := by
  have e : ((b : Int) * 65536) = ((b * 2 ^ 16 : Nat) : Int) := by omega
  rw [e, u32_or_nat _ _ (by omega) (by omega), nat_join 16 _ _ (Nat.mul_mod_left _ _) (by omega)]
  omega

set_option maxHeartbeats 400000 in
theorem hsum_any (a b : Nat) (w : World) (ha : a < 65536) (hb : b < 65536) :
    Calls Try.prog 26 #[.agg #[.int .i64 (a : Int), .int .i64 (b : Int)]] w fun e w' => e = .returned (.int .u32 ((65536 * b + a : Nat) : Int)) ∧ Below w.heap.size w w' := by
  go_enter Try.func26, Try.ntmps26
  go_wp2
  go_ret
  exact ⟨ret_int (hsum_or a b ha hb), (Below.refl _ _).alloc (Nat.le_refl _) _⟩

set_option maxHeartbeats 400000 in
theorem reduced_any (a b : Int) (w : World) (ha0 : -9223372036854775808 ≤ a) (ha1 : a ≤ 9223372036854775807) (hb0 : -9223372036854775808 ≤ b) (hb1 : b ≤ 9223372036854775807) :
    Calls Try.prog 24 #[.agg #[.int .i64 a, .int .i64 b]] w fun e w' => e = .returned (.agg #[.int .i64 (a % 65521), .int .i64 (b % 65521)]) ∧ Below w.heap.size w w' := by
  go_enter Try.func24, Try.ntmps24
  go_wp2_with fail
  go_region_held3 (fun w' => w'.cell? ⟨w.heap.size, 0, none⟩ = some (.int .i64 a) ∧ w'.cell? ⟨w.heap.size, 1, none⟩ = some (.int .i64 b)) (go_keep)
    ((go_at_call 30; refine (residue_any _ _ (by omega) (by omega)).mono ?_; rintro e w' ⟨rfl, rfl⟩))
  go_wp2_with fail
  exact bodyPost_ret (v := .agg #[.int .i64 (a % 65521), .int .i64 (b % 65521)]) (by simp [results, Try.results24, go_sem]) rfl ⟨rfl, (((Below.refl _ _).alloc (Nat.le_refl _) _).alloc (by simp) _).drew⟩
theorem reduced_is (a b : Int) (p q : Nat) (w : World) (hp : (p : Int) = a % 65521) (hq : (q : Int) = b % 65521) (ha0 : -9223372036854775808 ≤ a) (ha1 : a ≤ 9223372036854775807) (hb0 : -9223372036854775808 ≤ b) (hb1 : b ≤ 9223372036854775807) :
    Calls Try.prog 24 #[.agg #[.int .i64 a, .int .i64 b]] w fun e w' => e = .returned (.agg #[.int .i64 (p : Int), .int .i64 (q : Int)]) ∧ Below w.heap.size w w' := by
  rw [hp, hq]
  exact reduced_any a b w ha0 ha1 hb0 hb1
end Go.Proofs.Ytlkojonchlcpdaa
