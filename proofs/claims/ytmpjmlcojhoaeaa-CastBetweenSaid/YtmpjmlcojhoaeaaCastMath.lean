/-
  Plain arithmetic of casts: wrapped numbers, zigzag, halves, multiples of powers. No Go in it. Lemmas only, no claim of their own.
-/
import Derived.Laws.BitsAllLaws
import Derived.Laws.BitsLemmas
import Derived.Test.YtmpjmlcojhoaeaaMath
import Derived.RowKit
namespace Go.Proofs.Ytmpjmlcojhoaeaa

/-- how many bits n counts as -/
def wn (n : Int) : Nat := (min (max n 1) 64).toNat
theorem wn_pos (n : Int) : 1 ≤ wn n := by unfold wn; omega
theorem wn_le (n : Int) : wn n ≤ 64 := by unfold wn; omega
theorem wn_int (n : Int) : (wn n : Int) = min (max n 1) 64 := by unfold wn; omega
theorem wn_nat (m : Nat) (h1 : 1 ≤ m) (h2 : m ≤ 64) : wn (m : Int) = m := by unfold wn; omega

/-- half the range of m bits -/
def hp (m : Nat) : Int := 2 ^ (m - 1)
theorem hp_pos (m : Nat) : 0 < hp m := by unfold hp; exact Int.pow_pos (by omega)
theorem hp_two (m : Nat) (h : 1 ≤ m) : (2 : Int) ^ m = 2 * hp m := by
  unfold hp
  obtain ⟨k, rfl⟩ : ∃ k, m = k + 1 := ⟨m - 1, by omega⟩
  rw [Nat.add_sub_cancel, Int.pow_succ]; omega
theorem hp_le (m : Nat) (h : m ≤ 64) : hp m ≤ 9223372036854775808 := by
  unfold hp
  have h2 : 2 ^ (m - 1) ≤ 2 ^ 63 := Nat.pow_le_pow_right (n := 2) (by omega) (show m - 1 ≤ 63 by omega)
  have e : ((2 : Int) ^ (m - 1)) = ((2 ^ (m - 1) : Nat) : Int) := by simp
  rw [e]; omega

/-- the number with a sign of m bits that v wraps to -/
def wrapN (v : Int) (m : Nat) : Int := Int.bmod v (2 ^ m)
theorem wrapN_range (v : Int) (m : Nat) (h : 1 ≤ m) : -hp m ≤ wrapN v m ∧ wrapN v m < hp m := by
  have e : ((2 ^ m : Nat) : Int) = 2 * hp m := by rw [← hp_two m h]; simp
  have hpp := hp_pos m
  have hp0 : 0 < 2 ^ m := Nat.pow_pos (by omega)
  have h1 := Int.le_bmod (x := v) hp0
  have h2 := Int.bmod_lt (x := v) hp0
  unfold wrapN
  omega
theorem wrapN_self (v : Int) (m : Nat) (h : 1 ≤ m) (h1 : -hp m ≤ v) (h2 : v < hp m) : wrapN v m = v := by
  have e : ((2 ^ m : Nat) : Int) = 2 * hp m := by rw [← hp_two m h]; simp
  have hpp := hp_pos m
  unfold wrapN
  apply Int.bmod_eq_of_le_mul_two <;> omega
theorem i64_wrap (v : Int) : IntKind.i64.wrap v = Int.bmod v (2 ^ 64) := by
  rw [IntKind.wrap_i64]
  simp only [Int.bmod_def]
  omega

/-! bits of numbers with a sign -/
theorem mod2_cases (a : Int) : a % 2 = 0 ∨ a % 2 = 1 := by omega
theorem ofInt_congr (a b : Int) (h : a % 18446744073709551616 = b % 18446744073709551616) : BitVec.ofInt 64 a = BitVec.ofInt 64 b := by
  rw [← ofInt_emod_u64 a, ← ofInt_emod_u64 b, h]
theorem ofInt_neg_one : BitVec.ofInt 64 (-1) = BitVec.allOnes 64 := by decide
theorem ofInt_max : BitVec.ofInt 64 18446744073709551615 = BitVec.allOnes 64 := by decide
theorem xor_ones (x : BitVec 64) : (x ^^^ BitVec.allOnes 64).toNat = 18446744073709551615 - x.toNat := by
  rw [BitVec.xor_allOnes, BitVec.toNat_not]
theorem ofInt_nat (a : Int) (h0 : 0 ≤ a) (h1 : a < 18446744073709551616) : ((BitVec.ofInt 64 a).toNat : Int) = a := by
  rw [BitVec.toNat_ofInt]
  have e : ((2 ^ 64 : Nat) : Int) = 18446744073709551616 := by decide
  rw [e]; omega
theorem u64_xor_ones (a : Int) (h0 : 0 ≤ a) (h1 : a < 18446744073709551616) : bits BinOp.xor IntKind.u64 a 18446744073709551615 = 18446744073709551615 - a := by
  have e : bits BinOp.xor IntKind.u64 a 18446744073709551615 = IntKind.u64.wrap (((BitVec.ofInt 64 a) ^^^ (BitVec.ofInt 64 18446744073709551615)).toNat : Int) := rfl
  have h := ofInt_nat a h0 h1
  rw [e, ofInt_max, xor_ones, IntKind.wrap_u64]
  omega
theorem u64_xor_zero (a : Int) (h0 : 0 ≤ a) (h1 : a < 18446744073709551616) : bits BinOp.xor IntKind.u64 a 0 = a := by
  have e : bits BinOp.xor IntKind.u64 a 0 = IntKind.u64.wrap (((BitVec.ofInt 64 a) ^^^ (BitVec.ofInt 64 0)).toNat : Int) := rfl
  have h := ofInt_nat a h0 h1
  have e0 : BitVec.ofInt 64 0 = 0#64 := by decide
  rw [e, e0, BitVec.xor_zero, IntKind.wrap_u64]
  omega
theorem i64_xor_ones (a : Int) (h0 : 0 ≤ a) (h1 : a < 9223372036854775808) : bits BinOp.xor IntKind.i64 a (-1) = -a - 1 := by
  have e : bits BinOp.xor IntKind.i64 a (-1) = IntKind.i64.wrap (((BitVec.ofInt 64 a) ^^^ (BitVec.ofInt 64 (-1))).toNat : Int) := rfl
  have h := ofInt_nat a h0 (by omega)
  rw [e, ofInt_neg_one, xor_ones, IntKind.wrap_i64]
  omega
theorem i64_xor_zero (a : Int) (h0 : 0 ≤ a) (h1 : a < 9223372036854775808) : bits BinOp.xor IntKind.i64 a 0 = a := by
  have e : bits BinOp.xor IntKind.i64 a 0 = IntKind.i64.wrap (((BitVec.ofInt 64 a) ^^^ (BitVec.ofInt 64 0)).toNat : Int) := rfl
  have h := ofInt_nat a h0 (by omega)
  have e0 : BitVec.ofInt 64 0 = 0#64 := by decide
  rw [e, e0, BitVec.xor_zero, IntKind.wrap_i64]
  omega
theorem i64_ones_xor (a : Int) (h0 : 0 ≤ a) (h1 : a < 9223372036854775808) : bits BinOp.xor IntKind.i64 (-1) a = -a - 1 := by
  have e : bits BinOp.xor IntKind.i64 (-1) a = IntKind.i64.wrap (((BitVec.ofInt 64 (-1)) ^^^ (BitVec.ofInt 64 a)).toNat : Int) := rfl
  have h := ofInt_nat a h0 (by omega)
  rw [e, ofInt_neg_one, BitVec.xor_comm, xor_ones, IntKind.wrap_i64]
  omega
theorem int_beq_nat (a b : Nat) : ((a : Int) == (b : Int)) = decide (a = b) := by rw [Bool.eq_iff_iff]; simp; omega
theorem u64_and_one (v : Int) (h0 : 0 ≤ v) (h1 : v < 18446744073709551616) : bits BinOp.and IntKind.u64 v 1 = v % 2 := by
  obtain ⟨n, rfl⟩ := Int.eq_ofNat_of_zero_le h0
  have := u64_and_nat n 1 (by omega) (by omega)
  rw [show ((1 : Nat) : Int) = 1 from rfl] at this
  rw [this, nat_mask1]; omega
theorem and_mod_two (x y : Nat) : (x &&& y) % 2 = x % 2 * (y % 2) := by
  have h := Nat.and_mod_two_pow (a := x) (b := y) (n := 1)
  rw [Nat.pow_one] at h
  rw [h]
  rcases Nat.mod_two_eq_zero_or_one x with hx | hx <;> rcases Nat.mod_two_eq_zero_or_one y with hy | hy <;> rw [hx, hy] <;> decide
theorem i64_and_and_one (a b : Int) : bits BinOp.and IntKind.i64 (bits BinOp.and IntKind.i64 a b) 1 = a % 2 * (b % 2) := by
  have e1 : bits BinOp.and IntKind.i64 a b = IntKind.i64.wrap (((BitVec.ofInt 64 a) &&& (BitVec.ofInt 64 b)).toNat : Int) := rfl
  generalize hn : ((BitVec.ofInt 64 a) &&& (BitVec.ofInt 64 b)).toNat = n at e1
  have hlt : n < 18446744073709551616 := by rw [← hn]; exact BitVec.isLt _
  have e2 : bits BinOp.and IntKind.i64 (bits BinOp.and IntKind.i64 a b) 1 = IntKind.i64.wrap (((BitVec.ofInt 64 (bits BinOp.and IntKind.i64 a b)) &&& (BitVec.ofInt 64 1)).toNat : Int) := rfl
  have e3 : BitVec.ofInt 64 (bits BinOp.and IntKind.i64 a b) = BitVec.ofInt 64 (n : Int) := by
    rw [e1]; apply ofInt_congr; rw [IntKind.wrap_i64]; omega
  have e4 : (BitVec.ofInt 64 (n : Int)).toNat = n := by have := ofInt_nat (n : Int) (by omega) (by omega); omega
  have e5 : (BitVec.ofInt 64 1).toNat = 1 := by decide
  rw [e2, e3, BitVec.toNat_and, e4, e5, nat_mask1, ← hn, BitVec.toNat_and, and_mod_two, IntKind.wrap_i64]
  have fa : ((BitVec.ofInt 64 a).toNat % 2 : Nat) = (a % 2).toNat := by
    rw [BitVec.toNat_ofInt]
    have e : ((2 ^ 64 : Nat) : Int) = 18446744073709551616 := by decide
    rw [e]; omega
  have fb : ((BitVec.ofInt 64 b).toNat % 2 : Nat) = (b % 2).toNat := by
    rw [BitVec.toNat_ofInt]
    have e : ((2 ^ 64 : Nat) : Int) = 18446744073709551616 := by decide
    rw [e]; omega
  rw [fa, fb]
  rcases mod2_cases a with hx | hx <;> rcases mod2_cases b with hy | hy <;> rw [hx, hy] <;> decide

/-- the signed number folded -/
def zigN (v : Int) : Int := if 0 ≤ v then 2 * v else -2 * v - 1
def zagN (v : Int) : Int := if v % 2 = 0 then v / 2 else -(v / 2) - 1
theorem zigN_range (v : Int) (h0 : -9223372036854775808 ≤ v) (h1 : v ≤ 9223372036854775807) : 0 ≤ zigN v ∧ zigN v < 18446744073709551616 := by
  unfold zigN; split <;> omega
theorem zagN_range (v : Int) (h0 : 0 ≤ v) (h1 : v < 18446744073709551616) : -9223372036854775808 ≤ zagN v ∧ zagN v ≤ 9223372036854775807 := by
  unfold zagN; split <;> omega
theorem zag_zig (v : Int) : zagN (zigN v) = v := by
  unfold zagN zigN; split <;> split <;> omega
theorem zig_zag (v : Int) (h0 : 0 ≤ v) : zigN (zagN v) = v := by
  unfold zagN zigN; split <;> split <;> omega
theorem zig_bits (v : Int) (h0 : -9223372036854775808 ≤ v) (h1 : v ≤ 9223372036854775807) :
    bits BinOp.xor IntKind.u64 (IntKind.u64.wrap (IntKind.u64.wrap v * 2)) (IntKind.u64.wrap (v / 9223372036854775808)) = zigN v := by
  unfold zigN
  rw [IntKind.wrap_u64, IntKind.wrap_u64, IntKind.wrap_u64]
  split
  · rw [show v / 9223372036854775808 % 18446744073709551616 = 0 by omega, u64_xor_zero _ (by omega) (by omega)]; omega
  · rw [show v / 9223372036854775808 % 18446744073709551616 = 18446744073709551615 by omega, u64_xor_ones _ (by omega) (by omega)]; omega
theorem zag_bits (v : Int) (h0 : 0 ≤ v) (h1 : v < 18446744073709551616) :
    bits BinOp.xor IntKind.i64 (v / 2) (RowKit.wrap64 (-RowKit.wrap64 (bits BinOp.and IntKind.u64 v 1))) = zagN v := by
  unfold zagN RowKit.wrap64
  rw [u64_and_one v h0 h1]
  split
  · rename_i h; rw [h]
    exact i64_xor_zero _ (by omega) (by omega)
  · rename_i h; rw [show v % 2 = 1 by omega]
    exact i64_xor_ones _ (by omega) (by omega)
theorem half_bits (a b : Int) (ha0 : -9223372036854775808 ≤ a) (ha1 : a ≤ 9223372036854775807) (hb0 : -9223372036854775808 ≤ b) (hb1 : b ≤ 9223372036854775807) :
    RowKit.wrap64 (a / 2 + b / 2 + bits BinOp.and IntKind.i64 (bits BinOp.and IntKind.i64 a b) 1) = (a + b) / 2 := by
  rw [i64_and_and_one]
  unfold RowKit.wrap64
  rcases mod2_cases a with hx | hx <;> rcases mod2_cases b with hy | hy <;> rw [hx, hy] <;> omega
theorem wrap64_bmod (v : Int) : RowKit.wrap64 v = Int.bmod v (2 ^ 64) := by
  unfold RowKit.wrap64
  simp only [Int.bmod_def]
  omega
theorem pow_split (m : Nat) (h : m ≤ 64) : (2 : Nat) ^ 64 = 2 ^ m * 2 ^ (64 - m) := by rw [← Nat.pow_add, show m + (64 - m) = 64 by omega]
theorem wrap_bits (v : Int) (m : Nat) (h1 : 1 ≤ m) (h2 : m ≤ 64) : RowKit.wrap64 (v * 2 ^ (64 - m)) / 2 ^ (64 - m) = wrapN v m := by
  have hS : (0 : Int) < 2 ^ (64 - m) := Int.pow_pos (by omega)
  have h63 : (9223372036854775808 : Int) = hp m * 2 ^ (64 - m) := by
    unfold hp
    rw [← Int.pow_add, show m - 1 + (64 - m) = 63 by omega]; decide
  have h64 : (18446744073709551616 : Int) = 2 * hp m * 2 ^ (64 - m) := by rw [Int.mul_assoc, ← h63]; decide
  unfold RowKit.wrap64
  generalize (2 : Int) ^ (64 - m) = S at *
  rw [h63, h64, ← Int.add_mul, Int.mul_comm (v + hp m) S, Int.mul_comm (2 * hp m) S, Int.mul_emod_mul_of_pos _ _ hS, Int.mul_comm (hp m) S, ← Int.mul_sub, Int.mul_ediv_cancel_left _ (by omega)]
  have hpp := hp_pos m
  have e : ((2 ^ m : Nat) : Int) = 2 * hp m := by rw [← hp_two m h1]; simp
  apply Eq.symm
  unfold wrapN
  have hb1 := Int.emod_nonneg (v + hp m) (b := 2 * hp m) (by omega)
  have hb2 := Int.emod_lt_of_pos (v + hp m) (b := 2 * hp m) (by omega)
  have hself : Int.bmod ((v + hp m) % (2 * hp m) - hp m) (2 ^ m) = (v + hp m) % (2 * hp m) - hp m := by
    apply Int.bmod_eq_of_le_mul_two <;> omega
  rw [← hself, ← e]
  have hx : (v + hp m) % ((2 ^ m : Nat) : Int) - hp m = v + ((2 ^ m : Nat) : Int) * (-((v + hp m) / ((2 ^ m : Nat) : Int))) := by
    have := Int.emod_add_mul_ediv (v + hp m) ((2 ^ m : Nat) : Int)
    rw [Int.mul_neg]; omega
  rw [hx, Int.add_mul_bmod_self_left]

theorem low_bits (m : Nat) (hm : m ≤ 64) : IntKind.u64.wrap (IntKind.u64.wrap (2 ^ m) - 1) = ((2 ^ m - 1 : Nat) : Int) := by
  have h2 : (2 : Nat) ^ m ≤ 2 ^ 64 := Nat.pow_le_pow_right (by omega) hm
  have h3 : 0 < 2 ^ m := Nat.pow_pos (by omega)
  have e2 : ((2 : Int) ^ m) = ((2 ^ m : Nat) : Int) := by simp
  rw [IntKind.wrap_u64, IntKind.wrap_u64, e2]
  omega
theorem u64_and_low (v m : Nat) (hv : v < 18446744073709551616) (hm : m ≤ 64) : bits BinOp.and IntKind.u64 (v : Int) ((2 ^ m - 1 : Nat) : Int) = ((v % 2 ^ m : Nat) : Int) := by
  have h3 : 0 < 2 ^ m := Nat.pow_pos (by omega)
  have h4 := pow_le_64 hm
  rw [u64_and_nat v (2 ^ m - 1) hv (by omega), Nat.and_two_pow_sub_one_eq_mod]
theorem top_shift (m : Nat) (h1 : 1 ≤ m) (hm : m ≤ 64) : ((2 ^ 63 - 1 : Nat) : Int) / 2 ^ (64 - m) = hp m - 1 := by
  have hS : (0 : Int) < 2 ^ (64 - m) := Int.pow_pos (by omega)
  have h63 : (9223372036854775808 : Int) = hp m * 2 ^ (64 - m) := by
    unfold hp
    rw [← Int.pow_add, show m - 1 + (64 - m) = 63 by omega]; decide
  have e : ((2 ^ 63 - 1 : Nat) : Int) = hp m * 2 ^ (64 - m) - 1 := by rw [← h63]; decide
  rw [e]
  generalize (2 : Int) ^ (64 - m) = S at *
  rw [show hp m * S - 1 = (S - 1) + S * (hp m - 1) by rw [Int.mul_sub, Int.mul_comm S]; omega, Int.add_mul_ediv_left _ _ (by omega), Int.ediv_eq_zero_of_lt (by omega) (by omega)]
  omega
/-- the number that is nearest -/
def clampN (v : Int) (m : Nat) : Int := min (max v (-hp m)) (hp m - 1)
def fitsN (v : Int) (m : Nat) : Bool := decide (-hp m ≤ v ∧ v < hp m)
theorem fits_wrap (v : Int) (m : Nat) (h : 1 ≤ m) : decide (wrapN v m = v) = fitsN v m := by
  unfold fitsN
  rw [decide_eq_decide]
  constructor
  · intro e
    have := wrapN_range v m h
    omega
  · intro ⟨h1, h2⟩
    exact wrapN_self v m h h1 h2
/-- the least multiple of 2 to k that is not below v -/
def upN (v k : Nat) : Nat := (v + (2 ^ k - 1)) / 2 ^ k * 2 ^ k
theorem upN_ge (v k : Nat) : v ≤ upN v k := by
  have hP : 0 < 2 ^ k := Nat.pow_pos (by omega)
  have h1 := Nat.div_add_mod (v + (2 ^ k - 1)) (2 ^ k)
  have h2 := Nat.mod_lt (v + (2 ^ k - 1)) hP
  unfold upN
  rw [Nat.mul_comm] at h1
  omega
theorem upN_lt (v k : Nat) : upN v k < v + 2 ^ k := by
  have hP : 0 < 2 ^ k := Nat.pow_pos (by omega)
  have h1 := Nat.div_add_mod (v + (2 ^ k - 1)) (2 ^ k)
  unfold upN
  rw [Nat.mul_comm] at h1
  omega
theorem upN_mod (v k : Nat) : upN v k % 2 ^ k = 0 := Nat.mul_mod_left _ _
theorem upN_fits (v k : Nat) (hk : k ≤ 64) : upN v k < 18446744073709551616 ↔ v + (2 ^ k - 1) < 18446744073709551616 := by
  have hP : 0 < 2 ^ k := Nat.pow_pos (by omega)
  have h64 : 18446744073709551616 = 2 ^ (64 - k) * 2 ^ k := by rw [← Nat.pow_add, show 64 - k + k = 64 by omega]
  unfold upN
  rw [h64, Nat.mul_lt_mul_right hP, Nat.div_lt_iff_lt_mul hP]
/-- a multiple that is at most w -/
theorem upN_le (v k w : Nat) (h1 : v ≤ w) (h2 : w % 2 ^ k = 0) : upN v k ≤ w := by
  have hP : 0 < 2 ^ k := Nat.pow_pos (by omega)
  obtain ⟨q, rfl⟩ := Nat.dvd_of_mod_eq_zero h2
  unfold upN
  rw [Nat.mul_comm (2 ^ k) q]
  apply Nat.mul_le_mul_right
  rw [← Nat.lt_succ_iff, Nat.div_lt_iff_lt_mul hP, Nat.succ_mul, Nat.mul_comm q]
  omega
theorem upN_eq (v k w : Nat) (h1 : v ≤ w) (h2 : w % 2 ^ k = 0) (h3 : w < v + 2 ^ k) : upN v k = w := by
  have hP : 0 < 2 ^ k := Nat.pow_pos (by omega)
  have a := upN_le v k w h1 h2
  have b := upN_ge v k
  obtain ⟨q, rfl⟩ := Nat.dvd_of_mod_eq_zero h2
  obtain ⟨r, hr⟩ := Nat.dvd_of_mod_eq_zero (upN_mod v k)
  rw [hr] at a b ⊢
  have c : q < r + 1 := by
    apply Nat.lt_of_mul_lt_mul_left (a := 2 ^ k)
    rw [Nat.mul_add]; omega
  have d : r ≤ q := Nat.le_of_mul_le_mul_left a hP
  rw [show r = q by omega]
theorem upN_mono (v u k : Nat) (h : v ≤ u) : upN v k ≤ upN u k := upN_le v k _ (Nat.le_trans h (upN_ge u k)) (upN_mod u k)
theorem upN_zero (v : Nat) : upN v 0 = v := by unfold upN; simp
end Go.Proofs.Ytmpjmlcojhoaeaa
