/-
  Plain arithmetic: a number with a sign out of its lowest bits. Lemmas only, no claim of their own.
-/
import Derived.Test.YtogkhhgcljeddaaRefMath
import Derived.RowKit
namespace Go.Proofs.Ytogkhhgcljeddaa
open Go.RowKit

def ext (v m : Nat) : Int := ((v % 2 ^ m : Nat) : Int) - (if m ≠ 0 ∧ v.testBit (m - 1) = true then ((2 ^ m : Nat) : Int) else 0)

theorem top_bit (v m : Nat) (hm : 0 < m) : v.testBit (m - 1) = decide (2 ^ (m - 1) ≤ v % 2 ^ m) := by
  obtain ⟨k, rfl⟩ : ∃ k, m = k + 1 := ⟨m - 1, by omega⟩
  rw [Nat.add_sub_cancel, Nat.testBit_eq_decide_div_mod_eq, decide_eq_decide]
  have hp : 0 < 2 ^ k := Nat.pow_pos (by omega)
  have e : v % 2 ^ (k + 1) = v % 2 ^ k + 2 ^ k * (v / 2 ^ k % 2) := by rw [Nat.pow_succ, Nat.mod_mul]
  have hlt : v % 2 ^ k < 2 ^ k := Nat.mod_lt _ hp
  rw [e]
  rcases Nat.mod_two_eq_zero_or_one (v / 2 ^ k) with h | h
  · rw [h]; simp; omega
  · rw [h]; simp
theorem ext_code (v m : Nat) (hm : m ≤ 64) : wrap64 (IntKind.u64.wrap ((v : Int) * 2 ^ (64 - m))) / 2 ^ (64 - m) = ext v m := by
  have hN : 2 ^ m * 2 ^ (64 - m) = 18446744073709551616 := by rw [← Nat.pow_add, show m + (64 - m) = 64 from by omega]
  have hS : 0 < 2 ^ (64 - m) := Nat.pow_pos (by omega)
  have hP : 0 < 2 ^ m := Nat.pow_pos (by omega)
  have hr : v % 2 ^ m < 2 ^ m := Nat.mod_lt _ hP
  have hv : v = 2 ^ m * (v / 2 ^ m) + v % 2 ^ m := (Nat.div_add_mod v (2 ^ m)).symm
  have hrS : v % 2 ^ m * 2 ^ (64 - m) < 18446744073709551616 := by rw [← hN]; exact Nat.mul_lt_mul_of_pos_right hr hS
  have e1 : v * 2 ^ (64 - m) = 18446744073709551616 * (v / 2 ^ m) + v % 2 ^ m * 2 ^ (64 - m) := by
    conv => lhs; rw [hv]
    rw [Nat.add_mul, ← hN]
    congr 1
    rw [Nat.mul_assoc, Nat.mul_comm (v / 2 ^ m), ← Nat.mul_assoc]
  have e2 : IntKind.u64.wrap ((v : Int) * 2 ^ (64 - m)) = ((v % 2 ^ m * 2 ^ (64 - m) : Nat) : Int) := by
    have : ((v : Int) * 2 ^ (64 - m)) = ((v * 2 ^ (64 - m) : Nat) : Int) := by simp
    rw [this, e1, IntKind.wrap_u64]
    omega
  have e3 : ((2 : Int) ^ (64 - m)) = ((2 ^ (64 - m) : Nat) : Int) := by simp
  rw [e2, e3]
  unfold ext
  by_cases h0 : m = 0
  · subst h0
    simp [Nat.mod_one, wrap64]
  have hH : 2 ^ (m - 1) * 2 ^ (64 - m) = 9223372036854775808 := by rw [← Nat.pow_add, show m - 1 + (64 - m) = 63 from by omega]
  rw [top_bit v m (by omega)]
  generalize v % 2 ^ m = r at *
  generalize 2 ^ (64 - m) = S at *
  by_cases hc : 2 ^ (m - 1) ≤ r
  · have hge : 9223372036854775808 ≤ r * S := by rw [← hH]; exact Nat.mul_le_mul_right _ hc
    rw [if_pos ⟨h0, by simpa using hc⟩]
    have e4 : wrap64 ((r * S : Nat) : Int) = ((r : Int) - ((2 ^ m : Nat) : Int)) * (S : Int) := by
      rw [Int.sub_mul, ← Int.natCast_mul, ← Int.natCast_mul, hN]
      unfold wrap64
      omega
    rw [e4, Int.mul_ediv_cancel _ (by omega)]
  · have hlt : r * S < 9223372036854775808 := by rw [← hH]; exact Nat.mul_lt_mul_of_pos_right (by omega) hS
    rw [if_neg (fun h => hc (by simpa using h.2))]
    have e4 : wrap64 ((r * S : Nat) : Int) = (r : Int) * (S : Int) := by
      rw [← Int.natCast_mul]
      unfold wrap64
      omega
    rw [e4, Int.mul_ediv_cancel _ (by omega)]
    simp
/-- on the way from the highest bit on -/
def extTo (v m i : Nat) : Int := if i = 0 then 0 else ((nm (fun j => (dig v m).getD j false) i : Nat) : Int) - (if v.testBit (m - 1) = true then ((2 ^ i : Nat) : Int) else 0)
theorem dig_zero_at (v m : Nat) (hm : 0 < m) : (dig v m).getD 0 false = v.testBit (m - 1) := by rw [dig_getD _ _ _ hm]; simp
theorem extTo_one (v m : Nat) (hm : 0 < m) : extTo v m 1 = - bi ((dig v m).getD 0 false) := by
  unfold extTo
  rw [if_neg (by omega), ← dig_zero_at v m hm]
  simp only [nm]
  cases (dig v m).getD 0 false <;> simp [bi]
theorem extTo_succ (v m i : Nat) (hi : 0 < i) : extTo v m (i + 1) = 2 * extTo v m i + bi ((dig v m).getD i false) := by
  unfold extTo
  rw [if_neg (show ¬ i + 1 = 0 by omega), if_neg (show ¬ i = 0 by omega), bi_toNat]
  simp only [nm]
  rw [Nat.pow_succ]
  split <;> omega
theorem extTo_all (v m : Nat) : extTo v m m = ext v m := by
  unfold extTo ext
  by_cases h : m = 0
  · subst h; simp [Nat.mod_one]
  · rw [if_neg h, nm_dig]
    simp [h]
theorem extTo_range63 (v m i : Nat) (hm : 0 < m) (hi : i ≤ 63) (him : i ≤ m) : -4611686018427387904 ≤ extTo v m i ∧ extTo v m i ≤ 4611686018427387903 := by
  by_cases h0 : i = 0
  · subst h0; simp [extTo]
  obtain ⟨k, rfl⟩ : ∃ k, i = k + 1 := ⟨i - 1, by omega⟩
  have hb : ∀ k, k + 1 ≤ m → -((2 ^ k : Nat) : Int) ≤ extTo v m (k + 1) ∧ extTo v m (k + 1) < ((2 ^ k : Nat) : Int) := by
    intro k
    induction k with
    | zero => intro _; rw [extTo_one v m hm]; cases (dig v m).getD 0 false <;> simp [bi]
    | succ k ih =>
      intro hk
      have := ih (by omega)
      have hbr := bi_range ((dig v m).getD (k + 1) false)
      rw [extTo_succ v m (k + 1) (by omega), Nat.pow_succ]
      omega
  have := hb k him
  have hp : (2 : Nat) ^ k ≤ 2 ^ 62 := Nat.pow_le_pow_right (by omega) (by omega)
  omega
end Go.Proofs.Ytogkhhgcljeddaa
