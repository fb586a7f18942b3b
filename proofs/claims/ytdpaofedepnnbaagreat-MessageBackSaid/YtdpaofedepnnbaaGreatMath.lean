/-
  Plain arithmetic of bits in bytes: no Go in it. Lemmas only, no claim of their own.
-/
import Derived.Laws.BitsAllLaws
import Derived.Laws.BitsLemmas
namespace Go.Proofs.YtdpaofedepnnbaaGreat
set_option linter.unusedVariables false
set_option linter.unusedSimpArgs false

def bit (bs : List UInt8) (i : Nat) : Nat := (bs.getD (i / 8) 0).toNat / 2 ^ (7 - i % 8) % 2
def num (bs : List UInt8) (k : Nat) : Nat → Nat
  | 0 => 0
  | n + 1 => 2 * num bs k n + bit bs (k + n)

theorem bit_lt (bs : List UInt8) (i : Nat) : bit bs i < 2 := Nat.mod_lt _ (by omega)
theorem num_lt (bs : List UInt8) (k n : Nat) : num bs k n < 2 ^ n := by
  induction n with
  | zero => simp [num]
  | succ n ih => have := bit_lt bs (k + n); simp only [num]; rw [Nat.pow_succ]; omega
theorem num_add (bs : List UInt8) (k j t : Nat) : num bs k (j + t) = num bs k j * 2 ^ t + num bs (k + j) t := by
  induction t with
  | zero => simp [num]
  | succ t ih =>
    have e : j + (t + 1) = (j + t) + 1 := rfl
    rw [e]; simp only [num]
    rw [ih, Nat.pow_succ, Nat.add_assoc k j t]
    have : 2 * (num bs k j * 2 ^ t) = num bs k j * (2 ^ t * 2) := by rw [Nat.mul_comm 2, Nat.mul_assoc]
    omega
theorem mod_two_mul (x m : Nat) : x % (m * 2) = 2 * (x / 2 % m) + x % 2 := by
  rw [Nat.mul_comm m 2, Nat.mod_mul]; omega
theorem num_byte (bs : List UInt8) (k t : Nat) (h : k % 8 + t ≤ 8) : num bs k t = (bs.getD (k / 8) 0).toNat / 2 ^ (8 - k % 8 - t) % 2 ^ t := by
  induction t with
  | zero => simp [num, Nat.mod_one]
  | succ t ih =>
    simp only [num]
    rw [ih (by omega), Nat.pow_succ, mod_two_mul]
    have e1 : (k + t) / 8 = k / 8 := by omega
    have e2 : (k + t) % 8 = k % 8 + t := by omega
    have e3 : 8 - k % 8 - t = (8 - k % 8 - (t + 1)) + 1 := by omega
    rw [e3, Nat.pow_succ, ← Nat.div_div_eq_div_mul]
    unfold bit
    rw [e1, e2]
    have e4 : 7 - (k % 8 + t) = 8 - k % 8 - (t + 1) := by omega
    rw [e4]
theorem pow_le_64 {n : Nat} (h : n ≤ 64) : 2 ^ n ≤ 18446744073709551616 := Nat.pow_le_pow_right (n := 2) (by omega) h
theorem wrap_u64_nat (n : Nat) (h : n < 18446744073709551616) : IntKind.u64.wrap (n : Int) = (n : Int) := by rw [IntKind.wrap_u64]; omega

theorem ofInt_emod_u64 (v : Int) : BitVec.ofInt 64 (v % 18446744073709551616) = BitVec.ofInt 64 v := by
  apply BitVec.eq_of_toNat_eq
  rw [BitVec.toNat_ofInt, BitVec.toNat_ofInt]
  simp
theorem and_wrap_left (v y : Int) : bits BinOp.and IntKind.u64 (v % 18446744073709551616) y = bits BinOp.and IntKind.u64 v y :=
  congrArg (fun a : BitVec 64 => IntKind.u64.wrap ((a &&& BitVec.ofInt 64 y).toNat : Int)) (ofInt_emod_u64 v)

/-- one step of reading: t more bits out of one byte -/
theorem load_step (bs : List UInt8) (k j t : Nat) (h : (k + j) % 8 + t ≤ 8) (hj : j + t ≤ 64) :
    bits BinOp.or IntKind.u64 (IntKind.u64.wrap ((num bs k j : Int) * 2 ^ t)) (((bs.getD ((k + j) / 8) 0).toNat / 2 ^ (8 - (k + j) % 8 - t) % 2 ^ t : Nat) : Int) = ((num bs k (j + t) : Nat) : Int) := by
  have h1 := num_lt bs k j
  have h2 : num bs k j * 2 ^ t < 2 ^ (j + t) := by rw [Nat.pow_add]; exact Nat.mul_lt_mul_of_pos_right h1 (Nat.pow_pos (by omega))
  have h3 := pow_le_64 hj
  have h4 := num_lt bs (k + j) t
  have h5 : (2 : Nat) ^ t ≤ 2 ^ (j + t) := Nat.pow_le_pow_right (by omega) (by omega)
  have e : ((num bs k j : Int) * 2 ^ t) = ((num bs k j * 2 ^ t : Nat) : Int) := by simp
  rw [e, wrap_u64_nat _ (by omega), ← num_byte bs (k + j) t h, u64_or_nat _ _ (by omega) (by omega), nat_join t _ _ (Nat.mul_mod_left _ _) h4, num_add]
theorem load_end (bs : List UInt8) (k j t : Nat) (h : (k + j) % 8 + t ≤ 8) (hj : j + t ≤ 64) :
    bits BinOp.or IntKind.u64 (IntKind.u64.wrap ((num bs k j : Int) * 2 ^ t)) (IntKind.u64.wrap ((bs[(k + j) / 8]?.getD 0).toNat : Int) / 2 ^ (8 - (k + j) % 8 - t) % 2 ^ t) = ((num bs k (j + t) : Nat) : Int) := by
  have hb : (bs[(k + j) / 8]?.getD 0).toNat < 256 := (bs[(k + j) / 8]?.getD 0).toNat_lt
  rw [wrap_u64_nat _ (by omega)]
  have := load_step bs k j t h hj
  rw [List.getD_eq_getElem?_getD] at this
  rw [← this]
  simp
theorem load_end1 (bs : List UInt8) (k j : Nat) (hj : j + (8 - (k + j) % 8) ≤ 64) :
    bits BinOp.or IntKind.u64 (IntKind.u64.wrap ((num bs k j : Int) * 2 ^ (8 - (k + j) % 8))) (IntKind.u64.wrap ((bs[(k + j) / 8]?.getD 0).toNat : Int) % 2 ^ (8 - (k + j) % 8)) = ((num bs k (j + (8 - (k + j) % 8)) : Nat) : Int) := by
  have := load_end bs k j (8 - (k + j) % 8) (by omega) hj
  rw [← this, Nat.sub_self]
  simp

/-- what span tells: the sum of the widths, or nothing -/
def spanOf (l : List Int) : Option Int := if l.all (fun n => decide (0 ≤ n ∧ n ≤ 64)) then some l.sum else none
theorem spanOf_bad (l : List Int) (k : Nat) (hk : k < l.length) (h : ¬ (0 ≤ l.getD k 0 ∧ l.getD k 0 ≤ 64)) : spanOf l = none := by
  unfold spanOf
  rw [if_neg]
  intro ha
  rw [List.all_eq_true] at ha
  have := ha l[k] (List.getElem_mem hk)
  have e : l.getD k 0 = l[k] := by simp [hk]
  rw [e] at h
  exact h (by simpa using this)
theorem spanOf_ok (l : List Int) (h : ∀ i, i < l.length → 0 ≤ l.getD i 0 ∧ l.getD i 0 ≤ 64) : spanOf l = some l.sum := by
  unfold spanOf
  rw [if_pos]
  rw [List.all_eq_true]
  intro x hx
  obtain ⟨i, hi, rfl⟩ := List.getElem_of_mem hx
  have e : l.getD i 0 = l[i] := by simp [hi]
  have := h i hi
  rw [e] at this
  simpa using this
theorem sum_take (l : List Int) (k : Nat) (hk : k < l.length) : (l.take (k + 1)).sum = (l.take k).sum + l.getD k 0 := by
  have e : l.getD k 0 = l[k] := by simp [hk]
  rw [e, List.take_succ_eq_append_getElem hk, List.sum_append]; simp
end Go.Proofs.YtdpaofedepnnbaaGreat
