/-
  Plain lists: numbers of given widths, one after the other. Lemmas only, no claim of their own.
-/
import Derived.Test.YtdpaofedepnnbaaGreatPut
namespace Go.Proofs.YtdpaofedepnnbaaGreat
set_option linter.unusedVariables false
set_option linter.unusedSimpArgs false

theorem getD_left {α : Type} (a b : List α) (d : α) (i : Nat) (h : i < a.length) : (a ++ b).getD i d = a.getD i d := by
  simp [List.getD, List.getElem?_append_left h]
theorem getD_right {α : Type} (a b : List α) (d : α) (i : Nat) (h : a.length ≤ i) : (a ++ b).getD i d = b.getD (i - a.length) d := by
  simp [List.getD, List.getElem?_append_right h]
/-- the lowest n bits, the highest first -/
def dig (v n : Nat) : List Bool := (List.range n).map fun i => v.testBit (n - 1 - i)
@[simp] theorem dig_length (v n : Nat) : (dig v n).length = n := by simp [dig]
theorem dig_getD (v n i : Nat) (h : i < n) : (dig v n).getD i false = v.testBit (n - 1 - i) := by
  simp [dig, List.getD, h]
def packB : List Nat → List Nat → List Bool
  | n :: ns, v :: vs => dig v n ++ packB ns vs
  | _, _ => []
theorem packB_length (ns vs : List Nat) (h : ns.length = vs.length) : (packB ns vs).length = ns.sum := by
  induction ns generalizing vs with
  | nil => simp [packB]
  | cons n ns ih =>
    cases vs with
    | nil => simp at h
    | cons v vs => simp [packB, ih vs (by simpa using h)]
theorem packB_take (ns vs : List Nat) (i : Nat) (h1 : i < ns.length) (h2 : i < vs.length) : packB (ns.take (i + 1)) (vs.take (i + 1)) = packB (ns.take i) (vs.take i) ++ dig (vs.getD i 0) (ns.getD i 0) := by
  induction ns generalizing vs i with
  | nil => simp at h1
  | cons n ns ih =>
    cases vs with
    | nil => simp at h2
    | cons v vs =>
      cases i with
      | zero => simp [packB, List.getD]
      | succ i =>
        have := ih vs i (by simpa using h1) (by simpa using h2)
        simp only [List.take_succ_cons, packB, this, List.append_assoc]
        simp [List.getD]
theorem sum_take_nat (l : List Nat) (k : Nat) (hk : k < l.length) : (l.take (k + 1)).sum = (l.take k).sum + l.getD k 0 := by
  have e : l.getD k 0 = l[k] := by simp [hk]
  rw [e, List.take_succ_eq_append_getElem hk, List.sum_append]; simp
theorem sum_take_le (l : List Nat) (k : Nat) : (l.take k).sum ≤ l.sum := by
  conv => rhs; rw [← List.take_append_drop k l]
  rw [List.sum_append]; omega

/-- all bits of bytes -/
def rowB (bs : List UInt8) : List Bool := (List.range (8 * bs.length)).map (bitB bs)
@[simp] theorem rowB_length (bs : List UInt8) : (rowB bs).length = 8 * bs.length := by simp [rowB]
theorem rowB_getD (bs : List UInt8) (i : Nat) : (rowB bs).getD i false = if i < 8 * bs.length then bitB bs i else false := by
  unfold rowB
  by_cases h : i < 8 * bs.length <;> simp [List.getD, h]
theorem byte_ext (x y : UInt8) (h : ∀ q, q < 8 → x.toNat.testBit q = y.toNat.testBit q) : x = y := by
  apply UInt8.toNat_inj.1
  apply Nat.eq_of_testBit_eq
  intro q
  by_cases hq : q < 8
  · exact h q hq
  · have h8 : (2 : Nat) ^ 8 ≤ 2 ^ q := Nat.pow_le_pow_right (by omega) (by omega)
    rw [Nat.testBit_lt_two_pow (Nat.lt_of_lt_of_le x.toNat_lt h8), Nat.testBit_lt_two_pow (Nat.lt_of_lt_of_le y.toNat_lt h8)]
/-- bits tell the bytes -/
theorem bytes_ext (a b : List UInt8) (hl : a.length = b.length) (h : ∀ m, m < 8 * a.length → bitB a m = bitB b m) : a = b := by
  apply List.ext_getElem hl
  intro i h1 h2
  apply byte_ext
  intro q hq
  have := h (8 * i + (7 - q)) (by omega)
  unfold bitB at this
  rw [show (8 * i + (7 - q)) / 8 = i from by omega, show 7 - (8 * i + (7 - q)) % 8 = q from by omega] at this
  simpa [List.getD, h1, h2] using this

/-- the widths as numbers -/
def nat (l : List Int) : List Nat := l.map Int.toNat
@[simp] theorem nat_length (l : List Int) : (nat l).length = l.length := by simp [nat]
theorem nat_getD (l : List Int) (i : Nat) : (nat l).getD i 0 = (l.getD i 0).toNat := by
  unfold nat
  by_cases h : i < l.length <;> simp [List.getD, h]
theorem spanOf_some {l : List Int} {t : Int} (h : spanOf l = some t) : (∀ i, i < l.length → 0 ≤ l.getD i 0 ∧ l.getD i 0 ≤ 64) ∧ t = ((nat l).sum : Int) := by
  unfold spanOf at h
  split at h
  · rename_i ha
    rw [List.all_eq_true] at ha
    refine ⟨fun i hi => ?_, ?_⟩
    · have := ha l[i] (List.getElem_mem hi)
      have e : l.getD i 0 = l[i] := by simp [hi]
      rw [e]; simpa using this
    · injection h with h
      rw [← h]
      clear h
      induction l with
      | nil => simp [nat]
      | cons x r ih =>
        have hx := ha x (by simp)
        simp only [decide_eq_true_eq] at hx
        have := ih (fun y hy => ha y (by simp [hy]))
        simp only [List.sum_cons, nat, List.map_cons] at *
        omega
  · cases h
theorem nat_sum_le (l : List Int) (h : ∀ i, i < l.length → 0 ≤ l.getD i 0 ∧ l.getD i 0 ≤ 64) : (nat l).sum ≤ 64 * l.length := by
  induction l with
  | nil => simp [nat]
  | cons x r ih =>
    have h0 := h 0 (by simp)
    have := ih (fun i hi => by simpa [List.getD] using h (i + 1) (by simp; omega))
    simp only [nat, List.map_cons, List.sum_cons, List.length_cons, List.getD_cons_zero] at *
    omega
/-- what Pack takes -/
def PackOk (l : List Int) (vs : List Nat) : Prop := (spanOf l).isSome ∧ l.length = vs.length ∧ ∀ i, i < l.length → vs.getD i 0 < 2 ^ (l.getD i 0).toNat
/-- what Pack makes -/
def IsPack (l : List Int) (vs : List Nat) (cs : List UInt8) : Prop := cs.length = ((nat l).sum + 7) / 8 ∧ ∀ m, m < 8 * cs.length → bitB cs m = (packB (nat l) vs).getD m false
theorem IsPack.unique {l : List Int} {vs : List Nat} {a b : List UInt8} (ha : IsPack l vs a) (hb : IsPack l vs b) : a = b :=
  bytes_ext a b (ha.1.trans hb.1.symm) fun m hm => by rw [ha.2 m hm, hb.2 m (by have := ha.1; have := hb.1; omega)]
def IsPackTo (l : List Int) (vs : List Nat) (cs : List UInt8) (i : Nat) : Prop := cs.length = ((nat l).sum + 7) / 8 ∧ ∀ m, m < 8 * cs.length → bitB cs m = (packB ((nat l).take i) (vs.take i)).getD m false
theorem zeros_bit (n m : Nat) : bitB (List.replicate n 0) m = false := by
  unfold bitB
  have : (List.replicate n (0 : UInt8)).getD (m / 8) 0 = 0 := by
    by_cases h : m / 8 < n <;> simp [List.getD, h]
  rw [this]; simp
theorem IsPackTo.start (l : List Int) (vs : List Nat) : IsPackTo l vs (List.replicate (((nat l).sum + 7) / 8) 0) 0 := ⟨by simp, fun m _ => by rw [zeros_bit]; simp [packB]⟩
theorem IsPackTo.stop {l : List Int} {vs : List Nat} {cs : List UInt8} (hl : l.length = vs.length) (h : IsPackTo l vs cs l.length) : IsPack l vs cs := by
  refine ⟨h.1, fun m hm => ?_⟩
  rw [h.2 m hm, List.take_of_length_le (by simp), List.take_of_length_le (by omega)]
theorem IsPackTo.step {l : List Int} {vs : List Nat} {cs ds : List UInt8} {i : Nat} (h : IsPackTo l vs cs i) (hl : l.length = vs.length) (hi : i < l.length)
    (hp : IsPut cs ds ((nat l).take i).sum (l.getD i 0).toNat (vs.getD i 0)) : IsPackTo l vs ds (i + 1) := by
  refine ⟨hp.1.trans h.1, fun m hm => ?_⟩
  have hm' : m < 8 * cs.length := by have := hp.1; omega
  rw [hp.2 m hm', packB_take _ _ _ (by simpa using hi) (by omega), nat_getD]
  have hlen : (packB ((nat l).take i) (vs.take i)).length = ((nat l).take i).sum := packB_length _ _ (by simp; omega)
  have h2 := h.2 m hm'
  by_cases c : ((nat l).take i).sum ≤ m ∧ m < ((nat l).take i).sum + (l.getD i 0).toNat
  · rw [if_pos c, getD_right _ _ _ _ (by omega), hlen, dig_getD _ _ _ (by omega)]
  · rw [if_neg c, h2]
    by_cases c2 : m < ((nat l).take i).sum
    · rw [getD_left _ _ _ _ (by omega)]
    · rw [getD_right _ _ _ _ (by omega), hlen]
      generalize (l.getD i 0).toNat = N at *
      simp only [List.getD]
      rw [List.getElem?_eq_none (by omega), List.getElem?_eq_none (by rw [dig_length]; omega)]
end Go.Proofs.YtdpaofedepnnbaaGreat
