/-
  Plain lists: what Unpack gives is what Pack takes. Lemmas only, no claim of their own.
-/
import Derived.Test.YtdpaofedepnnbaaGreatRefMath
namespace Go.Proofs.YtdpaofedepnnbaaGreat
set_option linter.unusedVariables false
set_option linter.unusedSimpArgs false

/-- what Unpack takes -/
def UnpOk (l : List Int) (bs : List UInt8) : Prop := (spanOf l).isSome ∧ bs.length = ((nat l).sum + 7) / 8 ∧ num bs (nat l).sum (8 * bs.length - (nat l).sum) = 0
/-- what it gives, the first i of them -/
def IsUnpTo (l : List Int) (bs : List UInt8) (vs : List Nat) (i : Nat) : Prop := vs.length = l.length ∧ ∀ j, j < i → vs.getD j 0 = num bs ((nat l).take j).sum (l.getD j 0).toNat
def IsUnp (l : List Int) (bs : List UInt8) (vs : List Nat) : Prop := IsUnpTo l bs vs l.length
theorem setN_getD (vs : List Nat) (i j x : Nat) (hi : i < vs.length) : (vs.set i x).getD j 0 = if i = j then x else vs.getD j 0 := by
  simp only [List.getD, List.getElem?_set]
  by_cases h : i = j
  · subst h; simp [hi]
  · simp [h]
theorem IsUnpTo.step {l : List Int} {bs : List UInt8} {vs : List Nat} {i : Nat} (h : IsUnpTo l bs vs i) (hi : i < l.length) : IsUnpTo l bs (vs.set i (num bs ((nat l).take i).sum (l.getD i 0).toNat)) (i + 1) := by
  refine ⟨by simpa using h.1, fun j hj => ?_⟩
  rw [setN_getD _ _ _ _ (by rw [h.1]; exact hi)]
  by_cases e : i = j
  · rw [if_pos e, e]
  · rw [if_neg e]; exact h.2 j (by omega)
theorem IsUnp.unique {l : List Int} {bs : List UInt8} {a b : List Nat} (ha : IsUnp l bs a) (hb : IsUnp l bs b) : a = b := by
  apply List.ext_getElem (ha.1.trans hb.1.symm)
  intro i h1 h2
  have e1 := ha.2 i (by rw [← ha.1]; exact h1)
  have e2 := hb.2 i (by rw [← ha.1]; exact h1)
  rw [← e2] at e1
  simpa [List.getD, h1, h2] using e1

/-- the first i of them, as a list of its own -/
def unpL (l : List Int) (bs : List UInt8) (i : Nat) : List Nat := (List.range i).map fun j => num bs ((nat l).take j).sum (l.getD j 0).toNat
@[simp] theorem unpL_length (l : List Int) (bs : List UInt8) (i : Nat) : (unpL l bs i).length = i := by simp [unpL]
theorem unpL_succ (l : List Int) (bs : List UInt8) (i : Nat) : unpL l bs (i + 1) = unpL l bs i ++ [num bs ((nat l).take i).sum (l.getD i 0).toNat] := by simp [unpL, List.range_succ]
theorem unpL_is (l : List Int) (bs : List UInt8) : IsUnp l bs (unpL l bs l.length) := by
  refine ⟨by simp, fun j hj => ?_⟩
  simp [unpL, List.getD, hj]
theorem unpL_lt (l : List Int) (bs : List UInt8) (n i : Nat) (h : ∀ i, i < n → 0 ≤ l.getD i 0 ∧ l.getD i 0 ≤ 64) : (unpL l bs n).getD i 0 < 18446744073709551616 := by
  by_cases hi : i < n
  · have e : (unpL l bs n).getD i 0 = num bs ((nat l).take i).sum (l.getD i 0).toNat := by simp [unpL, List.getD, hi]
    rw [e]
    have h1 := num_lt bs ((nat l).take i).sum (l.getD i 0).toNat
    have h2 := pow_le_64 (n := (l.getD i 0).toNat) (by have := h i hi; omega)
    omega
  · have e : (unpL l bs n).getD i 0 = 0 := by simp [List.getD]; rw [List.getElem?_eq_none (by simp; omega)]; rfl
    rw [e]; omega
theorem dig_nm (f : Nat → Bool) (n : Nat) : dig (nm f n) n = (List.range n).map f := by
  unfold dig
  apply List.map_congr_left
  intro i hi
  rw [List.mem_range] at hi
  rw [nm_bit, decide_eq_true (by omega), Bool.true_and]
  congr 1
  omega
theorem rowB_take_add (bs : List UInt8) (s n : Nat) (h : s + n ≤ 8 * bs.length) : (rowB bs).take (s + n) = (rowB bs).take s ++ (List.range n).map fun j => bitB bs (s + j) := by
  apply List.ext_getElem
  · simp; omega
  · intro i h1 h2
    rw [List.length_take, rowB_length] at h1
    by_cases c : i < s
    · rw [List.getElem_append_left (by rw [List.length_take, rowB_length]; omega)]
      simp
    · rw [List.getElem_append_right (by rw [List.length_take, rowB_length]; omega)]
      simp only [List.length_take, rowB_length, List.getElem_take, List.getElem_map, List.getElem_range]
      unfold rowB
      simp only [List.getElem_map, List.getElem_range]
      congr 1
      omega
theorem unp_row {l : List Int} {bs : List UInt8} {vs : List Nat} (h : IsUnp l bs vs) (hs : (nat l).sum ≤ 8 * bs.length) : ∀ i, i ≤ l.length → packB ((nat l).take i) (vs.take i) = (rowB bs).take ((nat l).take i).sum := by
  intro i
  induction i with
  | zero => intro _; simp [packB]
  | succ i ih =>
    intro hi
    have h1 := h.1
    have hst := sum_take_nat (nat l) i (by simp; omega)
    have hle := sum_take_le (nat l) (i + 1)
    rw [packB_take _ _ _ (by simp; omega) (by omega), ih (by omega), hst, nat_getD] at *
    rw [rowB_take_add _ _ _ (by omega), h.2 i (by omega), num_nm, dig_nm]
theorem num_zero (bs : List UInt8) (k n : Nat) : num bs k n = 0 ↔ ∀ j, j < n → bitB bs (k + j) = false := by
  rw [num_nm]
  constructor
  · intro h j hj
    have := nm_bit (fun j => bitB bs (k + j)) n (n - 1 - j)
    rw [h, decide_eq_true (by omega), show n - 1 - (n - 1 - j) = j from by omega] at this
    simpa using this.symm
  · intro h
    apply Nat.eq_of_testBit_eq
    intro i
    rw [nm_bit]
    by_cases hi : i < n
    · rw [h _ (by omega)]; simp
    · rw [decide_eq_false hi]; simp
theorem isPack_self {l : List Int} {bs : List UInt8} {vs : List Nat} (hok : UnpOk l bs) (h : IsUnp l bs vs) : IsPack l vs bs := by
  obtain ⟨_, hlen, hz⟩ := hok
  have hs : (nat l).sum ≤ 8 * bs.length := by omega
  refine ⟨hlen, fun m hm => ?_⟩
  have hr := unp_row h hs l.length (Nat.le_refl _)
  have h1 := h.1
  rw [List.take_of_length_le (by simp), List.take_of_length_le (by omega)] at hr
  rw [hr]
  by_cases c : m < (nat l).sum
  · have : ((rowB bs).take (nat l).sum).getD m false = (rowB bs).getD m false := by simp [List.getD, List.getElem?_take, c]
    rw [this, rowB_getD, if_pos hm]
  · have e : ((rowB bs).take (nat l).sum).getD m false = false := by simp only [List.getD]; rw [List.getElem?_eq_none (by rw [List.length_take, rowB_length]; omega)]; rfl
    rw [e]
    have := (num_zero _ _ _).1 hz (m - (nat l).sum) (by omega)
    rwa [show (nat l).sum + (m - (nat l).sum) = m from by omega] at this
theorem packOk_unp {l : List Int} {bs : List UInt8} {vs : List Nat} (hs : (spanOf l).isSome) (h : IsUnp l bs vs) : PackOk l vs :=
  ⟨hs, h.1.symm, fun i hi => by rw [h.2 i hi]; exact num_lt _ _ _⟩
theorem unpOk_of {l : List Int} {bs : List UInt8} {vs : List Nat} (hs : (spanOf l).isSome) (hlv : l.length = vs.length) (h : IsPack l vs bs) : UnpOk l bs := by
  refine ⟨hs, h.1, (num_zero _ _ _).2 fun j hj => ?_⟩
  have hpl := packB_length (nat l) vs (by simpa using hlv)
  have := h.2 ((nat l).sum + j) (by omega)
  rw [this]
  simp only [List.getD]
  rw [List.getElem?_eq_none (by omega)]
  rfl
theorem packB_split (ns vs : List Nat) (i : Nat) (h : ns.length = vs.length) : packB ns vs = packB (ns.take i) (vs.take i) ++ packB (ns.drop i) (vs.drop i) := by
  induction ns generalizing vs i with
  | nil => simp [packB]
  | cons n ns ih =>
    cases vs with
    | nil => simp at h
    | cons v vs =>
      cases i with
      | zero => simp [packB]
      | succ i =>
        simp only [List.take_succ_cons, List.drop_succ_cons, packB, List.append_assoc]
        rw [← ih vs i (by simpa using h)]
theorem packB_at (ns vs : List Nat) (i j : Nat) (h : ns.length = vs.length) (hi : i < ns.length) (hj : j < ns.getD i 0) : (packB ns vs).getD ((ns.take i).sum + j) false = (dig (vs.getD i 0) (ns.getD i 0)).getD j false := by
  rw [packB_split ns vs (i + 1) h, packB_take ns vs i hi (by omega)]
  have hl := packB_length (ns.take i) (vs.take i) (by simp; omega)
  rw [List.append_assoc, getD_right _ _ _ _ (by omega), hl, getD_left _ _ _ _ (by rw [dig_length]; omega)]
  congr 1
  omega
theorem isUnp_of_pack {l : List Int} {vs : List Nat} {cs : List UInt8} (hok : PackOk l vs) (h : IsPack l vs cs) : IsUnp l cs vs := by
  obtain ⟨hs, hlen, hfit⟩ := hok
  refine ⟨hlen.symm, fun i hi => ?_⟩
  have hsl := sum_take_nat (nat l) i (by simpa using hi)
  have hle := sum_take_le (nat l) (i + 1)
  rw [nat_getD] at hsl
  have e := nm_congr (fun j => bitB cs (((nat l).take i).sum + j)) (fun j => (dig (vs.getD i 0) (l.getD i 0).toNat).getD j false) (l.getD i 0).toNat (fun j hj => by
    have := packB_at (nat l) vs i j (by simpa using hlen) (by simpa using hi) (by rw [nat_getD]; exact hj)
    rw [nat_getD] at this
    have h2 := h.2 (((nat l).take i).sum + j) (by have := h.1; omega)
    exact h2.trans this)
  rw [num_nm, e, nm_dig, Nat.mod_eq_of_lt (hfit i hi)]
theorem not_unpOk_more {l : List Int} {vs : List Nat} {cs : List UInt8} (h : IsPack l vs cs) : ¬ UnpOk l (cs ++ [0]) := by
  intro hu
  have h1 := hu.2.1
  have h2 := h.1
  rw [List.length_append] at h1
  simp only [List.length_cons, List.length_nil] at h1
  omega
end Go.Proofs.YtdpaofedepnnbaaGreat
