/-
  Plain arithmetic for the document's answers on bits: numbers out of bits, bytes out of bits. Lemmas only, no claim of their own.
-/
import Derived.Test.YtdpaofedepnnbaaGreatPackMath
namespace Go.Proofs.YtdpaofedepnnbaaGreat
set_option linter.unusedVariables false
set_option linter.unusedSimpArgs false

/-- a bit as a number -/
def bi (b : Bool) : Int := if b then 1 else 0
def bn (l : List Bool) : List Int := l.map bi
@[simp] theorem bn_length (l : List Bool) : (bn l).length = l.length := by simp [bn]
theorem bn_getD (l : List Bool) (i : Nat) : (bn l).getD i 0 = bi (l.getD i false) := by
  unfold bn
  by_cases h : i < l.length
  · simp [List.getD, h]
  · simp [List.getD, h, bi]
theorem bn_append (a b : List Bool) : bn (a ++ b) = bn a ++ bn b := by simp [bn]
theorem bi_toNat (b : Bool) : bi b = ((b.toNat : Nat) : Int) := by cases b <;> rfl
theorem bi_range (b : Bool) : 0 ≤ bi b ∧ bi b ≤ 1 := by cases b <;> simp [bi]

/-- the number whose bits are f 0, f 1, .. from the highest on -/
def nm (f : Nat → Bool) : Nat → Nat
  | 0 => 0
  | n + 1 => 2 * nm f n + (f n).toNat
theorem toNat_le (b : Bool) : b.toNat ≤ 1 := by cases b <;> simp
theorem nm_lt (f : Nat → Bool) (n : Nat) : nm f n < 2 ^ n := by
  induction n with
  | zero => simp [nm]
  | succ n ih => have := toNat_le (f n); simp only [nm]; rw [Nat.pow_succ]; omega
theorem nm_congr (f g : Nat → Bool) (n : Nat) (h : ∀ i, i < n → f i = g i) : nm f n = nm g n := by
  induction n with
  | zero => rfl
  | succ n ih => simp only [nm]; rw [ih (fun i hi => h i (by omega)), h n (by omega)]
theorem nm_bit (f : Nat → Bool) (n j : Nat) : (nm f n).testBit j = (decide (j < n) && f (n - 1 - j)) := by
  induction n generalizing j with
  | zero => simp [nm]
  | succ n ih =>
    simp only [nm]
    cases j with
    | zero =>
      rw [Nat.testBit_zero]
      cases hf : f n <;> simp [hf] <;> omega
    | succ j =>
      have e : (2 * nm f n + (f n).toNat) / 2 = nm f n := by have := toNat_le (f n); omega
      rw [Nat.testBit_succ, e, ih j, show n + 1 - 1 - (j + 1) = n - 1 - j from by omega]
      congr 1
      simp
theorem num_nm (bs : List UInt8) (k n : Nat) : num bs k n = nm (fun j => bitB bs (k + j)) n := by
  induction n with
  | zero => rfl
  | succ n ih => simp only [num, nm]; rw [ih, bit_bitB]
theorem dig_succ (v n : Nat) : dig v (n + 1) = v.testBit n :: dig v n := by
  unfold dig
  rw [List.range_succ_eq_map, List.map_cons, List.map_map]
  congr 1
  apply List.map_congr_left
  intro i _
  simp only [Function.comp]
  congr 1
  omega
theorem nm_dig (v n : Nat) : nm (fun j => (dig v n).getD j false) n = v % 2 ^ n := by
  apply Nat.eq_of_testBit_eq
  intro i
  rw [nm_bit, Nat.testBit_mod_two_pow]
  by_cases h : i < n
  · rw [dig_getD _ _ _ (by omega), decide_eq_true h, show n - 1 - (n - 1 - i) = i from by omega]
  · rw [decide_eq_false h]; simp

theorem u8_ofNat (N : Nat) (h : N < 256) : (UInt8.ofNat N).toNat = N := by simp; omega
/-- bytes whose bits are the list's, filled up with 0 -/
def IsBytes (l : List Bool) (cs : List UInt8) : Prop := cs.length = (l.length + 7) / 8 ∧ ∀ m, m < 8 * cs.length → bitB cs m = l.getD m false
theorem IsBytes.unique {l : List Bool} {a b : List UInt8} (ha : IsBytes l a) (hb : IsBytes l b) : a = b :=
  bytes_ext a b (ha.1.trans hb.1.symm) fun m hm => by rw [ha.2 m hm, hb.2 m (by have := ha.1; have := hb.1; omega)]
/-- on the way: i bytes -/
def IsBytesTo (l : List Bool) (cs : List UInt8) (i : Nat) : Prop := cs.length = i ∧ ∀ m, m < 8 * i → bitB cs m = l.getD m false
theorem IsBytesTo.start (l : List Bool) : IsBytesTo l [] 0 := ⟨rfl, by omega⟩
theorem IsBytesTo.step {l : List Bool} {cs : List UInt8} {i : Nat} (h : IsBytesTo l cs i) : IsBytesTo l (cs ++ [UInt8.ofNat (nm (fun j => l.getD (8 * i + j) false) 8)]) (i + 1) := by
  obtain ⟨h1, h2⟩ := h
  refine ⟨by simp [h1], fun m hm => ?_⟩
  unfold bitB
  by_cases c : m < 8 * i
  · rw [getD_left _ _ _ _ (by omega)]
    exact h2 m c
  · rw [getD_right _ _ _ _ (by omega), show m / 8 - cs.length = 0 from by omega]
    have hlt := nm_lt (fun j => l.getD (8 * i + j) false) 8
    have e : (UInt8.ofNat (nm (fun j => l.getD (8 * i + j) false) 8)).toNat = nm (fun j => l.getD (8 * i + j) false) 8 := u8_ofNat _ (by omega)
    rw [List.getD_cons_zero, e, nm_bit, decide_eq_true (by omega), Bool.true_and]
    congr 1
    omega
theorem IsBytesTo.stop {l : List Bool} {cs : List UInt8} {i : Nat} (h : IsBytesTo l cs i) (hi : i = (l.length + 7) / 8) : IsBytes l cs := by
  subst hi
  exact ⟨h.1, fun m hm => h.2 m (by rw [h.1] at hm; exact hm)⟩
theorem take_rowB (bs : List UInt8) (k : Nat) (hk : k < 8 * bs.length) : (rowB bs).take (k + 1) = (rowB bs).take k ++ [bitB bs k] := by
  rw [List.take_succ_eq_append_getElem (by simpa using hk)]
  simp [rowB]
/-- what Put of the document makes -/
theorem isPut_of_bytes {bs cs : List UInt8} {k n v : Nat} (hk : k + n ≤ 8 * bs.length) (h : IsBytes ((rowB bs).take k ++ dig v n ++ (rowB bs).drop (k + n)) cs) : IsPut bs cs k n v := by
  obtain ⟨h1, h2⟩ := h
  have hl : ((rowB bs).take k ++ dig v n ++ (rowB bs).drop (k + n)).length = 8 * bs.length := by
    simp only [List.length_append, List.length_take, List.length_drop, rowB_length, dig_length]; omega
  rw [hl] at h1
  have hc : cs.length = bs.length := by omega
  refine ⟨hc, fun m hm => ?_⟩
  rw [h2 m (by omega)]
  have ht : ((rowB bs).take k).length = k := by rw [List.length_take, rowB_length]; omega
  by_cases c1 : m < k
  · rw [if_neg (by omega), List.append_assoc, getD_left _ _ _ _ (by omega)]
    have : ((rowB bs).take k).getD m false = (rowB bs).getD m false := by simp [List.getD, List.getElem?_take, c1]
    rw [this, rowB_getD, if_pos hm]
  · by_cases c2 : m < k + n
    · rw [if_pos (by omega), List.append_assoc, getD_right _ _ _ _ (by omega), ht, getD_left _ _ _ _ (by rw [dig_length]; omega), dig_getD _ _ _ (by omega)]
    · have hl2 : ((rowB bs).take k ++ dig v n).length = k + n := by rw [List.length_append, ht, dig_length]
      rw [if_neg (by omega), getD_right _ _ _ _ (by omega), hl2]
      have : ((rowB bs).drop (k + n)).getD (m - (k + n)) false = (rowB bs).getD m false := by
        simp only [List.getD, List.getElem?_drop]
        rw [show k + n + (m - (k + n)) = m from by omega]
      rw [this, rowB_getD, if_pos hm]
theorem IsPut.unique {bs a b : List UInt8} {k n v : Nat} (ha : IsPut bs a k n v) (hb : IsPut bs b k n v) : a = b :=
  bytes_ext a b (ha.1.trans hb.1.symm) fun m hm => by rw [ha.2 m (by have := ha.1; omega), hb.2 m (by have := ha.1; omega)]
theorem isPack_of_bytes {l : List Int} {vs : List Nat} {cs : List UInt8} (hl : l.length = vs.length) (h : IsBytes (packB (nat l) vs) cs) : IsPack l vs cs := by
  have := packB_length (nat l) vs (by simpa using hl)
  exact ⟨by rw [← this]; exact h.1, h.2⟩
end Go.Proofs.YtdpaofedepnnbaaGreat
