/-
  store, Put of package bits by their contracts.
-/
import Derived.Test.YtdblplkaobeimaaGc1
namespace Go.Proofs.Ytdblplkaobeimaa
set_option linter.unusedVariables false
set_option linter.unusedSimpArgs false
open Go.RowKit Go.Deep

theorem made_u8s (n : Nat) : madeCells #[.int .u8 0] n = (u8s (List.replicate n 0)).toArray := by
  apply Array.ext
  · simp [size_madeCells, u8s]
  · intro i h1 h2
    simp [madeCells, u8s, Nat.mod_one]
theorem own_made (w : World) (n : Nat) : Own (w.alloc (.cells (madeCells #[.int .u8 0] n) 5)) w.heap.size 5 (u8s (List.replicate n 0)) := by
  rw [made_u8s]
  exact Own.new w 5 _
theorem Try.info_u8 : (Try.prog.info? 5).map (fun i => (i.zero, i.size, i.bytes)) = some (some (.int .u8 0), 1, 1) := by kernel_rfl
theorem Try.size_u8 : (Try.prog.info? 5).map (·.size) = some 1 := by kernel_rfl
theorem u8s_oneCell (bs : List UInt8) : ∀ v ∈ u8s bs, v.oneCell' = true := by
  intro v hv
  simp only [u8s, List.mem_map] at hv
  obtain ⟨x, _, rfl⟩ := hv
  rfl
theorem splice_all (cur cs : List Value) (h : cur.length = cs.length) : splice cur 0 cs = cs := by
  unfold splice
  simp [← h]
theorem Ro.src {w : World} {B : Nat} {a : Option Addr} {vs : List Value} (h : Ro w B a vs) (h0 : 0 < vs.length) : ∃ ad, a = some ad ∧ ∀ j v, vs[j]? = some v → w.cell? (ad.add j) = some v := by
  obtain ⟨b, off, rfl, hb, hc⟩ := h.at_ (by intro e; subst e; simp at h0)
  refine ⟨_, rfl, fun j v hv => ?_⟩
  have hj : j < vs.length := (List.getElem?_eq_some_iff.1 hv).1
  have := hc j hj
  have e : (⟨b, off, none⟩ : Addr).add j = ⟨b, off + j, none⟩ := by unfold Addr.add; split <;> simp_all
  rw [e, this]
  simp [List.getD, hv]

end Go.Proofs.Ytdblplkaobeimaa
namespace Go.Proofs.Ytdblplkaobeimaa
set_option linter.unusedVariables false
set_option linter.unusedSimpArgs false

theorem getD_left {α : Type} (a b : List α) (d : α) (i : Nat) (h : i < a.length) : (a ++ b).getD i d = a.getD i d := by
  simp [List.getD, List.getElem?_append_left h]
theorem getD_right {α : Type} (a b : List α) (d : α) (i : Nat) (h : a.length ≤ i) : (a ++ b).getD i d = b.getD (i - a.length) d := by
  simp [List.getD, List.getElem?_append_right h]
/-- the lowest n bits, the highest first -/
def dig (v n : Nat) : List Bool := (List.range n).map fun i => v.testBit (n - 1 - i)
@[simp] theorem dig_length (v n : Nat) : (dig v n).length = n := by simp [dig]
theorem dig_getD (v n i : Nat) (h : i < n) : (dig v n).getD i false = v.testBit (n - 1 - i) := by
  simp [dig, List.getD, h]
def packB : List Nat → List Nat → List Bool
  | n :: ns, v :: vs => dig v n ++ packB ns vs
  | _, _ => []
theorem packB_length (ns vs : List Nat) (h : ns.length = vs.length) : (packB ns vs).length = ns.sum := by
  induction ns generalizing vs with
  | nil => simp [packB]
  | cons n ns ih =>
    cases vs with
    | nil => simp at h
    | cons v vs => simp [packB, ih vs (by simpa using h)]
theorem packB_take (ns vs : List Nat) (i : Nat) (h1 : i < ns.length) (h2 : i < vs.length) : packB (ns.take (i + 1)) (vs.take (i + 1)) = packB (ns.take i) (vs.take i) ++ dig (vs.getD i 0) (ns.getD i 0) := by
  induction ns generalizing vs i with
  | nil => simp at h1
  | cons n ns ih =>
    cases vs with
    | nil => simp at h2
    | cons v vs =>
      cases i with
      | zero => simp [packB, List.getD]
      | succ i =>
        have := ih vs i (by simpa using h1) (by simpa using h2)
        simp only [List.take_succ_cons, packB, this, List.append_assoc]
        simp [List.getD]
theorem sum_take_nat (l : List Nat) (k : Nat) (hk : k < l.length) : (l.take (k + 1)).sum = (l.take k).sum + l.getD k 0 := by
  have e : l.getD k 0 = l[k] := by simp [hk]
  rw [e, List.take_succ_eq_append_getElem hk, List.sum_append]; simp
theorem sum_take_le (l : List Nat) (k : Nat) : (l.take k).sum ≤ l.sum := by
  conv => rhs; rw [← List.take_append_drop k l]
  rw [List.sum_append]; omega

/-- all bits of bytes -/
def rowB (bs : List UInt8) : List Bool := (List.range (8 * bs.length)).map (bitB bs)
@[simp] theorem rowB_length (bs : List UInt8) : (rowB bs).length = 8 * bs.length := by simp [rowB]
theorem rowB_getD (bs : List UInt8) (i : Nat) : (rowB bs).getD i false = if i < 8 * bs.length then bitB bs i else false := by
  unfold rowB
  by_cases h : i < 8 * bs.length <;> simp [List.getD, h]
theorem byte_ext (x y : UInt8) (h : ∀ q, q < 8 → x.toNat.testBit q = y.toNat.testBit q) : x = y := by
  apply UInt8.toNat_inj.1
  apply Nat.eq_of_testBit_eq
  intro q
  by_cases hq : q < 8
  · exact h q hq
  · have h8 : (2 : Nat) ^ 8 ≤ 2 ^ q := Nat.pow_le_pow_right (by omega) (by omega)
    rw [Nat.testBit_lt_two_pow (Nat.lt_of_lt_of_le x.toNat_lt h8), Nat.testBit_lt_two_pow (Nat.lt_of_lt_of_le y.toNat_lt h8)]
/-- bits tell the bytes -/
theorem bytes_ext (a b : List UInt8) (hl : a.length = b.length) (h : ∀ m, m < 8 * a.length → bitB a m = bitB b m) : a = b := by
  apply List.ext_getElem hl
  intro i h1 h2
  apply byte_ext
  intro q hq
  have := h (8 * i + (7 - q)) (by omega)
  unfold bitB at this
  rw [show (8 * i + (7 - q)) / 8 = i from by omega, show 7 - (8 * i + (7 - q)) % 8 = q from by omega] at this
  simpa [List.getD, h1, h2] using this

/-- the widths as numbers -/
def nat (l : List Int) : List Nat := l.map Int.toNat
@[simp] theorem nat_length (l : List Int) : (nat l).length = l.length := by simp [nat]
theorem nat_getD (l : List Int) (i : Nat) : (nat l).getD i 0 = (l.getD i 0).toNat := by
  unfold nat
  by_cases h : i < l.length <;> simp [List.getD, h]
theorem spanOf_some {l : List Int} {t : Int} (h : spanOf l = some t) : (∀ i, i < l.length → 0 ≤ l.getD i 0 ∧ l.getD i 0 ≤ 64) ∧ t = ((nat l).sum : Int) := by
  unfold spanOf at h
  split at h
  · rename_i ha
    rw [List.all_eq_true] at ha
    refine ⟨fun i hi => ?_, ?_⟩
    · have := ha l[i] (List.getElem_mem hi)
      have e : l.getD i 0 = l[i] := by simp [hi]
      rw [e]; simpa using this
    · injection h with h
      rw [← h]
      clear h
      induction l with
      | nil => simp [nat]
      | cons x r ih =>
        have hx := ha x (by simp)
        simp only [decide_eq_true_eq] at hx
        have := ih (fun y hy => ha y (by simp [hy]))
        simp only [List.sum_cons, nat, List.map_cons] at *
        omega
  · cases h
theorem nat_sum_le (l : List Int) (h : ∀ i, i < l.length → 0 ≤ l.getD i 0 ∧ l.getD i 0 ≤ 64) : (nat l).sum ≤ 64 * l.length := by
  induction l with
  | nil => simp [nat]
  | cons x r ih =>
    have h0 := h 0 (by simp)
    have := ih (fun i hi => by simpa [List.getD] using h (i + 1) (by simp; omega))
    simp only [nat, List.map_cons, List.sum_cons, List.length_cons, List.getD_cons_zero] at *
    omega
/-- what Pack takes -/
def PackOk (l : List Int) (vs : List Nat) : Prop := (spanOf l).isSome ∧ l.length = vs.length ∧ ∀ i, i < l.length → vs.getD i 0 < 2 ^ (l.getD i 0).toNat
/-- what Pack makes -/
def IsPack (l : List Int) (vs : List Nat) (cs : List UInt8) : Prop := cs.length = ((nat l).sum + 7) / 8 ∧ ∀ m, m < 8 * cs.length → bitB cs m = (packB (nat l) vs).getD m false
theorem IsPack.unique {l : List Int} {vs : List Nat} {a b : List UInt8} (ha : IsPack l vs a) (hb : IsPack l vs b) : a = b :=
  bytes_ext a b (ha.1.trans hb.1.symm) fun m hm => by rw [ha.2 m hm, hb.2 m (by have := ha.1; have := hb.1; omega)]
def IsPackTo (l : List Int) (vs : List Nat) (cs : List UInt8) (i : Nat) : Prop := cs.length = ((nat l).sum + 7) / 8 ∧ ∀ m, m < 8 * cs.length → bitB cs m = (packB ((nat l).take i) (vs.take i)).getD m false
theorem zeros_bit (n m : Nat) : bitB (List.replicate n 0) m = false := by
  unfold bitB
  have : (List.replicate n (0 : UInt8)).getD (m / 8) 0 = 0 := by
    by_cases h : m / 8 < n <;> simp [List.getD, h]
  rw [this]; simp
theorem IsPackTo.start (l : List Int) (vs : List Nat) : IsPackTo l vs (List.replicate (((nat l).sum + 7) / 8) 0) 0 := ⟨by simp, fun m _ => by rw [zeros_bit]; simp [packB]⟩
theorem IsPackTo.stop {l : List Int} {vs : List Nat} {cs : List UInt8} (hl : l.length = vs.length) (h : IsPackTo l vs cs l.length) : IsPack l vs cs := by
  refine ⟨h.1, fun m hm => ?_⟩
  rw [h.2 m hm, List.take_of_length_le (by simp), List.take_of_length_le (by omega)]
theorem IsPackTo.step {l : List Int} {vs : List Nat} {cs ds : List UInt8} {i : Nat} (h : IsPackTo l vs cs i) (hl : l.length = vs.length) (hi : i < l.length)
    (hp : IsPut cs ds ((nat l).take i).sum (l.getD i 0).toNat (vs.getD i 0)) : IsPackTo l vs ds (i + 1) := by
  refine ⟨hp.1.trans h.1, fun m hm => ?_⟩
  have hm' : m < 8 * cs.length := by have := hp.1; omega
  rw [hp.2 m hm', packB_take _ _ _ (by simpa using hi) (by omega), nat_getD]
  have hlen : (packB ((nat l).take i) (vs.take i)).length = ((nat l).take i).sum := packB_length _ _ (by simp; omega)
  have h2 := h.2 m hm'
  by_cases c : ((nat l).take i).sum ≤ m ∧ m < ((nat l).take i).sum + (l.getD i 0).toNat
  · rw [if_pos c, getD_right _ _ _ _ (by omega), hlen, dig_getD _ _ _ (by omega)]
  · rw [if_neg c, h2]
    by_cases c2 : m < ((nat l).take i).sum
    · rw [getD_left _ _ _ _ (by omega)]
    · rw [getD_right _ _ _ _ (by omega), hlen]
      generalize (l.getD i 0).toNat = N at *
      simp only [List.getD]
      rw [List.getElem?_eq_none (by omega), List.getElem?_eq_none (by rw [dig_length]; omega)]
end Go.Proofs.Ytdblplkaobeimaa
namespace Go.Proofs.Ytdblplkaobeimaa
set_option linter.unusedVariables false
set_option linter.unusedSimpArgs false

/-- a bit as a number -/
def bi (b : Bool) : Int := if b then 1 else 0
def bn (l : List Bool) : List Int := l.map bi
@[simp] theorem bn_length (l : List Bool) : (bn l).length = l.length := by simp [bn]
theorem bn_getD (l : List Bool) (i : Nat) : (bn l).getD i 0 = bi (l.getD i false) := by
  unfold bn
  by_cases h : i < l.length
  · simp [List.getD, h]
  · simp [List.getD, h, bi]
theorem bn_append (a b : List Bool) : bn (a ++ b) = bn a ++ bn b := by simp [bn]
theorem bi_toNat (b : Bool) : bi b = ((b.toNat : Nat) : Int) := by cases b <;> rfl
theorem bi_range (b : Bool) : 0 ≤ bi b ∧ bi b ≤ 1 := by cases b <;> simp [bi]

/-- the number whose bits are f 0, f 1, .. from the highest on -/
def nm (f : Nat → Bool) : Nat → Nat
  | 0 => 0
  | n + 1 => 2 * nm f n + (f n).toNat
theorem toNat_le (b : Bool) : b.toNat ≤ 1 := by cases b <;> simp
theorem nm_lt (f : Nat → Bool) (n : Nat) : nm f n < 2 ^ n := by
  induction n with
  | zero => simp [nm]
  | succ n ih => have := toNat_le (f n); simp only [nm]; rw [Nat.pow_succ]; omega
theorem nm_congr (f g : Nat → Bool) (n : Nat) (h : ∀ i, i < n → f i = g i) : nm f n = nm g n := by
  induction n with
  | zero => rfl
  | succ n ih => simp only [nm]; rw [ih (fun i hi => h i (by omega)), h n (by omega)]
theorem nm_bit (f : Nat → Bool) (n j : Nat) : (nm f n).testBit j = (decide (j < n) && f (n - 1 - j)) := by
  induction n generalizing j with
  | zero => simp [nm]
  | succ n ih =>
    simp only [nm]
    cases j with
    | zero =>
      rw [Nat.testBit_zero]
      cases hf : f n <;> simp [hf] <;> omega
    | succ j =>
      have e : (2 * nm f n + (f n).toNat) / 2 = nm f n := by have := toNat_le (f n); omega
      rw [Nat.testBit_succ, e, ih j, show n + 1 - 1 - (j + 1) = n - 1 - j from by omega]
      congr 1
      simp
theorem num_nm (bs : List UInt8) (k n : Nat) : num bs k n = nm (fun j => bitB bs (k + j)) n := by
  induction n with
  | zero => rfl
  | succ n ih => simp only [num, nm]; rw [ih, bit_bitB]
theorem dig_succ (v n : Nat) : dig v (n + 1) = v.testBit n :: dig v n := by
  unfold dig
  rw [List.range_succ_eq_map, List.map_cons, List.map_map]
  congr 1
  apply List.map_congr_left
  intro i _
  simp only [Function.comp]
  congr 1
  omega
theorem nm_dig (v n : Nat) : nm (fun j => (dig v n).getD j false) n = v % 2 ^ n := by
  apply Nat.eq_of_testBit_eq
  intro i
  rw [nm_bit, Nat.testBit_mod_two_pow]
  by_cases h : i < n
  · rw [dig_getD _ _ _ (by omega), decide_eq_true h, show n - 1 - (n - 1 - i) = i from by omega]
  · rw [decide_eq_false h]; simp

theorem u8_ofNat (N : Nat) (h : N < 256) : (UInt8.ofNat N).toNat = N := by simp; omega
/-- bytes whose bits are the list's, filled up with 0 -/
def IsBytes (l : List Bool) (cs : List UInt8) : Prop := cs.length = (l.length + 7) / 8 ∧ ∀ m, m < 8 * cs.length → bitB cs m = l.getD m false
theorem IsBytes.unique {l : List Bool} {a b : List UInt8} (ha : IsBytes l a) (hb : IsBytes l b) : a = b :=
  bytes_ext a b (ha.1.trans hb.1.symm) fun m hm => by rw [ha.2 m hm, hb.2 m (by have := ha.1; have := hb.1; omega)]
/-- on the way: i bytes -/
def IsBytesTo (l : List Bool) (cs : List UInt8) (i : Nat) : Prop := cs.length = i ∧ ∀ m, m < 8 * i → bitB cs m = l.getD m false
theorem IsBytesTo.start (l : List Bool) : IsBytesTo l [] 0 := ⟨rfl, by omega⟩
theorem IsBytesTo.step {l : List Bool} {cs : List UInt8} {i : Nat} (h : IsBytesTo l cs i) : IsBytesTo l (cs ++ [UInt8.ofNat (nm (fun j => l.getD (8 * i + j) false) 8)]) (i + 1) := by
  obtain ⟨h1, h2⟩ := h
  refine ⟨by simp [h1], fun m hm => ?_⟩
  unfold bitB
  by_cases c : m < 8 * i
  · rw [getD_left _ _ _ _ (by omega)]
    exact h2 m c
  · rw [getD_right _ _ _ _ (by omega), show m / 8 - cs.length = 0 from by omega]
    have hlt := nm_lt (fun j => l.getD (8 * i + j) false) 8
    have e : (UInt8.ofNat (nm (fun j => l.getD (8 * i + j) false) 8)).toNat = nm (fun j => l.getD (8 * i + j) false) 8 := u8_ofNat _ (by omega)
    rw [List.getD_cons_zero, e, nm_bit, decide_eq_true (by omega), Bool.true_and]
    congr 1
    omega
theorem IsBytesTo.stop {l : List Bool} {cs : List UInt8} {i : Nat} (h : IsBytesTo l cs i) (hi : i = (l.length + 7) / 8) : IsBytes l cs := by
  subst hi
  exact ⟨h.1, fun m hm => h.2 m (by rw [h.1] at hm; exact hm)⟩
theorem take_rowB (bs : List UInt8) (k : Nat) (hk : k < 8 * bs.length) : (rowB bs).take (k + 1) = (rowB bs).take k ++ [bitB bs k] := by
  rw [List.take_succ_eq_append_getElem (by simpa using hk)]
  simp [rowB]
/-- what Put of the document makes -/
theorem isPut_of_bytes {bs cs : List UInt8} {k n v : Nat} (hk : k + n ≤ 8 * bs.length) (h : IsBytes ((rowB bs).take k ++ dig v n ++ (rowB bs).drop (k + n)) cs) : IsPut bs cs k n v := by
  obtain ⟨h1, h2⟩ := h
  have hl : ((rowB bs).take k ++ dig v n ++ (rowB bs).drop (k + n)).length = 8 * bs.length := by
    simp only [List.length_append, List.length_take, List.length_drop, rowB_length, dig_length]; omega
  rw [hl] at h1
  have hc : cs.length = bs.length := by omega
  refine ⟨hc, fun m hm => ?_⟩
  rw [h2 m (by omega)]
  have ht : ((rowB bs).take k).length = k := by rw [List.length_take, rowB_length]; omega
  by_cases c1 : m < k
  · rw [if_neg (by omega), List.append_assoc, getD_left _ _ _ _ (by omega)]
    have : ((rowB bs).take k).getD m false = (rowB bs).getD m false := by simp [List.getD, List.getElem?_take, c1]
    rw [this, rowB_getD, if_pos hm]
  · by_cases c2 : m < k + n
    · rw [if_pos (by omega), List.append_assoc, getD_right _ _ _ _ (by omega), ht, getD_left _ _ _ _ (by rw [dig_length]; omega), dig_getD _ _ _ (by omega)]
    · have hl2 : ((rowB bs).take k ++ dig v n).length = k + n := by rw [List.length_append, ht, dig_length]
      rw [if_neg (by omega), getD_right _ _ _ _ (by omega), hl2]
      have : ((rowB bs).drop (k + n)).getD (m - (k + n)) false = (rowB bs).getD m false := by
        simp only [List.getD, List.getElem?_drop]
        rw [show k + n + (m - (k + n)) = m from by omega]
      rw [this, rowB_getD, if_pos hm]
theorem IsPut.unique {bs a b : List UInt8} {k n v : Nat} (ha : IsPut bs a k n v) (hb : IsPut bs b k n v) : a = b :=
  bytes_ext a b (ha.1.trans hb.1.symm) fun m hm => by rw [ha.2 m (by have := ha.1; omega), hb.2 m (by have := ha.1; omega)]
theorem isPack_of_bytes {l : List Int} {vs : List Nat} {cs : List UInt8} (hl : l.length = vs.length) (h : IsBytes (packB (nat l) vs) cs) : IsPack l vs cs := by
  have := packB_length (nat l) vs (by simpa using hl)
  exact ⟨by rw [← this]; exact h.1, h.2⟩
end Go.Proofs.Ytdblplkaobeimaa
namespace Go.Proofs.Ytdblplkaobeimaa
set_option linter.unusedVariables false
set_option linter.unusedSimpArgs false

/-- what Unpack takes -/
def UnpOk (l : List Int) (bs : List UInt8) : Prop := (spanOf l).isSome ∧ bs.length = ((nat l).sum + 7) / 8 ∧ num bs (nat l).sum (8 * bs.length - (nat l).sum) = 0
/-- what it gives, the first i of them -/
def IsUnpTo (l : List Int) (bs : List UInt8) (vs : List Nat) (i : Nat) : Prop := vs.length = l.length ∧ ∀ j, j < i → vs.getD j 0 = num bs ((nat l).take j).sum (l.getD j 0).toNat
def IsUnp (l : List Int) (bs : List UInt8) (vs : List Nat) : Prop := IsUnpTo l bs vs l.length
theorem setN_getD (vs : List Nat) (i j x : Nat) (hi : i < vs.length) : (vs.set i x).getD j 0 = if i = j then x else vs.getD j 0 := by
  simp only [List.getD, List.getElem?_set]
  by_cases h : i = j
  · subst h; simp [hi]
  · simp [h]
theorem IsUnpTo.step {l : List Int} {bs : List UInt8} {vs : List Nat} {i : Nat} (h : IsUnpTo l bs vs i) (hi : i < l.length) : IsUnpTo l bs (vs.set i (num bs ((nat l).take i).sum (l.getD i 0).toNat)) (i + 1) := by
  refine ⟨by simpa using h.1, fun j hj => ?_⟩
  rw [setN_getD _ _ _ _ (by rw [h.1]; exact hi)]
  by_cases e : i = j
  · rw [if_pos e, e]
  · rw [if_neg e]; exact h.2 j (by omega)
theorem IsUnp.unique {l : List Int} {bs : List UInt8} {a b : List Nat} (ha : IsUnp l bs a) (hb : IsUnp l bs b) : a = b := by
  apply List.ext_getElem (ha.1.trans hb.1.symm)
  intro i h1 h2
  have e1 := ha.2 i (by rw [← ha.1]; exact h1)
  have e2 := hb.2 i (by rw [← ha.1]; exact h1)
  rw [← e2] at e1
  simpa [List.getD, h1, h2] using e1

/-- the first i of them, as a list of its own -/
def unpL (l : List Int) (bs : List UInt8) (i : Nat) : List Nat := (List.range i).map fun j => num bs ((nat l).take j).sum (l.getD j 0).toNat
@[simp] theorem unpL_length (l : List Int) (bs : List UInt8) (i : Nat) : (unpL l bs i).length = i := by simp [unpL]
theorem unpL_succ (l : List Int) (bs : List UInt8) (i : Nat) : unpL l bs (i + 1) = unpL l bs i ++ [num bs ((nat l).take i).sum (l.getD i 0).toNat] := by simp [unpL, List.range_succ]
theorem unpL_is (l : List Int) (bs : List UInt8) : IsUnp l bs (unpL l bs l.length) := by
  refine ⟨by simp, fun j hj => ?_⟩
  simp [unpL, List.getD, hj]
theorem unpL_lt (l : List Int) (bs : List UInt8) (n i : Nat) (h : ∀ i, i < n → 0 ≤ l.getD i 0 ∧ l.getD i 0 ≤ 64) : (unpL l bs n).getD i 0 < 18446744073709551616 := by
  by_cases hi : i < n
  · have e : (unpL l bs n).getD i 0 = num bs ((nat l).take i).sum (l.getD i 0).toNat := by simp [unpL, List.getD, hi]
    rw [e]
    have h1 := num_lt bs ((nat l).take i).sum (l.getD i 0).toNat
    have h2 := pow_le_64 (n := (l.getD i 0).toNat) (by have := h i hi; omega)
    omega
  · have e : (unpL l bs n).getD i 0 = 0 := by simp [List.getD]; rw [List.getElem?_eq_none (by simp; omega)]; rfl
    rw [e]; omega
theorem dig_nm (f : Nat → Bool) (n : Nat) : dig (nm f n) n = (List.range n).map f := by
  unfold dig
  apply List.map_congr_left
  intro i hi
  rw [List.mem_range] at hi
  rw [nm_bit, decide_eq_true (by omega), Bool.true_and]
  congr 1
  omega
theorem rowB_take_add (bs : List UInt8) (s n : Nat) (h : s + n ≤ 8 * bs.length) : (rowB bs).take (s + n) = (rowB bs).take s ++ (List.range n).map fun j => bitB bs (s + j) := by
  apply List.ext_getElem
  · simp; omega
  · intro i h1 h2
    rw [List.length_take, rowB_length] at h1
    by_cases c : i < s
    · rw [List.getElem_append_left (by rw [List.length_take, rowB_length]; omega)]
      simp
    · rw [List.getElem_append_right (by rw [List.length_take, rowB_length]; omega)]
      simp only [List.length_take, rowB_length, List.getElem_take, List.getElem_map, List.getElem_range]
      unfold rowB
      simp only [List.getElem_map, List.getElem_range]
      congr 1
      omega
theorem unp_row {l : List Int} {bs : List UInt8} {vs : List Nat} (h : IsUnp l bs vs) (hs : (nat l).sum ≤ 8 * bs.length) : ∀ i, i ≤ l.length → packB ((nat l).take i) (vs.take i) = (rowB bs).take ((nat l).take i).sum := by
  intro i
  induction i with
  | zero => intro _; simp [packB]
  | succ i ih =>
    intro hi
    have h1 := h.1
    have hst := sum_take_nat (nat l) i (by simp; omega)
    have hle := sum_take_le (nat l) (i + 1)
    rw [packB_take _ _ _ (by simp; omega) (by omega), ih (by omega), hst, nat_getD] at *
    rw [rowB_take_add _ _ _ (by omega), h.2 i (by omega), num_nm, dig_nm]
theorem num_zero (bs : List UInt8) (k n : Nat) : num bs k n = 0 ↔ ∀ j, j < n → bitB bs (k + j) = false := by
  rw [num_nm]
  constructor
  · intro h j hj
    have := nm_bit (fun j => bitB bs (k + j)) n (n - 1 - j)
    rw [h, decide_eq_true (by omega), show n - 1 - (n - 1 - j) = j from by omega] at this
    simpa using this.symm
  · intro h
    apply Nat.eq_of_testBit_eq
    intro i
    rw [nm_bit]
    by_cases hi : i < n
    · rw [h _ (by omega)]; simp
    · rw [decide_eq_false hi]; simp
theorem isPack_self {l : List Int} {bs : List UInt8} {vs : List Nat} (hok : UnpOk l bs) (h : IsUnp l bs vs) : IsPack l vs bs := by
  obtain ⟨_, hlen, hz⟩ := hok
  have hs : (nat l).sum ≤ 8 * bs.length := by omega
  refine ⟨hlen, fun m hm => ?_⟩
  have hr := unp_row h hs l.length (Nat.le_refl _)
  have h1 := h.1
  rw [List.take_of_length_le (by simp), List.take_of_length_le (by omega)] at hr
  rw [hr]
  by_cases c : m < (nat l).sum
  · have : ((rowB bs).take (nat l).sum).getD m false = (rowB bs).getD m false := by simp [List.getD, List.getElem?_take, c]
    rw [this, rowB_getD, if_pos hm]
  · have e : ((rowB bs).take (nat l).sum).getD m false = false := by simp only [List.getD]; rw [List.getElem?_eq_none (by rw [List.length_take, rowB_length]; omega)]; rfl
    rw [e]
    have := (num_zero _ _ _).1 hz (m - (nat l).sum) (by omega)
    rwa [show (nat l).sum + (m - (nat l).sum) = m from by omega] at this
theorem packOk_unp {l : List Int} {bs : List UInt8} {vs : List Nat} (hs : (spanOf l).isSome) (h : IsUnp l bs vs) : PackOk l vs :=
  ⟨hs, h.1.symm, fun i hi => by rw [h.2 i hi]; exact num_lt _ _ _⟩
theorem unpOk_of {l : List Int} {bs : List UInt8} {vs : List Nat} (hs : (spanOf l).isSome) (hlv : l.length = vs.length) (h : IsPack l vs bs) : UnpOk l bs := by
  refine ⟨hs, h.1, (num_zero _ _ _).2 fun j hj => ?_⟩
  have hpl := packB_length (nat l) vs (by simpa using hlv)
  have := h.2 ((nat l).sum + j) (by omega)
  rw [this]
  simp only [List.getD]
  rw [List.getElem?_eq_none (by omega)]
  rfl
theorem packB_split (ns vs : List Nat) (i : Nat) (h : ns.length = vs.length) : packB ns vs = packB (ns.take i) (vs.take i) ++ packB (ns.drop i) (vs.drop i) := by
  induction ns generalizing vs i with
  | nil => simp [packB]
  | cons n ns ih =>
    cases vs with
    | nil => simp at h
    | cons v vs =>
      cases i with
      | zero => simp [packB]
      | succ i =>
        simp only [List.take_succ_cons, List.drop_succ_cons, packB, List.append_assoc]
        rw [← ih vs i (by simpa using h)]
theorem packB_at (ns vs : List Nat) (i j : Nat) (h : ns.length = vs.length) (hi : i < ns.length) (hj : j < ns.getD i 0) : (packB ns vs).getD ((ns.take i).sum + j) false = (dig (vs.getD i 0) (ns.getD i 0)).getD j false := by
  rw [packB_split ns vs (i + 1) h, packB_take ns vs i hi (by omega)]
  have hl := packB_length (ns.take i) (vs.take i) (by simp; omega)
  rw [List.append_assoc, getD_right _ _ _ _ (by omega), hl, getD_left _ _ _ _ (by rw [dig_length]; omega)]
  congr 1
  omega
theorem isUnp_of_pack {l : List Int} {vs : List Nat} {cs : List UInt8} (hok : PackOk l vs) (h : IsPack l vs cs) : IsUnp l cs vs := by
  obtain ⟨hs, hlen, hfit⟩ := hok
  refine ⟨hlen.symm, fun i hi => ?_⟩
  have hsl := sum_take_nat (nat l) i (by simpa using hi)
  have hle := sum_take_le (nat l) (i + 1)
  rw [nat_getD] at hsl
  have e := nm_congr (fun j => bitB cs (((nat l).take i).sum + j)) (fun j => (dig (vs.getD i 0) (l.getD i 0).toNat).getD j false) (l.getD i 0).toNat (fun j hj => by
    have := packB_at (nat l) vs i j (by simpa using hlen) (by simpa using hi) (by rw [nat_getD]; exact hj)
    rw [nat_getD] at this
    have h2 := h.2 (((nat l).take i).sum + j) (by have := h.1; omega)
    exact h2.trans this)
  rw [num_nm, e, nm_dig, Nat.mod_eq_of_lt (hfit i hi)]
theorem not_unpOk_more {l : List Int} {vs : List Nat} {cs : List UInt8} (h : IsPack l vs cs) : ¬ UnpOk l (cs ++ [0]) := by
  intro hu
  have h1 := hu.2.1
  have h2 := h.1
  rw [List.length_append] at h1
  simp only [List.length_cons, List.length_nil] at h1
  omega
end Go.Proofs.Ytdblplkaobeimaa
namespace Go.Proofs.Ytdblplkaobeimaa
set_option linter.unusedVariables false
set_option linter.unusedSimpArgs false
open Go.RowKit Go.Deep

theorem Try.info_u64 : (Try.prog.info? 26).map (fun i => (i.zero, i.size, i.bytes)) = some (some (.int .u64 0), 1, 8) := by kernel_rfl
theorem made_u64s (n : Nat) : madeCells #[.int .u64 0] n = (u64s (List.replicate n 0)).toArray := by
  apply Array.ext
  · simp [size_madeCells, u64s]
  · intro i h1 h2
    simp [madeCells, u64s, Nat.mod_one]
theorem own_made64 (w : World) (n : Nat) : Own (w.alloc (.cells (madeCells #[.int .u64 0] n) 26)) w.heap.size 26 (u64s (List.replicate n 0)) := by
  rw [made_u64s]
  exact Own.new w 26 _

end Go.Proofs.Ytdblplkaobeimaa
namespace Go.Proofs.Ytdblplkaobeimaa
set_option linter.unusedVariables false
set_option linter.unusedSimpArgs false
open Go.RowKit Go.Deep

end Go.Proofs.Ytdblplkaobeimaa
