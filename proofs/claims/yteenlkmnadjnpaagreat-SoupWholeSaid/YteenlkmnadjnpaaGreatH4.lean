/-
  Plain arithmetic for the document's answers on bits: numbers out of bits, bytes out of bits. Lemmas only, no claim of their own.
-/
import Derived.Test.YteenlkmnadjnpaaGreatH3
import Derived.Test.YteenlkmnadjnpaaGreatH1
import Derived.Deep.RegionHeld3
namespace Go.Proofs.YteenlkmnadjnpaaGreat
set_option linter.unusedVariables false
set_option linter.unusedSimpArgs false

/-- a bit as a number -/
def bi (b : Bool) : Int := if b then 1 else 0
def bn (l : List Bool) : List Int := l.map bi
@[simp] theorem bn_length (l : List Bool) : (bn l).length = l.length := by simp [bn]
theorem bn_getD (l : List Bool) (i : Nat) : (bn l).getD i 0 = bi (l.getD i false) := by
  unfold bn
  by_cases h : i < l.length
  · simp [List.getD, h]
  · simp [List.getD, h, bi]
theorem bn_append (a b : List Bool) : bn (a ++ b) = bn a ++ bn b := by simp [bn]
theorem bi_toNat (b : Bool) : bi b = ((b.toNat : Nat) : Int) := by cases b <;> rfl
theorem bi_range (b : Bool) : 0 ≤ bi b ∧ bi b ≤ 1 := by cases b <;> simp [bi]

/-- the number whose bits are f 0, f 1, .. from the highest on -/
def nm (f : Nat → Bool) : Nat → Nat
  | 0 => 0
  | n + 1 => 2 * nm f n + (f n).toNat
theorem toNat_le (b : Bool) : b.toNat ≤ 1 := by cases b <;> simp
theorem nm_lt (f : Nat → Bool) (n : Nat) : nm f n < 2 ^ n := by
  induction n with
  | zero => simp [nm]
  | succ n ih => have := toNat_le (f n); simp only [nm]; rw [Nat.pow_succ]; omega
theorem nm_congr (f g : Nat → Bool) (n : Nat) (h : ∀ i, i < n → f i = g i) : nm f n = nm g n := by
  induction n with
  | zero => rfl
  | succ n ih => simp only [nm]; rw [ih (fun i hi => h i (by omega)), h n (by omega)]
theorem nm_bit (f : Nat → Bool) (n j : Nat) : (nm f n).testBit j = (decide (j < n) && f (n - 1 - j)) := by
  induction n generalizing j with
  | zero => simp [nm]
  | succ n ih =>
    simp only [nm]
    cases j with
    | zero =>
      rw [Nat.testBit_zero]
      cases hf : f n <;> simp [hf] <;> omega
    | succ j =>
      have e : (2 * nm f n + (f n).toNat) / 2 = nm f n := by have := toNat_le (f n); omega
      rw [Nat.testBit_succ, e, ih j, show n + 1 - 1 - (j + 1) = n - 1 - j from by omega]
      congr 1
      simp
theorem num_nm (bs : List UInt8) (k n : Nat) : num bs k n = nm (fun j => bitB bs (k + j)) n := by
  induction n with
  | zero => rfl
  | succ n ih => simp only [num, nm]; rw [ih, bit_bitB]
theorem dig_succ (v n : Nat) : dig v (n + 1) = v.testBit n :: dig v n := by
  unfold dig
  rw [List.range_succ_eq_map, List.map_cons, List.map_map]
  congr 1
  apply List.map_congr_left
  intro i _
  simp only [Function.comp]
  congr 1
  omega
theorem nm_dig (v n : Nat) : nm (fun j => (dig v n).getD j false) n = v % 2 ^ n := by
  apply Nat.eq_of_testBit_eq
  intro i
  rw [nm_bit, Nat.testBit_mod_two_pow]
  by_cases h : i < n
  · rw [dig_getD _ _ _ (by omega), decide_eq_true h, show n - 1 - (n - 1 - i) = i from by omega]
  · rw [decide_eq_false h]; simp

theorem u8_ofNat (N : Nat) (h : N < 256) : (UInt8.ofNat N).toNat = N := by simp; omega
/-- bytes whose bits are the list's, filled up with 0 -/
def IsBytes (l : List Bool) (cs : List UInt8) : Prop := cs.length = (l.length + 7) / 8 ∧ ∀ m, m < 8 * cs.length → bitB cs m = l.getD m false
theorem IsBytes.unique {l : List Bool} {a b : List UInt8} (ha : IsBytes l a) (hb : IsBytes l b) : a = b :=
  bytes_ext a b (ha.1.trans hb.1.symm) fun m hm => by rw [ha.2 m hm, hb.2 m (by have := ha.1; have := hb.1; omega)]
/-- on the way: i bytes -/
def IsBytesTo (l : List Bool) (cs : List UInt8) (i : Nat) : Prop := cs.length = i ∧ ∀ m, m < 8 * i → bitB cs m = l.getD m false
theorem IsBytesTo.start (l : List Bool) : IsBytesTo l [] 0 := ⟨rfl, by omega⟩
theorem IsBytesTo.step {l : List Bool} {cs : List UInt8} {i : Nat} (h : IsBytesTo l cs i) : IsBytesTo l (cs ++ [UInt8.ofNat (nm (fun j => l.getD (8 * i + j) false) 8)]) (i + 1) := by
  obtain ⟨h1, h2⟩ := h
  refine ⟨by simp [h1], fun m hm => ?_⟩
  unfold bitB
  by_cases c : m < 8 * i
  · rw [getD_left _ _ _ _ (by omega)]
    exact h2 m c
  · rw [getD_right _ _ _ _ (by omega), show m / 8 - cs.length = 0 from by omega]
    have hlt := nm_lt (fun j => l.getD (8 * i + j) false) 8
    have e : (UInt8.ofNat (nm (fun j => l.getD (8 * i + j) false) 8)).toNat = nm (fun j => l.getD (8 * i + j) false) 8 := u8_ofNat _ (by omega)
    rw [List.getD_cons_zero, e, nm_bit, decide_eq_true (by omega), Bool.true_and]
    congr 1
    omega
theorem IsBytesTo.stop {l : List Bool} {cs : List UInt8} {i : Nat} (h : IsBytesTo l cs i) (hi : i = (l.length + 7) / 8) : IsBytes l cs := by
  subst hi
  exact ⟨h.1, fun m hm => h.2 m (by rw [h.1] at hm; exact hm)⟩
theorem take_rowB (bs : List UInt8) (k : Nat) (hk : k < 8 * bs.length) : (rowB bs).take (k + 1) = (rowB bs).take k ++ [bitB bs k] := by
  rw [List.take_succ_eq_append_getElem (by simpa using hk)]
  simp [rowB]
/-- what Put of the document makes -/
theorem isPut_of_bytes {bs cs : List UInt8} {k n v : Nat} (hk : k + n ≤ 8 * bs.length) (h : IsBytes ((rowB bs).take k ++ dig v n ++ (rowB bs).drop (k + n)) cs) : IsPut bs cs k n v := by
  obtain ⟨h1, h2⟩ := h
  have hl : ((rowB bs).take k ++ dig v n ++ (rowB bs).drop (k + n)).length = 8 * bs.length := by
    simp only [List.length_append, List.length_take, List.length_drop, rowB_length, dig_length]; omega
  rw [hl] at h1
  have hc : cs.length = bs.length := by omega
  refine ⟨hc, fun m hm => ?_⟩
  rw [h2 m (by omega)]
  have ht : ((rowB bs).take k).length = k := by rw [List.length_take, rowB_length]; omega
  by_cases c1 : m < k
  · rw [if_neg (by omega), List.append_assoc, getD_left _ _ _ _ (by omega)]
    have : ((rowB bs).take k).getD m false = (rowB bs).getD m false := by simp [List.getD, List.getElem?_take, c1]
    rw [this, rowB_getD, if_pos hm]
  · by_cases c2 : m < k + n
    · rw [if_pos (by omega), List.append_assoc, getD_right _ _ _ _ (by omega), ht, getD_left _ _ _ _ (by rw [dig_length]; omega), dig_getD _ _ _ (by omega)]
    · have hl2 : ((rowB bs).take k ++ dig v n).length = k + n := by rw [List.length_append, ht, dig_length]
      rw [if_neg (by omega), getD_right _ _ _ _ (by omega), hl2]
      have : ((rowB bs).drop (k + n)).getD (m - (k + n)) false = (rowB bs).getD m false := by
        simp only [List.getD, List.getElem?_drop]
        rw [show k + n + (m - (k + n)) = m from by omega]
      rw [this, rowB_getD, if_pos hm]
theorem IsPut.unique {bs a b : List UInt8} {k n v : Nat} (ha : IsPut bs a k n v) (hb : IsPut bs b k n v) : a = b :=
  bytes_ext a b (ha.1.trans hb.1.symm) fun m hm => by rw [ha.2 m (by have := ha.1; omega), hb.2 m (by have := ha.1; omega)]
theorem isPack_of_bytes {l : List Int} {vs : List Nat} {cs : List UInt8} (hl : l.length = vs.length) (h : IsBytes (packB (nat l) vs) cs) : IsPack l vs cs := by
  have := packB_length (nat l) vs (by simpa using hl)
  exact ⟨by rw [← this]; exact h.1, h.2⟩
end Go.Proofs.YteenlkmnadjnpaaGreat
namespace Go.Proofs.YteenlkmnadjnpaaGreat
set_option linter.unusedVariables false
set_option linter.unusedSimpArgs false

/-- what Unpack takes -/
def UnpOk (l : List Int) (bs : List UInt8) : Prop := (spanOf l).isSome ∧ bs.length = ((nat l).sum + 7) / 8 ∧ num bs (nat l).sum (8 * bs.length - (nat l).sum) = 0
/-- what it gives, the first i of them -/
def IsUnpTo (l : List Int) (bs : List UInt8) (vs : List Nat) (i : Nat) : Prop := vs.length = l.length ∧ ∀ j, j < i → vs.getD j 0 = num bs ((nat l).take j).sum (l.getD j 0).toNat
def IsUnp (l : List Int) (bs : List UInt8) (vs : List Nat) : Prop := IsUnpTo l bs vs l.length
theorem setN_getD (vs : List Nat) (i j x : Nat) (hi : i < vs.length) : (vs.set i x).getD j 0 = if i = j then x else vs.getD j 0 := by
  simp only [List.getD, List.getElem?_set]
  by_cases h : i = j
  · subst h; simp [hi]
  · simp [h]
theorem IsUnpTo.step {l : List Int} {bs : List UInt8} {vs : List Nat} {i : Nat} (h : IsUnpTo l bs vs i) (hi : i < l.length) : IsUnpTo l bs (vs.set i (num bs ((nat l).take i).sum (l.getD i 0).toNat)) (i + 1) := by
  refine ⟨by simpa using h.1, fun j hj => ?_⟩
  rw [setN_getD _ _ _ _ (by rw [h.1]; exact hi)]
  by_cases e : i = j
  · rw [if_pos e, e]
  · rw [if_neg e]; exact h.2 j (by omega)
theorem IsUnp.unique {l : List Int} {bs : List UInt8} {a b : List Nat} (ha : IsUnp l bs a) (hb : IsUnp l bs b) : a = b := by
  apply List.ext_getElem (ha.1.trans hb.1.symm)
  intro i h1 h2
  have e1 := ha.2 i (by rw [← ha.1]; exact h1)
  have e2 := hb.2 i (by rw [← ha.1]; exact h1)
  rw [← e2] at e1
  simpa [List.getD, h1, h2] using e1

/-- the first i of them, as a list of its own -/
def unpL (l : List Int) (bs : List UInt8) (i : Nat) : List Nat := (List.range i).map fun j => num bs ((nat l).take j).sum (l.getD j 0).toNat
@[simp] theorem unpL_length (l : List Int) (bs : List UInt8) (i : Nat) : (unpL l bs i).length = i := by simp [unpL]
theorem unpL_succ (l : List Int) (bs : List UInt8) (i : Nat) : unpL l bs (i + 1) = unpL l bs i ++ [num bs ((nat l).take i).sum (l.getD i 0).toNat] := by simp [unpL, List.range_succ]
theorem unpL_is (l : List Int) (bs : List UInt8) : IsUnp l bs (unpL l bs l.length) := by
  refine ⟨by simp, fun j hj => ?_⟩
  simp [unpL, List.getD, hj]
theorem unpL_lt (l : List Int) (bs : List UInt8) (n i : Nat) (h : ∀ i, i < n → 0 ≤ l.getD i 0 ∧ l.getD i 0 ≤ 64) : (unpL l bs n).getD i 0 < 18446744073709551616 := by
  by_cases hi : i < n
  · have e : (unpL l bs n).getD i 0 = num bs ((nat l).take i).sum (l.getD i 0).toNat := by simp [unpL, List.getD, hi]
    rw [e]
    have h1 := num_lt bs ((nat l).take i).sum (l.getD i 0).toNat
    have h2 := pow_le_64 (n := (l.getD i 0).toNat) (by have := h i hi; omega)
    omega
  · have e : (unpL l bs n).getD i 0 = 0 := by simp [List.getD]; rw [List.getElem?_eq_none (by simp; omega)]; rfl
    rw [e]; omega
theorem dig_nm (f : Nat → Bool) (n : Nat) : dig (nm f n) n = (List.range n).map f := by
  unfold dig
  apply List.map_congr_left
  intro i hi
  rw [List.mem_range] at hi
  rw [nm_bit, decide_eq_true (by omega), Bool.true_and]
  congr 1
  omega
theorem rowB_take_add (bs : List UInt8) (s n : Nat) (h : s + n ≤ 8 * bs.length) : (rowB bs).take (s + n) = (rowB bs).take s ++ (List.range n).map fun j => bitB bs (s + j) := by
  apply List.ext_getElem
  · simp; omega
  · intro i h1 h2
    rw [List.length_take, rowB_length] at h1
    by_cases c : i < s
    · rw [List.getElem_append_left (by rw [List.length_take, rowB_length]; omega)]
      simp
    · rw [List.getElem_append_right (by rw [List.length_take, rowB_length]; omega)]
      simp only [List.length_take, rowB_length, List.getElem_take, List.getElem_map, List.getElem_range]
      unfold rowB
      simp only [List.getElem_map, List.getElem_range]
      congr 1
      omega
theorem unp_row {l : List Int} {bs : List UInt8} {vs : List Nat} (h : IsUnp l bs vs) (hs : (nat l).sum ≤ 8 * bs.length) : ∀ i, i ≤ l.length → packB ((nat l).take i) (vs.take i) = (rowB bs).take ((nat l).take i).sum := by
  intro i
  induction i with
  | zero => intro _; simp [packB]
  | succ i ih =>
    intro hi
    have h1 := h.1
    have hst := sum_take_nat (nat l) i (by simp; omega)
    have hle := sum_take_le (nat l) (i + 1)
    rw [packB_take _ _ _ (by simp; omega) (by omega), ih (by omega), hst, nat_getD] at *
    rw [rowB_take_add _ _ _ (by omega), h.2 i (by omega), num_nm, dig_nm]
theorem num_zero (bs : List UInt8) (k n : Nat) : num bs k n = 0 ↔ ∀ j, j < n → bitB bs (k + j) = false := by
  rw [num_nm]
  constructor
  · intro h j hj
    have := nm_bit (fun j => bitB bs (k + j)) n (n - 1 - j)
    rw [h, decide_eq_true (by omega), show n - 1 - (n - 1 - j) = j from by omega] at this
    simpa using this.symm
  · intro h
    apply Nat.eq_of_testBit_eq
    intro i
    rw [nm_bit]
    by_cases hi : i < n
    · rw [h _ (by omega)]; simp
    · rw [decide_eq_false hi]; simp
theorem isPack_self {l : List Int} {bs : List UInt8} {vs : List Nat} (hok : UnpOk l bs) (h : IsUnp l bs vs) : IsPack l vs bs := by
  obtain ⟨_, hlen, hz⟩ := hok
  have hs : (nat l).sum ≤ 8 * bs.length := by omega
  refine ⟨hlen, fun m hm => ?_⟩
  have hr := unp_row h hs l.length (Nat.le_refl _)
  have h1 := h.1
  rw [List.take_of_length_le (by simp), List.take_of_length_le (by omega)] at hr
  rw [hr]
  by_cases c : m < (nat l).sum
  · have : ((rowB bs).take (nat l).sum).getD m false = (rowB bs).getD m false := by simp [List.getD, List.getElem?_take, c]
    rw [this, rowB_getD, if_pos hm]
  · have e : ((rowB bs).take (nat l).sum).getD m false = false := by simp only [List.getD]; rw [List.getElem?_eq_none (by rw [List.length_take, rowB_length]; omega)]; rfl
    rw [e]
    have := (num_zero _ _ _).1 hz (m - (nat l).sum) (by omega)
    rwa [show (nat l).sum + (m - (nat l).sum) = m from by omega] at this
theorem packOk_unp {l : List Int} {bs : List UInt8} {vs : List Nat} (hs : (spanOf l).isSome) (h : IsUnp l bs vs) : PackOk l vs :=
  ⟨hs, h.1.symm, fun i hi => by rw [h.2 i hi]; exact num_lt _ _ _⟩
theorem unpOk_of {l : List Int} {bs : List UInt8} {vs : List Nat} (hs : (spanOf l).isSome) (hlv : l.length = vs.length) (h : IsPack l vs bs) : UnpOk l bs := by
  refine ⟨hs, h.1, (num_zero _ _ _).2 fun j hj => ?_⟩
  have hpl := packB_length (nat l) vs (by simpa using hlv)
  have := h.2 ((nat l).sum + j) (by omega)
  rw [this]
  simp only [List.getD]
  rw [List.getElem?_eq_none (by omega)]
  rfl
theorem packB_split (ns vs : List Nat) (i : Nat) (h : ns.length = vs.length) : packB ns vs = packB (ns.take i) (vs.take i) ++ packB (ns.drop i) (vs.drop i) := by
  induction ns generalizing vs i with
  | nil => simp [packB]
  | cons n ns ih =>
    cases vs with
    | nil => simp at h
    | cons v vs =>
      cases i with
      | zero => simp [packB]
      | succ i =>
        simp only [List.take_succ_cons, List.drop_succ_cons, packB, List.append_assoc]
        rw [← ih vs i (by simpa using h)]
theorem packB_at (ns vs : List Nat) (i j : Nat) (h : ns.length = vs.length) (hi : i < ns.length) (hj : j < ns.getD i 0) : (packB ns vs).getD ((ns.take i).sum + j) false = (dig (vs.getD i 0) (ns.getD i 0)).getD j false := by
  rw [packB_split ns vs (i + 1) h, packB_take ns vs i hi (by omega)]
  have hl := packB_length (ns.take i) (vs.take i) (by simp; omega)
  rw [List.append_assoc, getD_right _ _ _ _ (by omega), hl, getD_left _ _ _ _ (by rw [dig_length]; omega)]
  congr 1
  omega
theorem isUnp_of_pack {l : List Int} {vs : List Nat} {cs : List UInt8} (hok : PackOk l vs) (h : IsPack l vs cs) : IsUnp l cs vs := by
  obtain ⟨hs, hlen, hfit⟩ := hok
  refine ⟨hlen.symm, fun i hi => ?_⟩
  have hsl := sum_take_nat (nat l) i (by simpa using hi)
  have hle := sum_take_le (nat l) (i + 1)
  rw [nat_getD] at hsl
  have e := nm_congr (fun j => bitB cs (((nat l).take i).sum + j)) (fun j => (dig (vs.getD i 0) (l.getD i 0).toNat).getD j false) (l.getD i 0).toNat (fun j hj => by
    have := packB_at (nat l) vs i j (by simpa using hlen) (by simpa using hi) (by rw [nat_getD]; exact hj)
    rw [nat_getD] at this
    have h2 := h.2 (((nat l).take i).sum + j) (by have := h.1; omega)
    exact h2.trans this)
  rw [num_nm, e, nm_dig, Nat.mod_eq_of_lt (hfit i hi)]
theorem not_unpOk_more {l : List Int} {vs : List Nat} {cs : List UInt8} (h : IsPack l vs cs) : ¬ UnpOk l (cs ++ [0]) := by
  intro hu
  have h1 := hu.2.1
  have h2 := h.1
  rw [List.length_append] at h1
  simp only [List.length_cons, List.length_nil] at h1
  omega
end Go.Proofs.YteenlkmnadjnpaaGreat
namespace Go.Proofs.YteenlkmnadjnpaaGreat
set_option linter.unusedVariables false
set_option linter.unusedSimpArgs false
open Go.RowKit Go.Deep

theorem Tryz.info_u64 : (Tryz.prog.info? 26).map (fun i => (i.zero, i.size, i.bytes)) = some (some (.int .u64 0), 1, 8) := by kernel_rfl
theorem made_u64s (n : Nat) : madeCells #[.int .u64 0] n = (u64s (List.replicate n 0)).toArray := by
  apply Array.ext
  · simp [size_madeCells, u64s]
  · intro i h1 h2
    simp [madeCells, u64s, Nat.mod_one]
theorem own_made64 (w : World) (n : Nat) : Own (w.alloc (.cells (madeCells #[.int .u64 0] n) 26)) w.heap.size 26 (u64s (List.replicate n 0)) := by
  rw [made_u64s]
  exact Own.new w 26 _

theorem load_len (bs : List UInt8) (len : Nat) (a : Option Addr) (c B : Nat) (k n : Int) (w : World) (hlen : bs.length = len) (h : Ro w B a (u8s bs)) (hk0 : 0 ≤ k) (hn0 : 0 ≤ n) (hn : n ≤ 64) (hk : k + n ≤ 8 * len) (hl : len ≤ 1000000) :
    Calls Tryz.prog 145 #[.slice a len c, .int .i64 k, .int .i64 n] w fun e w' => e = .returned (.int .u64 (num bs k.toNat n.toNat : Nat)) ∧ w = w' := by
  subst hlen
  obtain ⟨k, rfl⟩ := Int.eq_ofNat_of_zero_le hk0
  obtain ⟨n, rfl⟩ := Int.eq_ofNat_of_zero_le hn0
  exact load_any bs a c B k n w h (by omega) (by omega) hl

set_option maxHeartbeats 1000000 in
theorem unpack_yes (l : List Int) (bs : List UInt8) (a a2 : Option Addr) (c c2 B : Nat) (w : World) (h : Ro w B a (i64s l)) (h2 : Ro w B a2 (u8s bs)) (hB : B ≤ w.heap.size) (hl : l.length ≤ 1000) (hok : UnpOk l bs) :
    Calls Tryz.prog 167 #[.slice a l.length c, .slice a2 bs.length c2] w fun e w' => ∃ (g : Nat) (vs : List Nat), e = .returned (.tuple #[.slice (some ⟨g, 0, none⟩) l.length l.length, .bool true]) ∧ w.heap.size ≤ g ∧ IsUnp l bs vs ∧ Own w' g 26 (u64s vs) ∧ Below w.heap.size w w' := by
  obtain ⟨hsome, hlen, hz⟩ := hok
  obtain ⟨t, ht⟩ := Option.isSome_iff_exists.1 hsome
  obtain ⟨hw, rfl⟩ := spanOf_some ht
  have hspan := span_any l a c B w h (by omega)
  rw [ht] at hspan
  simp only [Option.getD_some, Option.isSome_some] at hspan
  have hsum := nat_sum_le l hw
  clear ht hsome
  have hmk := fun W => run_make_row' (P := Tryz.prog) 79 26 (.int .u64 0) 8 Tryz.underlying79 Tryz.info_u64 rfl .i64 .i64 l.length (by omega) (by omega) W
  obtain ⟨L, hL⟩ : ∃ L, L = bs.length := ⟨_, rfl⟩
  have hbf : ∀ W : World, Calls Tryz.prog 105 #[.int .i64 ((nat l).sum : Nat)] W fun e w' => e = .returned (.int .i64 (L : Nat)) ∧ W = w' := fun W => by
    refine (bytesFor_any ((nat l).sum : Nat) W (by omega) (by omega)).mono ?_
    rintro e w' ⟨rfl, rfl⟩
    exact ⟨ret_int (by omega), rfl⟩
  have hld : ∀ W : World, Ro W B a2 (u8s bs) → Calls Tryz.prog 145 #[.slice a2 L c2, .int .i64 ((nat l).sum : Nat), .int .i64 ((L : Int) * 8 - ((nat l).sum : Nat))] W fun e w' => e = .returned (.int .u64 0) ∧ W = w' := fun W hW => by
    have hl := load_len bs L a2 c2 B ((nat l).sum : Nat) ((L : Int) * 8 - ((nat l).sum : Nat)) W hL.symm hW (by omega) (by omega) (by omega) (by omega) (by omega)
    have e1 : ((L : Int) * 8 - ((nat l).sum : Nat)).toNat = 8 * bs.length - (nat l).sum := by omega
    rw [Int.toNat_natCast, e1, hz] at hl
    exact hl
  rw [← hL]
  obtain ⟨S, hS⟩ : ∃ S, S = (nat l).sum := ⟨_, rfl⟩
  rw [← hS] at hspan hbf hsum hld hlen
  have hSL : S ≤ 8 * L := by omega
  have hLle : L ≤ 100000 := by omega
  have HS := Lib.hid hS
  have HL := Lib.hid hL
  clear hS hL hlen hz
  go_enter Tryz.func167, Tryz.ntmps167
  go_wp2_with fail
  refine hspan.mono ?_
  rintro e w' ⟨rfl, rfl⟩
  clear hspan
  go_wp2_with fail
  refine (hbf _).mono ?_
  rintro e w' ⟨rfl, rfl⟩
  go_wp2_with fail
  refine (hld _ h2).mono ?_
  rintro e w' ⟨rfl, rfl⟩
  go_wp2_with fail
  go_loopw [9, 42] (fun x y wz => ∃ (j : Nat) (vs : List Nat), j ≤ l.length ∧ y = .int .i64 (j : Int) ∧ x = .int .i64 (((nat l).take j).sum : Nat) ∧ Own wz w.heap.size 26 (u64s vs) ∧ IsUnpTo l bs vs j ∧ Below w.heap.size w wz) (fun _ y _ => l.length - (intOf y).toNat)
  case atStart => exact ⟨0, List.replicate l.length 0, by omega, by simp, by simp, own_made64 _ _, ⟨by simp, by omega⟩, (Below.refl _ _).alloc (Nat.le_refl _) _⟩
  case round =>
    obtain ⟨j, vs, hj, rfl, rfl, hown, hto, hbz⟩ := hrel
    by_cases hlt2 : j < l.length
    · obtain ⟨b, off, rfl, hb, hc⟩ := (h.below hbz hB).i64 (by omega)
      have hro2 := h2.below hbz hB
      have hcell := hc j hlt2
      have hn := hw j hlt2
      have hst := sum_take_nat (nat l) j (by simpa using hlt2)
      have hle := sum_take_le (nat l) (j + 1)
      have hstep := hto.step hlt2
      have hvl := hto.1
      rw [nat_getD] at hst
      rw [← HS.out] at hle
      have hcell2 : wr.cell? ⟨w.heap.size, j, none⟩ = some (.int .u64 (vs.getD j 0 : Nat)) := by
        rw [hown.cell j]; simp [u64s, List.getD, show j < vs.length from by omega]
      have hfr := hown.frozen j
      clear hc
      generalize l.getD j 0 = n at *
      generalize vs.getD j 0 = v at *
      obtain ⟨hn0, hn1⟩ := hn
      obtain ⟨m, rfl⟩ := Int.eq_ofNat_of_zero_le hn0
      rw [Int.toNat_natCast] at hst hstep
      generalize ((nat l).take j).sum = x at *
      have hkn : x + m ≤ 8 * L := by omega
      have HST := Lib.hid hst
      have HSTEP := Lib.hid hstep
      have HVL := Lib.hid hvl
      have hset := fun u : Nat => hown.set j (.int .u64 (u : Int))
      have HSET := Lib.hid hset
      clear hst hle hstep hvl hset hw
      go_wp2_with fail
      refine (load_len bs L a2 c2 B x m wr HL.out.symm hro2 (by omega) (by omega) (by omega) (by omega) (by omega)).mono ?_
      rintro e w' ⟨rfl, rfl⟩
      rw [Int.toNat_natCast, Int.toNat_natCast]
      go_wp2_with fail
      go_roundw
      case rel => exact ⟨j + 1, vs.set j (num bs x m), by omega, by go_num, by rw [HST.out]; go_num, by have := HSET.out (num bs x m); unfold u64s at this ⊢; rw [List.map_set]; exact this, HSTEP.out, below_only hbz (only_set (only_refl _ _) _ _) (Nat.le_refl _) hbz.size⟩
      case measure => simp [intOf]; omega
    · have hjl : j = l.length := by omega
      have HJ := Lib.hid hjl
      clear hjl
      go_wp2_with fail
      go_ret2
      have hto' := hto
      rw [HJ.out] at hto'
      exact ⟨w.heap.size, vs, rfl, Nat.le_refl _, hto', hown, hbz⟩

set_option maxHeartbeats 1000000 in
theorem unpack_no (l : List Int) (bs : List UInt8) (a a2 : Option Addr) (c c2 B : Nat) (w : World) (h : Ro w B a (i64s l)) (h2 : Ro w B a2 (u8s bs)) (hl : l.length ≤ 1000) (hbl : bs.length ≤ 1000000) (hno : ¬ UnpOk l bs) :
    Calls Tryz.prog 167 #[.slice a l.length c, .slice a2 bs.length c2] w fun e w' => e = .returned (.tuple #[.slice none 0 0, .bool false]) ∧ Below w.heap.size w w' := by
  have hspan := span_any l a c B w h (by omega)
  rcases ht : spanOf l with _ | t
  · rw [ht] at hspan
    simp only [Option.getD_none, Option.isSome_none] at hspan
    clear ht
    go_enter Tryz.func167, Tryz.ntmps167
    go_wp2_with fail
    refine hspan.mono ?_
    rintro e w' ⟨rfl, rfl⟩
    clear hspan
    go_wp2_with fail
    go_ret2
    exact ⟨rfl, Below.refl _ _⟩
  rw [ht] at hspan
  simp only [Option.getD_some, Option.isSome_some] at hspan
  obtain ⟨hw, rfl⟩ := spanOf_some ht
  have hsum := nat_sum_le l hw
  obtain ⟨L, hL⟩ : ∃ L, L = ((nat l).sum + 7) / 8 := ⟨_, rfl⟩
  have hbf : ∀ W : World, Calls Tryz.prog 105 #[.int .i64 ((nat l).sum : Nat)] W fun e w' => e = .returned (.int .i64 (L : Nat)) ∧ W = w' := fun W => by
    refine (bytesFor_any ((nat l).sum : Nat) W (by omega) (by omega)).mono ?_
    rintro e w' ⟨rfl, rfl⟩
    exact ⟨ret_int (by omega), rfl⟩
  by_cases hlen : bs.length = L
  · have hz : num bs (nat l).sum (8 * bs.length - (nat l).sum) ≠ 0 := fun hh => hno ⟨by rw [ht]; rfl, hlen.trans hL, hh⟩
    obtain ⟨R, hR⟩ : ∃ R, R = num bs (nat l).sum (8 * bs.length - (nat l).sum) := ⟨_, rfl⟩
    have hld : ∀ W : World, Ro W B a2 (u8s bs) → Calls Tryz.prog 145 #[.slice a2 L c2, .int .i64 ((nat l).sum : Nat), .int .i64 ((L : Int) * 8 - ((nat l).sum : Nat))] W fun e w' => e = .returned (.int .u64 (R : Nat)) ∧ W = w' := fun W hW => by
      have hl := load_len bs L a2 c2 B ((nat l).sum : Nat) ((L : Int) * 8 - ((nat l).sum : Nat)) W hlen hW (by omega) (by omega) (by omega) (by omega) (by omega)
      have e1 : ((L : Int) * 8 - ((nat l).sum : Nat)).toNat = 8 * bs.length - (nat l).sum := by omega
      rw [Int.toNat_natCast, e1, ← hR] at hl
      exact hl
    have hne : ((R : Int) != 0) = true := by rw [bne_iff_ne]; omega
    rw [hlen]
    have hLle : L ≤ 100000 := by omega
    clear hL hlen ht hno hz hR
    generalize (nat l).sum = S at *
    go_enter Tryz.func167, Tryz.ntmps167
    go_wp2_with fail
    refine hspan.mono ?_
    rintro e w' ⟨rfl, rfl⟩
    clear hspan
    go_wp2_with fail
    refine (hbf _).mono ?_
    rintro e w' ⟨rfl, rfl⟩
    go_wp2_with fail
    refine (hld _ h2).mono ?_
    rintro e w' ⟨rfl, rfl⟩
    go_wp2_with fail
    go_ret2
    exact ⟨rfl, Below.refl _ _⟩
  · have hne : ((bs.length : Int) != (L : Int)) = true := by rw [bne_iff_ne]; omega
    clear hL hlen ht hno
    generalize (nat l).sum = S at *
    go_enter Tryz.func167, Tryz.ntmps167
    go_wp2_with fail
    refine hspan.mono ?_
    rintro e w' ⟨rfl, rfl⟩
    clear hspan
    go_wp2_with fail
    refine (hbf _).mono ?_
    rintro e w' ⟨rfl, rfl⟩
    go_wp2_with fail
    go_ret2
    exact ⟨rfl, Below.refl _ _⟩
end Go.Proofs.YteenlkmnadjnpaaGreat
namespace Go.Proofs.YteenlkmnadjnpaaGreat
set_option linter.unusedVariables false
set_option linter.unusedSimpArgs false
open Go.RowKit Go.Deep

theorem lowest_fit (v n : Int) (w : World) (h0 : 0 ≤ n) (hn : n ≤ 64) (hv0 : 0 ≤ v) (hv : v < 2 ^ n.toNat) :
    Calls Tryz.prog 104 #[.int .u64 v, .int .i64 n] w fun e w' => e = .returned (.int .u64 v) ∧ w' = w := by
  refine (lowest_any v n w h0 hn).mono ?_
  rintro e w' ⟨rfl, rfl⟩
  exact ⟨ret_int (Int.emod_eq_of_lt hv0 hv), rfl⟩
theorem lowest_over (v n r : Int) (w : World) (h0 : 0 ≤ n) (hn : n ≤ 64) (hr : r = v % 2 ^ n.toNat) :
    Calls Tryz.prog 104 #[.int .u64 v, .int .i64 n] w fun e w' => e = .returned (.int .u64 r) ∧ w' = w := by
  refine (lowest_any v n w h0 hn).mono ?_
  rintro e w' ⟨rfl, rfl⟩
  exact ⟨ret_int hr.symm, rfl⟩

set_option maxHeartbeats 1000000 in
theorem pack_yes (l : List Int) (vs : List Nat) (a a2 : Option Addr) (c c2 B : Nat) (w : World) (h : Ro w B a (i64s l)) (h2 : Ro w B a2 (u64s vs)) (hB : B ≤ w.heap.size) (hl : l.length ≤ 1000) (hok : PackOk l vs) :
    Calls Tryz.prog 46 #[.slice a l.length c, .slice a2 vs.length c2] w fun e w' => ∃ (g : Nat) (cs : List UInt8), e = .returned (.tuple #[.slice (some ⟨g, 0, none⟩) cs.length cs.length, .bool true]) ∧ w.heap.size ≤ g ∧ IsPack l vs cs ∧ Own w' g 5 (u8s cs) ∧ Below w.heap.size w w' := by
  obtain ⟨hsome, hlen, hfit⟩ := hok
  obtain ⟨t, ht⟩ := Option.isSome_iff_exists.1 hsome
  obtain ⟨hw, rfl⟩ := spanOf_some ht
  have hspan := span_any l a c B w h (by omega)
  rw [ht] at hspan
  simp only [Option.getD_some, Option.isSome_some] at hspan
  have hsum := nat_sum_le l hw
  have HT := Lib.hid ht; clear ht hsome
  have HLEN := Lib.hid hlen
  obtain ⟨L, hL⟩ : ∃ L, L = ((nat l).sum + 7) / 8 := ⟨_, rfl⟩
  have hbf : ∀ W : World, Calls Tryz.prog 105 #[.int .i64 ((nat l).sum : Nat)] W fun e w' => e = .returned (.int .i64 (L : Nat)) ∧ W = w' := fun W => by
    refine (bytesFor_any ((nat l).sum : Nat) W (by omega) (by omega)).mono ?_
    rintro e w' ⟨rfl, rfl⟩
    exact ⟨ret_int (by omega), rfl⟩
  have hmk := fun W => run_make_row' (P := Tryz.prog) 29 5 (.int .u8 0) 1 Tryz.underlying29 Tryz.info_u8 rfl .i64 .i64 L (by omega) (by omega) W
  have hLle : L ≤ 100000 := by omega
  have HL := Lib.hid hL
  clear hL
  obtain ⟨S, hS⟩ : ∃ S, S = (nat l).sum := ⟨_, rfl⟩
  rw [← hS] at hspan hbf hsum
  have HS := Lib.hid hS
  clear hS
  rw [← hlen]
  clear hlen
  go_enter Tryz.func46, Tryz.ntmps46
  go_wp2_with fail
  refine hspan.mono ?_
  rintro e w' ⟨rfl, rfl⟩
  clear hspan
  go_wp2_with fail
  go_loopw [30] (fun i wr => ∃ k : Nat, k ≤ l.length ∧ i = .int .i64 (k : Int) ∧ Qt w wr) (fun i _ => l.length - (intOf i).toNat)
  case atStart => exact ⟨0, by omega, by simp, Qt.refl _⟩
  case round =>
    obtain ⟨k, hk, rfl, hq⟩ := hrel
    have h0 := h
    have h20 := h2
    replace h := h.qt hq
    replace h2 := h2.qt hq
    by_cases hlt : k < l.length
    · obtain ⟨b, off, rfl, hb, hc⟩ := h.i64 (by omega)
      obtain ⟨b2, off2, rfl, hb2, hc2⟩ := h2.u64 (by have := HLEN.out; omega)
      have hcell := hc k hlt
      have hcell2 := hc2 k (by have := HLEN.out; omega)
      have hv := hfit k hlt
      have hn := hw k hlt
      clear hc hc2
      generalize l.getD k 0 = n at *
      generalize vs.getD k 0 = v at *
      obtain ⟨hn0, hn1⟩ := hn
      have hvi : (v : Int) < 2 ^ n.toNat := by
        have : ((v : Nat) : Int) < ((2 ^ n.toNat : Nat) : Int) := by omega
        simpa using this
      go_wp2_with fail
      go_quiet ((go_at_call 104; exact Calls.quiet_of_same (lowest_fit _ _ _ hn0 hn1 (by omega) hvi)))
      go_wp2_with fail
      go_roundw
      case rel => exact ⟨k + 1, by omega, by go_num, hq.add _⟩
      case measure => simp [intOf]; omega
    · rename World => w1
      have hb1 : Below w.heap.size w w1 := hq.below (Below.refl _ _)
      have hz1 := hq.size
      have HZ1 := Lib.hid hz1; clear hz1
      go_wp2_with (go_at_call 105; refine (hbf _).mono ?_; rintro e w' ⟨rfl, rfl⟩)
      go_loopw [11, 52] (fun x y wz => ∃ (j : Nat) (cs : List UInt8), j ≤ l.length ∧ y = .int .i64 (j : Int) ∧ x = .int .i64 (((nat l).take j).sum : Nat) ∧ Own wz w1.heap.size 5 (u8s cs) ∧ IsPackTo l vs cs j ∧ Below w.heap.size w wz) (fun _ y _ => l.length - (intOf y).toNat)
      case atStart => exact ⟨0, List.replicate L 0, by omega, by simp, by simp, own_made _ _, by rw [HL.out]; exact IsPackTo.start l vs, hb1.alloc hb1.size _⟩
      case round =>
        obtain ⟨j, cs, hj, rfl, rfl, hown, hto, hbz⟩ := hrel
        by_cases hlt2 : j < l.length
        · obtain ⟨b, off, rfl, hb, hc⟩ := (h0.below hbz hB).i64 (by omega)
          obtain ⟨b2, off2, rfl, hb2, hc2⟩ := (h20.below hbz hB).u64 (by have := HLEN.out; omega)
          have hcell := hc j hlt2
          have hcell2 := hc2 j (by have := HLEN.out; omega)
          have hn := hw j hlt2
          have hst := sum_take_nat (nat l) j (by simpa using hlt2)
          have hle := sum_take_le (nat l) (j + 1)
          have hstep := fun ds => hto.step (ds := ds) HLEN.out hlt2
          rw [nat_getD] at hst
          rw [← HS.out] at hle
          have hcl : cs.length = L := by rw [HL.out]; exact hto.1
          have hL' := HL.out
          rw [← HS.out] at hL'
          clear hc hc2
          generalize l.getD j 0 = n at *
          generalize vs.getD j 0 = v at *
          obtain ⟨hn0, hn1⟩ := hn
          obtain ⟨m, rfl⟩ := Int.eq_ofNat_of_zero_le hn0
          rw [Int.toNat_natCast] at hst hstep
          generalize ((nat l).take j).sum = x at *
          have hkn : x + m ≤ 8 * L := by omega
          clear hL'
          have HSTEP := Lib.hid hstep
          clear hstep hfit hw
          have HST := Lib.hid hst
          have HCL := Lib.hid hcl
          clear hst hle hcl
          go_wp2_with fail
          refine (store_len cs L w1.heap.size L x m v _ HCL.out hown (by omega) hkn (by omega)).mono ?_
          rintro e w3 ⟨rfl, ds, hput, hown3, hgr, hsz3⟩
          have HSZ := Lib.hid hsz3
          clear hsz3
          go_wp2_with fail
          go_roundw
          case rel => exact ⟨j + 1, ds, by omega, by go_num, by rw [HST.out]; go_num, hown3, HSTEP.out ds hput, below_only hbz hgr (by have := HZ1.out; omega) hbz.size⟩
          case measure => simp [intOf]; omega
        · have hjl : j = l.length := by omega
          have HJ := Lib.hid hjl
          clear hjl
          go_wp2_with fail
          go_ret2
          have hto' := hto
          rw [HJ.out] at hto'
          have hcl : cs.length = L := by rw [HL.out]; exact hto.1
          exact ⟨w1.heap.size, cs, by rw [hcl]; rfl, by have := HZ1.out; omega, hto'.stop HLEN.out, hown, hbz⟩

set_option maxHeartbeats 1000000 in
theorem pack_no (l : List Int) (vs : List Nat) (a a2 : Option Addr) (c c2 B : Nat) (w : World) (h : Ro w B a (i64s l)) (h2 : Ro w B a2 (u64s vs)) (hl : l.length ≤ 1000) (hno : ¬ PackOk l vs) :
    Calls Tryz.prog 46 #[.slice a l.length c, .slice a2 vs.length c2] w fun e w' => e = .returned (.tuple #[.slice none 0 0, .bool false]) ∧ Below w.heap.size w w' := by
  have hspan := span_any l a c B w h (by omega)
  rcases ht : spanOf l with _ | t
  · rw [ht] at hspan
    simp only [Option.getD_none, Option.isSome_none] at hspan
    clear ht
    go_enter Tryz.func46, Tryz.ntmps46
    go_wp2_with fail
    refine hspan.mono ?_
    rintro e w' ⟨rfl, rfl⟩
    clear hspan
    go_wp2_with fail
    go_ret2
    exact ⟨rfl, Below.refl _ _⟩
  rw [ht] at hspan
  simp only [Option.getD_some, Option.isSome_some] at hspan
  obtain ⟨hw, _⟩ := spanOf_some ht
  by_cases hlen : l.length = vs.length
  · have hno2 : ¬ ∀ i, i < l.length → vs.getD i 0 < 2 ^ (l.getD i 0).toNat := fun hh => hno ⟨by rw [ht]; rfl, hlen, hh⟩
    clear ht
    have HLEN := Lib.hid hlen
    rw [← hlen]
    clear hlen
    go_enter Tryz.func46, Tryz.ntmps46
    go_wp2_with fail
    refine hspan.mono ?_
    rintro e w' ⟨rfl, rfl⟩
    clear hspan
    go_wp2_with fail
    go_loopw [30] (fun i wr => ∃ k : Nat, k ≤ l.length ∧ i = .int .i64 (k : Int) ∧ Qt w wr ∧ ∀ i, i < k → vs.getD i 0 < 2 ^ (l.getD i 0).toNat) (fun i _ => l.length - (intOf i).toNat)
    case atStart => exact ⟨0, by omega, by simp, Qt.refl _, by omega⟩
    case round =>
      obtain ⟨k, hk, rfl, hq, hfit⟩ := hrel
      by_cases hlt : k < l.length
      · obtain ⟨b, off, rfl, hb, hc⟩ := (h.qt hq).i64 (by omega)
        obtain ⟨b2, off2, rfl, hb2, hc2⟩ := (h2.qt hq).u64 (by have := HLEN.out; omega)
        have hcell := hc k hlt
        have hcell2 := hc2 k (by have := HLEN.out; omega)
        have hn := hw k hlt
        have hnext : vs.getD k 0 < 2 ^ (l.getD k 0).toNat → ∀ i, i < k + 1 → vs.getD i 0 < 2 ^ (l.getD i 0).toNat := fun hx i hi => by
          by_cases e : i = k
          · rw [e]; exact hx
          · exact hfit i (by omega)
        have HN := Lib.hid hnext
        clear hc hc2 hnext hfit
        generalize l.getD k 0 = n at *
        generalize vs.getD k 0 = v at *
        obtain ⟨hn0, hn1⟩ := hn
        by_cases hv : v < 2 ^ n.toNat
        · have hvi : (v : Int) < 2 ^ n.toNat := by
            have : ((v : Nat) : Int) < ((2 ^ n.toNat : Nat) : Int) := by omega
            simpa using this
          have HV := Lib.hid (HN.out hv)
          go_wp2_with fail
          go_quiet ((go_at_call 104; exact Calls.quiet_of_same (lowest_fit _ _ _ hn0 hn1 (by omega) hvi)))
          go_wp2_with fail
          go_roundw
          case rel => exact ⟨k + 1, by omega, by go_num, hq.add _, HV.out⟩
          case measure => simp [intOf]; omega
        · obtain ⟨r, hr⟩ : ∃ r, r = (v : Int) % 2 ^ n.toNat := ⟨_, rfl⟩
          have hne : ((v : Int) != r) = true := by
            have h0 : 0 < 2 ^ n.toNat := Nat.pow_pos (by omega)
            have h1 : v % 2 ^ n.toNat < 2 ^ n.toNat := Nat.mod_lt _ h0
            have h3 : r = ((v % 2 ^ n.toNat : Nat) : Int) := by rw [hr]; simp
            rw [bne_iff_ne, h3]
            omega
          have HR := Lib.hid hr
          clear hr
          go_wp2_with fail
          go_quiet ((go_at_call 104; exact Calls.quiet_of_same (lowest_over _ _ r _ hn0 hn1 HR.out)))
          go_wp2_with fail
          go_ret2
          exact ⟨rfl, (hq.add _).below (Below.refl _ _)⟩
      · exact absurd (fun i hi => hfit i (by omega)) hno2
  · have hne : ((l.length : Int) != (vs.length : Int)) = true := by rw [bne_iff_ne]; omega
    clear ht
    go_enter Tryz.func46, Tryz.ntmps46
    go_wp2_with fail
    refine hspan.mono ?_
    rintro e w' ⟨rfl, rfl⟩
    clear hspan
    go_wp2_with fail
    go_ret2
    exact ⟨rfl, Below.refl _ _⟩
end Go.Proofs.YteenlkmnadjnpaaGreat
namespace Go.Proofs.YteenlkmnadjnpaaGreat
open Go.RowKit Go.Deep
set_option linter.unusedVariables false
set_option linter.unusedSimpArgs false

theorem join_int (h l n : Nat) (hn : n ≤ 64) (hh : h * 2 ^ n < 18446744073709551616) (hl : l < 2 ^ n) :
    bits BinOp.or IntKind.u64 (IntKind.u64.wrap ((h : Int) * 2 ^ n)) (l : Int) = ((h * 2 ^ n + l : Nat) : Int) := by
  have e : ((h : Int) * 2 ^ n) = ((h * 2 ^ n : Nat) : Int) := by simp
  have h3 := pow_le_64 hn
  rw [e, wrap_u64_nat _ hh, u64_or_nat _ _ hh (by omega), nat_join n _ _ (Nat.mul_mod_left _ _) hl]

set_option maxHeartbeats 400000 in
theorem joined_any (h l n : Nat) (w : World) (hn : n ≤ 64) (hh : h * 2 ^ n < 18446744073709551616) (hl : l < 2 ^ n) :
    Calls Tryz.prog 135 #[.int .u64 (h : Int), .int .u64 (l : Int), .int .i64 (n : Int)] w fun e w' => e = .returned (.int .u64 ((h * 2 ^ n + l : Nat) : Int)) ∧ w = w' := by
  have HJ := Lib.hid (join_int h l n hn hh hl)
  clear hh hl
  go_enter Tryz.func135, Tryz.ntmps135
  go_wp2
  go_ret
  exact ⟨ret_int HJ.out, rfl⟩

set_option maxHeartbeats 400000 in
theorem split_any (v n : Nat) (w : World) (hn : n ≤ 64) (hv : v < 18446744073709551616) :
    Calls Tryz.prog 166 #[.int .u64 (v : Int), .int .i64 (n : Int)] w fun e w' => e = .returned (.tuple #[.int .u64 ((v / 2 ^ n : Nat) : Int), .int .u64 ((v % 2 ^ n : Nat) : Int)]) ∧ w' = w.drew := by
  have HJ := Lib.hid (lowest_eq (v : Int) n hn)
  go_enter Tryz.func166, Tryz.ntmps166
  go_wp2
  go_region
  go_wp2
  go_ret2
  refine ⟨?_, rfl⟩
  show Ending.returned (.tuple #[.int .u64 ((v : Int) / 2 ^ n), .int .u64 (bits BinOp.and IntKind.u64 (v : Int) (IntKind.u64.wrap (IntKind.u64.wrap (2 ^ n) - 1)))]) = _
  rw [HJ.out]
  simp
theorem split_z (v : Int) (n : Nat) (q r : Int) (w : World) (hn : n ≤ 64) (h0 : 0 ≤ v) (hv : v < 18446744073709551616) (hq : q = v / 2 ^ n) (hr : r = v % 2 ^ n) :
    Calls Tryz.prog 166 #[.int .u64 v, .int .i64 (n : Int)] w fun e w' => e = .returned (.tuple #[.int .u64 q, .int .u64 r]) ∧ w' = w.drew := by
  obtain ⟨v, rfl⟩ := Int.eq_ofNat_of_zero_le h0
  subst hq hr
  have e := split_any v n w hn (by omega)
  simpa using e
theorem split_21 (v : Int) (w : World) (h0 : 0 ≤ v) (hv : v < 18446744073709551616) :
    Calls Tryz.prog 166 #[.int .u64 v, .int .i64 21] w fun e w' => e = .returned (.tuple #[.int .u64 (v / 2097152), .int .u64 (v % 2097152)]) ∧ w' = w.drew :=
  split_z v 21 _ _ w (by omega) h0 hv (by omega) (by omega)
theorem split_7 (v : Int) (w : World) (h0 : 0 ≤ v) (hv : v < 18446744073709551616) :
    Calls Tryz.prog 166 #[.int .u64 v, .int .i64 7] w fun e w' => e = .returned (.tuple #[.int .u64 (v / 128), .int .u64 (v % 128)]) ∧ w' = w.drew :=
  split_z v 7 _ _ w (by omega) h0 hv (by omega) (by omega)
theorem split_3 (v : Int) (w : World) (h0 : 0 ≤ v) (hv : v < 18446744073709551616) :
    Calls Tryz.prog 166 #[.int .u64 v, .int .i64 3] w fun e w' => e = .returned (.tuple #[.int .u64 (v / 8), .int .u64 (v % 8)]) ∧ w' = w.drew :=
  split_z v 3 _ _ w (by omega) h0 hv (by omega) (by omega)

set_option maxHeartbeats 400000 in
theorem noLast_any (w : World) :
    Calls Tryz.prog 189 #[] w fun e w' => e = .returned (.agg #[.int .u64 18446744073709551615, .int .u64 18446744073709551615]) ∧ Below w.heap.size w w' := by
  go_enter Tryz.func189, Tryz.ntmps189
  go_wp2
  refine wp_loop_rounds 3 ?_
  rw [rounds_succ]; go_wp2
  rw [rounds_succ]; go_wp2
  rw [rounds_succ]; go_wp2
  exact bodyPost_ret (v := .agg #[.int .u64 18446744073709551615, .int .u64 18446744073709551615]) (by simp [results, Tryz.results189, go_sem]) rfl ⟨rfl, ((Below.refl _ _).alloc (Nat.le_refl _) _).alloc (by simp) _⟩

/-- what the encoding of data says ahead of the Backs, as one number -/
def headN (nb nd : Nat) : Nat := (1 * 2 ^ 3 + nb) * 2 ^ 7 + nd
/-- a Back as one number -/
def fieldN (b : Bk) : Nat := (b.1.toNat * 2 ^ 21 + min b.2.1 1048576) * 2 ^ 21 + min b.2.2 1048576
/-- an address out of its bits -/
def lst (a : Nat) : Nat := if a = 1048576 then 18446744073709551615 else a
/-- a Back out of its number -/
def backN (f : Nat) : Bk := (((f / 2 ^ 21 / 2 ^ 21 : Nat) : Int), lst (f / 2 ^ 21 % 2 ^ 21), lst (f % 2 ^ 21))

set_option maxHeartbeats 400000 in
theorem headOf_any (k : Int) (a : Option Addr) (n c : Nat) (a2 : Option Addr) (n2 c2 : Nat) (w : World) (h1 : n < 128) (h2 : n2 < 8) :
    Calls Tryz.prog 96 #[cev k a n c a2 n2 c2] w fun e w' => e = .returned (.int .u64 (headN n2 n : Nat)) ∧ Below w.heap.size w w' := by
  have HJ1 := Lib.hid (fun W => joined_any 1 n2 3 W (by omega) (by omega) (by omega))
  have HJ2 := Lib.hid (fun W => joined_any (1 * 2 ^ 3 + n2) n 7 W (by omega) (by omega) (by omega))
  have e1 : IntKind.u64.wrap (n2 : Int) = (n2 : Int) := wrap_u64_nat _ (by omega)
  have e2 : IntKind.u64.wrap (n : Int) = (n : Int) := wrap_u64_nat _ (by omega)
  go_enter Tryz.func96, Tryz.ntmps96
  go_wp2_with fail
  refine (HJ1.out _).mono ?_
  rintro e w1 ⟨rfl, rfl⟩
  go_wp2_with fail
  refine (HJ2.out _).mono ?_
  rintro e w1 ⟨rfl, rfl⟩
  go_wp2_with fail
  go_ret
  exact ⟨rfl, (Below.refl _ _).alloc (Nat.le_refl _) _⟩

theorem ix0 (x y : Value) (W : World) : Sem.run Tryz.prog (Instr.index 94 (.agg #[x, y]) (.int .i64 0)) W = .ok x W := by
  simp [Instr.index, go_sem]
theorem ix1 (x y : Value) (W : World) : Sem.run Tryz.prog (Instr.index 94 (.agg #[x, y]) (.int .i64 1)) W = .ok y W := by
  simp [Instr.index, go_sem]
theorem joined_z (h l : Int) (n : Nat) (r : Int) (w : World) (hn : n ≤ 64) (h0 : 0 ≤ h) (hh : h * 2 ^ n < 18446744073709551616) (l0 : 0 ≤ l) (hl : l < 2 ^ n) (hr : r = h * 2 ^ n + l) :
    Calls Tryz.prog 135 #[.int .u64 h, .int .u64 l, .int .i64 (n : Int)] w fun e w' => e = .returned (.int .u64 r) ∧ w = w' := by
  obtain ⟨h, rfl⟩ := Int.eq_ofNat_of_zero_le h0
  obtain ⟨l, rfl⟩ := Int.eq_ofNat_of_zero_le l0
  subst hr
  have e : ((h : Int) * 2 ^ n) = ((h * 2 ^ n : Nat) : Int) := by simp
  have e2 : ((2 : Int) ^ n) = ((2 ^ n : Nat) : Int) := by simp
  refine (joined_any h l n w hn (by omega) (by omega)).mono ?_
  rintro e w' ⟨rfl, rfl⟩
  exact ⟨ret_int (by simp), rfl⟩
theorem joined_21 (h l : Int) (w : World) (h0 : 0 ≤ h) (hh : h < 8796093022208) (l0 : 0 ≤ l) (hl : l < 2097152) :
    Calls Tryz.prog 135 #[.int .u64 h, .int .u64 l, .int .i64 21] w fun e w' => e = .returned (.int .u64 (h * 2097152 + l)) ∧ w = w' :=
  joined_z h l 21 _ w (by omega) h0 (by omega) l0 (by omega) (by omega)
set_option maxHeartbeats 400000 in
theorem fieldOf_any (b : Bk) (w : World) (h0 : 0 ≤ b.1) (h1 : b.1 < 16) (h2 : b.2.1 ≤ 18446744073709551615) (h3 : b.2.2 ≤ 18446744073709551615) :
    Calls Tryz.prog 97 #[bkv b] w fun e w' => e = .returned (.int .u64 (fieldN b : Nat)) ∧ Below w.heap.size w w' := by
  obtain ⟨s, p, q⟩ := b
  simp only at h0 h1 h2 h3
  have e1 : IntKind.u64.wrap s = s := by rw [IntKind.wrap_u64]; omega
  have hi0 := ix0
  have hi1 := ix1
  have HP : (p : Int) ≤ 1048576 ∨ 1048576 < (p : Int) := by omega
  have HQ : (q : Int) ≤ 1048576 ∨ 1048576 < (q : Int) := by omega
  rcases HP with hp | hp
  all_goals rcases HQ with hq | hq
  all_goals
    go_enter Tryz.func97, Tryz.ntmps97
    go_wp2_with fail
    refine wp_loop_rounds 3 ?_
    rw [rounds_succ]
    go_wp2_with fail
    refine (joined_21 _ _ _ (by omega) (by omega) (by omega) (by omega)).mono ?_
    rintro e w1 ⟨rfl, rfl⟩
    go_wp2_with fail
    rw [rounds_succ]
    go_wp2_with fail
    refine (joined_21 _ _ _ (by omega) (by omega) (by omega) (by omega)).mono ?_
    rintro e w1 ⟨rfl, rfl⟩
    go_wp2_with fail
    rw [rounds_succ]
    go_wp2_with fail
    go_ret
    exact ⟨ret_int (by simp only [fieldN]; omega), (Below.refl _ _).alloc (Nat.le_refl _) _⟩

set_option maxHeartbeats 1000000 in
theorem backOf_any (f : Nat) (w : World) (hf : f < 2 ^ 46) :
    Calls Tryz.prog 169 #[.int .u64 (f : Int)] w fun e w' => e = .returned (bkv (backN f)) ∧ Below w.heap.size w w' := by
  have HP : (((f : Int) % 2097152 != 1048576) = true ∧ f % 2 ^ 21 ≠ 1048576) ∨ (((f : Int) % 2097152 != 1048576) = false ∧ f % 2 ^ 21 = 1048576) := by
    by_cases e : f % 2 ^ 21 = 1048576
    · exact .inr ⟨by rw [bne_eq_false_iff_eq]; omega, e⟩
    · exact .inl ⟨by rw [bne_iff_ne]; omega, e⟩
  have HQ : (((f : Int) / 2097152 % 2097152 != 1048576) = true ∧ f / 2 ^ 21 % 2 ^ 21 ≠ 1048576) ∨ (((f : Int) / 2097152 % 2097152 != 1048576) = false ∧ f / 2 ^ 21 % 2 ^ 21 = 1048576) := by
    by_cases e : f / 2 ^ 21 % 2 ^ 21 = 1048576
    · exact .inr ⟨by rw [bne_eq_false_iff_eq]; omega, e⟩
    · exact .inl ⟨by rw [bne_iff_ne]; omega, e⟩
  have e1 : wrap64 ((f : Int) / 2097152 / 2097152) = (f : Int) / 2097152 / 2097152 := by unfold wrap64; omega
  have HL := Lib.hid (noLast_any w.drew)
  rcases HP with ⟨hp, hp'⟩ | ⟨hp, hp'⟩
  all_goals rcases HQ with ⟨hq, hq'⟩ | ⟨hq, hq'⟩
  all_goals
    have HP := Lib.hid hp'
    have HQ := Lib.hid hq'
    clear hp' hq'
    go_enter Tryz.func169, Tryz.ntmps169
    go_wp2_with fail
    refine (noLast_any _).mono ?_
    rintro e w1 ⟨rfl, hb⟩
    have HB := Lib.hid hb
    have hO : Own w1 w.heap.size 96 [.int .i64 0, .int .u64 0, .int .u64 0] := (Own.new w 96 [.int .i64 0, .int .u64 0, .int .u64 0]).below hb (by simp)
    have hc0 := hO.cell 0
    have hc1 := hO.cell 1
    have hc2 := hO.cell 2
    have hf0 := hO.frozen 0
    have hf1 := hO.frozen 1
    have hf2 := hO.frozen 2
    have hz := hO.lt
    simp at hc0 hc1 hc2
    clear hb hO
    go_wp2_with fail
    refine wp_loop_rounds 3 ?_
    rw [rounds_succ]
    go_wp2_with fail
    refine (split_21 _ _ (by omega) (by omega)).mono ?_
    rintro e w2 ⟨rfl, rfl⟩
    go_wp2_with fail
    rw [rounds_succ]
    go_wp2_with fail
    refine (split_21 _ _ (by omega) (by omega)).mono ?_
    rintro e w2 ⟨rfl, rfl⟩
    go_wp2_with fail
    rw [rounds_succ]
    go_wp2_with fail
    refine bodyPost_ret (v := bkv (backN f)) (by simp [results, Tryz.results169, go_sem, hc0, hc1, hc2, hz, backN, lst, HP.out, HQ.out]) rfl ⟨rfl, ?_⟩
    exact (((((((Below.refl w.heap.size w).alloc (Nat.le_refl _) _).trans (HB.out.mono (by simp))).setCell (Nat.le_refl _) _).setCell (Nat.le_refl _) _).setCell (Nat.le_refl _) _).alloc (by simp; omega) _).drew.drew
end Go.Proofs.YteenlkmnadjnpaaGreat
namespace Go.Proofs.YteenlkmnadjnpaaGreat
open Go.RowKit Go.Deep
set_option linter.unusedVariables false
set_option linter.unusedSimpArgs false

set_option maxHeartbeats 1000000 in
theorem index_back (S : Nat → World → Prop) (p : Nat → Bool) (g : Nat) (lb : Array Value) (eg : ∀ args w, (callFunc g args).run Tryz.prog w = .ok (.enter g args) w)
    (L : List Bk) (a : Option Addr) (c B : Nat) (w : World) (hl : L.length ≤ 1000000)
    (hro : ∀ k W, S k W → Ro W B a (bcs L)) (h0 : S 0 w)
    (hf : ∀ k W, k < L.length → S k W → Calls Tryz.prog g (#[bkv (bk L k)] ++ lb) W fun e w' => e = .returned (.bool (p k)) ∧ S (k + 1) w') :
    Calls Tryz.prog 150 #[.slice a L.length c, .func (.func g) #[] lb] w fun e w' => e = .returned (.int .i64 (fx p L.length)) ∧ ∃ k, S k w' := by
  obtain ⟨n, HN⟩ : ∃ n, Hid (L.length = n) := ⟨_, Lib.hid rfl⟩
  have HR := Lib.hid hro
  have HF := Lib.hid hf
  have H0 := Lib.hid h0
  clear hro hf h0
  rw [HN.out] at hl ⊢
  go_enter Tryz.func150, Tryz.ntmps150
  go_wp2_with fail
  go_loopw [8] (fun i wr => ∃ k : Nat, k ≤ n ∧ i = .int .i64 (k : Int) ∧ Hid (S k wr) ∧ Hid (∀ j, j < k → p j = false)) (fun i _ => n - (intOf i).toNat)
  case atStart => exact ⟨0, Nat.zero_le _, rfl, H0, Lib.hid (by omega)⟩
  case round =>
    obtain ⟨k, hk, rfl, HS, HP⟩ := hrel
    by_cases hlt : k < n
    · have hkL : k < L.length := by rw [HN.out]; exact hlt
      obtain ⟨b, off, rfl, hb, hc⟩ := (HR.out k wr HS.out).bk (by omega)
      obtain ⟨c1, c2, c3⟩ := hc k hkL
      have HC := Lib.hid (HF.out k wr hkL HS.out)
      clear hc
      have hk0 : (0 : Int) ≤ (k : Int) := by omega
      have hk1 : (k : Int) < (n : Int) := by omega
      generalize bk L k = x at *
      cases hq : p k with
      | true =>
        have HQ := Lib.hid hq
        clear hq
        go_wp2_with fail
        refine HC.out.mono ?_
        rintro e w' ⟨rfl, hs⟩
        rw [HQ.out]
        have HS2 := Lib.hid hs
        clear hs
        go_wp2_with fail
        go_ret
        exact ⟨ret_int (fx_hit p n k hlt HQ.out HP.out).symm, _, HS2.out⟩
      | false =>
        have HQ := Lib.hid hq
        clear hq
        go_wp2_with fail
        refine HC.out.mono ?_
        rintro e w' ⟨rfl, hs⟩
        rw [HQ.out]
        have HS2 := Lib.hid hs
        clear hs
        go_wp2_with fail
        go_roundw
        case rel =>
          refine ⟨k + 1, by omega, by go_num, HS2, Lib.hid fun j hj => ?_⟩
          by_cases e : j = k
          · subst e; exact HQ.out
          · exact HP.out j (by omega)
        case measure => simp [intOf]; omega
    · obtain rfl : k = n := by omega
      go_wp2_with fail
      go_ret
      exact ⟨ret_int (fx_miss p k HP.out).symm, _, HS.out⟩

set_option maxHeartbeats 1000000 in
theorem contains_back (S : Nat → World → Prop) (p : Nat → Bool) (g : Nat) (lb : Array Value) (eg : ∀ args w, (callFunc g args).run Tryz.prog w = .ok (.enter g args) w)
    (L : List Bk) (a : Option Addr) (c B : Nat) (w : World) (hl : L.length ≤ 1000000)
    (hro : ∀ k W, S k W → Ro W B a (bcs L)) (h0 : S 0 w)
    (hf : ∀ k W, k < L.length → S k W → Calls Tryz.prog g (#[bkv (bk L k)] ++ lb) W fun e w' => e = .returned (.bool (p k)) ∧ S (k + 1) w') :
    Calls Tryz.prog 123 #[.slice a L.length c, .func (.func g) #[] lb] w fun e w' => e = .returned (.bool (anyN p L.length)) ∧ ∃ k, S k w' := by
  have HC := Lib.hid (index_back S p g lb eg L a c B w hl hro h0 hf)
  clear hro h0 hf
  obtain ⟨z, hz⟩ : ∃ z, z = fx p L.length := ⟨_, rfl⟩
  unfold anyN
  rw [← hz] at HC ⊢
  clear hz
  go_enter Tryz.func123, Tryz.ntmps123
  go_wp2_with fail
  refine HC.out.mono ?_
  rintro e w' ⟨rfl, hs⟩
  have HS := Lib.hid hs
  clear hs
  go_wp2_with fail
  go_ret
  exact ⟨rfl, HS.out⟩

set_option maxHeartbeats 1000000 in
theorem index_num (S : Nat → World → Prop) (p : Nat → Bool) (g : Nat) (lb : Array Value) (eg : ∀ args w, (callFunc g args).run Tryz.prog w = .ok (.enter g args) w)
    (L : List Nat) (a : Option Addr) (c B : Nat) (w : World) (hl : L.length ≤ 1000000)
    (hro : ∀ k W, S k W → Ro W B a (u64s L)) (h0 : S 0 w)
    (hf : ∀ k W, k < L.length → S k W → Calls Tryz.prog g (#[.int .u64 (L.getD k 0 : Nat)] ++ lb) W fun e w' => e = .returned (.bool (p k)) ∧ S (k + 1) w') :
    Calls Tryz.prog 202 #[.slice a L.length c, .func (.func g) #[] lb] w fun e w' => e = .returned (.int .i64 (fx p L.length)) ∧ ∃ k, S k w' := by
  obtain ⟨n, HN⟩ : ∃ n, Hid (L.length = n) := ⟨_, Lib.hid rfl⟩
  have HR := Lib.hid hro
  have HF := Lib.hid hf
  have H0 := Lib.hid h0
  clear hro hf h0
  rw [HN.out] at hl ⊢
  go_enter Tryz.func202, Tryz.ntmps202
  go_wp2_with fail
  go_loopw [8] (fun i wr => ∃ k : Nat, k ≤ n ∧ i = .int .i64 (k : Int) ∧ Hid (S k wr) ∧ Hid (∀ j, j < k → p j = false)) (fun i _ => n - (intOf i).toNat)
  case atStart => exact ⟨0, Nat.zero_le _, rfl, H0, Lib.hid (by omega)⟩
  case round =>
    obtain ⟨k, hk, rfl, HS, HP⟩ := hrel
    by_cases hlt : k < n
    · have hkL : k < L.length := by rw [HN.out]; exact hlt
      obtain ⟨b, off, rfl, hb, hc⟩ := (HR.out k wr HS.out).u64 (by omega)
      have c1 := hc k hkL
      have HC := Lib.hid (HF.out k wr hkL HS.out)
      clear hc
      have hk0 : (0 : Int) ≤ (k : Int) := by omega
      have hk1 : (k : Int) < (n : Int) := by omega
      generalize L.getD k 0 = x at *
      cases hq : p k with
      | true =>
        have HQ := Lib.hid hq
        clear hq
        go_wp2_with fail
        refine HC.out.mono ?_
        rintro e w' ⟨rfl, hs⟩
        rw [HQ.out]
        have HS2 := Lib.hid hs
        clear hs
        go_wp2_with fail
        go_ret
        exact ⟨ret_int (fx_hit p n k hlt HQ.out HP.out).symm, _, HS2.out⟩
      | false =>
        have HQ := Lib.hid hq
        clear hq
        go_wp2_with fail
        refine HC.out.mono ?_
        rintro e w' ⟨rfl, hs⟩
        rw [HQ.out]
        have HS2 := Lib.hid hs
        clear hs
        go_wp2_with fail
        go_roundw
        case rel =>
          refine ⟨k + 1, by omega, by go_num, HS2, Lib.hid fun j hj => ?_⟩
          by_cases e : j = k
          · subst e; exact HQ.out
          · exact HP.out j (by omega)
        case measure => simp [intOf]; omega
    · obtain rfl : k = n := by omega
      go_wp2_with fail
      go_ret
      exact ⟨ret_int (fx_miss p k HP.out).symm, _, HS.out⟩

set_option maxHeartbeats 1000000 in
theorem contains_num (S : Nat → World → Prop) (p : Nat → Bool) (g : Nat) (lb : Array Value) (eg : ∀ args w, (callFunc g args).run Tryz.prog w = .ok (.enter g args) w)
    (L : List Nat) (a : Option Addr) (c B : Nat) (w : World) (hl : L.length ≤ 1000000)
    (hro : ∀ k W, S k W → Ro W B a (u64s L)) (h0 : S 0 w)
    (hf : ∀ k W, k < L.length → S k W → Calls Tryz.prog g (#[.int .u64 (L.getD k 0 : Nat)] ++ lb) W fun e w' => e = .returned (.bool (p k)) ∧ S (k + 1) w') :
    Calls Tryz.prog 179 #[.slice a L.length c, .func (.func g) #[] lb] w fun e w' => e = .returned (.bool (anyN p L.length)) ∧ ∃ k, S k w' := by
  have HC := Lib.hid (index_num S p g lb eg L a c B w hl hro h0 hf)
  clear hro h0 hf
  obtain ⟨z, hz⟩ : ∃ z, z = fx p L.length := ⟨_, rfl⟩
  unfold anyN
  rw [← hz] at HC ⊢
  clear hz
  go_enter Tryz.func179, Tryz.ntmps179
  go_wp2_with fail
  refine HC.out.mono ?_
  rintro e w' ⟨rfl, hs⟩
  have HS := Lib.hid hs
  clear hs
  go_wp2_with fail
  go_ret
  exact ⟨rfl, HS.out⟩
end Go.Proofs.YteenlkmnadjnpaaGreat
