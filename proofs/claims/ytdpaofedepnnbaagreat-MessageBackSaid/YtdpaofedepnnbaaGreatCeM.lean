/-
  Plain mathematics of cells: valid ones, their bytes, and bytes' cells. Lemmas only, no claim of their own.
-/
import Derived.Test.YtdpaofedepnnbaaGreatCeC
import Derived.Test.YtdpaofedepnnbaaGreatCeW
namespace Go.Proofs.YtdpaofedepnnbaaGreat
open Go.RowKit Go.Deep
set_option linter.unusedVariables false
set_option linter.unusedSimpArgs false

/-! valid cells -/
theorem bbad_false {m : Int} {b : Bk} (h : bbad m b = false) : m ≤ b.1 ∧ b.1 < 16 ∧ lastOk b = true := by
  unfold bbad at h
  simp only [Bool.or_eq_false_iff, decide_eq_false_iff_not, Bool.not_eq_false'] at h
  exact ⟨by omega, by omega, h.2⟩
theorem backsOk_at {L : List Bk} (h : backsOk L = true) : ∀ i, i < L.length → 0 ≤ least L i ∧ least L i ≤ (bk L i).1 ∧ (bk L i).1 < 16 ∧ lastOk (bk L i) = true := by
  unfold backsOk at h
  rw [Bool.not_eq_true', anyN_false] at h
  intro i
  induction i with
  | zero => intro hi; exact ⟨by simp [least], bbad_false (h 0 hi)⟩
  | succ i ih =>
    intro hi
    have h1 := ih (by omega)
    refine ⟨?_, bbad_false (h (i + 1) hi)⟩
    simp only [least, Nat.add_sub_cancel, if_neg (Nat.succ_ne_zero i)]
    unfold wrap64
    omega
theorem backsOk_lt {L : List Bk} (h : backsOk L = true) (i : Nat) (hi : i + 1 < L.length) : (bk L i).1 < (bk L (i + 1)).1 := by
  have h1 := backsOk_at h i (by omega)
  have h2 := backsOk_at h (i + 1) hi
  simp only [least, Nat.add_sub_cancel, if_neg (Nat.succ_ne_zero i)] at h2
  unfold wrap64 at h2
  omega
theorem backsOk_mono {L : List Bk} (h : backsOk L = true) (i j : Nat) (hij : i < j) (hj : j < L.length) : (bk L i).1 < (bk L j).1 := by
  induction j with
  | zero => omega
  | succ j ih =>
    have h1 := backsOk_lt h j hj
    by_cases e : i = j
    · subst e; exact h1
    · have := ih (by omega) (by omega); omega
theorem right_data {x : Ce} (h : right x = true) (hk : x.k = 1) : x.d.length ≤ 100 ∧ x.b.length ≤ 4 ∧ backsOk x.b = true := by
  unfold right at h
  rw [hk] at h
  simp only [if_neg (show ¬ (1 : Int) = 2 by omega), if_true, Bool.and_eq_true, decide_eq_true_eq] at h
  exact ⟨h.1.1, h.1.2, h.2⟩
theorem right_junk {x : Ce} (h : right x = true) (hk : x.k = 2) : x = ⟨2, [], []⟩ := by
  unfold right at h
  rw [hk] at h
  simp only [if_true, decide_eq_true_eq] at h
  exact Ce.ext' hk (List.eq_nil_of_length_eq_zero h.1) (List.eq_nil_of_length_eq_zero h.2)
theorem right_kind {x : Ce} (h : right x = true) : x.k = 1 ∨ x.k = 2 := by
  unfold right at h
  by_cases h2 : x.k = 2
  · exact .inr h2
  · by_cases h1 : x.k = 1
    · exact .inl h1
    · rw [if_neg h2, if_neg h1] at h; cases h

/-! numbers of Backs -/
theorem fieldN_lt {b : Bk} (h0 : 0 ≤ b.1) (h1 : b.1 < 16) : fieldN b < 2 ^ 46 := by
  have m1 : min b.2.1 1048576 ≤ 1048576 := Nat.min_le_right _ _
  have m2 : min b.2.2 1048576 ≤ 1048576 := Nat.min_le_right _ _
  unfold fieldN
  omega
theorem back_field {b : Bk} (h0 : 0 ≤ b.1) (h1 : b.1 < 16) (hl : lastOk b = true) : backN (fieldN b) = b := by
  obtain ⟨s, p, q⟩ := b
  have hl := lastOk_iff.1 hl
  simp only at h0 h1 hl
  unfold backN fieldN lst
  simp only
  have hp : min p 1048576 = if p = 18446744073709551615 then 1048576 else p := by split <;> omega
  have hq : min q 1048576 = if q = 18446744073709551615 then 1048576 else q := by split <;> omega
  rw [hp, hq]
  refine Prod.ext ?_ (Prod.ext ?_ ?_)
  · simp only
    split <;> split <;> omega
  · simp only
    split <;> split <;> split <;> omega
  · simp only
    split <;> split <;> split <;> omega
theorem field_back {f : Nat} (hf : f < 2 ^ 46) (hl : lastOk (backN f) = true) : fieldN (backN f) = f := by
  have hl := lastOk_iff.1 hl
  unfold backN lst at hl
  unfold fieldN backN lst
  simp only at hl ⊢
  have e : ((f / 2 ^ 21 / 2 ^ 21 : Nat) : Int).toNat = f / 2 ^ 21 / 2 ^ 21 := by omega
  rw [e]
  obtain ⟨h1, h2⟩ := hl
  split at h1 <;> split at h2 <;> simp only [*, if_true, if_false] <;> omega

/-! bytes of a cell -/
/-- the numbers of a cell -/
def vals (x : Ce) : List Nat := headN x.b.length x.d.length :: x.b.map fieldN
/-- these are a cell's bytes -/
def IsEnc (x : Ce) (bs : List UInt8) : Prop := (x.k = 2 ∧ bs = [2]) ∨ (x.k = 1 ∧ ∃ cs, IsPack (wid x.b.length) (vals x) cs ∧ bs = cs ++ x.d)
theorem IsEnc.unique {x : Ce} {a b : List UInt8} (h1 : IsEnc x a) (h2 : IsEnc x b) : a = b := by
  rcases h1 with ⟨k1, rfl⟩ | ⟨k1, cs, hc, rfl⟩ <;> rcases h2 with ⟨k2, rfl⟩ | ⟨k2, ds, hd, rfl⟩
  · rfl
  · omega
  · omega
  · rw [hc.unique hd]
theorem wid_at (n i : Nat) (h : i < n + 1) : (wid n).getD i 0 = if i = 0 then 12 else 46 := by
  cases i with
  | zero => rfl
  | succ i =>
    have : i < n := by omega
    simp [wid, List.getD, this]
theorem wid_span (n : Nat) : (spanOf (wid n)).isSome := by
  unfold spanOf
  rw [if_pos]
  · rfl
  · rw [List.all_eq_true]
    intro x hx
    simp only [wid, List.mem_cons, List.mem_replicate] at hx
    rcases hx with rfl | ⟨_, rfl⟩ <;> decide
theorem nat_wid (n : Nat) : nat (wid n) = 12 :: List.replicate n 46 := by simp [nat, wid]
theorem wid_sum (n : Nat) : (nat (wid n)).sum = 12 + 46 * n := by rw [nat_wid]; simp [List.sum_replicate_nat]; omega
theorem vals_length (x : Ce) : (vals x).length = x.b.length + 1 := by simp [vals]
theorem headN_lt {nb nd : Nat} (h1 : nb < 8) (h2 : nd < 128) : headN nb nd < 2 ^ 12 := by unfold headN; omega
theorem vals_at (x : Ce) (i : Nat) (h : i < x.b.length) : (vals x).getD (i + 1) 0 = fieldN (bk x.b i) := by
  simp [vals, bk, List.getD, h]
theorem packOk_vals {x : Ce} (h : right x = true) (hk : x.k = 1) : PackOk (wid x.b.length) (vals x) := by
  obtain ⟨h1, h2, h3⟩ := right_data h hk
  refine ⟨wid_span _, by rw [wid_length, vals_length], fun i hi => ?_⟩
  rw [wid_length] at hi
  rw [wid_at _ _ hi]
  cases i with
  | zero => exact headN_lt (by omega) (by omega)
  | succ i =>
    have hb := backsOk_at h3 i (by omega)
    rw [vals_at x i (by omega), if_neg (by omega)]
    exact fieldN_lt (by omega) (by omega)

/-! a cell of bytes -/
/-- how many Backs the bytes tell -/
def cntOf (bs : List UInt8) : Nat := num bs 0 12 / 128 % 8
/-- where their data begin -/
def begOf (bs : List UInt8) : Nat := bs.length - num bs 0 12 % 128
/-- the bytes tell this cell, valid or not -/
def IsDec (bs : List UInt8) (x : Ce) : Prop := 2 ≤ bs.length ∧ num bs 0 12 / 1024 = 1 ∧ num bs 0 12 % 128 ≤ bs.length ∧ UnpOk (wid (cntOf bs)) (bs.take (begOf bs)) ∧
  x = ⟨1, bs.drop (begOf bs), ((unpL (wid (cntOf bs)) (bs.take (begOf bs)) (cntOf bs + 1)).drop 1).map backN⟩
theorem bit_take (bs : List UInt8) (k i : Nat) (h : i < 8 * k) : bit (bs.take k) i = bit bs i := by
  unfold bit
  have : (bs.take k).getD (i / 8) 0 = bs.getD (i / 8) 0 := by
    simp only [List.getD, List.getElem?_take]
    rw [if_pos (by omega)]
  rw [this]
theorem num_take (bs : List UInt8) (k a n : Nat) (h : a + n ≤ 8 * k) : num (bs.take k) a n = num bs a n := by
  induction n with
  | zero => rfl
  | succ n ih => simp only [num]; rw [ih (by omega), bit_take _ _ _ (by omega)]
theorem num_left (cs ds : List UInt8) (a n : Nat) (h : a + n ≤ 8 * cs.length) : num (cs ++ ds) a n = num cs a n := by
  have := num_take (cs ++ ds) cs.length a n h
  rw [List.take_left] at this
  exact this.symm
theorem wid_range (n : Nat) : ∀ i, i < (wid n).length → 0 ≤ (wid n).getD i 0 ∧ (wid n).getD i 0 ≤ 64 := by
  intro i hi
  rw [wid_length] at hi
  rw [wid_at _ _ hi]
  split <;> omega
theorem unpL_getD (l : List Int) (bs : List UInt8) (n i : Nat) (h : i < n) : (unpL l bs n).getD i 0 = num bs ((nat l).take i).sum (l.getD i 0).toNat := by
  simp [unpL, List.getD, h]
/-- what is told, and is valid, has these bytes -/
theorem enc_of_dec {bs : List UInt8} {x : Ce} (h : IsDec bs x) (hr : right x = true) : IsEnc x bs := by
  obtain ⟨h1, h2, h3, h4, hx⟩ := h
  have hk : x.k = 1 := by rw [hx]
  have hd : x.d = bs.drop (begOf bs) := by rw [hx]
  have hb : x.b = ((unpL (wid (cntOf bs)) (bs.take (begOf bs)) (cntOf bs + 1)).drop 1).map backN := by rw [hx]
  have hbl : x.b.length = cntOf bs := by rw [hb]; simp
  have hdl : x.d.length = num bs 0 12 % 128 := by rw [hd, List.length_drop]; unfold begOf; omega
  obtain ⟨r1, r2, r3⟩ := right_data hr hk
  refine .inr ⟨hk, bs.take (begOf bs), ?_, by rw [hd, List.take_append_drop]⟩
  have hu := unpL_is (wid (cntOf bs)) (bs.take (begOf bs))
  rw [wid_length] at hu
  have hp := isPack_self h4 hu
  have hlen := h4.2.1
  rw [wid_sum] at hlen
  have e : vals x = unpL (wid (cntOf bs)) (bs.take (begOf bs)) (cntOf bs + 1) := by
    apply List.ext_getElem
    · rw [vals_length, unpL_length, hbl]
    · intro i g1 g2
      rw [vals_length] at g1
      rw [unpL_length] at g2
      have a1 : (vals x)[i] = (vals x).getD i 0 := by simp [List.getD, vals_length, g1]
      have a2 : (unpL (wid (cntOf bs)) (bs.take (begOf bs)) (cntOf bs + 1))[i] = (unpL (wid (cntOf bs)) (bs.take (begOf bs)) (cntOf bs + 1)).getD i 0 := by simp [List.getD, g2]
      rw [a1, a2]
      cases i with
      | zero =>
        rw [unpL_getD _ _ _ _ (by omega), wid_at _ _ (by omega)]
        show headN x.b.length x.d.length = num (bs.take (begOf bs)) 0 12
        rw [num_take _ _ _ _ (by rw [List.length_take] at hlen; omega), hbl, hdl]
        unfold headN cntOf
        omega
      | succ i =>
        have hi : i < x.b.length := by omega
        have hbk := backsOk_at r3 i hi
        rw [vals_at x i hi]
        have e2 : bk x.b i = backN ((unpL (wid (cntOf bs)) (bs.take (begOf bs)) (cntOf bs + 1)).getD (i + 1) 0) := by
          unfold bk
          rw [hb]
          simp only [List.getD, List.getElem?_map, List.getElem?_drop]
          rw [show 1 + i = i + 1 by omega]
          simp [List.getElem?_eq_getElem (show i + 1 < (unpL (wid (cntOf bs)) (bs.take (begOf bs)) (cntOf bs + 1)).length by simp; omega)]
        rw [e2]
        apply field_back
        · rw [unpL_getD _ _ _ _ (by omega), wid_at _ _ (by omega), if_neg (by omega)]
          exact num_lt _ _ _
        · rw [← e2]; exact hbk.2.2.2
  rw [hbl, e]
  exact hp
/-- a valid cell's bytes tell it -/
theorem dec_of_enc {bs : List UInt8} {x : Ce} (h : IsEnc x bs) (hr : right x = true) (hk : x.k = 1) : IsDec bs x := by
  rcases h with ⟨h, _⟩ | ⟨_, cs, hc, rfl⟩
  · omega
  obtain ⟨r1, r2, r3⟩ := right_data hr hk
  have hlen := hc.1
  rw [wid_sum] at hlen
  have hpo := packOk_vals hr hk
  have hu := isUnp_of_pack hpo hc
  have h0 := hu.2 0 (by rw [wid_length]; omega)
  rw [wid_at _ _ (by omega)] at h0
  have h0 : headN x.b.length x.d.length = num cs 0 12 := h0
  have hnum : num (cs ++ x.d) 0 12 = headN x.b.length x.d.length := by rw [num_left _ _ _ _ (by omega), h0]
  have hcnt : cntOf (cs ++ x.d) = x.b.length := by unfold cntOf; rw [hnum]; unfold headN; omega
  have hsz : num (cs ++ x.d) 0 12 % 128 = x.d.length := by rw [hnum]; unfold headN; omega
  have hbeg : begOf (cs ++ x.d) = cs.length := by unfold begOf; rw [hsz, List.length_append]; omega
  have huo := unpOk_of (wid_span _) (by rw [wid_length, vals_length]) hc
  have hun : unpL (wid x.b.length) cs (x.b.length + 1) = vals x := by
    have := unpL_is (wid x.b.length) cs
    rw [wid_length] at this
    exact this.unique hu
  refine ⟨by rw [List.length_append]; omega, by rw [hnum]; unfold headN; omega, by rw [hsz, List.length_append]; omega, ?_, ?_⟩
  · rw [hcnt, hbeg, List.take_left]; exact huo
  · rw [hcnt, hbeg, List.take_left, List.drop_left, hun]
    refine Ce.ext' hk rfl ?_
    show x.b = ((vals x).drop 1).map backN
    show x.b = (x.b.map fieldN).map backN
    rw [List.map_map]
    apply List.ext_getElem (by simp)
    intro i g1 g2
    have hbk := backsOk_at r3 i g1
    have e : bk x.b i = x.b[i] := by simp [bk, List.getD, g1]
    rw [e] at hbk
    simp only [List.getElem_map, Function.comp]
    exact (back_field (by omega) (by omega) hbk.2.2.2).symm
theorem IsDec.unique {bs : List UInt8} {x y : Ce} (h1 : IsDec bs x) (h2 : IsDec bs y) : x = y := h1.2.2.2.2.trans h2.2.2.2.2.symm
theorem enc_length {x : Ce} {bs : List UInt8} (h : IsEnc x bs) (hr : right x = true) : (x.k = 2 ∧ bs.length = 1) ∨ (x.k = 1 ∧ bs.length = (12 + 46 * x.b.length + 7) / 8 + x.d.length ∧ bs.drop ((12 + 46 * x.b.length + 7) / 8) = x.d) := by
  rcases h with ⟨h, rfl⟩ | ⟨hk, cs, hc, rfl⟩
  · exact .inl ⟨h, rfl⟩
  · have hlen := hc.1
    rw [wid_sum] at hlen
    exact .inr ⟨hk, by rw [List.length_append]; omega, by rw [← hlen, List.drop_left]⟩
theorem enc_inj {x y : Ce} {bs : List UInt8} (h1 : IsEnc x bs) (hx : right x = true) (h2 : IsEnc y bs) (hy : right y = true) : x = y := by
  rcases right_kind hx with kx | kx <;> rcases right_kind hy with ky | ky
  · exact (dec_of_enc h1 hx kx).unique (dec_of_enc h2 hy ky)
  · have l1 := enc_length h1 hx
    have l2 := enc_length h2 hy
    omega
  · have l1 := enc_length h1 hx
    have l2 := enc_length h2 hy
    omega
  · rw [right_junk hx kx, right_junk hy ky]
end Go.Proofs.YtdpaofedepnnbaaGreat
