/-
  Small functions of package cell, by their contracts: joined, split, noLast. No claim of their own.
-/
import Derived.Test.YtkdgoopldaoihaaGb1
import Derived.Test.YtkdgoopldaoihaaGb4
import Derived.Deep.RegionHeld3
import Derived.Shelf.Lay
import Derived.Deep.RegionLaw
namespace Go.Proofs.Ytkdgoopldaoihaa
open Go.RowKit Go.Deep
set_option linter.unusedVariables false
set_option linter.unusedSimpArgs false

theorem join_int (h l n : Nat) (hn : n ≤ 64) (hh : h * 2 ^ n < 18446744073709551616) (hl : l < 2 ^ n) :
    bits BinOp.or IntKind.u64 (IntKind.u64.wrap ((h : Int) * 2 ^ n)) (l : Int) = ((h * 2 ^ n + l : Nat) : Int) := by
  have e : ((h : Int) * 2 ^ n) = ((h * 2 ^ n : Nat) : Int) := by simp
  have h3 := pow_le_64 hn
  rw [e, wrap_u64_nat _ hh, u64_or_nat _ _ hh (by omega), nat_join n _ _ (Nat.mul_mod_left _ _) hl]

/-- what the encoding of data says ahead of the Backs, as one number -/
def headN (nb nd : Nat) : Nat := (1 * 2 ^ 3 + nb) * 2 ^ 7 + nd
/-- a Back as one number -/
def fieldN (b : Bk) : Nat := (b.1.toNat * 2 ^ 21 + min b.2.1 1048576) * 2 ^ 21 + min b.2.2 1048576
/-- an address out of its bits -/
def lst (a : Nat) : Nat := if a = 1048576 then 18446744073709551615 else a
/-- a Back out of its number -/
def backN (f : Nat) : Bk := (((f / 2 ^ 21 / 2 ^ 21 : Nat) : Int), lst (f / 2 ^ 21 % 2 ^ 21), lst (f % 2 ^ 21))

end Go.Proofs.Ytkdgoopldaoihaa
namespace Go.Proofs.Ytkdgoopldaoihaa
open Go.RowKit Go.Deep
set_option linter.unusedVariables false
set_option linter.unusedSimpArgs false

end Go.Proofs.Ytkdgoopldaoihaa
namespace Go.Proofs.Ytkdgoopldaoihaa
open Go.RowKit Go.Deep Go.Shelf
set_option linter.unusedVariables false
set_option linter.unusedSimpArgs false

/-- an address that may not come, the ones below m being free -/
def lbad (m x : Nat) : Bool := if x = 18446744073709551615 then false else decide (m ≤ x)
/-- what is free behind it -/
def nlim (x : Nat) : Nat := if x = 18446744073709551615 then 0 else x
/-- what is free ahead of the k-th -/
def lim (l : List Nat) (k : Nat) : Nat := if k = 0 then 1048576 else nlim (l.getD (k - 1) 0)
/-- may these be a Back's? -/
def lastOk (b : Bk) : Bool := !anyN (fun k => lbad (lim [b.2.1, b.2.2] k) ([b.2.1, b.2.2].getD k 0)) 2
theorem lastOk_iff {b : Bk} : lastOk b = true ↔ (b.2.1 = 18446744073709551615 ∨ b.2.1 < 1048576) ∧ (b.2.2 = 18446744073709551615 ∨ b.2.1 ≠ 18446744073709551615 ∧ b.2.2 < b.2.1) := by
  obtain ⟨s, p, q⟩ := b
  unfold lastOk
  rw [Bool.not_eq_true', anyN_false]
  constructor
  · intro h
    have h0 := h 0 (by omega)
    have h1 := h 1 (by omega)
    simp [lbad, lim, nlim] at h0 h1
    show (p = _ ∨ p < _) ∧ (q = _ ∨ p ≠ _ ∧ q < p)
    split at h1 <;> omega
  · intro h j hj
    replace h : (p = 18446744073709551615 ∨ p < 1048576) ∧ (q = 18446744073709551615 ∨ p ≠ 18446744073709551615 ∧ q < p) := h
    have hj' : j = 0 ∨ j = 1 := by omega
    rcases hj' with rfl | rfl
    · simp [lbad, lim]
      omega
    · simp [lbad, lim, nlim]
      split <;> omega
/-- the least stream that may come ahead of the k-th -/
def least (L : List Bk) (k : Nat) : Int := if k = 0 then 0 else wrap64 ((bk L (k - 1)).1 + 1)
/-- a Back that may not come -/
def bbad (m : Int) (b : Bk) : Bool := decide (b.1 < m) || decide (16 ≤ b.1) || !lastOk b
/-- may these be a cell's? -/
def backsOk (L : List Bk) : Bool := !anyN (fun k => bbad (least L k) (bk L k)) L.length
/-- is a cell valid? -/
def right (x : Ce) : Bool := if x.k = 2 then decide (x.d.length = 0 ∧ x.b.length = 0) else if x.k = 1 then decide (x.d.length ≤ 100 ∧ x.b.length ≤ 4) && backsOk x.b else false

end Go.Proofs.Ytkdgoopldaoihaa
namespace Go.Proofs.Ytkdgoopldaoihaa
open Go.RowKit Go.Deep
set_option linter.unusedVariables false
set_option linter.unusedSimpArgs false

theorem Try.info_i64 : (Try.prog.info? 3).map (fun i => (i.zero, i.size, i.bytes)) = some (some (.int .i64 0), 1, 8) := by kernel_rfl
theorem Try.size_i64 : (Try.prog.info? 3).map (·.size) = some 1 := by kernel_rfl
theorem made_i64s (n : Nat) : madeCells #[.int .i64 0] n = (i64s (List.replicate n 0)).toArray := by
  apply Array.ext
  · simp [size_madeCells, i64s]
  · intro i h1 h2
    simp [madeCells, i64s, Nat.mod_one]
theorem own_madei (w : World) (n : Nat) : Own (w.alloc (.cells (madeCells #[.int .i64 0] n) 3)) w.heap.size 3 (i64s (List.replicate n 0)) := by
  rw [made_i64s]
  exact Own.new w 3 _
theorem i64s_oneCell (bs : List Int) : ∀ v ∈ i64s bs, v.oneCell' = true := by
  intro v hv
  simp only [i64s, List.mem_map] at hv
  obtain ⟨x, _, rfl⟩ := hv
  rfl
/-- the row on the way: k of n are laid -/
def rpt (x : Int) (n k : Nat) : List Int := List.replicate k x ++ List.replicate (n - k) 0
theorem rpt_zero (x : Int) (n : Nat) : rpt x n 0 = List.replicate n 0 := by simp [rpt]
theorem rpt_full (x : Int) (n : Nat) : rpt x n n = List.replicate n x := by simp [rpt]
@[simp] theorem rpt_length (x : Int) (n k : Nat) (h : k ≤ n) : (rpt x n k).length = n := by simp [rpt]; omega
theorem rpt_step (x : Int) (n k m : Nat) (h : k + m ≤ n) : splice (i64s (rpt x n k)) k (i64s (List.replicate m x)) = i64s (rpt x n (k + m)) := by
  unfold splice rpt i64s
  simp only [List.map_append, List.map_replicate, List.length_replicate]
  rw [List.take_append_of_le_length (by simp), List.take_of_length_le (by simp), List.drop_append, List.drop_of_length_le (by simp)]
  simp only [List.length_replicate, List.drop_replicate, List.nil_append]
  rw [show n - k - (k + m - k) = n - (k + m) by omega, ← List.append_assoc, List.replicate_append_replicate]
theorem Own.lst {w : World} {g base : Nat} {e : TypeId} {xs : List Value} (h : Own w g e xs) (hb : base ≤ g) (n : Nat) (hn : xs.length = n) (hm : n ≤ maxLen) : Lst w base e (.slice (some ⟨g, 0, none⟩) n n) xs := by
  subst hn
  exact ⟨by simp, .inr ⟨g, xs.length, xs.toArray, rfl, hb, h, Nat.le_refl _, hm, by simp, by simp⟩⟩
/-- the widths of so many Backs, and of what is ahead -/
def wid (n : Nat) : List Int := 12 :: List.replicate n 46
end Go.Proofs.Ytkdgoopldaoihaa
namespace Go.Proofs.Ytkdgoopldaoihaa
open Go.RowKit Go.Deep
set_option linter.unusedVariables false
set_option linter.unusedSimpArgs false

/-! valid cells -/
theorem bbad_false {m : Int} {b : Bk} (h : bbad m b = false) : m ≤ b.1 ∧ b.1 < 16 ∧ lastOk b = true := by
  unfold bbad at h
  simp only [Bool.or_eq_false_iff, decide_eq_false_iff_not, Bool.not_eq_false'] at h
  exact ⟨by omega, by omega, h.2⟩
theorem backsOk_at {L : List Bk} (h : backsOk L = true) : ∀ i, i < L.length → 0 ≤ least L i ∧ least L i ≤ (bk L i).1 ∧ (bk L i).1 < 16 ∧ lastOk (bk L i) = true := by
  unfold backsOk at h
  rw [Bool.not_eq_true', anyN_false] at h
  intro i
  induction i with
  | zero => intro hi; exact ⟨by simp [least], bbad_false (h 0 hi)⟩
  | succ i ih =>
    intro hi
    have h1 := ih (by omega)
    refine ⟨?_, bbad_false (h (i + 1) hi)⟩
    simp only [least, Nat.add_sub_cancel, if_neg (Nat.succ_ne_zero i)]
    unfold wrap64
    omega
theorem backsOk_lt {L : List Bk} (h : backsOk L = true) (i : Nat) (hi : i + 1 < L.length) : (bk L i).1 < (bk L (i + 1)).1 := by
  have h1 := backsOk_at h i (by omega)
  have h2 := backsOk_at h (i + 1) hi
  simp only [least, Nat.add_sub_cancel, if_neg (Nat.succ_ne_zero i)] at h2
  unfold wrap64 at h2
  omega
theorem backsOk_mono {L : List Bk} (h : backsOk L = true) (i j : Nat) (hij : i < j) (hj : j < L.length) : (bk L i).1 < (bk L j).1 := by
  induction j with
  | zero => omega
  | succ j ih =>
    have h1 := backsOk_lt h j hj
    by_cases e : i = j
    · subst e; exact h1
    · have := ih (by omega) (by omega); omega
theorem right_data {x : Ce} (h : right x = true) (hk : x.k = 1) : x.d.length ≤ 100 ∧ x.b.length ≤ 4 ∧ backsOk x.b = true := by
  unfold right at h
  rw [hk] at h
  simp only [if_neg (show ¬ (1 : Int) = 2 by omega), if_true, Bool.and_eq_true, decide_eq_true_eq] at h
  exact ⟨h.1.1, h.1.2, h.2⟩
theorem right_junk {x : Ce} (h : right x = true) (hk : x.k = 2) : x = ⟨2, [], []⟩ := by
  unfold right at h
  rw [hk] at h
  simp only [if_true, decide_eq_true_eq] at h
  exact Ce.ext' hk (List.eq_nil_of_length_eq_zero h.1) (List.eq_nil_of_length_eq_zero h.2)
theorem right_kind {x : Ce} (h : right x = true) : x.k = 1 ∨ x.k = 2 := by
  unfold right at h
  by_cases h2 : x.k = 2
  · exact .inr h2
  · by_cases h1 : x.k = 1
    · exact .inl h1
    · rw [if_neg h2, if_neg h1] at h; cases h

/-! numbers of Backs -/
theorem fieldN_lt {b : Bk} (h0 : 0 ≤ b.1) (h1 : b.1 < 16) : fieldN b < 2 ^ 46 := by
  have m1 : min b.2.1 1048576 ≤ 1048576 := Nat.min_le_right _ _
  have m2 : min b.2.2 1048576 ≤ 1048576 := Nat.min_le_right _ _
  unfold fieldN
  omega
theorem back_field {b : Bk} (h0 : 0 ≤ b.1) (h1 : b.1 < 16) (hl : lastOk b = true) : backN (fieldN b) = b := by
  obtain ⟨s, p, q⟩ := b
  have hl := lastOk_iff.1 hl
  simp only at h0 h1 hl
  unfold backN fieldN lst
  simp only
  have hp : min p 1048576 = if p = 18446744073709551615 then 1048576 else p := by split <;> omega
  have hq : min q 1048576 = if q = 18446744073709551615 then 1048576 else q := by split <;> omega
  rw [hp, hq]
  refine Prod.ext ?_ (Prod.ext ?_ ?_)
  · simp only
    split <;> split <;> omega
  · simp only
    split <;> split <;> split <;> omega
  · simp only
    split <;> split <;> split <;> omega
theorem field_back {f : Nat} (hf : f < 2 ^ 46) (hl : lastOk (backN f) = true) : fieldN (backN f) = f := by
  have hl := lastOk_iff.1 hl
  unfold backN lst at hl
  unfold fieldN backN lst
  simp only at hl ⊢
  have e : ((f / 2 ^ 21 / 2 ^ 21 : Nat) : Int).toNat = f / 2 ^ 21 / 2 ^ 21 := by omega
  rw [e]
  obtain ⟨h1, h2⟩ := hl
  split at h1 <;> split at h2 <;> simp only [*, if_true, if_false] <;> omega

/-! bytes of a cell -/
/-- the numbers of a cell -/
def vals (x : Ce) : List Nat := headN x.b.length x.d.length :: x.b.map fieldN
/-- these are a cell's bytes -/
def IsEnc (x : Ce) (bs : List UInt8) : Prop := (x.k = 2 ∧ bs = [2]) ∨ (x.k = 1 ∧ ∃ cs, IsPack (wid x.b.length) (vals x) cs ∧ bs = cs ++ x.d)
theorem IsEnc.unique {x : Ce} {a b : List UInt8} (h1 : IsEnc x a) (h2 : IsEnc x b) : a = b := by
  rcases h1 with ⟨k1, rfl⟩ | ⟨k1, cs, hc, rfl⟩ <;> rcases h2 with ⟨k2, rfl⟩ | ⟨k2, ds, hd, rfl⟩
  · rfl
  · omega
  · omega
  · rw [hc.unique hd]
theorem wid_at (n i : Nat) (h : i < n + 1) : (wid n).getD i 0 = if i = 0 then 12 else 46 := by
  cases i with
  | zero => rfl
  | succ i =>
    have : i < n := by omega
    simp [wid, List.getD, this]
theorem wid_span (n : Nat) : (spanOf (wid n)).isSome := by
  unfold spanOf
  rw [if_pos]
  · rfl
  · rw [List.all_eq_true]
    intro x hx
    simp only [wid, List.mem_cons, List.mem_replicate] at hx
    rcases hx with rfl | ⟨_, rfl⟩ <;> decide
theorem nat_wid (n : Nat) : nat (wid n) = 12 :: List.replicate n 46 := by simp [nat, wid]
theorem wid_sum (n : Nat) : (nat (wid n)).sum = 12 + 46 * n := by rw [nat_wid]; simp [List.sum_replicate_nat]; omega
theorem vals_length (x : Ce) : (vals x).length = x.b.length + 1 := by simp [vals]
theorem headN_lt {nb nd : Nat} (h1 : nb < 8) (h2 : nd < 128) : headN nb nd < 2 ^ 12 := by unfold headN; omega
theorem vals_at (x : Ce) (i : Nat) (h : i < x.b.length) : (vals x).getD (i + 1) 0 = fieldN (bk x.b i) := by
  simp [vals, bk, List.getD, h]
/-! a cell of bytes -/
/-- how many Backs the bytes tell -/
def cntOf (bs : List UInt8) : Nat := num bs 0 12 / 128 % 8
/-- where their data begin -/
def begOf (bs : List UInt8) : Nat := bs.length - num bs 0 12 % 128
/-- the bytes tell this cell, valid or not -/
def IsDec (bs : List UInt8) (x : Ce) : Prop := 2 ≤ bs.length ∧ num bs 0 12 / 1024 = 1 ∧ num bs 0 12 % 128 ≤ bs.length ∧ UnpOk (wid (cntOf bs)) (bs.take (begOf bs)) ∧
  x = ⟨1, bs.drop (begOf bs), ((unpL (wid (cntOf bs)) (bs.take (begOf bs)) (cntOf bs + 1)).drop 1).map backN⟩
theorem bit_take (bs : List UInt8) (k i : Nat) (h : i < 8 * k) : bit (bs.take k) i = bit bs i := by
  unfold bit
  have : (bs.take k).getD (i / 8) 0 = bs.getD (i / 8) 0 := by
    simp only [List.getD, List.getElem?_take]
    rw [if_pos (by omega)]
  rw [this]
theorem num_take (bs : List UInt8) (k a n : Nat) (h : a + n ≤ 8 * k) : num (bs.take k) a n = num bs a n := by
  induction n with
  | zero => rfl
  | succ n ih => simp only [num]; rw [ih (by omega), bit_take _ _ _ (by omega)]
theorem num_left (cs ds : List UInt8) (a n : Nat) (h : a + n ≤ 8 * cs.length) : num (cs ++ ds) a n = num cs a n := by
  have := num_take (cs ++ ds) cs.length a n h
  rw [List.take_left] at this
  exact this.symm
theorem unpL_getD (l : List Int) (bs : List UInt8) (n i : Nat) (h : i < n) : (unpL l bs n).getD i 0 = num bs ((nat l).take i).sum (l.getD i 0).toNat := by
  simp [unpL, List.getD, h]
theorem IsDec.unique {bs : List UInt8} {x y : Ce} (h1 : IsDec bs x) (h2 : IsDec bs y) : x = y := h1.2.2.2.2.trans h2.2.2.2.2.symm
theorem enc_length {x : Ce} {bs : List UInt8} (h : IsEnc x bs) (hr : right x = true) : (x.k = 2 ∧ bs.length = 1) ∨ (x.k = 1 ∧ bs.length = (12 + 46 * x.b.length + 7) / 8 + x.d.length ∧ bs.drop ((12 + 46 * x.b.length + 7) / 8) = x.d) := by
  rcases h with ⟨h, rfl⟩ | ⟨hk, cs, hc, rfl⟩
  · exact .inl ⟨h, rfl⟩
  · have hlen := hc.1
    rw [wid_sum] at hlen
    exact .inr ⟨hk, by rw [List.length_append]; omega, by rw [← hlen, List.drop_left]⟩
end Go.Proofs.Ytkdgoopldaoihaa
namespace Go.Proofs.Ytkdgoopldaoihaa
open Go.RowKit Go.Deep
set_option linter.unusedVariables false
set_option linter.unusedSimpArgs false

/-- numbers and their widths: the widths, the numbers, how many bits -/
def fw (F : List (Nat × Nat)) : List Int := F.map fun p => (p.1 : Int)
def fv (F : List (Nat × Nat)) : List Nat := F.map fun p => p.2
def fsum (F : List (Nat × Nat)) : Nat := (F.map fun p => p.1).sum
@[simp] theorem fw_length (F : List (Nat × Nat)) : (fw F).length = F.length := by simp [fw]
@[simp] theorem fv_length (F : List (Nat × Nat)) : (fv F).length = F.length := by simp [fv]
theorem fw_app (F G : List (Nat × Nat)) : fw (F ++ G) = fw F ++ fw G := by simp [fw]
theorem fv_app (F G : List (Nat × Nat)) : fv (F ++ G) = fv F ++ fv G := by simp [fv]
theorem fsum_app (F G : List (Nat × Nat)) : fsum (F ++ G) = fsum F + fsum G := by simp [fsum]
theorem fsum_cons (p : Nat × Nat) (F : List (Nat × Nat)) : fsum (p :: F) = p.1 + fsum F := by simp [fsum]
theorem nat_fw (F : List (Nat × Nat)) : nat (fw F) = F.map fun p => p.1 := by simp [nat, fw]
theorem nat_fw_sum (F : List (Nat × Nat)) : (nat (fw F)).sum = fsum F := by rw [nat_fw]; rfl
/-- each number fits its width -/
def FOk (F : List (Nat × Nat)) : Prop := ∀ p ∈ F, p.1 ≤ 64 ∧ p.2 < 2 ^ p.1
theorem FOk.nil : FOk [] := fun p h => by cases h
theorem FOk.cons {p : Nat × Nat} {F : List (Nat × Nat)} (h : p.1 ≤ 64 ∧ p.2 < 2 ^ p.1) (hF : FOk F) : FOk (p :: F) := fun q hq => by
  rcases List.mem_cons.1 hq with rfl | hq
  · exact h
  · exact hF q hq
theorem FOk.app {F G : List (Nat × Nat)} (h : FOk F) (g : FOk G) : FOk (F ++ G) := fun q hq => by
  rcases List.mem_append.1 hq with hq | hq
  · exact h q hq
  · exact g q hq
theorem FOk.flat {α : Type} {xs : List α} {f : α → List (Nat × Nat)} (h : ∀ x ∈ xs, FOk (f x)) : FOk (xs.flatMap f) := fun q hq => by
  obtain ⟨x, hx, hq⟩ := List.mem_flatMap.1 hq
  exact h x hx q hq
theorem FOk.pack {F : List (Nat × Nat)} (h : FOk F) : PackOk (fw F) (fv F) := by
  refine ⟨?_, by simp, fun i hi => ?_⟩
  · unfold spanOf
    rw [if_pos]
    · rfl
    · rw [List.all_eq_true]
      intro x hx
      simp only [fw, List.mem_map] at hx
      obtain ⟨p, hp, rfl⟩ := hx
      have := (h p hp).1
      simp only [decide_eq_true_eq]
      omega
  · have hi' : i < F.length := by simpa using hi
    have := (h F[i] (List.getElem_mem hi')).2
    simpa [fw, fv, List.getD, hi'] using this
/-- the number of n bits at a place; 0 where there are not so many -/
def tkN (bs : List UInt8) (k n : Nat) : Nat := if k + n ≤ 8 * bs.length then num bs k n else 0
theorem tkN_lt (bs : List UInt8) (k n : Nat) : tkN bs k n < 2 ^ n := by
  unfold tkN
  split
  · exact num_lt bs k n
  · exact Nat.pow_pos (by omega)
/-- these numbers are read one after the other -/
def Rd (bs : List UInt8) : Nat → List (Nat × Nat) → Prop
  | _, [] => True
  | k, p :: F => tkN bs k p.1 = p.2 ∧ Rd bs (k + p.1) F
theorem Rd.app {bs : List UInt8} {F G : List (Nat × Nat)} : ∀ {k : Nat}, Rd bs k (F ++ G) → Rd bs k F ∧ Rd bs (k + fsum F) G := by
  induction F with
  | nil => intro k h; exact ⟨trivial, by simpa [fsum] using h⟩
  | cons p F ih =>
    intro k h
    obtain ⟨h1, h2⟩ := h
    obtain ⟨h3, h4⟩ := ih h2
    refine ⟨⟨h1, h3⟩, ?_⟩
    rw [fsum_cons, ← Nat.add_assoc]
    exact h4
theorem rd_of {bs : List UInt8} {F : List (Nat × Nat)} : ∀ {k : Nat}, (∀ j (hj : j < F.length), tkN bs (k + fsum (F.take j)) F[j].1 = F[j].2) → Rd bs k F := by
  induction F with
  | nil => intro k h; trivial
  | cons p F ih =>
    intro k h
    refine ⟨by have := h 0 (by simp); simp only [List.take_zero, List.getElem_cons_zero] at this; simpa [fsum] using this, ih fun j hj => ?_⟩
    have := h (j + 1) (by simp; omega)
    rw [List.take_succ_cons, fsum_cons, ← Nat.add_assoc] at this
    simpa using this
/-- the bytes in which numbers are packed begin with them, whatever comes behind -/
theorem rd_of_pack {F : List (Nat × Nat)} {cs : List UInt8} (h : FOk F) (hp : IsPack (fw F) (fv F) cs) (t : List UInt8) : Rd (cs ++ t) 0 F := by
  have hu := isUnp_of_pack h.pack hp
  refine rd_of fun j hj => ?_
  have h1 := hu.2 j (by simpa using hj)
  have hlen := hp.1
  rw [nat_fw_sum] at hlen
  have e1 : (fv F).getD j 0 = F[j].2 := by simp [fv, List.getD, hj]
  have e2 : ((fw F).getD j 0).toNat = F[j].1 := by simp [fw, List.getD, hj]
  have e3 : ((nat (fw F)).take j).sum = fsum (F.take j) := by rw [nat_fw, ← List.map_take]; rfl
  rw [e1, e2, e3] at h1
  have h2 := sum_take_nat (nat (fw F)) j (by simpa using hj)
  have h3 := sum_take_le (nat (fw F)) (j + 1)
  rw [nat_fw_sum] at h3
  rw [e3, nat_getD, e2] at h2
  have hle : fsum (F.take j) + F[j].1 ≤ 8 * cs.length := by omega
  unfold tkN
  rw [Nat.zero_add, if_pos (by rw [List.length_append]; omega), num_left cs t _ _ hle]
  exact h1.symm
/-- read one thing after the other -/
def rep {α : Type} (p : Nat → α × Nat) : Nat → Nat → List α × Nat
  | 0, k => ([], k)
  | n + 1, k => ((rep p n k).1 ++ [(p (rep p n k).2).1], (p (rep p n k).2).2)
theorem rep_first {α : Type} (p : Nat → α × Nat) (n k : Nat) : rep p (n + 1) k = ((p k).1 :: (rep p n (p k).2).1, (rep p n (p k).2).2) := by
  induction n with
  | zero => rfl
  | succ n ih => rw [rep, ih]; rfl
theorem rep_length {α : Type} (p : Nat → α × Nat) (n k : Nat) : (rep p n k).1.length = n := by
  induction n with
  | zero => rfl
  | succ n ih => simp [rep, ih]
theorem rep_ok {α : Type} {p : Nat → α × Nat} {f : α → List (Nat × Nat)} {bs : List UInt8} : ∀ {xs : List α}, (∀ x ∈ xs, ∀ k, Rd bs k (f x) → p k = (x, k + fsum (f x))) → ∀ {k : Nat}, Rd bs k (xs.flatMap f) → rep p xs.length k = (xs, k + fsum (xs.flatMap f)) := by
  intro xs
  induction xs with
  | nil => intro _ k _; simp [rep, fsum]
  | cons x xs ih =>
    intro h k hr
    rw [List.flatMap_cons] at hr
    obtain ⟨h1, h2⟩ := hr.app
    have h3 := h x (by simp) k h1
    have h4 := ih (fun y hy => h y (by simp [hy])) h2
    rw [List.length_cons, rep_first, h3]
    simp only [h4, List.flatMap_cons, fsum_app, Nat.add_assoc]

/-! ### layouts -/
def fCh (c : List Int) : List (Nat × Nat) := (2, c.length - 1) :: c.flatMap fun u => [(5, u.toNat)]
def fSg (s : Sg) : List (Nat × Nat) := (20, s.1) :: (2, s.2.length - 1) :: s.2.flatMap fCh
def fLy (x : Ly) : List (Nat × Nat) := (21, x.e) :: (5, x.q.toNat) :: (2, x.s.length - 1) :: x.s.flatMap fSg
def pU (bs : List UInt8) (k : Nat) : Int × Nat := ((tkN bs k 5 : Nat), k + 5)
def pCh (bs : List UInt8) (k : Nat) : List Int × Nat := rep (pU bs) (tkN bs k 2 + 1) (k + 2)
def pSg (bs : List UInt8) (k : Nat) : Sg × Nat := ((tkN bs k 20, (rep (pCh bs) (tkN bs (k + 20) 2 + 1) (k + 20 + 2)).1), (rep (pCh bs) (tkN bs (k + 20) 2 + 1) (k + 20 + 2)).2)
def pLy (bs : List UInt8) : Ly := ⟨tkN bs 0 21, (rep (pSg bs) (tkN bs 26 2 + 1) 28).1, (tkN bs 21 5 : Nat)⟩
theorem pCh_ok {bs : List UInt8} {c : List Int} {k : Nat} (hl : 1 ≤ c.length ∧ c.length ≤ 4) (hu : ∀ u ∈ c, 0 ≤ u ∧ u < 32) (h : Rd bs k (fCh c)) : pCh bs k = (c, k + fsum (fCh c)) := by
  obtain ⟨h1, h2⟩ := h
  simp only at h1 h2
  have := rep_ok (p := pU bs) (f := fun u : Int => [(5, u.toNat)]) (fun u hm k hr => by
    obtain ⟨g1, _⟩ := hr
    simp only at g1
    unfold pU
    rw [g1]
    have := hu u hm
    simp only [fsum, List.map_cons, List.map_nil, List.sum_cons, List.sum_nil, Nat.add_zero]
    congr 1
    omega) h2
  unfold pCh
  rw [h1, show c.length - 1 + 1 = c.length by omega, this]
  simp only [fCh, fsum_cons, Nat.add_assoc]
theorem pSg_ok {bs : List UInt8} {s : Sg} {k : Nat} (hs : chOk s.2 = true) (h : Rd bs k (fSg s)) : pSg bs k = (s, k + fsum (fSg s)) := by
  obtain ⟨h1, h2, h3⟩ := h
  simp only at h1 h2 h3
  obtain ⟨g1, g2, g3, _⟩ := chOk_iff.1 hs
  have := rep_ok (p := pCh bs) (f := fCh) (fun c hm k hr => pCh_ok (g2 c hm) (fun u hu => g3 u (List.mem_flatten.2 ⟨c, hm, hu⟩)) hr) h3
  unfold pSg
  rw [h1, h2, show s.2.length - 1 + 1 = s.2.length by omega, this]
  simp only [fSg, fsum_cons, Nat.add_assoc]
theorem fCh_ok {c : List Int} (hl : 1 ≤ c.length ∧ c.length ≤ 4) (hu : ∀ u ∈ c, 0 ≤ u ∧ u < 32) : FOk (fCh c) := by
  refine FOk.cons ⟨by simp, by simp; omega⟩ (FOk.flat fun u hm => FOk.cons ⟨by simp, ?_⟩ FOk.nil)
  have := hu u hm
  simp only
  omega
theorem fSg_ok {s : Sg} (hs : chOk s.2 = true) (hf : s.1 < 1048576) : FOk (fSg s) := by
  obtain ⟨g1, g2, g3, _⟩ := chOk_iff.1 hs
  exact FOk.cons ⟨by simp, by simpa using hf⟩ (FOk.cons ⟨by simp, by simp; omega⟩ (FOk.flat fun c hm => fCh_ok (g2 c hm) (fun u hu => g3 u (List.mem_flatten.2 ⟨c, hm, hu⟩))))
theorem seg_ok {x : Ly} (h : lright x = true) {s : Sg} (hs : s ∈ x.s) : chOk s.2 = true ∧ s.1 < 1048576 := by
  obtain ⟨_, _, hs3⟩ := lright_iff.1 h
  obtain ⟨i, hi, rfl⟩ := mem_sx hs
  have := (sgOk_iff.1 hs3).2.2.1 i hi
  exact ⟨this.2, this.1⟩
theorem fLy_ok {x : Ly} (h : lright x = true) : FOk (fLy x) := by
  obtain ⟨h1, h2, h3⟩ := lright_iff.1 h
  have h4 := (sgOk_iff.1 h3).1
  exact FOk.cons ⟨by simp, by simp; omega⟩ (FOk.cons ⟨by simp, by simp; omega⟩ (FOk.cons ⟨by simp, by simp; omega⟩ (FOk.flat fun s hm => fSg_ok (seg_ok h hm).1 (seg_ok h hm).2)))
theorem pLy_rd {bs : List UInt8} {x : Ly} (h : lright x = true) (hr : Rd bs 0 (fLy x)) : pLy bs = x := by
  obtain ⟨h1, h2, h3⟩ := lright_iff.1 h
  have h4 := (sgOk_iff.1 h3).1
  obtain ⟨r1, r2, r3, r4⟩ := hr
  simp only [Nat.zero_add, Nat.reduceAdd] at r1 r2 r3 r4
  have := rep_ok (p := pSg bs) (f := fSg) (fun s hm k hr => pSg_ok (seg_ok h hm).1 hr) r4
  obtain ⟨e, s, q⟩ := x
  unfold pLy
  simp only at *
  rw [r1, r2, r3, show s.length - 1 + 1 = s.length by omega, this]
  simp only [Ly.mk.injEq, true_and]
  omega
/-- these are a layout's bytes -/
def IsLE (x : Ly) (bs : List UInt8) : Prop := IsPack (fw (fLy x)) (fv (fLy x)) bs
theorem IsLE.unique {x : Ly} {a b : List UInt8} (h1 : IsLE x a) (h2 : IsLE x b) : a = b := IsPack.unique h1 h2
theorem pLy_enc {x : Ly} {cs : List UInt8} (h : lright x = true) (he : IsLE x cs) (t : List UInt8) : pLy (cs ++ t) = x := pLy_rd h (rd_of_pack (fLy_ok h) he t)
theorem pLy_enc' {x : Ly} {cs : List UInt8} (h : lright x = true) (he : IsLE x cs) : pLy cs = x := by have := pLy_enc h he []; rwa [List.append_nil] at this
theorem IsLE.inj {x y : Ly} {a : List UInt8} (h1 : IsLE x a) (h2 : IsLE y a) (hx : lright x = true) (hy : lright y = true) : x = y := (pLy_enc' hx h1).symm.trans (pLy_enc' hy h2)
theorem fCh_len (c : List Int) : (fCh c).length = c.length + 1 := by simp [fCh, List.length_flatMap, List.map_const', List.sum_replicate_nat]
theorem fflat_le {α : Type} {f : α → List (Nat × Nat)} {n : Nat} : ∀ {xs : List α}, (∀ x ∈ xs, (f x).length ≤ n) → (xs.flatMap f).length ≤ xs.length * n
  | [], _ => by simp
  | x :: xs, h => by
    have h1 := h x (by simp)
    have h2 := fflat_le (xs := xs) (fun y hy => h y (by simp [hy]))
    rw [List.flatMap_cons, List.length_append, List.length_cons, Nat.succ_mul]
    omega
theorem fSg_len {s : Sg} (hs : chOk s.2 = true) : (fSg s).length ≤ 22 := by
  obtain ⟨g1, g2, g3, _⟩ := chOk_iff.1 hs
  have := fflat_le (f := fCh) (n := 5) (xs := s.2) (fun c hc => by rw [fCh_len]; have := g2 c hc; omega)
  simp only [fSg, List.length_cons]
  omega
theorem fLy_len {x : Ly} (h : lright x = true) : (fLy x).length ≤ 91 := by
  have h4 := (sgOk_iff.1 (lright_iff.1 h).2.2).1
  have := fflat_le (f := fSg) (n := 22) (xs := x.s) (fun s hs => fSg_len (seg_ok h hs).1)
  simp only [fLy, List.length_cons]
  omega
end Go.Proofs.Ytkdgoopldaoihaa
