/-
  Plain mathematics of cells: valid ones, their bytes, and bytes' cells. Lemmas only, no claim of their own.
-/
import Derived.Test.YtihbinphmlgjoaaGreatGa6
import Derived.Test.YtihbinphmlgjoaaGreatGa2
import Derived.Test.YtihbinphmlgjoaaGreatGa1
import Derived.Deep.Cut
namespace Go.Proofs.YtihbinphmlgjoaaGreat
open Go.RowKit Go.Deep
set_option linter.unusedVariables false
set_option linter.unusedSimpArgs false

/-! valid cells -/
theorem bbad_false {m : Int} {b : Bk} (h : bbad m b = false) : m ≤ b.1 ∧ b.1 < 16 ∧ lastOk b = true := by
  unfold bbad at h
  simp only [Bool.or_eq_false_iff, decide_eq_false_iff_not, Bool.not_eq_false'] at h
  exact ⟨by omega, by omega, h.2⟩
theorem backsOk_at {L : List Bk} (h : backsOk L = true) : ∀ i, i < L.length → 0 ≤ least L i ∧ least L i ≤ (bk L i).1 ∧ (bk L i).1 < 16 ∧ lastOk (bk L i) = true := by
  unfold backsOk at h
  rw [Bool.not_eq_true', anyN_false] at h
  intro i
  induction i with
  | zero => intro hi; exact ⟨by simp [least], bbad_false (h 0 hi)⟩
  | succ i ih =>
    intro hi
    have h1 := ih (by omega)
    refine ⟨?_, bbad_false (h (i + 1) hi)⟩
    simp only [least, Nat.add_sub_cancel, if_neg (Nat.succ_ne_zero i)]
    unfold wrap64
    omega
theorem backsOk_lt {L : List Bk} (h : backsOk L = true) (i : Nat) (hi : i + 1 < L.length) : (bk L i).1 < (bk L (i + 1)).1 := by
  have h1 := backsOk_at h i (by omega)
  have h2 := backsOk_at h (i + 1) hi
  simp only [least, Nat.add_sub_cancel, if_neg (Nat.succ_ne_zero i)] at h2
  unfold wrap64 at h2
  omega
theorem backsOk_mono {L : List Bk} (h : backsOk L = true) (i j : Nat) (hij : i < j) (hj : j < L.length) : (bk L i).1 < (bk L j).1 := by
  induction j with
  | zero => omega
  | succ j ih =>
    have h1 := backsOk_lt h j hj
    by_cases e : i = j
    · subst e; exact h1
    · have := ih (by omega) (by omega); omega
theorem right_data {x : Ce} (h : right x = true) (hk : x.k = 1) : x.d.length ≤ 100 ∧ x.b.length ≤ 4 ∧ backsOk x.b = true := by
  unfold right at h
  rw [hk] at h
  simp only [if_neg (show ¬ (1 : Int) = 2 by omega), if_true, Bool.and_eq_true, decide_eq_true_eq] at h
  exact ⟨h.1.1, h.1.2, h.2⟩
theorem right_junk {x : Ce} (h : right x = true) (hk : x.k = 2) : x = ⟨2, [], []⟩ := by
  unfold right at h
  rw [hk] at h
  simp only [if_true, decide_eq_true_eq] at h
  exact Ce.ext' hk (List.eq_nil_of_length_eq_zero h.1) (List.eq_nil_of_length_eq_zero h.2)
theorem right_kind {x : Ce} (h : right x = true) : x.k = 1 ∨ x.k = 2 := by
  unfold right at h
  by_cases h2 : x.k = 2
  · exact .inr h2
  · by_cases h1 : x.k = 1
    · exact .inl h1
    · rw [if_neg h2, if_neg h1] at h; cases h

/-! numbers of Backs -/
theorem fieldN_lt {b : Bk} (h0 : 0 ≤ b.1) (h1 : b.1 < 16) : fieldN b < 2 ^ 46 := by
  have m1 : min b.2.1 1048576 ≤ 1048576 := Nat.min_le_right _ _
  have m2 : min b.2.2 1048576 ≤ 1048576 := Nat.min_le_right _ _
  unfold fieldN
  omega
theorem back_field {b : Bk} (h0 : 0 ≤ b.1) (h1 : b.1 < 16) (hl : lastOk b = true) : backN (fieldN b) = b := by
  obtain ⟨s, p, q⟩ := b
  have hl := lastOk_iff.1 hl
  simp only at h0 h1 hl
  unfold backN fieldN lst
  simp only
  have hp : min p 1048576 = if p = 18446744073709551615 then 1048576 else p := by split <;> omega
  have hq : min q 1048576 = if q = 18446744073709551615 then 1048576 else q := by split <;> omega
  rw [hp, hq]
  refine Prod.ext ?_ (Prod.ext ?_ ?_)
  · simp only
    split <;> split <;> omega
  · simp only
    split <;> split <;> split <;> omega
  · simp only
    split <;> split <;> split <;> omega
theorem field_back {f : Nat} (hf : f < 2 ^ 46) (hl : lastOk (backN f) = true) : fieldN (backN f) = f := by
  have hl := lastOk_iff.1 hl
  unfold backN lst at hl
  unfold fieldN backN lst
  simp only at hl ⊢
  have e : ((f / 2 ^ 21 / 2 ^ 21 : Nat) : Int).toNat = f / 2 ^ 21 / 2 ^ 21 := by omega
  rw [e]
  obtain ⟨h1, h2⟩ := hl
  split at h1 <;> split at h2 <;> simp only [*, if_true, if_false] <;> omega

/-! bytes of a cell -/
/-- the numbers of a cell -/
def vals (x : Ce) : List Nat := headN x.b.length x.d.length :: x.b.map fieldN
/-- these are a cell's bytes -/
def IsEnc (x : Ce) (bs : List UInt8) : Prop := (x.k = 2 ∧ bs = [2]) ∨ (x.k = 1 ∧ ∃ cs, IsPack (wid x.b.length) (vals x) cs ∧ bs = cs ++ x.d)
theorem IsEnc.unique {x : Ce} {a b : List UInt8} (h1 : IsEnc x a) (h2 : IsEnc x b) : a = b := by
  rcases h1 with ⟨k1, rfl⟩ | ⟨k1, cs, hc, rfl⟩ <;> rcases h2 with ⟨k2, rfl⟩ | ⟨k2, ds, hd, rfl⟩
  · rfl
  · omega
  · omega
  · rw [hc.unique hd]
theorem wid_at (n i : Nat) (h : i < n + 1) : (wid n).getD i 0 = if i = 0 then 12 else 46 := by
  cases i with
  | zero => rfl
  | succ i =>
    have : i < n := by omega
    simp [wid, List.getD, this]
theorem wid_span (n : Nat) : (spanOf (wid n)).isSome := by
  unfold spanOf
  rw [if_pos]
  · rfl
  · rw [List.all_eq_true]
    intro x hx
    simp only [wid, List.mem_cons, List.mem_replicate] at hx
    rcases hx with rfl | ⟨_, rfl⟩ <;> decide
theorem nat_wid (n : Nat) : nat (wid n) = 12 :: List.replicate n 46 := by simp [nat, wid]
theorem wid_sum (n : Nat) : (nat (wid n)).sum = 12 + 46 * n := by rw [nat_wid]; simp [List.sum_replicate_nat]; omega
theorem vals_length (x : Ce) : (vals x).length = x.b.length + 1 := by simp [vals]
theorem headN_lt {nb nd : Nat} (h1 : nb < 8) (h2 : nd < 128) : headN nb nd < 2 ^ 12 := by unfold headN; omega
theorem vals_at (x : Ce) (i : Nat) (h : i < x.b.length) : (vals x).getD (i + 1) 0 = fieldN (bk x.b i) := by
  simp [vals, bk, List.getD, h]
/-! a cell of bytes -/
/-- how many Backs the bytes tell -/
def cntOf (bs : List UInt8) : Nat := num bs 0 12 / 128 % 8
/-- where their data begin -/
def begOf (bs : List UInt8) : Nat := bs.length - num bs 0 12 % 128
/-- the bytes tell this cell, valid or not -/
def IsDec (bs : List UInt8) (x : Ce) : Prop := 2 ≤ bs.length ∧ num bs 0 12 / 1024 = 1 ∧ num bs 0 12 % 128 ≤ bs.length ∧ UnpOk (wid (cntOf bs)) (bs.take (begOf bs)) ∧
  x = ⟨1, bs.drop (begOf bs), ((unpL (wid (cntOf bs)) (bs.take (begOf bs)) (cntOf bs + 1)).drop 1).map backN⟩
theorem bit_take (bs : List UInt8) (k i : Nat) (h : i < 8 * k) : bit (bs.take k) i = bit bs i := by
  unfold bit
  have : (bs.take k).getD (i / 8) 0 = bs.getD (i / 8) 0 := by
    simp only [List.getD, List.getElem?_take]
    rw [if_pos (by omega)]
  rw [this]
theorem num_take (bs : List UInt8) (k a n : Nat) (h : a + n ≤ 8 * k) : num (bs.take k) a n = num bs a n := by
  induction n with
  | zero => rfl
  | succ n ih => simp only [num]; rw [ih (by omega), bit_take _ _ _ (by omega)]
theorem num_left (cs ds : List UInt8) (a n : Nat) (h : a + n ≤ 8 * cs.length) : num (cs ++ ds) a n = num cs a n := by
  have := num_take (cs ++ ds) cs.length a n h
  rw [List.take_left] at this
  exact this.symm
theorem unpL_getD (l : List Int) (bs : List UInt8) (n i : Nat) (h : i < n) : (unpL l bs n).getD i 0 = num bs ((nat l).take i).sum (l.getD i 0).toNat := by
  simp [unpL, List.getD, h]
theorem IsDec.unique {bs : List UInt8} {x y : Ce} (h1 : IsDec bs x) (h2 : IsDec bs y) : x = y := h1.2.2.2.2.trans h2.2.2.2.2.symm
theorem enc_length {x : Ce} {bs : List UInt8} (h : IsEnc x bs) (hr : right x = true) : (x.k = 2 ∧ bs.length = 1) ∨ (x.k = 1 ∧ bs.length = (12 + 46 * x.b.length + 7) / 8 + x.d.length ∧ bs.drop ((12 + 46 * x.b.length + 7) / 8) = x.d) := by
  rcases h with ⟨h, rfl⟩ | ⟨hk, cs, hc, rfl⟩
  · exact .inl ⟨h, rfl⟩
  · have hlen := hc.1
    rw [wid_sum] at hlen
    exact .inr ⟨hk, by rw [List.length_append]; omega, by rw [← hlen, List.drop_left]⟩
end Go.Proofs.YtihbinphmlgjoaaGreat
namespace Go.Proofs.YtihbinphmlgjoaaGreat
open Go.RowKit Go.Deep
set_option linter.unusedVariables false
set_option linter.unusedSimpArgs false

/-- numbers and their widths: the widths, the numbers, how many bits -/
def fw (F : List (Nat × Nat)) : List Int := F.map fun p => (p.1 : Int)
def fv (F : List (Nat × Nat)) : List Nat := F.map fun p => p.2
def fsum (F : List (Nat × Nat)) : Nat := (F.map fun p => p.1).sum
@[simp] theorem fw_length (F : List (Nat × Nat)) : (fw F).length = F.length := by simp [fw]
@[simp] theorem fv_length (F : List (Nat × Nat)) : (fv F).length = F.length := by simp [fv]
theorem fw_app (F G : List (Nat × Nat)) : fw (F ++ G) = fw F ++ fw G := by simp [fw]
theorem fv_app (F G : List (Nat × Nat)) : fv (F ++ G) = fv F ++ fv G := by simp [fv]
theorem fsum_app (F G : List (Nat × Nat)) : fsum (F ++ G) = fsum F + fsum G := by simp [fsum]
theorem fsum_cons (p : Nat × Nat) (F : List (Nat × Nat)) : fsum (p :: F) = p.1 + fsum F := by simp [fsum]
theorem nat_fw (F : List (Nat × Nat)) : nat (fw F) = F.map fun p => p.1 := by simp [nat, fw]
theorem nat_fw_sum (F : List (Nat × Nat)) : (nat (fw F)).sum = fsum F := by rw [nat_fw]; rfl
/-- each number fits its width -/
def FOk (F : List (Nat × Nat)) : Prop := ∀ p ∈ F, p.1 ≤ 64 ∧ p.2 < 2 ^ p.1
theorem FOk.nil : FOk [] := fun p h => by cases h
theorem FOk.cons {p : Nat × Nat} {F : List (Nat × Nat)} (h : p.1 ≤ 64 ∧ p.2 < 2 ^ p.1) (hF : FOk F) : FOk (p :: F) := fun q hq => by
  rcases List.mem_cons.1 hq with rfl | hq
  · exact h
  · exact hF q hq
theorem FOk.app {F G : List (Nat × Nat)} (h : FOk F) (g : FOk G) : FOk (F ++ G) := fun q hq => by
  rcases List.mem_append.1 hq with hq | hq
  · exact h q hq
  · exact g q hq
theorem FOk.flat {α : Type} {xs : List α} {f : α → List (Nat × Nat)} (h : ∀ x ∈ xs, FOk (f x)) : FOk (xs.flatMap f) := fun q hq => by
  obtain ⟨x, hx, hq⟩ := List.mem_flatMap.1 hq
  exact h x hx q hq
theorem FOk.pack {F : List (Nat × Nat)} (h : FOk F) : PackOk (fw F) (fv F) := by
  refine ⟨?_, by simp, fun i hi => ?_⟩
  · unfold spanOf
    rw [if_pos]
    · rfl
    · rw [List.all_eq_true]
      intro x hx
      simp only [fw, List.mem_map] at hx
      obtain ⟨p, hp, rfl⟩ := hx
      have := (h p hp).1
      simp only [decide_eq_true_eq]
      omega
  · have hi' : i < F.length := by simpa using hi
    have := (h F[i] (List.getElem_mem hi')).2
    simpa [fw, fv, List.getD, hi'] using this
/-- the number of n bits at a place; 0 where there are not so many -/
def tkN (bs : List UInt8) (k n : Nat) : Nat := if k + n ≤ 8 * bs.length then num bs k n else 0
theorem tkN_lt (bs : List UInt8) (k n : Nat) : tkN bs k n < 2 ^ n := by
  unfold tkN
  split
  · exact num_lt bs k n
  · exact Nat.pow_pos (by omega)
/-- these numbers are read one after the other -/
def Rd (bs : List UInt8) : Nat → List (Nat × Nat) → Prop
  | _, [] => True
  | k, p :: F => tkN bs k p.1 = p.2 ∧ Rd bs (k + p.1) F
theorem Rd.app {bs : List UInt8} {F G : List (Nat × Nat)} : ∀ {k : Nat}, Rd bs k (F ++ G) → Rd bs k F ∧ Rd bs (k + fsum F) G := by
  induction F with
  | nil => intro k h; exact ⟨trivial, by simpa [fsum] using h⟩
  | cons p F ih =>
    intro k h
    obtain ⟨h1, h2⟩ := h
    obtain ⟨h3, h4⟩ := ih h2
    refine ⟨⟨h1, h3⟩, ?_⟩
    rw [fsum_cons, ← Nat.add_assoc]
    exact h4
theorem rd_of {bs : List UInt8} {F : List (Nat × Nat)} : ∀ {k : Nat}, (∀ j (hj : j < F.length), tkN bs (k + fsum (F.take j)) F[j].1 = F[j].2) → Rd bs k F := by
  induction F with
  | nil => intro k h; trivial
  | cons p F ih =>
    intro k h
    refine ⟨by have := h 0 (by simp); simp only [List.take_zero, List.getElem_cons_zero] at this; simpa [fsum] using this, ih fun j hj => ?_⟩
    have := h (j + 1) (by simp; omega)
    rw [List.take_succ_cons, fsum_cons, ← Nat.add_assoc] at this
    simpa using this
/-- the bytes in which numbers are packed begin with them, whatever comes behind -/
theorem rd_of_pack {F : List (Nat × Nat)} {cs : List UInt8} (h : FOk F) (hp : IsPack (fw F) (fv F) cs) (t : List UInt8) : Rd (cs ++ t) 0 F := by
  have hu := isUnp_of_pack h.pack hp
  refine rd_of fun j hj => ?_
  have h1 := hu.2 j (by simpa using hj)
  have hlen := hp.1
  rw [nat_fw_sum] at hlen
  have e1 : (fv F).getD j 0 = F[j].2 := by simp [fv, List.getD, hj]
  have e2 : ((fw F).getD j 0).toNat = F[j].1 := by simp [fw, List.getD, hj]
  have e3 : ((nat (fw F)).take j).sum = fsum (F.take j) := by rw [nat_fw, ← List.map_take]; rfl
  rw [e1, e2, e3] at h1
  have h2 := sum_take_nat (nat (fw F)) j (by simpa using hj)
  have h3 := sum_take_le (nat (fw F)) (j + 1)
  rw [nat_fw_sum] at h3
  rw [e3, nat_getD, e2] at h2
  have hle : fsum (F.take j) + F[j].1 ≤ 8 * cs.length := by omega
  unfold tkN
  rw [Nat.zero_add, if_pos (by rw [List.length_append]; omega), num_left cs t _ _ hle]
  exact h1.symm
/-- read one thing after the other -/
def rep {α : Type} (p : Nat → α × Nat) : Nat → Nat → List α × Nat
  | 0, k => ([], k)
  | n + 1, k => ((rep p n k).1 ++ [(p (rep p n k).2).1], (p (rep p n k).2).2)
theorem rep_first {α : Type} (p : Nat → α × Nat) (n k : Nat) : rep p (n + 1) k = ((p k).1 :: (rep p n (p k).2).1, (rep p n (p k).2).2) := by
  induction n with
  | zero => rfl
  | succ n ih => rw [rep, ih]; rfl
theorem rep_length {α : Type} (p : Nat → α × Nat) (n k : Nat) : (rep p n k).1.length = n := by
  induction n with
  | zero => rfl
  | succ n ih => simp [rep, ih]
theorem rep_ok {α : Type} {p : Nat → α × Nat} {f : α → List (Nat × Nat)} {bs : List UInt8} : ∀ {xs : List α}, (∀ x ∈ xs, ∀ k, Rd bs k (f x) → p k = (x, k + fsum (f x))) → ∀ {k : Nat}, Rd bs k (xs.flatMap f) → rep p xs.length k = (xs, k + fsum (xs.flatMap f)) := by
  intro xs
  induction xs with
  | nil => intro _ k _; simp [rep, fsum]
  | cons x xs ih =>
    intro h k hr
    rw [List.flatMap_cons] at hr
    obtain ⟨h1, h2⟩ := hr.app
    have h3 := h x (by simp) k h1
    have h4 := ih (fun y hy => h y (by simp [hy])) h2
    rw [List.length_cons, rep_first, h3]
    simp only [h4, List.flatMap_cons, fsum_app, Nat.add_assoc]

/-! ### layouts -/
def fCh (c : List Int) : List (Nat × Nat) := (2, c.length - 1) :: c.flatMap fun u => [(5, u.toNat)]
def fSg (s : Sg) : List (Nat × Nat) := (20, s.1) :: (2, s.2.length - 1) :: s.2.flatMap fCh
def fLy (x : Ly) : List (Nat × Nat) := (21, x.e) :: (5, x.q.toNat) :: (2, x.s.length - 1) :: x.s.flatMap fSg
def pU (bs : List UInt8) (k : Nat) : Int × Nat := ((tkN bs k 5 : Nat), k + 5)
def pCh (bs : List UInt8) (k : Nat) : List Int × Nat := rep (pU bs) (tkN bs k 2 + 1) (k + 2)
def pSg (bs : List UInt8) (k : Nat) : Sg × Nat := ((tkN bs k 20, (rep (pCh bs) (tkN bs (k + 20) 2 + 1) (k + 20 + 2)).1), (rep (pCh bs) (tkN bs (k + 20) 2 + 1) (k + 20 + 2)).2)
def pLy (bs : List UInt8) : Ly := ⟨tkN bs 0 21, (rep (pSg bs) (tkN bs 26 2 + 1) 28).1, (tkN bs 21 5 : Nat)⟩
theorem pCh_ok {bs : List UInt8} {c : List Int} {k : Nat} (hl : 1 ≤ c.length ∧ c.length ≤ 4) (hu : ∀ u ∈ c, 0 ≤ u ∧ u < 32) (h : Rd bs k (fCh c)) : pCh bs k = (c, k + fsum (fCh c)) := by
  obtain ⟨h1, h2⟩ := h
  simp only at h1 h2
  have := rep_ok (p := pU bs) (f := fun u : Int => [(5, u.toNat)]) (fun u hm k hr => by
    obtain ⟨g1, _⟩ := hr
    simp only at g1
    unfold pU
    rw [g1]
    have := hu u hm
    simp only [fsum, List.map_cons, List.map_nil, List.sum_cons, List.sum_nil, Nat.add_zero]
    congr 1
    omega) h2
  unfold pCh
  rw [h1, show c.length - 1 + 1 = c.length by omega, this]
  simp only [fCh, fsum_cons, Nat.add_assoc]
theorem pSg_ok {bs : List UInt8} {s : Sg} {k : Nat} (hs : chOk s.2 = true) (h : Rd bs k (fSg s)) : pSg bs k = (s, k + fsum (fSg s)) := by
  obtain ⟨h1, h2, h3⟩ := h
  simp only at h1 h2 h3
  obtain ⟨g1, g2, g3, _⟩ := chOk_iff.1 hs
  have := rep_ok (p := pCh bs) (f := fCh) (fun c hm k hr => pCh_ok (g2 c hm) (fun u hu => g3 u (List.mem_flatten.2 ⟨c, hm, hu⟩)) hr) h3
  unfold pSg
  rw [h1, h2, show s.2.length - 1 + 1 = s.2.length by omega, this]
  simp only [fSg, fsum_cons, Nat.add_assoc]
theorem fCh_ok {c : List Int} (hl : 1 ≤ c.length ∧ c.length ≤ 4) (hu : ∀ u ∈ c, 0 ≤ u ∧ u < 32) : FOk (fCh c) := by
  refine FOk.cons ⟨by simp, by simp; omega⟩ (FOk.flat fun u hm => FOk.cons ⟨by simp, ?_⟩ FOk.nil)
  have := hu u hm
  simp only
  omega
theorem fSg_ok {s : Sg} (hs : chOk s.2 = true) (hf : s.1 < 1048576) : FOk (fSg s) := by
  obtain ⟨g1, g2, g3, _⟩ := chOk_iff.1 hs
  exact FOk.cons ⟨by simp, by simpa using hf⟩ (FOk.cons ⟨by simp, by simp; omega⟩ (FOk.flat fun c hm => fCh_ok (g2 c hm) (fun u hu => g3 u (List.mem_flatten.2 ⟨c, hm, hu⟩))))
theorem seg_ok {x : Ly} (h : lright x = true) {s : Sg} (hs : s ∈ x.s) : chOk s.2 = true ∧ s.1 < 1048576 := by
  obtain ⟨_, _, hs3⟩ := lright_iff.1 h
  obtain ⟨i, hi, rfl⟩ := mem_sx hs
  have := (sgOk_iff.1 hs3).2.2.1 i hi
  exact ⟨this.2, this.1⟩
theorem fLy_ok {x : Ly} (h : lright x = true) : FOk (fLy x) := by
  obtain ⟨h1, h2, h3⟩ := lright_iff.1 h
  have h4 := (sgOk_iff.1 h3).1
  exact FOk.cons ⟨by simp, by simp; omega⟩ (FOk.cons ⟨by simp, by simp; omega⟩ (FOk.cons ⟨by simp, by simp; omega⟩ (FOk.flat fun s hm => fSg_ok (seg_ok h hm).1 (seg_ok h hm).2)))
theorem pLy_rd {bs : List UInt8} {x : Ly} (h : lright x = true) (hr : Rd bs 0 (fLy x)) : pLy bs = x := by
  obtain ⟨h1, h2, h3⟩ := lright_iff.1 h
  have h4 := (sgOk_iff.1 h3).1
  obtain ⟨r1, r2, r3, r4⟩ := hr
  simp only [Nat.zero_add, Nat.reduceAdd] at r1 r2 r3 r4
  have := rep_ok (p := pSg bs) (f := fSg) (fun s hm k hr => pSg_ok (seg_ok h hm).1 hr) r4
  obtain ⟨e, s, q⟩ := x
  unfold pLy
  simp only at *
  rw [r1, r2, r3, show s.length - 1 + 1 = s.length by omega, this]
  simp only [Ly.mk.injEq, true_and]
  omega
/-- these are a layout's bytes -/
def IsLE (x : Ly) (bs : List UInt8) : Prop := IsPack (fw (fLy x)) (fv (fLy x)) bs
theorem IsLE.unique {x : Ly} {a b : List UInt8} (h1 : IsLE x a) (h2 : IsLE x b) : a = b := IsPack.unique h1 h2
theorem pLy_enc {x : Ly} {cs : List UInt8} (h : lright x = true) (he : IsLE x cs) (t : List UInt8) : pLy (cs ++ t) = x := pLy_rd h (rd_of_pack (fLy_ok h) he t)
theorem pLy_enc' {x : Ly} {cs : List UInt8} (h : lright x = true) (he : IsLE x cs) : pLy cs = x := by have := pLy_enc h he []; rwa [List.append_nil] at this
theorem IsLE.inj {x y : Ly} {a : List UInt8} (h1 : IsLE x a) (h2 : IsLE y a) (hx : lright x = true) (hy : lright y = true) : x = y := (pLy_enc' hx h1).symm.trans (pLy_enc' hy h2)
theorem fCh_len (c : List Int) : (fCh c).length = c.length + 1 := by simp [fCh, List.length_flatMap, List.map_const', List.sum_replicate_nat]
theorem fflat_le {α : Type} {f : α → List (Nat × Nat)} {n : Nat} : ∀ {xs : List α}, (∀ x ∈ xs, (f x).length ≤ n) → (xs.flatMap f).length ≤ xs.length * n
  | [], _ => by simp
  | x :: xs, h => by
    have h1 := h x (by simp)
    have h2 := fflat_le (xs := xs) (fun y hy => h y (by simp [hy]))
    rw [List.flatMap_cons, List.length_append, List.length_cons, Nat.succ_mul]
    omega
theorem fSg_len {s : Sg} (hs : chOk s.2 = true) : (fSg s).length ≤ 22 := by
  obtain ⟨g1, g2, g3, _⟩ := chOk_iff.1 hs
  have := fflat_le (f := fCh) (n := 5) (xs := s.2) (fun c hc => by rw [fCh_len]; have := g2 c hc; omega)
  simp only [fSg, List.length_cons]
  omega
theorem fLy_len {x : Ly} (h : lright x = true) : (fLy x).length ≤ 91 := by
  have h4 := (sgOk_iff.1 (lright_iff.1 h).2.2).1
  have := fflat_le (f := fSg) (n := 22) (xs := x.s) (fun s hs => fSg_len (seg_ok h hs).1)
  simp only [fLy, List.length_cons]
  omega
end Go.Proofs.YtihbinphmlgjoaaGreat
namespace Go.Proofs.YtihbinphmlgjoaaGreat
end Go.Proofs.YtihbinphmlgjoaaGreat
namespace Go.Proofs.YtihbinphmlgjoaaGreat
open Go.RowKit Go.Deep
set_option linter.unusedVariables false
set_option linter.unusedSimpArgs false

theorem Lst.chgc {w w' : World} {base : Nat} {e : TypeId} {v : Value} {xs : List Value} {l : List Nat} (h : Lst w base e v xs) (hc : Chg l w w') (hl : ∀ x ∈ l, ∀ cur, w.heap[x]? ≠ some (.cells cur e (0, 0))) : Lst w' base e v xs := by
  refine ⟨h.1, ?_⟩
  rcases h.2 with h1 | ⟨g, cap, cur, h1, h2, h3, h4⟩
  · exact .inl h1
  · exact .inr ⟨g, cap, cur, h1, h2, (hc.block g (Array.getElem?_eq_some_iff.1 h3).1 (fun hm => hl g hm cur h3)).trans h3, h4⟩
/-- the row that a slice of the call's own lies in -/
def rowOf (v : Value) : List Nat := match v.ownBlock with | some g => [g] | none => []
theorem grown_chgR {w w' : World} {v : Value} (h : w.grownBy w' v.ownBlock) : Chg (rowOf v) w w' := (Chg.refl (rowOf v) w).grown h (fun k hk => .inl (by unfold rowOf; rw [hk]; simp))
theorem Lst.row {w : World} {base : Nat} {e : TypeId} {v : Value} {xs : List Value} (h : Lst w base e v xs) : ∀ x ∈ rowOf v, base ≤ x ∧ ∃ cur, w.heap[x]? = some (.cells cur e (0, 0)) := by
  intro x hx
  rcases h.2 with ⟨rfl, _⟩ | ⟨g, cap, cur, rfl, h2, h3, _⟩
  · simp [rowOf, Value.ownBlock] at hx
  · simp [rowOf, Value.ownBlock] at hx
    subst hx
    exact ⟨h2, cur, h3⟩
/-- append of one value, with all that it keeps -/
theorem wpList_app1g {P : Program} {w : World} {ops : Array Oper} {rest : List Oper} {o : Oper} {a : Act} {Q : Exit → Act → World → Prop} (hgd : o.guard = none) (s x : Operand) (t : TypeId)
    (ho : o.op = .call { callee := .builtin .append, args := #[s, x], argTypes := #[t, t] })
    (base : Nat) (e : TypeId) (z : Value) (bytes : Nat) (ht : P.underlying t = some (.slice e)) (hinfo : (P.info? e).map (fun i => (i.zero, i.size, i.bytes)) = some (some z, 1, bytes)) (hzs : z.cells.size = 1)
    (u : Value) (h1 : u.oneCell' = true) (v : Value) (xs : List Value) (hs : a.eval s = v) (hown : Lst w base e v xs)
    (hx : a.eval x = .slice (some ⟨w.heap.size, 0, none⟩) 1 1)
    (hlen : (xs.length + 1) * bytes ≤ 140737488355328) (hlen2 : xs.length + 1 ≤ 140737488355328) (hbase : base ≤ w.heap.size)
    (h : ∀ v' w', Hid (Lst w' base e v' (xs ++ [u])) → Chg (rowOf v) w w' → wpList P ops Q rest (a.put o.dst v') w') : wpList P ops Q (o :: rest) a (w.alloc (.cells #[u] e)) :=
  wpList_app hgd s x t ho base e z bytes ht hinfo hzs v xs hs (hown.alloc _) (some ⟨w.heap.size, 0, none⟩) (w.heap.size + 1) 1 1 [u] hx rfl (ro_one w e u) (by simpa using h1) hlen hlen2 (by simp; omega) fun v' w' h2 h3 => h v' w' h2 (((Chg.refl _ w).alloc _).trans (grown_chgR h3))
/-- a row that lies apart from the blocks of l -/
def RoX (w : World) (l : List Nat) (a : Option Addr) (vs : List Value) : Prop := vs = [] ∨ ∃ b off, a = some ⟨b, off, none⟩ ∧ b < w.heap.size ∧ b ∉ l ∧ ∀ i, i < vs.length → w.cell? ⟨b, off + i, none⟩ = some (vs.getD i undef)
theorem RoX.ro {w : World} {l : List Nat} {a : Option Addr} {vs : List Value} (h : RoX w l a vs) : Ro w w.heap.size a vs := by
  rcases h with h | ⟨b, off, h1, h2, h3, h4⟩
  · exact .inl h
  · exact .inr ⟨b, off, h1, h2, h4⟩
theorem RoX.chg {w w' : World} {l : List Nat} {a : Option Addr} {vs : List Value} (h : RoX w l a vs) (hc : Chg l w w') : RoX w' l a vs := by
  rcases h with h | ⟨b, off, h1, h2, h3, h4⟩
  · exact .inl h
  · exact .inr ⟨b, off, h1, Nat.lt_of_lt_of_le h2 hc.size, h3, fun i hi => hc.cell (h4 i hi) h3⟩
theorem Ro.apart {w : World} {B : Nat} {l : List Nat} {a : Option Addr} {vs : List Value} (h : Ro w B a vs) (hB : B ≤ w.heap.size) (hl : ∀ x ∈ l, B ≤ x) : RoX w l a vs := by
  rcases h with h | ⟨b, off, h1, h2, h3⟩
  · exact .inl h
  · exact .inr ⟨b, off, h1, by omega, fun hm => by have := hl b hm; omega, h3⟩
theorem Lst.apart {w : World} {base : Nat} {e : TypeId} {a : Option Addr} {n c : Nat} {xs : List Value} {l : List Nat} (h : Lst w base e (.slice a n c) xs) (hl : ∀ x ∈ l, ∀ cur, w.heap[x]? ≠ some (.cells cur e (0, 0))) : RoX w l a xs := by
  obtain ⟨a', c', h1, h2, _⟩ := h.form
  injection h1 with h1 _ _
  subst h1
  rcases h2 with h2 | ⟨b, off, g1, g2, g3⟩
  · exact .inl h2
  · refine .inr ⟨b, off, g1, g2, fun hm => ?_, g3⟩
    rcases h.2 with ⟨hv, _⟩ | ⟨g, cap, cur, hv, _, hh, _⟩
    · injection hv with hv _ _
      rw [hv] at g1; cases g1
    · injection hv with hv _ _
      rw [hv] at g1
      injection g1 with g1
      injection g1 with g1 _ _
      subst g1
      exact hl g hm cur hh
theorem Lst.apart2 {w : World} {base : Nat} {e : TypeId} {a : Option Addr} {n c : Nat} {xs : List Value} {l : List Nat} (h : Lst w base e (.slice a n c) xs) (hl : ∀ x ∈ l, x < base ∨ ∀ cur, w.heap[x]? ≠ some (.cells cur e (0, 0))) : RoX w l a xs := by
  obtain ⟨a', c', h1, h2, _⟩ := h.form
  injection h1 with h1 _ _
  subst h1
  rcases h2 with h2 | ⟨b, off, g1, g2, g3⟩
  · exact .inl h2
  · refine .inr ⟨b, off, g1, g2, fun hm => ?_, g3⟩
    rcases h.2 with ⟨hv, _⟩ | ⟨g, cap, cur, hv, hb, hh, _⟩
    · injection hv with hv _ _
      rw [hv] at g1; cases g1
    · injection hv with hv _ _
      rw [hv] at g1
      injection g1 with g1
      injection g1 with g1 _ _
      subst g1
      rcases hl g hm with h | h
      · omega
      · exact h cur hh
end Go.Proofs.YtihbinphmlgjoaaGreat
namespace Go.Proofs.YtihbinphmlgjoaaGreat
open Go.RowKit Go.Deep
set_option linter.unusedVariables false
set_option linter.unusedSimpArgs false

/-- no row of int, or of uint64 -/
def Qui (w : World) (k : Nat) : Prop := ∀ cur, w.heap[k]? ≠ some (.cells cur 3 (0, 0)) ∧ w.heap[k]? ≠ some (.cells cur 37 (0, 0))
/-- all blocks stay, but for g, and rows of int and uint64 from base on -/
structure Fc (base g : Nat) (a w : World) : Prop where
  os : w.os = a.os
  tape : w.tape = a.tape
  output : w.output = a.output
  size : a.heap.size ≤ w.heap.size
  block : ∀ k, k < a.heap.size → k ≠ g → (k < base ∨ Qui a k) → w.heap[k]? = a.heap[k]?
theorem Fc.refl (base g : Nat) (w : World) : Fc base g w w := ⟨rfl, rfl, rfl, Nat.le_refl _, fun _ _ _ _ => rfl⟩
theorem Fc.trans {base g : Nat} {a b c : World} (h : Fc base g a b) (k : Fc base g b c) : Fc base g a c :=
  ⟨k.os.trans h.os, k.tape.trans h.tape, k.output.trans h.output, Nat.le_trans h.size k.size, fun i h1 h2 h3 => by
    have e := h.block i h1 h2 h3
    refine (k.block i (Nat.lt_of_lt_of_le h1 h.size) h2 ?_).trans e
    rcases h3 with h3 | h3
    · exact .inl h3
    · exact .inr (fun cur => by rw [e]; exact h3 cur)⟩
theorem Fc.of_chg {base g : Nat} {a b : World} {l : List Nat} (h : Chg l a b) (hl : ∀ x ∈ l, x = g ∨ (base ≤ x ∧ ¬ Qui a x)) : Fc base g a b :=
  ⟨h.os, h.tape, h.output, h.size, fun k h1 h2 h3 => h.block k h1 (fun hm => by
    rcases hl k hm with h4 | ⟨h4, h5⟩
    · exact h2 h4
    · rcases h3 with h3 | h3
      · omega
      · exact h5 h3)⟩
theorem Fc.below {base g B : Nat} {a b : World} (h : Fc base g a b) (hB : B ≤ a.heap.size) (hg : B ≤ g) (hb : B ≤ base) : Below B a b :=
  ⟨h.os, h.tape, h.output, h.size, fun k hk => h.block k (by omega) (by omega) (.inl (by omega))⟩
theorem Fc.of_below {base g : Nat} {a b : World} (h : Below a.heap.size a b) : Fc base g a b := ⟨h.os, h.tape, h.output, h.size, fun k hk _ _ => h.block k hk⟩
theorem Fc.alloc {base g : Nat} {a b : World} (h : Fc base g a b) (o : Obj) : Fc base g a (b.alloc o) := h.trans (.of_below ((Below.refl _ _).alloc (Nat.le_refl _) _))
theorem Own.quiT {w : World} {g : Nat} {t : TypeId} {cs : List Value} (h : Own w g t cs) (h1 : t ≠ 3) (h2 : t ≠ 37) : Qui w g := fun cur => by
  unfold Own at h
  rw [h]
  refine ⟨fun e => ?_, fun e => ?_⟩
  · injection e with e
    injection e with _ e _
    exact h1 e
  · injection e with e
    injection e with _ e _
    exact h2 e
theorem Own.fc {base g k : Nat} {a b : World} {t : TypeId} {cs : List Value} (h : Own a k t cs) (hc : Fc base g a b) (hk : k ≠ g) (h1 : t ≠ 3) (h2 : t ≠ 37) : Own b k t cs :=
  (hc.block k h.lt hk (.inr (h.quiT h1 h2))).trans h
theorem Own.fcl {base g k : Nat} {a b : World} {t : TypeId} {cs : List Value} (h : Own a k t cs) (hc : Fc base g a b) (hk : k ≠ g) (h1 : k < base) : Own b k t cs :=
  (hc.block k h.lt hk (.inl h1)).trans h
/-- a row whose block is no row of int or uint64, and not g -/
def RoQ (w : World) (g : Nat) (a : Option Addr) (vs : List Value) : Prop := vs = [] ∨ ∃ b off, a = some ⟨b, off, none⟩ ∧ b < w.heap.size ∧ b ≠ g ∧ Qui w b ∧ ∀ i, i < vs.length → w.cell? ⟨b, off + i, none⟩ = some (vs.getD i undef)
theorem RoQ.ro {w : World} {g : Nat} {a : Option Addr} {vs : List Value} (h : RoQ w g a vs) : Ro w w.heap.size a vs := by
  rcases h with h | ⟨b, off, h1, h2, _, _, h3⟩
  · exact .inl h
  · exact .inr ⟨b, off, h1, h2, h3⟩
theorem RoQ.fc {base g : Nat} {w w' : World} {a : Option Addr} {vs : List Value} (h : RoQ w g a vs) (hc : Fc base g w w') : RoQ w' g a vs := by
  rcases h with h | ⟨b, off, h1, h2, h3, h4, h5⟩
  · exact .inl h
  · have e := hc.block b h2 h3 (.inr h4)
    refine .inr ⟨b, off, h1, Nat.lt_of_lt_of_le h2 hc.size, h3, fun cur => by rw [e]; exact h4 cur, fun i hi => ?_⟩
    exact (World.cell?_of_block (w := w) (w' := w') (a := ⟨b, off + i, none⟩) e).trans (h5 i hi)
/-- a struct of two slices in block g, of type T: the widths and the numbers of F; the rows lie from base on -/
def Fst (w : World) (T : TypeId) (base g : Nat) (F : List (Nat × Nat)) : Prop :=
  ∃ v1 v2, Own w g T [v1, v2] ∧ Lst w base 3 v1 (i64s (fw F)) ∧ Lst w base 37 v2 (u64s (fv F))
theorem Fst.lt {w : World} {T : TypeId} {base g : Nat} {F : List (Nat × Nat)} (h : Fst w T base g F) : g < w.heap.size := by
  obtain ⟨v1, v2, h1, _⟩ := h
  exact h1.lt
theorem Fst.alloc {w : World} {T : TypeId} {base g : Nat} {F : List (Nat × Nat)} (h : Fst w T base g F) (o : Obj) : Fst (w.alloc o) T base g F := by
  obtain ⟨v1, v2, h1, h2, h3⟩ := h
  exact ⟨v1, v2, h1.alloc o, h2.alloc o, h3.alloc o⟩
theorem Fst.below {w w' : World} {T : TypeId} {base g : Nat} {F : List (Nat × Nat)} (h : Fst w T base g F) (hb : Below w.heap.size w w') : Fst w' T base g F := by
  obtain ⟨v1, v2, h1, h2, h3⟩ := h
  exact ⟨v1, v2, h1.below hb h1.lt, h2.below hb (Nat.le_refl _), h3.below hb (Nat.le_refl _)⟩
theorem Fst.new (w : World) (T : TypeId) (base : Nat) : Fst (w.alloc (.cells #[.slice none 0 0, .slice none 0 0] T)) T base w.heap.size [] :=
  ⟨_, _, Own.new w T _, Lst.nil _ _ _, Lst.nil _ _ _⟩
/-- rows of other element types are other blocks -/
theorem Lst.otherT {w : World} {base base' : Nat} {e e' : TypeId} {v v' : Value} {xs xs' : List Value} (h : Lst w base e v xs) (h' : Lst w base' e' v' xs') (hne : e ≠ e') : ∀ x ∈ rowOf v', ∀ cur, w.heap[x]? ≠ some (.cells cur e (0, 0)) := by
  intro x hx cur he
  obtain ⟨_, cur', h2⟩ := h'.row x hx
  rw [he] at h2
  injection h2 with h2
  injection h2 with _ h2 _
  exact hne h2
theorem Lst.ownT {w : World} {base : Nat} {e T : TypeId} {v : Value} {xs cs : List Value} {g : Nat} (h : Lst w base e v xs) (h' : Own w g T cs) (hne : e ≠ T) : g ∉ rowOf v := by
  intro hx
  obtain ⟨_, cur, h2⟩ := h.row g hx
  unfold Own at h'
  rw [h'] at h2
  injection h2 with h2
  injection h2 with _ h2 _
  exact hne h2.symm
theorem Own.notT' {w : World} {g : Nat} {t t' : TypeId} {cs : List Value} (h : Own w g t cs) (ht : t' ≠ t) : ∀ x ∈ [g], ∀ cur, w.heap[x]? ≠ some (.cells cur t' (0, 0)) := by
  intro x hx cur he
  simp only [List.mem_singleton] at hx
  subst hx
  unfold Own at h
  rw [he] at h
  injection h with h
  injection h with _ h _
  exact ht h
/-- an append to a row of int, or of uint64, from base on -/
theorem Fc.row {base g : Nat} {w w' : World} {e : TypeId} {v : Value} {xs : List Value} (h : Lst w base e v xs) (hc : Chg (rowOf v) w w') (he : e = 3 ∨ e = 37) : Fc base g w w' :=
  .of_chg hc fun x hx => .inr (by
    obtain ⟨h1, cur, h2⟩ := h.row x hx
    refine ⟨h1, fun hq => ?_⟩
    rcases he with rfl | rfl
    · exact (hq cur).1 h2
    · exact (hq cur).2 h2)
theorem Fc.set {base g : Nat} (w : World) (i : Nat) (v : Value) : Fc base g w (w.setCell ⟨g, i, none⟩ v) :=
  .of_chg ((Chg.refl [g] w).setCell (by simp) v) fun x hx => .inl (by simpa using hx)
/-- behind an append to the widths, and their store -/
theorem Fst.step1 {w w1 : World} {T : TypeId} {base g : Nat} {v1 v2 v1' : Value} {A A' B : List Value} (h1 : Own w g T [v1, v2]) (h2 : Lst w base 3 v1 A) (h3 : Lst w base 37 v2 B) (hT : T ≠ 3) (hT2 : T ≠ 37) (hl : Lst w1 base 3 v1' A') (hc : Chg (rowOf v1) w w1) :
    Own w1 g T [v1, v2] ∧ Own (w1.setCell ⟨g, 0, none⟩ v1') g T [v1', v2] ∧ Lst (w1.setCell ⟨g, 0, none⟩ v1') base 3 v1' A' ∧ Lst (w1.setCell ⟨g, 0, none⟩ v1') base 37 v2 B ∧ Fc base g w (w1.setCell ⟨g, 0, none⟩ v1') := by
  have g1 := h1.chg hc (h2.ownT h1 hT.symm)
  have g3 := h3.chgc hc (h3.otherT h2 (by decide))
  have s1 : Chg [g] w1 (w1.setCell ⟨g, 0, none⟩ v1') := (Chg.refl [g] w1).setCell (by simp) _
  exact ⟨g1, g1.set 0 v1', hl.chgc s1 (g1.notT' hT.symm), g3.chgc s1 (g1.notT' hT2.symm), (Fc.row h2 hc (.inl rfl)).trans (Fc.set w1 0 v1')⟩
theorem Fst.step2 {w w1 : World} {T : TypeId} {base g : Nat} {v1 v2 v2' : Value} {A B' B : List Value} (h1 : Own w g T [v1, v2]) (h2 : Lst w base 3 v1 A) (h3 : Lst w base 37 v2 B) (hT : T ≠ 3) (hT2 : T ≠ 37) (hl : Lst w1 base 37 v2' B') (hc : Chg (rowOf v2) w w1) :
    Own w1 g T [v1, v2] ∧ Own (w1.setCell ⟨g, 1, none⟩ v2') g T [v1, v2'] ∧ Lst (w1.setCell ⟨g, 1, none⟩ v2') base 3 v1 A ∧ Lst (w1.setCell ⟨g, 1, none⟩ v2') base 37 v2' B' ∧ Fc base g w (w1.setCell ⟨g, 1, none⟩ v2') := by
  have g1 := h1.chg hc (h3.ownT h1 hT2.symm)
  have g3 := h2.chgc hc (h2.otherT h3 (by decide))
  have s1 : Chg [g] w1 (w1.setCell ⟨g, 1, none⟩ v2') := (Chg.refl [g] w1).setCell (by simp) _
  exact ⟨g1, g1.set 1 v2', g3.chgc s1 (g1.notT' hT.symm), hl.chgc s1 (g1.notT' hT2.symm), (Fc.row h3 hc (.inr rfl)).trans (Fc.set w1 1 v2')⟩
end Go.Proofs.YtihbinphmlgjoaaGreat
namespace Go.Proofs.YtihbinphmlgjoaaGreat
open Go.RowKit Go.Deep
set_option linter.unusedVariables false
set_option linter.unusedSimpArgs false

set_option maxHeartbeats 1000000 in
theorem ladd_any (F : List (Nat × Nat)) (base g : Nat) (v n : Nat) (w : World) (h : Fst w 231 base g F) (hF : F.length ≤ 1000) (hb : base ≤ w.heap.size) :
    Calls Tryz.prog 154 #[.pointer (some ⟨g, 0, none⟩), .int .u64 (v : Int), .int .i64 (n : Int)] w fun e w' => e = .returned (.tuple #[]) ∧ Fst w' 231 base g (F ++ [(n, v)]) ∧ Fc base g w w' := by
  obtain ⟨v1, v2, h1, h2, h3⟩ := h
  have c0 := h1.cell 0
  have c1 := h1.cell 1
  have f0 := h1.frozen 0
  have f1 := h1.frozen 1
  have hz := h1.lt
  simp at c0 c1
  have H1 := Lib.hid h1
  have H2 := Lib.hid h2
  have H3 := Lib.hid h3
  have HL1 : Hid ((i64s (fw F)).length ≤ 1000) := Lib.hid (by simpa [i64s] using hF)
  have HL2 : Hid ((u64s (fv F)).length ≤ 1000) := Lib.hid (by simpa [u64s] using hF)
  have HB := Lib.hid hb
  clear h1 h2 h3 hF hb
  go_enter Tryz.func154, Tryz.ntmps154
  go_wp2_with (at_builtin; refine wpList_app1g rfl (.tmp 10) (.tmp 12) 77 rfl base 3 (.int .i64 0) 8 Tryz.underlying77 Tryz.info_i64 rfl (.int .i64 (n : Int)) rfl v1 (i64s (fw F)) rfl H2.out rfl (by have := HL1.out; omega) (by have := HL1.out; omega) HB.out ?_)
  intro v1' w1 hl1 hc1
  obtain ⟨k1, k2, k3, k4, k5⟩ := Fst.step1 H1.out H2.out H3.out (by decide) (by decide) hl1.out hc1
  obtain ⟨a1, cc1, hv1, _, _⟩ := hl1.out.form
  generalize (i64s (fw F) ++ [Value.int .i64 (n : Int)]).length = n1 at hv1
  subst hv1
  have p0 := k1.frozen 0
  have q0 := k1.cell 0
  have hz1 := k1.lt
  simp at q0
  have K2 := Lib.hid k2
  have K3 := Lib.hid k3
  have K4 := Lib.hid k4
  have K5 := Lib.hid k5
  clear hl1 hc1 k1 k2 k3 k4 k5 c0 c1 f0 f1 hz
  go_upto_region 1 with fail
  generalize w1.setCell ⟨g, 0, none⟩ (.slice a1 n1 cc1) = W1 at *
  have q1 := K2.out.cell 1
  have hz2 := K2.out.lt
  simp at q1
  clear q0 p0 hz1
  go_wp2_with (at_builtin; refine wpList_app1g rfl (.tmp 20) (.tmp 22) 73 rfl base 37 (.int .u64 0) 8 Tryz.underlying73 Tryz.info_u64 rfl (.int .u64 (v : Int)) rfl v2 (u64s (fv F)) rfl K4.out rfl (by have := HL2.out; omega) (by have := HL2.out; omega) (Nat.le_trans HB.out K5.out.size) ?_)
  intro v2' w2 hl2 hc2
  obtain ⟨k1, k2, k3, k4, k5⟩ := Fst.step2 K2.out K3.out K4.out (by decide) (by decide) hl2.out hc2
  obtain ⟨a2, cc2, hv2, _, _⟩ := hl2.out.form
  generalize (u64s (fv F) ++ [Value.int .u64 (v : Int)]).length = n2 at hv2
  subst hv2
  have r1 := k1.cell 1
  have p1' := k1.frozen 1
  have hz3 := k1.lt
  simp at r1
  have J2 := Lib.hid k2
  have J3 := Lib.hid k3
  have J4 := Lib.hid k4
  have J5 := Lib.hid k5
  clear hl2 hc2 k1 k2 k3 k4 k5 q1 hz2
  go_wp2_with fail
  go_end0
  refine ⟨rfl, ⟨_, _, J2.out, ?_, ?_⟩, K5.out.trans J5.out⟩
  · have := J3.out
    simpa [fw, i64s] using this
  · have := J4.out
    simpa [fv, u64s] using this
set_option maxHeartbeats 1000000 in
theorem lcount_any (F : List (Nat × Nat)) (base g m : Nat) (w : World) (h : Fst w 231 base g F) (hF : F.length ≤ 1000) (hb : base ≤ w.heap.size) (hm : 1 ≤ m ∧ m ≤ 1000) :
    Calls Tryz.prog 155 #[.pointer (some ⟨g, 0, none⟩), .int .i64 (m : Int)] w fun e w' => e = .returned (.tuple #[]) ∧ Fst w' 231 base g (F ++ [(2, m - 1)]) ∧ Fc base g w w' := by
  have HA := Lib.hid (ladd_any F base g (m - 1) 2 w h hF hb)
  obtain ⟨q, hq⟩ : ∃ q, m - 1 = q := ⟨_, rfl⟩
  rw [hq] at HA ⊢
  have e1 : wrap64 ((m : Int) - 1) = (q : Int) := by unfold wrap64; omega
  have e3 : IntKind.u64.wrap (q : Int) = (q : Int) := wrap_u64_nat q (by omega)
  have e4 : (m : Int) - 1 = (q : Int) := by omega
  clear h hF hb hq
  go_enter Tryz.func155, Tryz.ntmps155
  go_wp2_with fail
  refine HA.out.mono ?_
  rintro e w1 ⟨rfl, h1, h2⟩
  have H1 := Lib.hid h1
  have H2 := Lib.hid h2
  clear h1 h2
  go_wp2_with fail
  go_end0
  exact ⟨rfl, H1.out, H2.out⟩

def fU (u : Int) : List (Nat × Nat) := [(5, u.toNat)]
theorem i64_take {L : List Int} {k : Nat} (h : k < L.length) : L.take (k + 1) = L.take k ++ [L.getD k 0] := by
  have e : L.getD k 0 = L[k] := by simp [List.getD, h]
  rw [List.take_succ_eq_append_getElem h, e]
set_option maxHeartbeats 1000000 in
theorem lchain_any (F : List (Nat × Nat)) (base g : Nat) (c : List Int) (a : Option Addr) (cp B : Nat) (w : World) (h : Fst w 231 base g F) (hF : F.length ≤ 900) (hb : base ≤ w.heap.size) (hro : Ro w B a (i64s c)) (hB : B ≤ base) (hBg : B ≤ g) (hl : 1 ≤ c.length ∧ c.length ≤ 4) (hu : ∀ u ∈ c, 0 ≤ u ∧ u < 32) :
    Calls Tryz.prog 156 #[.pointer (some ⟨g, 0, none⟩), .slice a c.length cp] w fun e w' => e = .returned (.tuple #[]) ∧ Fst w' 231 base g (F ++ fCh c) ∧ Fc base g w w' := by
  have HA := Lib.hid (lcount_any F base g c.length w h (by omega) hb (by omega))
  have HRO := Lib.hid hro
  have HBS := Lib.hid (And.intro hb (And.intro hB hBg))
  have HU : Hid (∀ k, k < c.length → 0 ≤ c.getD k 0 ∧ c.getD k 0 < 32) := Lib.hid fun k hk => hu _ (by simp [List.getD, hk])
  have HF := Lib.hid hF
  generalize hN : c.length = n at *
  have HN := Lib.hid hN
  have hn1 : (n : Int) ≤ 4 := by omega
  clear h hF hb hro hB hBg hu hN
  go_enter Tryz.func156, Tryz.ntmps156
  go_wp2_with fail
  refine HA.out.mono ?_
  rintro e w1 ⟨rfl, h1, h2⟩
  have H1 := Lib.hid h1
  have H2 := Lib.hid h2
  clear h1 h2
  go_wp2_with fail
  go_loopw [12] (fun i wr => ∃ k : Nat, k ≤ n ∧ i = .int .i64 (k : Int) ∧ Hid (Fst wr 231 base g (F ++ ((2, n - 1) :: (c.take k).flatMap fU))) ∧ Hid (Fc base g w wr)) (fun i _ => n - (Go.RowKit.intOf i).toNat)
  case atStart => exact ⟨0, Nat.zero_le _, rfl, by simpa using H1, H2⟩
  case round =>
    obtain ⟨k, hk, rfl, HX, HC⟩ := hrel
    by_cases hlt : k < n
    · have hkL : k < c.length := by rw [HN.out]; exact hlt
      obtain ⟨b, off, rfl, hb, hc⟩ := (HRO.out.below (HC.out.below (Nat.le_trans HBS.out.2.1 HBS.out.1) HBS.out.2.2 HBS.out.2.1) (Nat.le_refl _)).i64 (show 0 < c.length by omega)
      have e1 := hc k hkL
      have hur := HU.out k hlt
      have HT := Lib.hid (i64_take hkL)
      clear hc
      have hk0 : (0 : Int) ≤ (k : Int) := by omega
      have hk1 : (k : Int) < (n : Int) := by omega
      generalize c.getD k 0 = u at *
      obtain ⟨m, rfl⟩ := Int.eq_ofNat_of_zero_le hur.1
      have e2 : IntKind.u64.wrap (m : Int) = (m : Int) := wrap_u64_nat m (by omega)
      have HLEN : Hid ((F ++ ((2, n - 1) :: (c.take k).flatMap fU)).length ≤ 1000) := Lib.hid (by
        have := fflat_le (f := fU) (n := 1) (xs := c.take k) (fun u _ => by simp [fU])
        have := HF.out
        rw [List.length_append, List.length_cons, List.length_take] at *
        omega)
      have HAD := Lib.hid (ladd_any _ base g m 5 wr HX.out HLEN.out (Nat.le_trans HBS.out.1 HC.out.size))
      clear hur
      go_wp2_with fail
      refine HAD.out.mono ?_
      rintro e w2 ⟨rfl, h1, h2⟩
      have HX2 := Lib.hid h1
      have HC2 := Lib.hid (HC.out.trans h2)
      clear h1 h2
      go_wp2_with fail
      go_roundw
      case rel =>
        refine ⟨k + 1, by omega, by go_num, Lib.hid ?_, HC2⟩
        have := HX2.out
        rw [HT.out]
        simpa [fU] using this
      case measure => simp [Go.RowKit.intOf]; omega
    · obtain rfl : k = n := by omega
      go_wp2_with fail
      go_end0
      refine ⟨rfl, ?_, HC.out⟩
      have := HX.out
      rw [List.take_of_length_le (by rw [HN.out]; exact Nat.le_refl _)] at this
      rw [fCh, HN.out]
      exact this
end Go.Proofs.YtihbinphmlgjoaaGreat
