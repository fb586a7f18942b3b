/-
  Plain mathematics of records, frames and superblocks: no Go in it. Lemmas only, no claim of their own.
-/
import Derived.Test.YtcadnlilijkneaaGreatGb6
import Derived.Test.YtcadnlilijkneaaGreatGb7
import Derived.Lib.SmallJoins
namespace Go.Proofs.YtcadnlilijkneaaGreat
open Go.RowKit
set_option linter.unusedVariables false
set_option linter.unusedSimpArgs false

abbrev Rec := List UInt8
def be (k n : Nat) : List UInt8 := (List.range k).map fun j => UInt8.ofNat (n / 256 ^ (k - 1 - j))
def nb (bs : List UInt8) : Nat := bs.foldl (fun a x => a * 256 + x.toNat) 0
@[simp] theorem be_len (k n : Nat) : (be k n).length = k := by simp [be]
theorem be_succ (k n : Nat) : be (k + 1) n = be k (n / 256) ++ [UInt8.ofNat n] := by
  unfold be
  rw [List.range_succ, List.map_append]
  congr 1
  · refine List.map_congr_left fun j hj => ?_
    have hj := List.mem_range.1 hj
    rw [Nat.div_div_eq_div_mul, show k + 1 - 1 - j = (k - 1 - j) + 1 from by omega, Nat.pow_succ, Nat.mul_comm]
  · simp
theorem nb_snoc (bs : List UInt8) (x : UInt8) : nb (bs ++ [x]) = nb bs * 256 + x.toNat := by simp [nb]
theorem nb_be : ∀ (k n : Nat), n < 256 ^ k → nb (be k n) = n
  | 0, n, h => by simp at h; subst h; rfl
  | k + 1, n, h => by
    rw [be_succ, nb_snoc, nb_be k (n / 256) (by rw [Nat.pow_succ] at h; omega)]
    have : (UInt8.ofNat n).toNat = n % 256 := by simp
    omega
theorem list_snoc {α : Type} {l : List α} (h : l ≠ []) : ∃ a x, l = a ++ [x] := ⟨l.dropLast, l.getLast h, (List.dropLast_concat_getLast h).symm⟩
theorem be_nb : ∀ (k : Nat) (bs : List UInt8), bs.length = k → be k (nb bs) = bs
  | 0, bs, h => by rw [List.eq_nil_of_length_eq_zero h]; rfl
  | k + 1, bs, h => by
    obtain ⟨a, x, rfl⟩ := list_snoc (l := bs) (by rintro rfl; simp at h)
    have hx : x.toNat < 256 := x.toNat_lt
    rw [be_succ, nb_snoc, show (nb a * 256 + x.toNat) / 256 = nb a from by omega, be_nb k a (by simpa using h)]
    congr 2
    apply UInt8.toNat_inj.1
    simp
theorem nb_lt : ∀ (k : Nat) (bs : List UInt8), bs.length = k → nb bs < 256 ^ k
  | 0, bs, h => by rw [List.eq_nil_of_length_eq_zero h]; simp [nb]
  | k + 1, bs, h => by
    obtain ⟨a, x, rfl⟩ := list_snoc (l := bs) (by rintro rfl; simp at h)
    have hx : x.toNat < 256 := x.toNat_lt
    have := nb_lt k a (by simpa using h)
    rw [nb_snoc, Nat.pow_succ]
    omega
theorem be_inj {k a b : Nat} (ha : a < 256 ^ k) (hb : b < 256 ^ k) (h : be k a = be k b) : a = b := by rw [← nb_be k a ha, h, nb_be k b hb]
def frame (r : Rec) : List UInt8 := be 2 r.length ++ r
def frs : List Rec → List UInt8
  | [] => []
  | r :: L => frame r ++ frs L
@[simp] theorem frame_len (r : Rec) : (frame r).length = 2 + r.length := by simp [frame]
theorem frs_append : ∀ A B, frs (A ++ B) = frs A ++ frs B
  | [], B => rfl
  | r :: A, B => by rw [List.cons_append, frs, frs_append A B, frs, List.append_assoc]
theorem frs_one (r : Rec) : frs [r] = frame r := by simp [frs]
theorem frs_snoc (L : List Rec) (r : Rec) : frs (L ++ [r]) = frs L ++ frame r := by rw [frs_append, frs_one]
theorem frs_snoc_len (L : List Rec) (r : Rec) : (frs (L ++ [r])).length = (frs L).length + 2 + r.length := by rw [frs_snoc, List.length_append, frame_len]; omega
def okR (r : Rec) : Prop := 1 ≤ r.length ∧ r.length ≤ 300
instance (r : Rec) : Decidable (okR r) := by unfold okR; infer_instance
def okL (L : List Rec) : Prop := ∀ r ∈ L, okR r
theorem okL_nil : okL [] := by intro r h; cases h
theorem okL.append {A B : List Rec} (ha : okL A) (hb : okL B) : okL (A ++ B) := fun r h => by
  rcases List.mem_append.1 h with h | h
  · exact ha r h
  · exact hb r h
theorem okL.snoc {A : List Rec} {r : Rec} (ha : okL A) (hr : okR r) : okL (A ++ [r]) := ha.append (by intro x h; simp at h; subst h; exact hr)
theorem frs_ge {L : List Rec} (h : okL L) : 3 * L.length ≤ (frs L).length := by
  induction L with
  | nil => simp [frs]
  | cons r L ih =>
    have h1 := h r (by simp)
    have h2 := ih (fun x hx => h x (by simp [hx]))
    unfold okR at h1
    simp only [frs, List.length_append, frame_len, List.length_cons]
    omega
theorem frame_inj {r s : Rec} {X Y : List UInt8} (hr : okR r) (hs : okR s) (h : frame r ++ X = frame s ++ Y) : r = s ∧ X = Y := by
  unfold frame at h
  unfold okR at hr hs
  rw [List.append_assoc, List.append_assoc] at h
  obtain ⟨h1, h2⟩ := List.append_inj h (by simp)
  have h3 : r.length = s.length := be_inj (k := 2) (by omega) (by omega) h1
  obtain ⟨h4, h5⟩ := List.append_inj h2 h3
  exact ⟨h4, h5⟩
theorem frame_ne (r : Rec) (X : List UInt8) : frame r ++ X ≠ [] := by
  intro h
  have := congrArg List.length h
  simp at this
theorem frs_pre : ∀ {A L : List Rec} {X : List UInt8}, okL A → okL L → frs A ++ X = frs L → ∃ M, L = A ++ M ∧ X = frs M
  | [], L, X, _, _, h => ⟨L, rfl, by simpa [frs] using h⟩
  | r :: A, [], X, _, _, h => by
    simp only [frs, List.append_assoc] at h
    exact absurd h (frame_ne r _)
  | r :: A, s :: L, X, ha, hl, h => by
    simp only [frs, List.append_assoc] at h
    obtain ⟨rfl, h2⟩ := frame_inj (ha r (by simp)) (hl s (by simp)) h
    obtain ⟨M, rfl, hM⟩ := frs_pre (fun x hx => ha x (by simp [hx])) (fun x hx => hl x (by simp [hx])) h2
    exact ⟨M, rfl, hM⟩
theorem frs_inj {A L : List Rec} (ha : okL A) (hl : okL L) (h : frs A = frs L) : A = L := by
  obtain ⟨M, rfl, hM⟩ := frs_pre (X := []) ha hl (by simpa using h)
  cases M with
  | nil => simp
  | cons r M => simp only [frs] at hM; exact absurd hM.symm (frame_ne r _)
def begs (bs : List UInt8) : Prop := ∃ r X, okR r ∧ bs = frame r ++ X
theorem frs_begs {A L : List Rec} {X : List UInt8} (ha : okL A) (hl : okL L) (h : frs A ++ X = frs L) (hX : X ≠ []) : begs X := by
  obtain ⟨M, rfl, hM⟩ := frs_pre ha hl h
  cases M with
  | nil => exact absurd (by simpa [frs] using hM) hX
  | cons r M => exact ⟨r, frs M, hl r (by simp), hM⟩
theorem begs_iff (bs : List UInt8) : begs bs ↔ 2 ≤ bs.length ∧ nb (bs.take 2) ≤ bs.length - 2 ∧ 1 ≤ nb (bs.take 2) ∧ nb (bs.take 2) ≤ 300 := by
  constructor
  · rintro ⟨r, X, hr, rfl⟩
    unfold okR at hr
    have e : (frame r ++ X).take 2 = be 2 r.length := by unfold frame; rw [List.append_assoc, List.take_append_of_le_length (by simp), List.take_of_length_le (by simp)]
    rw [e, nb_be 2 _ (by omega)]
    simp only [List.length_append, frame_len]
    omega
  · rintro ⟨h1, h2, h3, h4⟩
    have hl : ((bs.drop 2).take (nb (bs.take 2))).length = nb (bs.take 2) := by rw [List.length_take, List.length_drop]; omega
    refine ⟨(bs.drop 2).take (nb (bs.take 2)), (bs.drop 2).drop (nb (bs.take 2)), ?_, ?_⟩
    · unfold okR; rw [hl]; omega
    · unfold frame
      rw [hl, be_nb 2 _ (by rw [List.length_take]; omega), List.append_assoc, List.take_append_drop, List.take_append_drop]
theorem begs_len {bs : List UInt8} {r : Rec} {X : List UInt8} (hr : okR r) (h : bs = frame r ++ X) : nb (bs.take 2) = r.length := by
  subst h
  unfold okR at hr
  have e : (frame r ++ X).take 2 = be 2 r.length := by unfold frame; rw [List.append_assoc, List.take_append_of_le_length (by simp), List.take_of_length_le (by simp)]
  rw [e, nb_be 2 _ (by omega)]

def ens (L : List Rec) : List Int := (List.range L.length).map fun i => (((frs (L.take (i + 1))).length : Nat) : Int)
@[simp] theorem ens_len (L : List Rec) : (ens L).length = L.length := by simp [ens]
theorem ens_snoc (L : List Rec) (r : Rec) : ens (L ++ [r]) = ens L ++ [(((frs (L ++ [r])).length : Nat) : Int)] := by
  unfold ens
  rw [List.length_append, List.length_singleton, List.range_succ, List.map_append]
  congr 1
  · refine List.map_congr_left fun i hi => ?_
    have hi := List.mem_range.1 hi
    rw [List.take_append_of_le_length (by omega)]
  · simp [List.take_of_length_le]
theorem take_snoc {α : Type} (L : List α) (i : Nat) (hi : i < L.length) : L.take (i + 1) = L.take i ++ [L[i]] := by rw [List.take_succ_eq_append_getElem hi]
def supS (h r b : Nat) : Sec := fillS (UInt8.ofNat h :: (be 4 r ++ be 4 b))
theorem supS_len (h r b : Nat) : (supS h r b).length = 64 := fillS_len _
theorem fillS_take (bs : List UInt8) (k : Nat) (hk : k ≤ bs.length) (h64 : k ≤ 64) : (fillS bs).take k = bs.take k := by
  refine List.ext_getElem? fun i => ?_
  rw [List.getElem?_take, List.getElem?_take]
  by_cases hi : i < k
  · rw [if_pos hi, if_pos hi, fillS_get bs i (by omega)]
    simp [List.getD, show i < bs.length by omega]
  · rw [if_neg hi, if_neg hi]
theorem supS_parts {h r b : Nat} : (supS h r b).getD 0 0 = UInt8.ofNat h ∧ ((supS h r b).drop 1).take 4 = be 4 r ∧ ((supS h r b).drop 5).take 4 = be 4 b := by
  have hl : (UInt8.ofNat h :: (be 4 r ++ be 4 b)).length = 9 := by simp
  have ht : (supS h r b).take 9 = UInt8.ofNat h :: (be 4 r ++ be 4 b) := by
    unfold supS
    rw [fillS_take _ 9 (by omega) (by omega), List.take_of_length_le (by omega)]
  refine ⟨?_, ?_, ?_⟩
  · have h0 : (supS h r b)[0]? = some (UInt8.ofNat h) := by
      have := congrArg (fun l : List UInt8 => l[0]?) ht
      simpa [List.getElem?_take] using this
    simp [List.getD, h0]
  · have h1 : ((supS h r b).drop 1).take 4 = (((supS h r b).take 9).drop 1).take 4 := by rw [List.drop_take, List.take_take]; rfl
    rw [h1, ht, List.drop_succ_cons, List.drop_zero, List.take_append_of_le_length (by simp), List.take_of_length_le (by simp)]
  · have h1 : ((supS h r b).drop 5).take 4 = (((supS h r b).take 9).drop 5).take 4 := by rw [List.drop_take, List.take_take]; rfl
    rw [h1, ht, List.drop_succ_cons, List.drop_append_of_le_length (by simp), List.drop_of_length_le (by simp), List.nil_append, List.take_of_length_le (by simp)]
theorem supS_inj {h r b h2 r2 b2 : Nat} (e : supS h r b = supS h2 r2 b2) (hh : h < 256) (hh2 : h2 < 256) (hr : r < 4294967296) (hr2 : r2 < 4294967296) (hb : b < 4294967296) (hb2 : b2 < 4294967296) : h = h2 ∧ r = r2 ∧ b = b2 := by
  obtain ⟨a1, a2, a3⟩ := supS_parts (h := h) (r := r) (b := b)
  obtain ⟨c1, c2, c3⟩ := supS_parts (h := h2) (r := r2) (b := b2)
  rw [e, c1] at a1
  rw [e, c2] at a2
  rw [e, c3] at a3
  have h3 : (256 : Nat) ^ 4 = 4294967296 := by decide
  refine ⟨?_, (be_inj (by omega) (by omega) a2).symm, (be_inj (by omega) (by omega) a3).symm⟩
  have := congrArg UInt8.toNat a1
  simp at this
  omega

def cat (R : Nat → Sec) (f : Nat) : Nat → List UInt8
  | 0 => []
  | n + 1 => cat R f n ++ R (f + n)
theorem cat_len {R : Nat → Sec} (hR : ∀ i, (R i).length = 64) (f : Nat) : ∀ n, (cat R f n).length = n * 64
  | 0 => rfl
  | n + 1 => by rw [cat, List.length_append, cat_len hR f n, hR]; omega
theorem cat_take {R : Nat → Sec} (hR : ∀ i, (R i).length = 64) (f : Nat) : ∀ n k, k ≤ n → (cat R f n).take (k * 64) = cat R f k
  | 0, k, h => by obtain rfl : k = 0 := by omega
                  rfl
  | n + 1, k, h => by
    by_cases hk : k ≤ n
    · rw [cat, List.take_append_of_le_length (by rw [cat_len hR]; omega), cat_take hR f n k hk]
    · obtain rfl : k = n + 1 := by omega
      rw [List.take_of_length_le (by rw [cat_len hR]; omega)]
theorem cat_take_any {R : Nat → Sec} (hR : ∀ i, (R i).length = 64) (f n m k : Nat) (h1 : k ≤ n * 64) (h2 : k ≤ m * 64) : (cat R f n).take k = (cat R f m).take k := by
  rcases Nat.le_total n m with h | h
  · rw [← cat_take hR f m n h, List.take_take, Nat.min_eq_left h1]
  · rw [← cat_take hR f n m h, List.take_take, Nat.min_eq_left h2]
def hsec (n : Nat) : Nat := (n - 1) / 2
def halfB (n : Nat) (R : Nat → Sec) (h : Nat) : List UInt8 := cat R (1 + h * hsec n) (hsec n)
structure Opens (n : Nat) (R : Nat → Sec) (h : Nat) (L : List Rec) : Prop where
  half : h ≤ 1
  ok : okL L
  room : (frs L).length ≤ hsec n * 64
  sup : R 0 = supS h L.length (frs L).length
  bytes : (halfB n R h).take (frs L).length = frs L
theorem Opens.uniq {n : Nat} {R : Nat → Sec} {h h2 : Nat} {L L2 : List Rec} (hn : n ≤ 1024) (a : Opens n R h L) (b : Opens n R h2 L2) : h = h2 ∧ L = L2 := by
  have h1 := a.half
  have h2 := b.half
  have h3 := frs_ge a.ok
  have h4 := frs_ge b.ok
  have h5 := a.room
  have h6 := b.room
  unfold hsec at h5 h6
  obtain ⟨e1, e2, e3⟩ := supS_inj (a.sup.symm.trans b.sup) (by omega) (by omega) (by omega) (by omega) (by omega) (by omega)
  subst e1
  refine ⟨rfl, frs_inj a.ok b.ok ?_⟩
  rw [← a.bytes, ← b.bytes, e3]
def wrM (m : Nat → Option Sec) (f : Nat) (B : List UInt8) (i j : Nat) : Nat → Option Sec := fun x => if f + i ≤ x ∧ x < f + j then some (fillS (B.drop ((x - f) * 64))) else m x
theorem wrM_none (m : Nat → Option Sec) (f : Nat) (B : List UInt8) (i : Nat) : wrM m f B i i = m := by
  funext x
  unfold wrM
  rw [if_neg (by omega)]
theorem wrM_succ (m : Nat → Option Sec) (f : Nat) (B : List UInt8) (i j : Nat) (h : i ≤ j) : upd (wrM m f B i j) (f + j) (fillS (B.drop (j * 64))) = wrM m f B i (j + 1) := by
  funext x
  unfold upd wrM
  by_cases e : x = f + j
  · subst e
    rw [if_pos rfl, if_pos (by omega), Nat.add_sub_cancel_left]
  · rw [if_neg e]
    by_cases h2 : f + i ≤ x ∧ x < f + j
    · rw [if_pos h2, if_pos (by omega)]
    · rw [if_neg h2, if_neg (by omega)]
end Go.Proofs.YtcadnlilijkneaaGreat
namespace Go.Proofs.YtcadnlilijkneaaGreat
open Go.RowKit
set_option linter.unusedVariables false
set_option linter.unusedSimpArgs false

def bl (v : Value) : List Nat := v.ownBlock.toList
theorem mem_bl {v : Value} {g : Nat} : g ∈ bl v ↔ v.ownBlock = some g := by unfold bl; cases v.ownBlock <;> simp [eq_comm]
structure AppK (w w' : World) (e : TypeId) (v v' : Value) (xs ys : List Value) : Prop where
  lst : Lst w' 0 e v' (xs ++ ys)
  same : v'.ownBlock = v.ownBlock ∨ ∀ g, v'.ownBlock = some g → w.heap.size ≤ g
  keep : ∀ u zs, Lst w 0 e u zs → (∀ g, u.ownBlock = some g → v.ownBlock = some g → zs.length ≤ xs.length) → Lst w' 0 e u zs
  chg : Chg (bl v) w w'
theorem Lst.chg {w w' : World} {base : Nat} {e : TypeId} {v : Value} {xs : List Value} {l : List Nat} (h : Lst w base e v xs) (hc : Chg l w w') (hg : ∀ g, v.ownBlock = some g → g ∉ l) : Lst w' base e v xs := by
  refine ⟨h.1, ?_⟩
  rcases h.2 with hn | ⟨g, cap, cur, rfl, hb, hgg, rest⟩
  · exact .inl hn
  · exact .inr ⟨g, cap, cur, rfl, hb, (hc.block g (Array.getElem?_eq_some_iff.1 hgg).1 (hg g rfl)).trans hgg, rest⟩
theorem Lst.kept0 {w w' : World} {base : Nat} {e : TypeId} {v : Value} {xs : List Value} (h : Lst w base e v xs) (hc : Chg [] w w') : Lst w' base e v xs := h.chg hc (by simp)
theorem Lst.off {w : World} {e t : TypeId} {u v : Value} {xs ys : List Value} (h : Lst w 0 e u xs) (k : Lst w 0 t v ys) (hne : e ≠ t) : ∀ g, u.ownBlock = some g → g ∉ bl v := by
  intro g hg hv
  rw [mem_bl] at hv
  rcases h.2 with ⟨rfl, _⟩ | ⟨g1, c1, r1, rfl, _, h1, _⟩
  · simp [Value.ownBlock] at hg
  · rcases k.2 with ⟨rfl, _⟩ | ⟨g2, c2, r2, rfl, _, h2, _⟩
    · simp [Value.ownBlock] at hv
    · simp only [Value.ownBlock, Option.some.injEq] at hg hv
      subst hg
      subst hv
      rw [h1] at h2
      cases h2
      exact hne rfl
theorem Lst.bl_lt {w : World} {e : TypeId} {v : Value} {xs : List Value} (h : Lst w 0 e v xs) : ∀ g ∈ bl v, g < w.heap.size := fun g hg => (h.lt g (mem_bl.1 hg)).2
theorem grown_chg {w w' : World} {v : Value} (h : w.grownBy w' v.ownBlock) : Chg (bl v) w w' := ⟨h.os, h.tape, h.output, h.size, fun k hk hn => h.block k hk (fun e => hn (mem_bl.2 e.symm))⟩
theorem AppK.refl {w : World} {e : TypeId} {v : Value} {xs : List Value} (h : Lst w 0 e v xs) : AppK w w e v v xs [] := ⟨by rw [List.append_nil]; exact h, .inl rfl, fun _ _ h _ => h, Chg.refl _ _⟩
theorem AppK.bl {w w' : World} {e : TypeId} {v v' : Value} {xs ys : List Value} (h : AppK w w' e v v' xs ys) : ∀ x ∈ bl v', x ∈ Proofs.YtcadnlilijkneaaGreat.bl v ∨ w.heap.size ≤ x := fun x hx => by
  rcases h.same with hs | hs
  · left; rw [mem_bl] at hx ⊢; rw [← hs]; exact hx
  · right; exact hs x (mem_bl.1 hx)
theorem AppK.trans {w w1 w2 : World} {e : TypeId} {v v1 v2 : Value} {xs ys zs : List Value} (h0 : Lst w 0 e v xs) (h : AppK w w1 e v v1 xs ys) (k : AppK w1 w2 e v1 v2 (xs ++ ys) zs) : AppK w w2 e v v2 xs (ys ++ zs) := by
  refine ⟨by rw [← List.append_assoc]; exact k.lst, ?_, fun u us hu hl => ?_, h.chg.then k.chg h.bl⟩
  · rcases k.same with k1 | k1
    · rw [k1]; exact h.same
    · exact .inr fun g hg => Nat.le_trans h.chg.size (k1 g hg)
  · have h1 := h.keep u us hu hl
    refine k.keep u us h1 fun g hg hv => ?_
    rcases h.same with hs | hs
    · rw [hs] at hv
      have := hl g hg hv
      rw [List.length_append]; omega
    · have h2 := hs g hv
      have h3 := (hu.lt g hg).2
      omega
theorem AppK.pre {w w1 w2 : World} {e : TypeId} {v v' : Value} {xs ys : List Value} (hc : Chg [] w w1) (h : AppK w1 w2 e v v' xs ys) : AppK w w2 e v v' xs ys :=
  ⟨h.lst, h.same.imp id fun k g hg => Nat.le_trans hc.size (k g hg), fun u us hu hl => h.keep u us (hu.kept0 hc) hl, (hc.mono (by simp)).trans h.chg⟩
theorem AppK.post {w w1 w2 : World} {e : TypeId} {v v' : Value} {xs ys : List Value} (h : AppK w w1 e v v' xs ys) {l : List Nat} (hc : Chg l w1 w2) (hl : ∀ g, (∃ c, w1.heap[g]? = some (.cells c e (0, 0))) → g ∉ l) :
    Lst w2 0 e v' (xs ++ ys) ∧ (∀ u zs, Lst w 0 e u zs → (∀ g, u.ownBlock = some g → v.ownBlock = some g → zs.length ≤ xs.length) → Lst w2 0 e u zs) := by
  have hx : ∀ u zs, Lst w1 0 e u zs → Lst w2 0 e u zs := fun u zs hu => hu.chg hc fun g hg => hl g (by
    rcases hu.2 with ⟨rfl, _⟩ | ⟨g1, c1, r1, rfl, _, h1, _⟩
    · simp [Value.ownBlock] at hg
    · simp only [Value.ownBlock, Option.some.injEq] at hg
      subst hg
      exact ⟨_, h1⟩)
  exact ⟨hx _ _ h.lst, fun u zs hu hk => hx _ _ (h.keep u zs hu hk)⟩
section
variable {P : Program} {w : World}
theorem run_appK (t ty e : TypeId) (z : Value) (bytes : Nat) (ht : P.underlying t = some (.slice e)) (hinfo : (P.info? e).map (fun i => (i.zero, i.size, i.bytes)) = some (some z, 1, bytes)) (hzs : z.cells.size = 1)
    (v : Value) (xs : List Value) (hown : Lst w 0 e v xs) (A : Option Addr) (B m c : Nat) (news : List Value) (hm : news.length = m) (hro : Ro w B A news) (h1 : ∀ u ∈ news, u.oneCell' = true)
    (hlen : (xs.length + m) * bytes ≤ 140737488355328) (hlen2 : xs.length + m ≤ 140737488355328) :
    ∃ v' w', (Builtin.append_ #[t, t] ty #[v, .slice A m c]).run P w = .ok v' w' ∧ AppK w w' e v v' xs news := by
  obtain ⟨i, hi, hzz⟩ := Option.map_eq_some_iff.1 hinfo
  simp only [Prod.mk.injEq] at hzz
  obtain ⟨hz, hsz, hby⟩ := hzz
  subst hm
  rcases A with _ | ad
  · have hn : news = [] := by
      rcases hro with h | ⟨b, off, h, _⟩
      · exact h
      · cases h
    subst hn
    have hrun := run_app_none (P := P) (w := w) 0 t ty e i ht hi v xs hown c
    exact ⟨v, w, hrun, AppK.refl hown⟩
  · have hcells : ∀ j u, news[j]? = some u → w.cell? (ad.add j) = some u := by
      intro j u hu
      have hj : j < news.length := (List.getElem?_eq_some_iff.1 hu).1
      rcases hro with h | ⟨b, off, h, hb, hc⟩
      · subst h; simp at hj
      · injection h with h
        subst h
        rw [add_off, hc j hj]
        simp [List.getD, hu]
    have hmax : xs.length + news.length ≤ maxLen := by unfold maxLen; omega
    have hnl : news.length = news.length * i.size := by rw [hsz, Nat.mul_one]
    by_cases hroom : ∃ g cap, v = .slice (some ⟨g, 0, none⟩) xs.length cap ∧ xs.length + news.length ≤ cap
    · obtain ⟨g, cap, rfl, hrm⟩ := hroom
      rcases hown.2 with ⟨h0, _⟩ | ⟨g1, cap1, cur, h0, hb, hg, hnc, hcm, hcs, htake⟩
      · cases h0
      · injection h0 with h01 h02 h03
        injection h01 with h01
        injection h01 with h01 _ _
        subst h01 h03
        have hcs2 : cur.size = cap := by simpa using hcs
        have hr := run_append_room (P := P) w t ty e i ht hi g xs.length cap cur hg ad news.length c news hnl hcells h1 hrm (by rw [hsz, hcs2]; omega)
        rw [hsz, Nat.mul_one] at hr
        have hh := setRow_heap w g cur (cur.toList.take xs.length ++ news ++ cur.toList.drop (xs.length + news.length)).toArray e (0, 0) hg
        have hoth : ∀ k, k ≠ g → (w.setRow g (cur.toList.take xs.length ++ news ++ cur.toList.drop (xs.length + news.length)).toArray).heap[k]? = w.heap[k]? := fun k hk => setRow_other w g k _ hk
        have hnsz : (cur.toList.take xs.length ++ news ++ cur.toList.drop (xs.length + news.length)).length = cap := by
          simp only [List.length_append, List.length_take, List.length_drop, Array.length_toList]; omega
        have hgr : w.grownBy (w.setRow g (cur.toList.take xs.length ++ news ++ cur.toList.drop (xs.length + news.length)).toArray) (some g) := ⟨rfl, rfl, rfl, by simp, fun k _ hk => setRow_other w g k _ (fun e => hk (by simp [e]))⟩
        refine ⟨_, _, hr, ⟨⟨by simp, .inr ⟨g, cap, _, by simp, Nat.zero_le _, hh, by simp; omega, hcm, by simp; simpa using hnsz, ?_⟩⟩, .inl rfl, fun u zs hu hl => ?_, grown_chg (v := .slice (some ⟨g, 0, none⟩) xs.length cap) hgr⟩⟩
        · have ht2 : cur.toList.take xs.length = xs := by simpa using htake
          simp only [List.toList_toArray, Nat.mul_one, ht2]
          exact List.take_left
        · rcases hu.2 with ⟨rfl, hu0⟩ | ⟨g2, cap2, cur2, rfl, hb2, hg2, hnc2, hcm2, hcs2', htake2⟩
          · exact ⟨hu.1, .inl ⟨rfl, hu0⟩⟩
          · by_cases e2 : g2 = g
            · subst e2
              rw [hg] at hg2
              cases hg2
              have hle := hl g2 rfl rfl
              refine ⟨hu.1, .inr ⟨g2, cap2, _, rfl, Nat.zero_le _, hh, hnc2, hcm2, by rw [List.size_toArray, hnsz, ← hcs2, hcs2'], ?_⟩⟩
              simp only [Nat.mul_one] at htake2
              simp only [List.toList_toArray, Nat.mul_one, List.append_assoc]
              rw [List.take_append_of_le_length (by simp; omega), List.take_take, Nat.min_eq_left hle, htake2]
            · exact ⟨hu.1, .inr ⟨g2, cap2, cur2, rfl, hb2, (hoth g2 e2).trans hg2, hnc2, hcm2, hcs2', htake2⟩⟩
    · obtain ⟨v', w', hr, h2, h3, h4⟩ := run_append_own (P := P) w 0 t ty e i z 1 bytes ht hi hz hsz hby hzs (by omega) v xs.length xs hown ad news.length c news (by omega) hcells h1 hmax hlen (Nat.zero_le _)
      have fin : ∀ (o : Obj) (n2 c2 : Nat), (Builtin.append_ #[t, t] ty #[v, .slice (some ad) news.length c]).run P w = .ok (.slice (some ⟨w.heap.size, 0, none⟩) n2 c2) (w.drew.alloc o) → ∃ v' w', (Builtin.append_ #[t, t] ty #[v, .slice (some ad) news.length c]).run P w = .ok v' w' ∧ AppK w w' e v v' xs news := by
        intro o n2 c2 hr2
        rw [hr] at hr2
        injection hr2 with e1 e2
        subst e1
        subst e2
        have hC : Chg [] w (w.drew.alloc o) := ((Chg.refl [] w).drew).alloc o
        exact ⟨_, _, hr, ⟨by unfold Lst; rw [List.length_append]; exact h2, .inr (by intro g hg; simp only [Value.ownBlock, Option.some.injEq] at hg; omega), fun u zs hu _ => hu.kept0 hC, hC.mono (by simp)⟩⟩
      rcases hown.2 with ⟨rfl, h0⟩ | ⟨g, cap, cur, rfl, hb, hg, hnc, hcm, hcs, htake⟩
      · have hx : xs = [] := List.eq_nil_of_length_eq_zero h0
        subst hx
        by_cases hm : news.length = 0
        · have hn : news = [] := List.eq_nil_of_length_eq_zero hm
          subst hn
          refine ⟨.slice none 0 0, w, ?_, AppK.refl hown⟩
          simp [Builtin.append_, run_underlying ht, sizeOf, typeInfo, hi, Builtin.lenOf, Builtin.firstCells, loadCells, loadCellsFrom]
        · exact fin _ _ _ (run_append_nil (P := P) w t ty e i z ht hi hz ad news.length c news hnl hcells (by omega) (by simp at hlen2; omega) (by rw [hby]; simp only [List.length_nil, Nat.zero_add] at hlen; omega))
      · have hnr : cap < xs.length + news.length := by
          refine Nat.lt_of_not_le fun hle => hroom ⟨g, cap, rfl, hle⟩
        have holds : ∀ j u, xs[j]? = some u → w.cell? ((⟨g, 0, none⟩ : Addr).add j) = some u := World.ownsRow.cells hown (g := g) rfl
        exact fin _ _ _ (run_append_grow (P := P) w t ty e i z ht hi hz ⟨g, 0, none⟩ xs.length cap xs (by rw [hsz, Nat.mul_one]) holds ad news.length c news hnl hcells hnr (by omega) (by rw [hby]; exact growslice_fits (by omega) hlen))
end
section
variable {P : Program} {w : World} {ops : Array Oper} {rest : List Oper} {o : Oper} {a : Act} {Q : Exit → Act → World → Prop}
theorem wp_appK {K : Act → World → Prop} (s x : Operand) (t : TypeId)
    (ho : o.op = .call { callee := .builtin .append, args := #[s, x], argTypes := #[t, t] })
    (e : TypeId) (z : Value) (bytes : Nat) (ht : P.underlying t = some (.slice e)) (hinfo : (P.info? e).map (fun i => (i.zero, i.size, i.bytes)) = some (some z, 1, bytes)) (hzs : z.cells.size = 1)
    (v : Value) (xs : List Value) (hs : a.eval s = v) (hown : Lst w 0 e v xs)
    (A : Option Addr) (B m c : Nat) (news : List Value) (hx : a.eval x = .slice A m c) (hm : news.length = m) (hro : Ro w B A news) (h1 : ∀ u ∈ news, u.oneCell' = true)
    (hlen : (xs.length + m) * bytes ≤ 140737488355328) (hlen2 : xs.length + m ≤ 140737488355328)
    (h : ∀ v' w', Hid (AppK w w' e v v' xs news) → K (a.put o.dst v') w') : o.wp P a w K Q := by
  obtain ⟨v', w', hr, hk⟩ := run_appK (P := P) t o.type e z bytes ht hinfo hzs v xs hown A B m c news hm hro h1 hlen hlen2
  unfold Oper.wp execOp
  simp only [ho, resolve, invoke, builtin, Sem.run_bind, Sem.run_pure, Result.andThen_ok, List.map_toArray, List.map_cons, List.map_nil, hs, hx, hr]
  exact h v' w' (Lib.hid hk)
theorem wpList_appK (hgd : o.guard = none) (s x : Operand) (t : TypeId)
    (ho : o.op = .call { callee := .builtin .append, args := #[s, x], argTypes := #[t, t] })
    (e : TypeId) (z : Value) (bytes : Nat) (ht : P.underlying t = some (.slice e)) (hinfo : (P.info? e).map (fun i => (i.zero, i.size, i.bytes)) = some (some z, 1, bytes)) (hzs : z.cells.size = 1)
    (v : Value) (xs : List Value) (hs : a.eval s = v) (hown : Lst w 0 e v xs)
    (A : Option Addr) (B m c : Nat) (news : List Value) (hx : a.eval x = .slice A m c) (hm : news.length = m) (hro : Ro w B A news) (h1 : ∀ u ∈ news, u.oneCell' = true)
    (hlen : (xs.length + m) * bytes ≤ 140737488355328) (hlen2 : xs.length + m ≤ 140737488355328)
    (h : ∀ v' w', Hid (AppK w w' e v v' xs news) → wpList P ops Q rest (a.put o.dst v') w') : wpList P ops Q (o :: rest) a w :=
  wpList_plain hgd fun _ hK => wp_appK s x t ho e z bytes ht hinfo hzs v xs hs hown A B m c news hx hm hro h1 hlen hlen2 fun v' w' h2 => hK _ _ (h v' w' h2)
theorem wpList_appK1 (hgd : o.guard = none) (s x : Operand) (t : TypeId)
    (ho : o.op = .call { callee := .builtin .append, args := #[s, x], argTypes := #[t, t] })
    (e : TypeId) (z : Value) (bytes : Nat) (ht : P.underlying t = some (.slice e)) (hinfo : (P.info? e).map (fun i => (i.zero, i.size, i.bytes)) = some (some z, 1, bytes)) (hzs : z.cells.size = 1)
    (u : Value) (h1 : u.oneCell' = true) (v : Value) (xs : List Value) (hs : a.eval s = v) (hown : Lst w 0 e v xs)
    (g : Nat) (hx : a.eval x = .slice (some ⟨g, 0, none⟩) 1 1) (hg : g = w.heap.size)
    (hlen : (xs.length + 1) * bytes ≤ 140737488355328) (hlen2 : xs.length + 1 ≤ 140737488355328)
    (h : ∀ v' w', Hid (AppK w w' e v v' xs [u]) → wpList P ops Q rest (a.put o.dst v') w') : wpList P ops Q (o :: rest) a (w.alloc (.cells #[u] e)) := by
  subst hg
  exact wpList_appK hgd s x t ho e z bytes ht hinfo hzs v xs hs (hown.alloc _) (some ⟨w.heap.size, 0, none⟩) (w.heap.size + 1) 1 1 [u] hx rfl (ro_one w e u) (by simpa using h1) hlen hlen2
    fun v' w' h2 => h v' w' (Lib.hid (AppK.pre ((Chg.refl [] w).alloc _) h2.out))
end
end Go.Proofs.YtcadnlilijkneaaGreat
namespace Go.Proofs.YtcadnlilijkneaaGreat
open Go.RowKit
set_option linter.unusedVariables false
set_option linter.unusedSimpArgs false

theorem num_step (m x : Nat) (hm : m < 16777216) (hx : x < 256) : bits BinOp.or IntKind.u32 ((m : Int) * 256) (x : Int) = ((m * 256 + x : Nat) : Int) := by
  rw [show ((m : Int) * 256) = ((m * 256 : Nat) : Int) from by omega, u32_or_nat _ _ (by omega) (by omega), nat_join 8 _ _ (by omega) (by omega)]
theorem nb_step (bs : List UInt8) (k : Nat) (hk : k < bs.length) : nb (bs.take (k + 1)) = nb (bs.take k) * 256 + (bs.getD k 0).toNat := by
  rw [take_snoc bs k hk, nb_snoc]
  simp [List.getD, hk]
theorem number_any (w : World) (a : Option Addr) (bs : List UInt8) (c B : Nat) (hro : Ro w B a (u8s bs)) (hl : bs.length ≤ 4) :
    Calls Tryz.prog 176 #[.slice a bs.length c] w fun e w' => e = .returned (.int .u32 ((nb bs : Nat) : Int)) ∧ w = w' := by
  obtain ⟨n, HN⟩ : ∃ n, Hid (bs.length = n) := ⟨_, Lib.hid rfl⟩
  rw [HN.out] at hl ⊢
  have HR := Lib.hid hro
  clear hro
  go_enter Tryz.func176, Tryz.ntmps176
  go_wp2
  go_loop [3, 8] (fun v i => ∃ k : Nat, k ≤ n ∧ i = .int .i64 k ∧ v = .int .u32 ((nb (bs.take k) : Nat) : Int)) (fun _ i => n - (intOf i).toNat)
  case atStart => exact ⟨0, Nat.zero_le _, rfl, rfl⟩
  case round =>
    obtain ⟨k, hk, rfl, rfl⟩ := hrel
    by_cases hlt : k < n
    · obtain ⟨b, off, rfl, hb, hc⟩ := HR.out.u8 (by rw [HN.out]; omega)
      have hcell := hc k (by rw [HN.out]; omega)
      have hd : decide (k < n) = true := by simpa using hlt
      have hk1 : (k : Int) < (n : Int) := by omega
      obtain ⟨m, HM⟩ : ∃ m, Hid (nb (bs.take k) = m) := ⟨_, Lib.hid rfl⟩
      obtain ⟨x, HX⟩ : ∃ x, Hid ((bs.getD k 0).toNat = x) := ⟨_, Lib.hid rfl⟩
      rw [HM.out]
      rw [HX.out] at hcell
      clear hc
      have hm4 : m < 16777216 := by
        rw [← HM.out]
        have h1 := nb_lt k (bs.take k) (by rw [List.length_take, HN.out]; omega)
        have h2 : (256 : Nat) ^ k ≤ 256 ^ 3 := Nat.pow_le_pow_right (by omega) (by omega)
        have h3 : (256 : Nat) ^ 3 = 16777216 := by decide
        omega
      have hx8 : x < 256 := by rw [← HX.out]; exact UInt8.toNat_lt _
      have HE := Lib.hid (show bits BinOp.or IntKind.u32 ((m : Int) * 256) (x : Int) = ((nb (bs.take (k + 1)) : Nat) : Int) by rw [num_step m x hm4 hx8, nb_step bs k (by rw [HN.out]; exact hlt), HM.out, HX.out])
      go_wp2
      go_round
      case rel => exact ⟨k + 1, by omega, by go_num, by rw [HE.out]⟩
      case measure => simp [intOf]; omega
    · have hkn : k = n := by omega
      have HK := Lib.hid (show bs.take k = bs by rw [hkn, ← HN.out, List.take_length])
      have hd : decide (k < n) = false := by simpa using hlt
      clear hkn
      rw [HK.out]
      go_wp2
      go_ret
      exact ⟨rfl, rfl⟩
theorem isRecord_any (w : World) (a : Option Addr) (n c : Nat) :
    Calls Tryz.prog 140 #[.slice a n c] w fun e w' => e = .returned (.bool (decide (1 ≤ n ∧ n ≤ 300))) ∧ w = w' := by
  by_cases h1 : 1 ≤ n
  · by_cases h2 : n ≤ 300
    · rw [decide_eq_true (show 1 ≤ n ∧ n ≤ 300 from ⟨h1, h2⟩)]
      have e1 : decide ((1 : Int) ≤ (n : Int)) = true := by simp; omega
      have e2 : decide ((n : Int) ≤ 300) = true := by simp; omega
      go_enter Tryz.func140, Tryz.ntmps140
      go_wp2
      go_ret
      exact ⟨rfl, rfl⟩
    · rw [decide_eq_false (show ¬ (1 ≤ n ∧ n ≤ 300) from fun h => h2 h.2)]
      have e1 : decide ((1 : Int) ≤ (n : Int)) = true := by simp; omega
      have e2 : decide ((n : Int) ≤ 300) = false := by simp; omega
      go_enter Tryz.func140, Tryz.ntmps140
      go_wp2
      go_ret
      exact ⟨rfl, rfl⟩
  · rw [decide_eq_false (show ¬ (1 ≤ n ∧ n ≤ 300) from fun h => h1 h.1)]
    have e1 : decide ((1 : Int) ≤ (n : Int)) = false := by simp; omega
    go_enter Tryz.func140, Tryz.ntmps140
    go_wp2
    go_ret
    exact ⟨rfl, rfl⟩
theorem frameSize_any (w : World) (a : Option Addr) (n c : Nat) (hn : n ≤ 140737488355328) :
    Calls Tryz.prog 143 #[.slice a n c] w fun e w' => e = .returned (.int .i64 ((2 + n : Nat) : Int)) ∧ w = w' := by
  go_enter Tryz.func143, Tryz.ntmps143
  go_wp2
  go_ret
  exact ⟨ret_int (by omega), rfl⟩
abbrev cv (h : Nat) (vF vE : Value) : Value := .agg #[.int .i64 (h : Int), vF, vE]
theorem records_any (w : World) (h : Nat) (vF : Value) (a : Option Addr) (n c : Nat) :
    Calls Tryz.prog 122 #[cv h vF (.slice a n c)] w fun e w' => e = .returned (.int .i64 (n : Int)) ∧ Chg [] w w' := by
  go_enter Tryz.func122, Tryz.ntmps122
  go_wp2
  go_ret
  exact ⟨rfl, (Chg.refl [] w).alloc _⟩
end Go.Proofs.YtcadnlilijkneaaGreat
