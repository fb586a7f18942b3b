/-
  Plain mathematics of records, frames and superblocks: no Go in it. Lemmas only, no claim of their own.
-/
import Derived.Test.YtdiemejdbakffaaGreatDkB
namespace Go.Proofs.YtdiemejdbakffaaGreat
open Go.RowKit
set_option linter.unusedVariables false
set_option linter.unusedSimpArgs false

abbrev Rec := List UInt8
/-- n in k bytes, the highest one first -/
def be (k n : Nat) : List UInt8 := (List.range k).map fun j => UInt8.ofNat (n / 256 ^ (k - 1 - j))
/-- the number that bytes make -/
def nb (bs : List UInt8) : Nat := bs.foldl (fun a x => a * 256 + x.toNat) 0
@[simp] theorem be_len (k n : Nat) : (be k n).length = k := by simp [be]
theorem be_succ (k n : Nat) : be (k + 1) n = be k (n / 256) ++ [UInt8.ofNat n] := by
  unfold be
  rw [List.range_succ, List.map_append]
  congr 1
  · refine List.map_congr_left fun j hj => ?_
    have hj := List.mem_range.1 hj
    rw [Nat.div_div_eq_div_mul, show k + 1 - 1 - j = (k - 1 - j) + 1 from by omega, Nat.pow_succ, Nat.mul_comm]
  · simp
theorem be_zero (n : Nat) : be 0 n = [] := rfl
theorem nb_nil : nb [] = 0 := rfl
theorem nb_snoc (bs : List UInt8) (x : UInt8) : nb (bs ++ [x]) = nb bs * 256 + x.toNat := by simp [nb]
theorem nb_be : ∀ (k n : Nat), n < 256 ^ k → nb (be k n) = n
  | 0, n, h => by simp at h; subst h; rfl
  | k + 1, n, h => by
    rw [be_succ, nb_snoc, nb_be k (n / 256) (by rw [Nat.pow_succ] at h; omega)]
    have : (UInt8.ofNat n).toNat = n % 256 := by simp
    omega
theorem list_snoc {α : Type} {l : List α} (h : l ≠ []) : ∃ a x, l = a ++ [x] := ⟨l.dropLast, l.getLast h, (List.dropLast_concat_getLast h).symm⟩
theorem be_nb : ∀ (k : Nat) (bs : List UInt8), bs.length = k → be k (nb bs) = bs
  | 0, bs, h => by rw [List.eq_nil_of_length_eq_zero h]; rfl
  | k + 1, bs, h => by
    obtain ⟨a, x, rfl⟩ := list_snoc (l := bs) (by rintro rfl; simp at h)
    have hx : x.toNat < 256 := x.toNat_lt
    rw [be_succ, nb_snoc, show (nb a * 256 + x.toNat) / 256 = nb a from by omega, be_nb k a (by simpa using h)]
    congr 2
    apply UInt8.toNat_inj.1
    simp
theorem nb_lt : ∀ (k : Nat) (bs : List UInt8), bs.length = k → nb bs < 256 ^ k
  | 0, bs, h => by rw [List.eq_nil_of_length_eq_zero h]; simp [nb]
  | k + 1, bs, h => by
    obtain ⟨a, x, rfl⟩ := list_snoc (l := bs) (by rintro rfl; simp at h)
    have hx : x.toNat < 256 := x.toNat_lt
    have := nb_lt k a (by simpa using h)
    rw [nb_snoc, Nat.pow_succ]
    omega
theorem be_inj {k a b : Nat} (ha : a < 256 ^ k) (hb : b < 256 ^ k) (h : be k a = be k b) : a = b := by rw [← nb_be k a ha, h, nb_be k b hb]
theorem nb_take_lt (bs : List UInt8) (i : Nat) (hi : i ≤ 4) (hl : i ≤ bs.length) : nb (bs.take i) < 4294967296 := by
  have := nb_lt i (bs.take i) (by rw [List.length_take]; omega)
  have h2 : (256 : Nat) ^ i ≤ 256 ^ 4 := Nat.pow_le_pow_right (by omega) hi
  have h3 : (256 : Nat) ^ 4 = 4294967296 := by decide
  omega

/-- a record's frame -/
def frame (r : Rec) : List UInt8 := be 2 r.length ++ r
/-- frames, one behind the other -/
def frs : List Rec → List UInt8
  | [] => []
  | r :: L => frame r ++ frs L
@[simp] theorem frame_len (r : Rec) : (frame r).length = 2 + r.length := by simp [frame]
theorem frs_append : ∀ A B, frs (A ++ B) = frs A ++ frs B
  | [], B => rfl
  | r :: A, B => by rw [List.cons_append, frs, frs_append A B, frs, List.append_assoc]
theorem frs_one (r : Rec) : frs [r] = frame r := by simp [frs]
theorem frs_snoc (L : List Rec) (r : Rec) : frs (L ++ [r]) = frs L ++ frame r := by rw [frs_append, frs_one]
theorem frs_snoc_len (L : List Rec) (r : Rec) : (frs (L ++ [r])).length = (frs L).length + 2 + r.length := by rw [frs_snoc, List.length_append, frame_len]; omega
def okR (r : Rec) : Prop := 1 ≤ r.length ∧ r.length ≤ 300
instance (r : Rec) : Decidable (okR r) := by unfold okR; infer_instance
def okL (L : List Rec) : Prop := ∀ r ∈ L, okR r
theorem okL_nil : okL [] := by intro r h; cases h
theorem okL.append {A B : List Rec} (ha : okL A) (hb : okL B) : okL (A ++ B) := fun r h => by
  rcases List.mem_append.1 h with h | h
  · exact ha r h
  · exact hb r h
theorem okL.snoc {A : List Rec} {r : Rec} (ha : okL A) (hr : okR r) : okL (A ++ [r]) := ha.append (by intro x h; simp at h; subst h; exact hr)
theorem frs_ge {L : List Rec} (h : okL L) : 3 * L.length ≤ (frs L).length := by
  induction L with
  | nil => simp [frs]
  | cons r L ih =>
    have h1 := h r (by simp)
    have h2 := ih (fun x hx => h x (by simp [hx]))
    unfold okR at h1
    simp only [frs, List.length_append, frame_len, List.length_cons]
    omega
theorem frame_inj {r s : Rec} {X Y : List UInt8} (hr : okR r) (hs : okR s) (h : frame r ++ X = frame s ++ Y) : r = s ∧ X = Y := by
  unfold frame at h
  unfold okR at hr hs
  rw [List.append_assoc, List.append_assoc] at h
  obtain ⟨h1, h2⟩ := List.append_inj h (by simp)
  have h3 : r.length = s.length := be_inj (k := 2) (by omega) (by omega) h1
  obtain ⟨h4, h5⟩ := List.append_inj h2 h3
  exact ⟨h4, h5⟩
theorem frame_ne (r : Rec) (X : List UInt8) : frame r ++ X ≠ [] := by
  intro h
  have := congrArg List.length h
  simp at this
/-- frames that begin alike -/
theorem frs_pre : ∀ {A L : List Rec} {X : List UInt8}, okL A → okL L → frs A ++ X = frs L → ∃ M, L = A ++ M ∧ X = frs M
  | [], L, X, _, _, h => ⟨L, rfl, by simpa [frs] using h⟩
  | r :: A, [], X, _, _, h => by
    simp only [frs, List.append_assoc] at h
    exact absurd h (frame_ne r _)
  | r :: A, s :: L, X, ha, hl, h => by
    simp only [frs, List.append_assoc] at h
    obtain ⟨rfl, h2⟩ := frame_inj (ha r (by simp)) (hl s (by simp)) h
    obtain ⟨M, rfl, hM⟩ := frs_pre (fun x hx => ha x (by simp [hx])) (fun x hx => hl x (by simp [hx])) h2
    exact ⟨M, rfl, hM⟩
theorem frs_inj {A L : List Rec} (ha : okL A) (hl : okL L) (h : frs A = frs L) : A = L := by
  obtain ⟨M, rfl, hM⟩ := frs_pre (X := []) ha hl (by simpa using h)
  cases M with
  | nil => simp
  | cons r M => simp only [frs] at hM; exact absurd hM.symm (frame_ne r _)
/-- bytes begin with a frame -/
def begs (bs : List UInt8) : Prop := ∃ r X, okR r ∧ bs = frame r ++ X
theorem frs_begs {A L : List Rec} {X : List UInt8} (ha : okL A) (hl : okL L) (h : frs A ++ X = frs L) (hX : X ≠ []) : begs X := by
  obtain ⟨M, rfl, hM⟩ := frs_pre ha hl h
  cases M with
  | nil => exact absurd (by simpa [frs] using hM) hX
  | cons r M => exact ⟨r, frs M, hl r (by simp), hM⟩
theorem begs_iff (bs : List UInt8) : begs bs ↔ 2 ≤ bs.length ∧ nb (bs.take 2) ≤ bs.length - 2 ∧ 1 ≤ nb (bs.take 2) ∧ nb (bs.take 2) ≤ 300 := by
  constructor
  · rintro ⟨r, X, hr, rfl⟩
    unfold okR at hr
    have e : (frame r ++ X).take 2 = be 2 r.length := by unfold frame; rw [List.append_assoc, List.take_append_of_le_length (by simp), List.take_of_length_le (by simp)]
    rw [e, nb_be 2 _ (by omega)]
    simp only [List.length_append, frame_len]
    omega
  · rintro ⟨h1, h2, h3, h4⟩
    have hl : ((bs.drop 2).take (nb (bs.take 2))).length = nb (bs.take 2) := by rw [List.length_take, List.length_drop]; omega
    refine ⟨(bs.drop 2).take (nb (bs.take 2)), (bs.drop 2).drop (nb (bs.take 2)), ?_, ?_⟩
    · unfold okR; rw [hl]; omega
    · unfold frame
      rw [hl, be_nb 2 _ (by rw [List.length_take]; omega), List.append_assoc, List.take_append_drop, List.take_append_drop]
theorem begs_len {bs : List UInt8} {r : Rec} {X : List UInt8} (hr : okR r) (h : bs = frame r ++ X) : nb (bs.take 2) = r.length := by
  subst h
  unfold okR at hr
  have e : (frame r ++ X).take 2 = be 2 r.length := by unfold frame; rw [List.append_assoc, List.take_append_of_le_length (by simp), List.take_of_length_le (by simp)]
  rw [e, nb_be 2 _ (by omega)]

/-- where each record ends -/
def ens (L : List Rec) : List Int := (List.range L.length).map fun i => (((frs (L.take (i + 1))).length : Nat) : Int)
@[simp] theorem ens_len (L : List Rec) : (ens L).length = L.length := by simp [ens]
theorem ens_snoc (L : List Rec) (r : Rec) : ens (L ++ [r]) = ens L ++ [(((frs (L ++ [r])).length : Nat) : Int)] := by
  unfold ens
  rw [List.length_append, List.length_singleton, List.range_succ, List.map_append]
  congr 1
  · refine List.map_congr_left fun i hi => ?_
    have hi := List.mem_range.1 hi
    rw [List.take_append_of_le_length (by omega)]
  · simp [List.take_of_length_le]
theorem ens_get (L : List Rec) (i : Nat) (hi : i < L.length) : (ens L).getD i 0 = (((frs (L.take (i + 1))).length : Nat) : Int) := by
  simp [ens, List.getD, hi]
theorem frs_take_le (L : List Rec) (i : Nat) : (frs (L.take i)).length ≤ (frs L).length := by
  have h := frs_append (L.take i) (L.drop i)
  rw [List.take_append_drop] at h
  rw [h, List.length_append]; omega
theorem take_snoc {α : Type} (L : List α) (i : Nat) (hi : i < L.length) : L.take (i + 1) = L.take i ++ [L[i]] := by rw [List.take_succ_eq_append_getElem hi]
/-- the record i in the frames -/
theorem frs_rec (L : List Rec) (i : Nat) (hi : i < L.length) : ((frs L).drop ((frs (L.take i)).length + 2)).take (L[i]).length = L[i] ∧ (frs (L.take (i + 1))).length = (frs (L.take i)).length + 2 + (L[i]).length := by
  have e : L = L.take i ++ [L[i]] ++ L.drop (i + 1) := by rw [← take_snoc L i hi, List.take_append_drop]
  constructor
  · have h : frs L = (frs (L.take i) ++ be 2 (L[i]).length) ++ (L[i] ++ frs (L.drop (i + 1))) := by
      conv => lhs; rw [e]
      rw [frs_append, frs_snoc]
      simp [frame, List.append_assoc]
    rw [h, List.drop_append_of_le_length (by simp), List.drop_of_length_le (by simp), List.nil_append, List.take_append_of_le_length (Nat.le_refl _), List.take_length]
  · rw [take_snoc L i hi, frs_snoc_len]

/-- a superblock -/
def supS (h r b : Nat) : Sec := fillS (UInt8.ofNat h :: (be 4 r ++ be 4 b))
theorem supS_len (h r b : Nat) : (supS h r b).length = 64 := fillS_len _
theorem fillS_take (bs : List UInt8) (k : Nat) (hk : k ≤ bs.length) (h64 : k ≤ 64) : (fillS bs).take k = bs.take k := by
  refine List.ext_getElem? fun i => ?_
  rw [List.getElem?_take, List.getElem?_take]
  by_cases hi : i < k
  · rw [if_pos hi, if_pos hi, fillS_get bs i (by omega)]
    simp [List.getD, show i < bs.length by omega]
  · rw [if_neg hi, if_neg hi]
theorem supS_parts {h r b : Nat} : (supS h r b).getD 0 0 = UInt8.ofNat h ∧ ((supS h r b).drop 1).take 4 = be 4 r ∧ ((supS h r b).drop 5).take 4 = be 4 b := by
  have hl : (UInt8.ofNat h :: (be 4 r ++ be 4 b)).length = 9 := by simp
  have ht : (supS h r b).take 9 = UInt8.ofNat h :: (be 4 r ++ be 4 b) := by
    unfold supS
    rw [fillS_take _ 9 (by omega) (by omega), List.take_of_length_le (by omega)]
  refine ⟨?_, ?_, ?_⟩
  · have h0 : (supS h r b)[0]? = some (UInt8.ofNat h) := by
      have := congrArg (fun l : List UInt8 => l[0]?) ht
      simpa [List.getElem?_take] using this
    simp [List.getD, h0]
  · have h1 : ((supS h r b).drop 1).take 4 = (((supS h r b).take 9).drop 1).take 4 := by rw [List.drop_take, List.take_take]; rfl
    rw [h1, ht, List.drop_succ_cons, List.drop_zero, List.take_append_of_le_length (by simp), List.take_of_length_le (by simp)]
  · have h1 : ((supS h r b).drop 5).take 4 = (((supS h r b).take 9).drop 5).take 4 := by rw [List.drop_take, List.take_take]; rfl
    rw [h1, ht, List.drop_succ_cons, List.drop_append_of_le_length (by simp), List.drop_of_length_le (by simp), List.nil_append, List.take_of_length_le (by simp)]
theorem supS_inj {h r b h2 r2 b2 : Nat} (e : supS h r b = supS h2 r2 b2) (hh : h < 256) (hh2 : h2 < 256) (hr : r < 4294967296) (hr2 : r2 < 4294967296) (hb : b < 4294967296) (hb2 : b2 < 4294967296) : h = h2 ∧ r = r2 ∧ b = b2 := by
  obtain ⟨a1, a2, a3⟩ := supS_parts (h := h) (r := r) (b := b)
  obtain ⟨c1, c2, c3⟩ := supS_parts (h := h2) (r := r2) (b := b2)
  rw [e, c1] at a1
  rw [e, c2] at a2
  rw [e, c3] at a3
  have h3 : (256 : Nat) ^ 4 = 4294967296 := by decide
  refine ⟨?_, (be_inj (by omega) (by omega) a2).symm, (be_inj (by omega) (by omega) a3).symm⟩
  have := congrArg UInt8.toNat a1
  simp at this
  omega

/-- sectors from one on, as bytes -/
def cat (R : Nat → Sec) (f : Nat) : Nat → List UInt8
  | 0 => []
  | n + 1 => cat R f n ++ R (f + n)
theorem cat_len {R : Nat → Sec} (hR : ∀ i, (R i).length = 64) (f : Nat) : ∀ n, (cat R f n).length = n * 64
  | 0 => rfl
  | n + 1 => by rw [cat, List.length_append, cat_len hR f n, hR]; omega
theorem cat_take {R : Nat → Sec} (hR : ∀ i, (R i).length = 64) (f : Nat) : ∀ n k, k ≤ n → (cat R f n).take (k * 64) = cat R f k
  | 0, k, h => by obtain rfl : k = 0 := by omega
                  rfl
  | n + 1, k, h => by
    by_cases hk : k ≤ n
    · rw [cat, List.take_append_of_le_length (by rw [cat_len hR]; omega), cat_take hR f n k hk]
    · obtain rfl : k = n + 1 := by omega
      rw [List.take_of_length_le (by rw [cat_len hR]; omega)]
theorem cat_take_any {R : Nat → Sec} (hR : ∀ i, (R i).length = 64) (f n m k : Nat) (h1 : k ≤ n * 64) (h2 : k ≤ m * 64) : (cat R f n).take k = (cat R f m).take k := by
  rcases Nat.le_total n m with h | h
  · rw [← cat_take hR f m n h, List.take_take, Nat.min_eq_left h1]
  · rw [← cat_take hR f n m h, List.take_take, Nat.min_eq_left h2]
theorem cat_congr {R S : Nat → Sec} (f : Nat) : ∀ n, (∀ i, i < n → R (f + i) = S (f + i)) → cat R f n = cat S f n
  | 0, _ => rfl
  | n + 1, h => by rw [cat, cat, cat_congr f n (fun i hi => h i (by omega)), h n (by omega)]
/-- the sectors that hold bytes hold them -/
theorem cat_fill {R : Nat → Sec} (f : Nat) (B : List UInt8) : ∀ n, (∀ i, i < n → R (f + i) = fillS (B.drop (i * 64))) → (∀ i, (R i).length = 64) → (cat R f n).take B.length = B.take (n * 64)
  | 0, _, _ => by simp [cat]
  | n + 1, h, hR => by
    have ih := cat_fill f B n (fun i hi => h i (by omega)) hR
    have hl := cat_len hR f n
    rw [cat, List.take_append, ih, hl, h n (by omega), show (n + 1) * 64 = n * 64 + 64 from by omega, List.take_add]
    congr 1
    rcases Nat.lt_or_ge (B.length) (n * 64) with hb | hb
    · rw [show B.length - n * 64 = 0 from by omega, List.take_zero, List.drop_of_length_le (by omega), List.take_nil]
    · refine List.ext_getElem? fun i => ?_
      rw [List.getElem?_take, List.getElem?_take]
      by_cases hi : i < B.length - n * 64
      · rw [if_pos hi]
        by_cases h6 : i < 64
        · rw [if_pos h6, fillS_get _ i h6]
          simp [List.getD, show n * 64 + i < B.length by omega]
        · rw [if_neg h6, List.getElem?_eq_none (by rw [fillS_len]; omega)]
      · rw [if_neg hi]
        by_cases h6 : i < 64
        · rw [if_pos h6, List.getElem?_eq_none (by rw [List.length_drop]; omega)]
        · rw [if_neg h6]

/-- how many sectors a half has -/
def hsec (n : Nat) : Nat := (n - 1) / 2
/-- what a half has, as bytes -/
def halfB (n : Nat) (R : Nat → Sec) (h : Nat) : List UInt8 := cat R (1 + h * hsec n) (hsec n)
/-- a tape's records on a disk -/
structure Opens (n : Nat) (R : Nat → Sec) (h : Nat) (L : List Rec) : Prop where
  half : h ≤ 1
  ok : okL L
  room : (frs L).length ≤ hsec n * 64
  sup : R 0 = supS h L.length (frs L).length
  bytes : (halfB n R h).take (frs L).length = frs L
theorem Opens.uniq {n : Nat} {R : Nat → Sec} {h h2 : Nat} {L L2 : List Rec} (hn : n ≤ 1024) (a : Opens n R h L) (b : Opens n R h2 L2) : h = h2 ∧ L = L2 := by
  have h1 := a.half
  have h2 := b.half
  have h3 := frs_ge a.ok
  have h4 := frs_ge b.ok
  have h5 := a.room
  have h6 := b.room
  unfold hsec at h5 h6
  obtain ⟨e1, e2, e3⟩ := supS_inj (a.sup.symm.trans b.sup) (by omega) (by omega) (by omega) (by omega) (by omega) (by omega)
  subst e1
  refine ⟨rfl, frs_inj a.ok b.ok ?_⟩
  rw [← a.bytes, ← b.bytes, e3]
/-- what is written -/
def wrM (m : Nat → Option Sec) (f : Nat) (B : List UInt8) (i j : Nat) : Nat → Option Sec := fun x => if f + i ≤ x ∧ x < f + j then some (fillS (B.drop ((x - f) * 64))) else m x
theorem wrM_none (m : Nat → Option Sec) (f : Nat) (B : List UInt8) (i : Nat) : wrM m f B i i = m := by
  funext x
  unfold wrM
  rw [if_neg (by omega)]
theorem wrM_succ (m : Nat → Option Sec) (f : Nat) (B : List UInt8) (i j : Nat) (h : i ≤ j) : upd (wrM m f B i j) (f + j) (fillS (B.drop (j * 64))) = wrM m f B i (j + 1) := by
  funext x
  unfold upd wrM
  by_cases e : x = f + j
  · subst e
    rw [if_pos rfl, if_pos (by omega), Nat.add_sub_cancel_left]
  · rw [if_neg e]
    by_cases h2 : f + i ≤ x ∧ x < f + j
    · rw [if_pos h2, if_pos (by omega)]
    · rw [if_neg h2, if_neg (by omega)]
end Go.Proofs.YtdiemejdbakffaaGreat
