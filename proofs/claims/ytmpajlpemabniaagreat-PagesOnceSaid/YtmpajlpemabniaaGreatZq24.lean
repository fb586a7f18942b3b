/-
  Pages as plain mathematics: records and their bytes, the state that records describe, the fewest records of a state, a change of a tape with its state. No claim of its own.
-/
import Derived.Test.YtmpajlpemabniaaGreatZq9
import Derived.Test.YtmpajlpemabniaaGreatZq14
import Derived.Test.YtmpajlpemabniaaGreatZq23
import Derived.Maps.RangeWalk
import Derived.Maps.OwnIn
import Derived.Maps.OwnSet
import Derived.Maps.Ext
import Derived.Lib.SlKeysI
import Derived.Test.YtmpajlpemabniaaGreatZq1
import Derived.Test.YtmpajlpemabniaaGreatZq3
import Derived.Sort.AssemblyPlain
import Derived.Sort.WalkC4
import Derived.Sort.WalkA6
import Derived.Sort.WalkB3
import Derived.Sort.WalkD1
import Derived.Sort.Walk7
import Derived.Sort.Walk13
import Derived.BigGuard
import Derived.BigCall
namespace Go.Proofs.YtmpajlpemabniaaGreat
open Go.RowKit
set_option linter.unusedVariables false
set_option linter.unusedSimpArgs false
def packL (l : List Int) (vs : List Nat) : List UInt8 := (List.range (((nat l).sum + 7) / 8)).map fun i => UInt8.ofNat (nm (fun j => (packB (nat l) vs).getD (8 * i + j) false) 8)
theorem packL_to (l : List Bool) (i : Nat) : IsBytesTo l ((List.range i).map fun i => UInt8.ofNat (nm (fun j => l.getD (8 * i + j) false) 8)) i := by
  induction i with
  | zero => exact IsBytesTo.start l
  | succ i ih =>
    rw [List.range_succ, List.map_append]
    exact ih.step
theorem packL_is {l : List Int} {vs : List Nat} (h : l.length = vs.length) : IsPack l vs (packL l vs) := by
  refine isPack_of_bytes h ((packL_to _ _).stop ?_)
  rw [packB_length _ _ (by simpa using h)]
@[simp] theorem packL_len (l : List Int) (vs : List Nat) : (packL l vs).length = ((nat l).sum + 7) / 8 := by simp [packL]
def encC (c : Ce) : List UInt8 := if c.k = 2 then [2] else packL (wid c.b.length) (vals c) ++ c.d
theorem encC_is {c : Ce} (h : right c = true) : IsEnc c (encC c) := by
  unfold encC
  rcases right_kind h with k | k
  · rw [if_neg (by omega)]
    exact .inr ⟨k, _, packL_is (packOk_vals h k).2.1, rfl⟩
  · rw [if_pos k]
    exact .inl ⟨k, rfl⟩
theorem right_fit {c : Ce} (h : right c = true) : ∀ b ∈ c.b, FitB b := by
  intro b hb
  rcases right_kind h with k | k
  · obtain ⟨_, _, hx⟩ := right_data h k
    obtain ⟨i, hi, rfl⟩ := List.getElem_of_mem hb
    have h1 := backsOk_at hx i hi
    have e : bk c.b i = c.b[i] := by simp [bk, List.getD, hi]
    rw [e] at h1
    obtain ⟨h2, h3⟩ := lastOk_iff.1 h1.2.2.2
    refine ⟨by omega, by omega, by omega, by omega⟩
  · rw [right_junk h k] at hb
    cases hb
structure Rc where
  k : Nat
  n : Nat
  t : Nat
  c : Ce
def zCe : Ce := ⟨0, [], []⟩
def wid3 (k : Nat) : List Int := if k = 2 then [3, 20, 0] else if k = 4 then [3, 21, 21] else [3, 21, 0]
structure okN (r : Rc) : Prop where
  k1 : 1 ≤ r.k
  k5 : r.k ≤ 5
  n : r.n < if r.k = 2 then 1048576 else 2097152
  t4 : r.k = 4 → r.t < 2097152
  t0 : r.k ≠ 4 → r.t = 0
  c2 : r.k = 2 → right r.c = true
  c0 : r.k ≠ 2 → r.c = zCe
def encR (r : Rc) : List UInt8 := packL (wid3 r.k) [r.k, r.n, r.t] ++ if r.k = 2 then encC r.c else []
theorem wid3_len (k : Nat) : (wid3 k).length = 3 := by unfold wid3; by_cases h2 : k = 2 <;> by_cases h4 : k = 4 <;> simp [h2, h4, nat]
theorem wid3_sum (k : Nat) : (nat (wid3 k)).sum = if k = 2 then 23 else if k = 4 then 45 else 24 := by unfold wid3; by_cases h2 : k = 2 <;> by_cases h4 : k = 4 <;> simp [h2, h4, nat]
theorem wid3_bytes (k : Nat) : ((nat (wid3 k)).sum + 7) / 8 = if k = 4 then 6 else 3 := by
  rw [wid3_sum]
  by_cases h2 : k = 2
  · subst h2; rfl
  · rw [if_neg h2]
    split <;> rfl
theorem wid3_span (k : Nat) : (spanOf (wid3 k)).isSome := by unfold wid3; by_cases h2 : k = 2 <;> by_cases h4 : k = 4 <;> simp [h2, h4, spanOf]
theorem okN.pack {r : Rc} (h : okN r) : PackOk (wid3 r.k) [r.k, r.n, r.t] := by
  refine ⟨wid3_span _, by rw [wid3_len]; rfl, fun i hi => ?_⟩
  rw [wid3_len] at hi
  have hk1 := h.k1
  have hk5 := h.k5
  have hn := h.n
  have ht := h.t4
  have h0 := h.t0
  have hi' : i = 0 ∨ i = 1 ∨ i = 2 := by omega
  unfold wid3
  by_cases k2 : r.k = 2
  · rw [if_pos k2] at hn ⊢
    rcases hi' with rfl | rfl | rfl
    · show r.k < 2 ^ 3; omega
    · show r.n < 2 ^ 20; omega
    · show r.t < 2 ^ 0; rw [h0 (by omega)]; decide
  · rw [if_neg k2] at hn ⊢
    by_cases k4 : r.k = 4
    · rw [if_pos k4]
      rcases hi' with rfl | rfl | rfl
      · show r.k < 2 ^ 3; omega
      · show r.n < 2 ^ 21; omega
      · show r.t < 2 ^ 21; have := ht k4; omega
    · rw [if_neg k4]
      rcases hi' with rfl | rfl | rfl
      · show r.k < 2 ^ 3; omega
      · show r.n < 2 ^ 21; omega
      · show r.t < 2 ^ 0; rw [h0 k4]; decide
theorem encC_len {c : Ce} (h : right c = true) : 1 ≤ (encC c).length ∧ (encC c).length ≤ 130 := by
  rcases enc_length (encC_is h) h with ⟨_, h1⟩ | ⟨h0, h1, _⟩
  · omega
  · obtain ⟨h2, h3, _⟩ := right_data h h0
    omega
theorem encR_len {r : Rc} : (encR r).length = (if r.k = 4 then 6 else 3) + if r.k = 2 then (encC r.c).length else 0 := by
  unfold encR
  rw [List.length_append, packL_len, wid3_bytes]
  by_cases h2 : r.k = 2 <;> simp [h2]
theorem encR_ok {r : Rc} (h : okN r) : okR (encR r) := by
  unfold okR
  rw [encR_len]
  by_cases k2 : r.k = 2
  · have := encC_len (h.c2 k2)
    rw [if_pos k2]
    split <;> omega
  · rw [if_neg k2]
    split <;> omega
structure PS where
  ep : Nat
  op : Nat
  mr : Nat
  T : List Rn
  m : Nat → Option Ce
theorem PS.ext' {S U : PS} (h1 : S.ep = U.ep) (h2 : S.op = U.op) (h3 : S.mr = U.mr) (h4 : S.T = U.T) (h5 : S.m = U.m) : S = U := by cases S; cases U; simp_all
def PS.zero : PS := ⟨0, 0, 0, [], fun _ => none⟩
def PS.tr (S : PS) (a : Nat) : Bool := decide (a < S.mr) || mem S.T a
def updC (m : Nat → Option Ce) (a : Nat) (c : Ce) : Nat → Option Ce := fun x => if x = a then some c else m x
def rmC (m : Nat → Option Ce) (f t : Nat) : Nat → Option Ce := fun x => if f ≤ x ∧ x < t then none else m x
def exec (S : PS) (r : Rc) : PS :=
  if r.k = 1 then { S with ep := r.n } else
  if r.k = 2 then { S with m := updC S.m r.n r.c } else
  if r.k = 3 then { S with mr := r.n, T := cutL S.T (0, r.n), m := rmC S.m 0 r.n } else
  if r.k = 4 then { S with T := putL S.T (max r.n S.mr, r.t), m := rmC S.m r.n r.t } else
  if r.k = 5 then { S with op := r.n } else S
def allow (S : PS) (r : Rc) : Bool :=
  if r.k = 1 then decide (S.ep ≤ r.n ∧ r.n ≤ 1048576) else
  if r.k = 2 then !S.tr r.n && (S.m r.n).isNone else
  if r.k = 3 then decide (S.mr ≤ r.n ∧ r.n ≤ 1048576) else
  if r.k = 4 then decide (r.n < r.t ∧ r.t ≤ 1048576) else
  if r.k = 5 then decide (S.op ≤ r.n ∧ r.n ≤ 1048576) else false
structure Gd (S : PS) : Prop where
  nf : NF S.T
  lo : ∀ r ∈ S.T, S.mr ≤ r.1
  hi : ∀ r ∈ S.T, r.2 ≤ 1048576
  ep : S.ep ≤ 1048576
  op : S.op ≤ 1048576
  mr : S.mr ≤ 1048576
  cell : ∀ a c, S.m a = some c → a < 1048576 ∧ right c = true ∧ S.tr a = false
theorem Gd.zero : Gd PS.zero := ⟨trivial, (fun r h => by cases h), (fun r h => by cases h), Nat.zero_le _, Nat.zero_le _, Nat.zero_le _, (fun a c h => by cases h)⟩
theorem tr_false {S : PS} {a : Nat} : S.tr a = false ↔ S.mr ≤ a ∧ mem S.T a = false := by
  unfold PS.tr
  rw [Bool.or_eq_false_iff, decide_eq_false_iff_not, Nat.not_lt]
theorem tr_true {S : PS} {a : Nat} : S.tr a = true ↔ a < S.mr ∨ mem S.T a = true := by
  unfold PS.tr
  rw [Bool.or_eq_true, decide_eq_true_eq]
theorem rmC_some {m : Nat → Option Ce} {f t a : Nat} {c : Ce} (h : rmC m f t a = some c) : m a = some c ∧ ¬ (f ≤ a ∧ a < t) := by
  unfold rmC at h
  split at h
  · cases h
  · rename_i hn; exact ⟨h, hn⟩
theorem cutL_lo {L : List Rn} (h : NF L) (n : Nat) : ∀ r ∈ cutL L (0, n), n ≤ r.1 := by
  intro r hr
  obtain ⟨h1, h2⟩ := cutL_ok h (0, n)
  have hne := h1.nonempty r hr
  have h3 := h2 r.1
  rw [mem_iff.2 ⟨r, hr, Nat.le_refl _, hne⟩] at h3
  have h4 : inR (0, n) r.1 = false := by
    cases hx : inR (0, n) r.1 with
    | false => rfl
    | true => rw [hx] at h3; simp at h3
  have := inR_false.1 h4
  simp only at this
  omega
theorem cutL_hi {L : List Rn} (h : NF L) (r : Rn) {E : Nat} (hL : ∀ x ∈ L, x.2 ≤ E) : ∀ x ∈ cutL L r, x.2 ≤ E :=
  bound_of_mem (cutL_ok h r).1 (fun n hn => by rw [(cutL_ok h r).2, Bool.and_eq_true] at hn; exact hn.1) hL
theorem putL_hi {L : List Rn} (h : NF L) (r : Rn) {E : Nat} (hL : ∀ x ∈ L, x.2 ≤ E) (hE : r.2 ≤ E) : ∀ x ∈ putL L r, x.2 ≤ E := by
  unfold putL
  by_cases hr : r.1 < r.2
  · rw [if_pos hr]; exact addL_bound h hr hL hE
  · rw [if_neg hr]; exact hL
theorem putL_lo {L : List Rn} (h : NF L) (r : Rn) {E : Nat} (hL : ∀ x ∈ L, E ≤ x.1) (hE : E ≤ r.1) : ∀ x ∈ putL L r, E ≤ x.1 := by
  intro x hx
  obtain ⟨h1, h2⟩ := putL_ok h r
  have hne := h1.nonempty x hx
  have h3 := h2 x.1
  rw [mem_iff.2 ⟨x, hx, Nat.le_refl _, hne⟩] at h3
  have h3' := h3.symm
  rw [Bool.or_eq_true] at h3'
  rcases h3' with h4 | h4
  · obtain ⟨y, hy, h5, _⟩ := mem_iff.1 h4
    have := hL y hy
    omega
  · have := (inR_iff.1 h4).1
    omega
theorem Gd.exec {S : PS} {r : Rc} (g : Gd S) (h : okN r) (ha : allow S r = true) : Gd (exec S r) := by
  have hk1 := h.k1
  have hk5 := h.k5
  unfold allow at ha
  unfold Proofs.YtmpajlpemabniaaGreat.exec
  by_cases k1 : r.k = 1
  · rw [if_pos k1] at ha ⊢
    have := of_decide_eq_true ha
    exact ⟨g.nf, g.lo, g.hi, this.2, g.op, g.mr, g.cell⟩
  · rw [if_neg k1] at ha ⊢
    by_cases k2 : r.k = 2
    · rw [if_pos k2] at ha ⊢
      rw [Bool.and_eq_true, Bool.not_eq_true'] at ha
      have hn := h.n
      rw [if_pos k2] at hn
      refine ⟨g.nf, g.lo, g.hi, g.ep, g.op, g.mr, fun a c hc => ?_⟩
      unfold updC at hc
      simp only at hc
      split at hc
      · rename_i e
        subst e
        cases hc
        exact ⟨hn, h.c2 k2, ha.1⟩
      · exact g.cell a c hc
    · rw [if_neg k2] at ha ⊢
      by_cases k3 : r.k = 3
      · rw [if_pos k3] at ha ⊢
        have hd := of_decide_eq_true ha
        refine ⟨(cutL_ok g.nf _).1, cutL_lo g.nf _, cutL_hi g.nf _ g.hi, g.ep, g.op, hd.2, fun a c hc => ?_⟩
        obtain ⟨h1, h2⟩ := rmC_some hc
        obtain ⟨h3, h4, h5⟩ := g.cell a c h1
        refine ⟨h3, h4, tr_false.2 ⟨by simp only; omega, ?_⟩⟩
        rw [(cutL_ok g.nf _).2, (tr_false.1 h5).2]
        rfl
      · rw [if_neg k3] at ha ⊢
        by_cases k4 : r.k = 4
        · rw [if_pos k4] at ha ⊢
          have hd := of_decide_eq_true ha
          refine ⟨(putL_ok g.nf _).1, putL_lo g.nf _ g.lo (Nat.le_max_right _ _), putL_hi g.nf _ g.hi hd.2, g.ep, g.op, g.mr, fun a c hc => ?_⟩
          obtain ⟨h1, h2⟩ := rmC_some hc
          obtain ⟨h3, h4, h5⟩ := g.cell a c h1
          obtain ⟨h6, h7⟩ := tr_false.1 h5
          refine ⟨h3, h4, tr_false.2 ⟨h6, ?_⟩⟩
          rw [(putL_ok g.nf _).2, h7, Bool.false_or]
          refine inR_false.2 fun hx => h2 ?_
          simp only at hx
          omega
        · rw [if_neg k4] at ha ⊢
          have k5 : r.k = 5 := by omega
          rw [if_pos k5] at ha ⊢
          have := of_decide_eq_true ha
          exact ⟨g.nf, g.lo, g.hi, g.ep, this.2, g.mr, g.cell⟩
noncomputable def maxA : Nat := Classical.choose (⟨1048576, rfl⟩ : ∃ n : Nat, n = 1048576)
theorem maxA_eq : maxA = 1048576 := Classical.choose_spec (⟨1048576, rfl⟩ : ∃ n : Nat, n = 1048576)
noncomputable def addrs (m : Nat → Option Ce) : List Nat := (List.range maxA).filter fun a => (m a).isSome
theorem mem_addrs {m : Nat → Option Ce} {a : Nat} : a ∈ addrs m ↔ a < 1048576 ∧ (m a).isSome = true := by simp [addrs, maxA_eq]
theorem addrs_nodup (m : Nat → Option Ce) : (addrs m).Nodup := List.nodup_range.filter _
theorem addrs_sorted (m : Nat → Option Ce) : (addrs m).Pairwise (· < ·) := List.Pairwise.filter _ List.pairwise_lt_range
def one0 (k n : Nat) : List Rc := if n = 0 then [] else [⟨k, n, 0, zCe⟩]
def tRc (r : Rn) : Rc := ⟨4, r.1, r.2, zCe⟩
def cRc (m : Nat → Option Ce) (a : Nat) : Rc := ⟨2, a, 0, (m a).getD zCe⟩
noncomputable def allR' (S : PS) : List Rc := one0 1 S.ep ++ one0 5 S.op ++ one0 3 S.mr ++ S.T.map tRc ++ (addrs S.m).map (cRc S.m)
noncomputable def all (S : PS) : List Rec := (allR' S).map encR
inductive Desc : List Rec → PS → Prop
  | nil : Desc [] PS.zero
  | snoc {L : List Rec} {S : PS} {r : Rc} : Desc L S → okN r → allow S r = true → Desc (L ++ [encR r]) (exec S r)
theorem Desc.good {L : List Rec} {S : PS} (h : Desc L S) : Gd S := by
  induction h with
  | nil => exact Gd.zero
  | snoc _ h1 h2 ih => exact ih.exec h1 h2
theorem Desc.okL {L : List Rec} {S : PS} (h : Desc L S) : okL L := by
  induction h with
  | nil => exact okL_nil
  | snoc _ h1 _ ih => exact ih.snoc (encR_ok h1)
theorem filter_le {p q : Nat → Bool} (h : ∀ a, p a = true → q a = true) (l : List Nat) : (l.filter p).length ≤ (l.filter q).length := by
  rw [← List.countP_eq_length_filter, ← List.countP_eq_length_filter]
  exact List.countP_mono_left fun x _ => h x
theorem filter_one {p q : Nat → Bool} (a : Nat) (h : ∀ x, x ≠ a → p x = q x) : ∀ l : List Nat, l.Nodup → (l.filter q).length ≤ (l.filter p).length + 1
  | [], _ => by simp
  | x :: l, hn => by
    obtain ⟨h1, h2⟩ := List.nodup_cons.1 hn
    by_cases e : x = a
    · subst e
      have hc : l.filter q = l.filter p := List.filter_congr fun y hy => (h y (fun e => h1 (e ▸ hy))).symm
      rw [List.filter_cons, List.filter_cons, hc]
      split <;> split <;> (try simp only [List.length_cons]) <;> omega
    · have ih := filter_one a h l h2
      rw [List.filter_cons, List.filter_cons, h x e]
      split
      · simp only [List.length_cons]; omega
      · exact ih
theorem addrs_upd (m : Nat → Option Ce) (a : Nat) (c : Ce) : (addrs (updC m a c)).length ≤ (addrs m).length + 1 := by
  refine filter_one a (fun x hx => ?_) _ List.nodup_range
  unfold updC
  rw [if_neg hx]
theorem addrs_rm (m : Nat → Option Ce) (f t : Nat) : (addrs (rmC m f t)).length ≤ (addrs m).length := by
  refine filter_le (fun a h => ?_) _
  obtain ⟨c, hc⟩ := Option.isSome_iff_exists.1 h
  rw [(rmC_some hc).1]
  rfl
theorem Desc.size {L : List Rec} {S : PS} (h : Desc L S) : S.T.length ≤ L.length ∧ (addrs S.m).length ≤ L.length := by
  induction h with
  | nil => exact ⟨by simp [PS.zero], by simp [PS.zero, addrs]⟩
  | @snoc L S r hd h1 h2 ih =>
    have g := hd.good
    rw [List.length_append, List.length_singleton]
    unfold exec
    split
    · exact ⟨by simp only; omega, by simp only; omega⟩
    · split
      · have := addrs_upd S.m r.n r.c
        exact ⟨by simp only; omega, by simp only; omega⟩
      · split
        · have := addrs_rm S.m 0 r.n
          have := cutL_len g.nf (0, r.n)
          exact ⟨by simp only; omega, by simp only; omega⟩
        · split
          · have := addrs_rm S.m r.n r.t
            have := putL_len g.nf (max r.n S.mr, r.t)
            exact ⟨by simp only; omega, by simp only; omega⟩
          · split <;> exact ⟨by (try simp only); omega, by (try simp only); omega⟩
def allows : List Rc → PS → Prop
  | [], _ => True
  | r :: rs, S => okN r ∧ allow S r = true ∧ allows rs (exec S r)
theorem allows_append : ∀ (A B : List Rc) (S : PS), allows A S → allows B (A.foldl exec S) → allows (A ++ B) S
  | [], _, _, _, h => h
  | r :: A, B, S, h, k => ⟨h.1, h.2.1, allows_append A B _ h.2.2 k⟩
theorem Desc.more : ∀ (rs : List Rc) {L : List Rec} {S : PS}, Desc L S → allows rs S → Desc (L ++ rs.map encR) (rs.foldl exec S)
  | [], L, S, h, _ => by simpa using h
  | r :: rs, L, S, h, k => by
    have := Desc.more rs (h.snoc k.1 k.2.1) k.2.2
    rw [List.append_assoc] at this
    exact this
theorem okN_num {k n : Nat} (hk : k = 1 ∨ k = 3 ∨ k = 5) (hn : n ≤ 1048576) : okN ⟨k, n, 0, zCe⟩ := by
  refine ⟨by simp only; omega, by simp only; omega, ?_, by simp only; omega, fun _ => rfl, by simp only; omega, fun _ => rfl⟩
  simp only
  rw [if_neg (by omega)]
  omega
theorem cutL_nil (r : Rn) : cutL [] r = [] := by
  obtain ⟨h1, h2⟩ := cutL_ok (L := []) trivial r
  exact NF.ext h1 trivial fun n => by rw [h2]; rfl
theorem rmC_none (f t : Nat) : rmC (fun _ => none) f t = fun _ => none := by
  funext x
  unfold rmC
  split <;> rfl
theorem one_ep {n : Nat} (hn : n ≤ 1048576) : allows (one0 1 n) PS.zero ∧ (one0 1 n).foldl exec PS.zero = ⟨n, 0, 0, [], fun _ => none⟩ := by
  unfold one0
  by_cases h : n = 0
  · subst h; exact ⟨trivial, rfl⟩
  · rw [if_neg h]
    exact ⟨⟨okN_num (by omega) hn, by simp [allow, PS.zero]; exact hn, trivial⟩, by simp [exec, PS.zero]⟩
theorem one_op {e n : Nat} (hn : n ≤ 1048576) : allows (one0 5 n) ⟨e, 0, 0, [], fun _ => none⟩ ∧ (one0 5 n).foldl exec ⟨e, 0, 0, [], fun _ => none⟩ = ⟨e, n, 0, [], fun _ => none⟩ := by
  unfold one0
  by_cases h : n = 0
  · subst h; exact ⟨trivial, rfl⟩
  · rw [if_neg h]
    exact ⟨⟨okN_num (by omega) hn, by simp [allow]; exact hn, trivial⟩, by simp [exec]⟩
theorem one_mk {e o n : Nat} (hn : n ≤ 1048576) : allows (one0 3 n) ⟨e, o, 0, [], fun _ => none⟩ ∧ (one0 3 n).foldl exec ⟨e, o, 0, [], fun _ => none⟩ = ⟨e, o, n, [], fun _ => none⟩ := by
  unfold one0
  by_cases h : n = 0
  · subst h; exact ⟨trivial, rfl⟩
  · rw [if_neg h]
    refine ⟨⟨okN_num (by omega) hn, by simp [allow]; exact hn, trivial⟩, ?_⟩
    simp [exec, cutL_nil, rmC_none]
theorem put_last {A : List Rn} {r : Rn} (h : NF (A ++ [r])) : putL A r = A ++ [r] := by
  have hA := (NF_append.1 h).1
  obtain ⟨h1, h2⟩ := putL_ok hA r
  refine NF.ext h1 h fun n => ?_
  rw [h2, mem_append]
  simp [mem]
theorem runs_desc (e o mk : Nat) : ∀ (B A : List Rn), NF (A ++ B) → (∀ r ∈ B, mk ≤ r.1 ∧ r.2 ≤ 1048576) →
    allows (B.map tRc) ⟨e, o, mk, A, fun _ => none⟩ ∧ (B.map tRc).foldl exec ⟨e, o, mk, A, fun _ => none⟩ = ⟨e, o, mk, A ++ B, fun _ => none⟩
  | [], A, _, _ => ⟨trivial, by simp⟩
  | r :: B, A, h, hb => by
    have h1 := hb r (by simp)
    have hne := h.nonempty r (by simp)
    have h2 : NF ((A ++ [r]) ++ B) := by simpa using h
    have ex : exec ⟨e, o, mk, A, fun _ => none⟩ (tRc r) = ⟨e, o, mk, A ++ [r], fun _ => none⟩ := by
      unfold exec tRc
      simp only [show ¬ (4 = 1) by omega, show ¬ (4 = 2) by omega, show ¬ (4 = 3) by omega, if_false, if_true]
      rw [rmC_none, Nat.max_eq_left h1.1, put_last (NF_append.1 h2).1]
    have ih := runs_desc e o mk B (A ++ [r]) h2 fun x hx => hb x (by simp [hx])
    refine ⟨⟨⟨by simp [tRc], by simp [tRc], by show r.1 < (if (4 : Nat) = 2 then 1048576 else 2097152); rw [if_neg (by omega)]; omega, fun _ => (by show r.2 < 2097152; omega), fun k => absurd rfl k, by simp [tRc], fun _ => rfl⟩, (show decide (r.1 < r.2 ∧ r.2 ≤ 1048576) = true from decide_eq_true ⟨hne, h1.2⟩), by rw [ex]; exact ih.1⟩, ?_⟩
    show (B.map tRc).foldl exec (exec _ (tRc r)) = _
    rw [ex, ih.2]
    simp
theorem cells_desc {S : PS} (g : Gd S) : ∀ (B A : List Nat), (A ++ B).Nodup → (∀ a ∈ B, a ∈ addrs S.m) →
    allows (B.map (cRc S.m)) { S with m := fun x => if x ∈ A then S.m x else none } ∧ (B.map (cRc S.m)).foldl exec { S with m := fun x => if x ∈ A then S.m x else none } = { S with m := fun x => if x ∈ A ++ B then S.m x else none }
  | [], A, _, _ => ⟨trivial, by simp⟩
  | a :: B, A, h, hb => by
    obtain ⟨h1, h2⟩ := mem_addrs.1 (hb a (by simp))
    obtain ⟨c, hc⟩ := Option.isSome_iff_exists.1 h2
    obtain ⟨_, h4, h5⟩ := g.cell a c hc
    have hna : a ∉ A := fun hx => by
      have := (List.nodup_append.1 h).2.2 a hx a (by simp)
      exact this rfl
    have h2' : ((A ++ [a]) ++ B).Nodup := by simpa using h
    have ex : exec { S with m := fun x => if x ∈ A then S.m x else none } (cRc S.m a) = { S with m := fun x => if x ∈ A ++ [a] then S.m x else none } := by
      unfold exec cRc
      simp only [show ¬ (2 = 1) by omega, if_false, if_true]
      congr 1
      funext x
      unfold updC
      by_cases e : x = a
      · subst e
        rw [if_pos rfl, if_pos (by simp), hc]
        rfl
      · rw [if_neg e]
        simp [e]
    have ih := cells_desc g B (A ++ [a]) h2' fun x hx => hb x (by simp [hx])
    refine ⟨⟨⟨by simp [cRc], by simp [cRc], by simp [cRc]; omega, by simp [cRc], fun _ => rfl, fun _ => by simp only [cRc, hc]; exact h4, fun k => absurd rfl k⟩, ?_, by rw [ex]; exact ih.1⟩, ?_⟩
    · unfold allow cRc
      simp only [show ¬ (2 = 1) by omega, if_false, if_true, if_neg hna]
      have : PS.tr { S with m := fun x => if x ∈ A then S.m x else none } a = S.tr a := rfl
      rw [this, h5]
      rfl
    · show (B.map (cRc S.m)).foldl exec (exec _ (cRc S.m a)) = _
      rw [ex, ih.2]
      simp
theorem Desc.all {S : PS} (g : Gd S) : Desc (Proofs.YtmpajlpemabniaaGreat.all S) S := by
  have h1 := one_ep g.ep
  have h2 := one_op (e := S.ep) g.op
  have h3 := one_mk (e := S.ep) (o := S.op) g.mr
  have h4 := runs_desc S.ep S.op S.mr S.T [] (by simpa using g.nf) fun r hr => ⟨g.lo r hr, g.hi r hr⟩
  have h5 := cells_desc g (addrs S.m) [] (by simpa using addrs_nodup S.m) fun a ha => ha
  have e5 : ({ S with m := fun x => if x ∈ ([] : List Nat) then S.m x else none } : PS) = ⟨S.ep, S.op, S.mr, S.T, fun _ => none⟩ := by
    refine PS.ext' rfl rfl rfl rfl ?_
    funext x
    simp
  have e6 : ({ S with m := fun x => if x ∈ ([] : List Nat) ++ addrs S.m then S.m x else none } : PS) = S := by
    refine PS.ext' rfl rfl rfl rfl ?_
    funext x
    show (if x ∈ [] ++ addrs S.m then S.m x else none) = S.m x
    by_cases hx : x ∈ addrs S.m
    · rw [if_pos (by simpa using hx)]
    · rw [if_neg (by simpa using hx)]
      cases hm : S.m x with
      | none => rfl
      | some c => exact absurd (mem_addrs.2 ⟨(g.cell x c hm).1, by rw [hm]; rfl⟩) hx
  rw [e5, e6] at h5
  have fold : ∀ (A B : List Rc) (U : PS), (A ++ B).foldl exec U = B.foldl exec (A.foldl exec U) := fun A B U => List.foldl_append
  have hA : allows (allR' S) PS.zero ∧ (allR' S).foldl exec PS.zero = S := by
    unfold allR'
    refine ⟨?_, ?_⟩
    · refine allows_append _ _ _ (allows_append _ _ _ (allows_append _ _ _ (allows_append _ _ _ h1.1 ?_) ?_) ?_) ?_
      · rw [h1.2]; exact h2.1
      · rw [fold, h1.2, h2.2]; exact h3.1
      · rw [fold, fold, h1.2, h2.2, h3.2]; exact h4.1
      · rw [fold, fold, fold, h1.2, h2.2, h3.2, h4.2]; exact h5.1
    · rw [fold, fold, fold, fold, h1.2, h2.2, h3.2, h4.2]
      exact h5.2
  have := Desc.more (allR' S) Desc.nil hA.1
  rw [hA.2, List.nil_append] at this
  exact this
def cmF (n : Nat) (F : Nat → Sec) (h h' : Nat) (L L' : List Rec) : Nat → Sec := now (now F (wfM n h h' L L' fun _ => none)) (upd (fun _ => none) 0 (supS h' L'.length (frs L').length))
structure PT where
  F : Nat → Sec
  h : Nat
  L : List Rec
  S : PS
noncomputable def chg (n : Nat) (P : PT) (r : Rc) : Nat × PT :=
  if hsec n * 64 < (frs P.L).length + 2 + (encR r).length then
    if hsec n * 64 < (frs (all (exec P.S r))).length then (61, P) else (0, ⟨cmF n P.F P.h (1 - P.h) P.L (all (exec P.S r)), 1 - P.h, all (exec P.S r), exec P.S r⟩)
  else (0, ⟨cmF n P.F P.h P.h P.L (P.L ++ [encR r]), P.h, P.L ++ [encR r], exec P.S r⟩)
theorem chg_desc {n : Nat} {P : PT} {r : Rc} (h : Desc P.L P.S) (ho : okN r) (ha : allow P.S r = true) : Desc (chg n P r).2.L (chg n P r).2.S := by
  unfold chg
  split
  · split
    · exact h
    · exact Desc.all (h.good.exec ho ha)
  · exact h.snoc ho ha
end Go.Proofs.YtmpajlpemabniaaGreat
namespace Go.Proofs.YtmpajlpemabniaaGreat
open Go.RowKit Go.Maps Go.Shelf
set_option linter.unusedVariables false
set_option linter.unusedSimpArgs false
abbrev uk (a : Nat) : Lit := .int .u64 (a : Int)
def idR (v : Value) : Option (DataW Value × List MemPlace) := some (.held v, [])
theorem idR_inv {v : Value} {z : DataW Value × List MemPlace} (h : idR v = some z) : z = (.held v, []) := by simpa [idR, eq_comm] using h
theorem ukeyed : Keyed Tryz.prog 37 := int_keyed Tryz.underlying37
theorem uk_inj {a b : Nat} (h : uk a = uk b) : a = b := by simp only [Lit.int.injEq, true_and] at h; omega
theorem uk_isKey (a : Nat) : WideAt.IsKeyLit (uk a) := by simp [WideAt.IsKeyLit]
theorem keyOf_uk {a : Nat} (h : a < 18446744073709551616) : keyOf Tryz.prog 37 (.int .u64 (a : Int)) = some (uk a) := keyOf_int_mk Tryz.underlying37 (WalkArith.wf_u64 (by omega))
theorem keyOf_u64 {key : Value} {kl : Lit} (h : keyOf Tryz.prog 37 key = some kl) : ∃ a : Nat, a < 18446744073709551616 ∧ key = .int .u64 (a : Int) ∧ kl = uk a := by
  obtain ⟨x, rfl, rfl, hw⟩ := Maps.keyOf_int_inv Tryz.underlying37 h
  have h2 : 0 ≤ x ∧ x ≤ 18446744073709551615 := by
    simp [Lit.wf, IntKind.min, IntKind.max, IntKind.signed, IntKind.bits] at hw
    omega
  obtain ⟨a, rfl⟩ : ∃ a : Nat, x = (a : Int) := ⟨x.toNat, by omega⟩
  exact ⟨a, by omega, rfl, rfl⟩
structure MapD (V : Nat → Option Value) (D : DataW Value) : Prop where
  some_ : ∀ a v, V a = some v → has D (uk a) = true ∧ ∀ z, D.atKey (uk a) z = .held v
  none_ : ∀ a, V a = none → has D (uk a) = false
  keys : ∀ kl, has D kl = true → ∃ a, a < 18446744073709551616 ∧ kl = uk a
theorem MapD.has {V : Nat → Option Value} {D : DataW Value} (h : MapD V D) (a : Nat) : Go.Maps.has D (uk a) = (V a).isSome := by
  cases hV : V a with
  | none => exact h.none_ a hV
  | some v => exact (h.some_ a v hV).1
def updV (V : Nat → Option Value) (a : Nat) (v : Value) : Nat → Option Value := fun x => if x = a then some v else V x
theorem MapD.empty : MapD (fun _ => none) (.map []) := ⟨fun _ _ h => (by cases h), fun _ _ => rfl, fun kl h => by simp [Go.Maps.has] at h⟩
theorem MapD.put {V : Nat → Option Value} {D : DataW Value} (h : MapD V D) (hD : IsMap D) {i : Nat} (hi : i < 18446744073709551616) (v : Value) : MapD (updV V i v) (D.put (uk i) (.held v)) := by
  have hne : ∀ j, j ≠ i → uk j ≠ uk i := fun j hj e => hj (uk_inj e)
  refine ⟨fun j u hj => ?_, fun j hj => ?_, fun kl hkl => ?_⟩
  · by_cases e : j = i
    · subst e
      simp only [updV, if_true, Option.some.injEq] at hj
      subst hj
      exact ⟨has_put_same hD (uk_isKey j) _, fun z => atKey_put_same hD (uk_isKey j) _ z⟩
    · simp only [updV, if_neg e] at hj
      obtain ⟨h1, h2⟩ := h.some_ j u hj
      exact ⟨by rw [has_put_other (hne j e)]; exact h1, fun z => by rw [atKey_put_other (hne j e)]; exact h2 z⟩
  · by_cases e : j = i
    · subst e
      simp [updV] at hj
    · simp only [updV, if_neg e] at hj
      rw [has_put_other (hne j e)]
      exact h.none_ j hj
  · by_cases e : kl = uk i
    · exact ⟨i, hi, e⟩
    · rw [has_put_other e] at hkl
      exact h.keys kl hkl
theorem nodup_le {l : List Nat} (h : l.Nodup) {N : Nat} (hN : ∀ x ∈ l, x < N) : l.length ≤ N := by
  have hp : l.Perm ((List.range N).filter fun x => decide (x ∈ l)) := (List.perm_ext_iff_of_nodup h (List.nodup_range.filter _)).2 fun x => by
    simp only [List.mem_filter, List.mem_range, decide_eq_true_eq]
    exact ⟨fun hx => ⟨hN x hx, hx⟩, fun hx => hx.2⟩
  rw [hp.length_eq]
  have := List.length_filter_le (fun x => decide (x ∈ l)) (List.range N)
  simpa using this
structure MapV (w : World) (b : Nat) (V : Nat → Option Value) : Prop where
  own : ∃ D, w.ownsMap Tryz.prog 37 idR b 1048576 D ∧ MapD V D
  dom : ∀ a v, V a = some v → a < 1048576
theorem MapV.lt {w : World} {b : Nat} {V : Nat → Option Value} (h : MapV w b V) : b < w.heap.size := by obtain ⟨D, h1, _⟩ := h.own; exact h1.lt
theorem owns_block {w w' : World} {b n : Nat} {D : DataW Value} (h : w.ownsMap Tryz.prog 37 idR b n D) (hb : w'.heap[b]? = w.heap[b]?) : w'.ownsMap Tryz.prog 37 idR b n D := by
  obtain ⟨es, clock, h1, h2⟩ := h
  exact ⟨es, clock, hb.trans h1, h2⟩
theorem MapV.chg {l : List Nat} {w w' : World} {b : Nat} {V : Nat → Option Value} (h : MapV w b V) (hc : Chg l w w') (hb : b ∉ l) : MapV w' b V := by
  obtain ⟨D, h1, h2⟩ := h.own
  exact ⟨⟨D, owns_block h1 (hc.block b h1.lt hb), h2⟩, h.dom⟩
theorem MapV.kept {w w' : World} {b : Nat} {V : Nat → Option Value} (h : MapV w b V) (hc : Chg [] w w') : MapV w' b V := h.chg hc (by simp)
theorem tightM {w : World} {b n : Nat} {V : Nat → Option Value} {D : DataW Value} (h : w.ownsMap Tryz.prog 37 idR b n D) (hm : MapD V D) (hd : ∀ a v, V a = some v → a < 1048576) : MapV w b V := by
  refine ⟨⟨D, ?_, hm⟩, hd⟩
  obtain ⟨es, hD, hpw, hk⟩ := h.entries ukeyed
  obtain ⟨es0, clock, hb, F, hn, hD0⟩ := h
  refine ⟨es0, clock, hb, F, ?_, hD0⟩
  have e1 : es0.size = es.length := by
    rw [hD] at hD0
    have := DataW.map.inj hD0
    rw [this, length_sorted]
    simp
  rw [e1]
  subst hD
  have hx : ∀ p ∈ es, ∃ a, a < 18446744073709551616 ∧ p.1 = uk a := fun p hp => hm.keys p.1 (List.any_eq_true.2 ⟨p, hp, WideAt.sameKey_self (hk p hp)⟩)
  let f : Lit × DataW Value → Nat := fun p => match p.1 with | .int _ x => x.toNat | _ => 0
  have hf : ∀ p ∈ es, p.1 = uk (f p) := fun p hp => by
    obtain ⟨a, _, ha⟩ := hx p hp
    show p.1 = uk (match p.1 with | .int _ x => x.toNat | _ => 0)
    rw [ha]
    simp
  have hnd : (es.map f).Nodup := List.pairwise_map.2 (hpw.imp_of_mem fun {p q} hp hq hne e => hne (by rw [hf p hp, hf q hq, e]))
  have := nodup_le hnd (N := 1048576) fun x hx2 => by
    obtain ⟨p, hp, rfl⟩ := List.mem_map.1 hx2
    have h2 : Go.Maps.has (.map es) (uk (f p)) = true := by rw [← hf p hp]; exact List.any_eq_true.2 ⟨p, hp, WideAt.sameKey_self (hk p hp)⟩
    rw [hm.has] at h2
    obtain ⟨v, hv⟩ := Option.isSome_iff_exists.1 h2
    exact hd _ v hv
  simpa using this
theorem MapV.look {w : World} {b : Nat} {V : Nat → Option Value} (h : MapV w b V) {t e : TypeId} (ht : Tryz.prog.underlying t = some (.map 37 e)) {z : Value} (hz : (zeroValue e).run Tryz.prog w = .ok z w) {a : Nat} (ha : a < 18446744073709551616) :
    (Instr.lookup t (.map (some b)) (.int .u64 (a : Int)) true).run Tryz.prog w = .ok (.tuple #[(V a).getD z, .bool (V a).isSome]) w := by
  obtain ⟨D, ho, hm⟩ := h.own
  obtain ⟨v, ps, hrun, hv⟩ := ho.look_ok ukeyed ht hz (zd := .held z) (zp := []) rfl (keyOf_uk ha)
  have h2 := idR_inv hv
  rw [hrun, hm.has]
  cases hV : V a with
  | none =>
    have e1 : D.atKey (uk a) (.held z) = .held z := by
      have := hm.none_ a hV
      exact atKey_of_not_has this _
    rw [e1] at h2
    simp at h2
    simp [h2]
  | some u =>
    rw [(hm.some_ a u hV).2] at h2
    simp at h2
    simp [h2]
theorem MapV.put {w : World} {b : Nat} {V : Nat → Option Value} (h : MapV w b V) {t e : TypeId} (ht : Tryz.prog.underlying t = some (.map 37 e)) {a : Nat} (ha : a < 1048576) (v : Value) :
    ∃ w', (Instr.mapUpdate t (.map (some b)) (.int .u64 (a : Int)) v).run Tryz.prog w = .ok () w' ∧ MapV w' b (updV V a v) ∧ Chg [b] w w' := by
  obtain ⟨D, ho, hm⟩ := h.own
  obtain ⟨w', hrun, ho', htn⟩ := ho.store ukeyed ht (by unfold maxLen; omega) (keyOf_uk (a := a) (by omega)) (val := v) (d := .held v) (ps := []) rfl
  refine ⟨w', hrun, tightM ho' (hm.put (i := a) ho.isMap (by omega) v) fun j u hj => ?_, (Chg.refl [b] w).grown htn.grown (by simp)⟩
  by_cases e : j = a
  · rw [e]; exact ha
  · have h2 : updV V a v j = V j := if_neg e
    rw [h2] at hj
    exact h.dom j u hj
theorem MapV.made (w : World) : MapV (w.alloc (.map #[] 0)) w.heap.size (fun _ => none) := tightM (World.ownsMap_made w Tryz.prog 37 idR) MapD.empty (fun _ _ h => by cases h)
def ColU (V : Nat → Option Value) (left : Lit → Bool) (ss : List Nat) : Prop := ss.Nodup ∧ ∀ x, x ∈ ss ↔ ((V x).isSome = true ∧ left (uk x) = false)
theorem ColU.start {V : Nat → Option Value} {D : DataW Value} (h : MapD V D) : ColU V (Go.Maps.has D) [] := ⟨List.nodup_nil, fun x => by rw [h.has]; cases (V x).isSome <;> simp⟩
theorem ColU.step {V : Nat → Option Value} {left : Lit → Bool} {ss : List Nat} (h : ColU V left ss) {x : Nat} (hlk : left (uk x) = true) (hV : (V x).isSome = true) : ColU V (fun z => left z && !z.sameKey (uk x)) (ss ++ [x]) := by
  have hnew : x ∉ ss := fun hx => by have := ((h.2 x).1 hx).2; rw [hlk] at this; cases this
  refine ⟨List.nodup_append.2 ⟨h.1, by simp, fun a ha b hb => by simp at hb; subst hb; exact fun e => hnew (e ▸ ha)⟩, fun y => ?_⟩
  by_cases hy : y = x
  · subst hy; simp [hV, Lit.sameKey]
  · have h2 : ¬ ((y : Int) = (x : Int)) := by omega
    simp [h.2 y, hy, Lit.sameKey, h2]
end Go.Proofs.YtmpajlpemabniaaGreat
namespace Go.Proofs.YtmpajlpemabniaaGreat
open Go.RowKit Go.Sort
set_option linter.unusedVariables false
set_option linter.unusedSimpArgs false
def us (d : Array Int) : List Value := d.toList.map (Value.int .u64)
@[simp] theorem us_len (d : Array Int) : (us d).length = d.size := by simp [us]
def Uw (w : World) (g : Nat) (d : Array Int) (z : List Value) : Prop := Own w g 37 (us d ++ z)
theorem us_get (d : Array Int) (z : List Value) (i : Nat) (h : i < d.size) : (us d ++ z)[i]? = some (.int .u64 d[i]!) := by
  rw [List.getElem?_append_left (by simpa using h)]
  simp [us, h]
theorem Uw.cell {w : World} {g : Nat} {d : Array Int} {z : List Value} (h : Uw w g d z) (i : Nat) (hi : i < d.size) : w.cell? ⟨g, i, none⟩ = some (.int .u64 d[i]!) := by
  rw [Own.cell h i, us_get d z i hi]
theorem us_set (d : Array Int) (i : Nat) (x : Int) : us (d.setIfInBounds i x) = (us d).set i (.int .u64 x) := by
  simp [us, List.map_set]
theorem Uw.set {w : World} {g : Nat} {d : Array Int} {z : List Value} (h : Uw w g d z) (i : Nat) (hi : i < d.size) (x : Int) : Uw (w.setCell ⟨g, i, none⟩ (.int .u64 x)) g (d.setIfInBounds i x) z := by
  have h1 := Own.set h i (.int .u64 x)
  unfold Uw
  rw [us_set, ← List.set_append_left _ _ (by simpa using hi)]
  exact h1
theorem Uw.swap {w : World} {g : Nat} {d : Array Int} {z : List Value} (h : Uw w g d z) (i j : Nat) (hi : i < d.size) (hj : j < d.size) : Uw ((w.setCell ⟨g, i, none⟩ (.int .u64 d[j]!)).setCell ⟨g, j, none⟩ (.int .u64 d[i]!)) g (swp d i j) z :=
  (h.set i hi _).set j (by simpa using hj) _
theorem Uw.qt {w w' : World} {g : Nat} {d : Array Int} {z : List Value} (h : Uw w g d z) (k : Qt w w') : Uw w' g d z := Own.qt h k
def Sd (w : World) (g : Nat) (d : Array Int) (z : List Value) (w' : World) : Prop := Uw w' g d z ∧ Chg [g] w w'
theorem Sd.refl {w : World} {g : Nat} {d : Array Int} {z : List Value} (h : Uw w g d z) : Sd w g d z w := ⟨h, Chg.refl _ _⟩
theorem Sd.qt {w w' w'' : World} {g : Nat} {d : Array Int} {z : List Value} (h : Sd w g d z w') (k : Qt w' w'') : Sd w g d z w'' := ⟨h.1.qt k, h.2.qt k⟩
theorem Sd.drewN {w w' : World} {g : Nat} {d : Array Int} {z : List Value} (h : Sd w g d z w') (n : Nat) : Sd w g d z (w'.drewN n) := h.qt ⟨n, rfl⟩
theorem Sd.drew {w w' : World} {g : Nat} {d : Array Int} {z : List Value} (h : Sd w g d z w') : Sd w g d z w'.drew := h.qt ⟨1, rfl⟩
theorem Sd.then {w w' w'' : World} {g : Nat} {d d' : Array Int} {z : List Value} (h : Sd w g d z w') (k : Sd w' g d' z w'') : Sd w g d' z w'' := ⟨k.1, h.2.trans k.2⟩
theorem Sd.swap {w w' : World} {g : Nat} {d : Array Int} {z : List Value} (h : Sd w g d z w') (i j : Nat) (hi : i < d.size) (hj : j < d.size) {x y : Int} (hx : d[i]! = x) (hy : d[j]! = y) :
    Sd w g (swp d i j) z ((w'.setCell ⟨g, i, none⟩ (.int .u64 y)).setCell ⟨g, j, none⟩ (.int .u64 x)) := by
  subst hx hy
  exact ⟨h.1.swap i j hi hj, (h.2.setCell (.inl (by simp)) _).setCell (.inl (by simp)) _⟩
theorem isNaN_any (x : Int) (w : World) : Calls Tryz.prog 271 #[.int .u64 x] w fun e w' => e = .returned (.bool false) ∧ w' = w := by
  go_enter Tryz.func271, Tryz.ntmps271
  go_wp2
  go_ret
  exact ⟨by simp, rfl⟩
theorem Less_any (x y : Int) (w : World) : Calls Tryz.prog 257 #[.int .u64 x, .int .u64 y] w fun e w' => e = .returned (.bool (ltInt x y)) ∧ w' = w := by
  go_enter Tryz.func257, Tryz.ntmps257
  go_wp2_with (first | (go_at_call 271; refine (isNaN_any _ _).mono ?_; rintro e w' ⟨rfl, rfl⟩) | fail)
  all_goals (go_ret; exact ⟨by simp [ltInt], rfl⟩)
theorem size_swp2 (d : Array Int) (i j : Nat) : (swp d i j).size = d.size := by simp [swp]
set_option maxHeartbeats 2000000 in
set_option maxRecDepth 100000 in
theorem insertion_any (w : World) (g N c a b : Nat) (d : Array Int) (z : List Value) (h : Uw w g d z) (hN : d.size = N) (hab : a ≤ b) (hb : b ≤ N) (hsz : N < 1000000000) :
    Calls Tryz.prog 251 #[.slice (some ⟨g, 0, none⟩) N c, .int .i64 (a : Int), .int .i64 (b : Int)] w fun e w' => e = .returned (.tuple #[]) ∧ Hid (Sd w g (insertionSort ltInt d a b) z w') := by
  have HS0 := Lib.hid (Sd.refl h)
  clear h
  go_enter Tryz.func251, Tryz.ntmps251
  go_wp2_with fail
  go_loopw [6] (fun vi wr => ∃ (i : Nat) (dk : Array Int), vi = .int .i64 i ∧ a < i ∧ i ≤ b + 1 ∧ dk.size = N ∧ Hid (Sd w g dk z wr) ∧ Hid (insOuter ltInt a b i dk = insOuter ltInt a b (a + 1) d)) (fun vi _ => b + 1 - (intOf vi).toNat)
  case atStart => exact ⟨a + 1, d, by go_num, by omega, by omega, hN, HS0, Lib.hid rfl⟩
  case round =>
    obtain ⟨i, dk, rfl, hai, hib, hsk, HS, HO⟩ := hrel
    by_cases hlt : i < b
    · have hd1 : decide (i < b) = true := by simpa using hlt
      go_wp2_with fail
      go_loopw [7] (fun vj wr2 => ∃ (j : Nat) (dj : Array Int), vj = .int .i64 j ∧ a ≤ j ∧ j ≤ i ∧ dj.size = N ∧ Hid (Sd w g dj z wr2) ∧ Hid (insInner ltInt a j dj = insInner ltInt a i dk)) (fun vj _ => (intOf vj).toNat)
      case atStart => exact ⟨i, dk, rfl, by omega, Nat.le_refl _, hsk, HS, Lib.hid rfl⟩
      case round =>
        obtain ⟨j, dj, rfl, haj, hji, hsj, HSj, HI⟩ := hrel
        have OUT := Lib.hid (show (j ≤ a ∨ ltInt dj[j]! dj[j - 1]! = false) → insOuter ltInt a b (i + 1) dj = insOuter ltInt a b (a + 1) d from fun hs => by
          rw [← HO.out, insOuter_go _ _ _ _ _ hlt, ← HI.out, insInner_stop _ _ _ _ hs])
        by_cases hja : a < j
        · obtain ⟨k, hk⟩ : ∃ k, j = k + 1 := ⟨j - 1, by omega⟩
          have hk1 : j - 1 = k := by omega
          have GO := Lib.hid (insInner_go ltInt a j dj hja)
          rw [hk1] at GO OUT
          have q1 := HSj.out.1.cell j (by omega)
          have q2 := HSj.out.1.cell k (by omega)
          have f1 := Own.frozen HSj.out.1 j
          have f2 := Own.frozen HSj.out.1 k
          have hgl := Own.lt HSj.out.1
          obtain ⟨x, hx⟩ : ∃ x, Hid (dj[j]! = x) := ⟨_, Lib.hid rfl⟩
          obtain ⟨y, hy⟩ : ∃ y, Hid (dj[k]! = y) := ⟨_, Lib.hid rfl⟩
          rw [hx.out] at q1 GO OUT
          rw [hy.out] at q2 GO OUT
          have hw3 : IntKind.i64.wrap ((j : Int) - 1) = (k : Int) := by rw [IntKind.wrap_i64]; omega
          have hj0 : (0 : Int) ≤ (j : Int) := by omega
          have hk0 : (0 : Int) ≤ (k : Int) := by omega
          have hjN : (j : Int) < (N : Int) := by omega
          have hkN : (k : Int) < (N : Int) := by omega
          have hd2 : decide (a < j) = true := by simpa using hja
          have hiS : (i : Int) < 1000000000 := by omega
          have hne : j ≠ k := by omega
          have hne2 : k ≠ j := by omega
          have HX := Lib.hid (And.intro hk (And.intro hja (And.intro hji (And.intro hai hlt))))
          clear hk hk1 hji hsz hlt hib hai hab hb hd1 haj hja
          cases hl : ltInt x y with
          | true =>
            go_wp2_with fail
            go_quiet ((go_at_call 257; exact Calls.quiet_of_same (Less_any _ _ _)))
            go_wp2_with fail
            go_region
            go_wp2_with fail
            go_roundw
            case rel =>
              refine ⟨k, swp dj j k, rfl, by have := HX.out; omega, by have := HX.out; omega, by rw [size_swp2]; exact hsj, Lib.hid ?_, Lib.hid (by rw [← GO.out hl]; exact HI.out)⟩
              exact (HSj.out.qt ⟨_, rfl⟩).swap j k (by omega) (by omega) hx.out hy.out
            case measure => have := HX.out; simp [intOf]; omega
          | false =>
            have HR := Lib.hid (OUT.out (.inr hl))
            go_wp2_with fail
            go_quiet ((go_at_call 257; exact Calls.quiet_of_same (Less_any _ _ _)))
            go_wp2_with fail
            go_roundw
            case rel => exact ⟨i + 1, dj, by go_num, by have := HX.out; omega, by have := HX.out; omega, hsj, Lib.hid (HSj.out.qt ⟨_, rfl⟩), HR⟩
            case measure => have := HX.out; simp [intOf]; omega
        · have hd2 : decide (a < j) = false := by simpa using hja
          have HR := Lib.hid (OUT.out (.inl (by omega)))
          go_wp2_with fail
          go_quiet ((go_at_call 257; exact Calls.quiet_of_same (Less_any _ _ _)))
          go_wp2_with fail
          go_roundw
          case rel => exact ⟨i + 1, dj, by go_num, by omega, by omega, hsj, Lib.hid (HSj.out.qt ⟨_, rfl⟩), HR⟩
          case measure => simp [intOf]; omega
    · have hd1 : decide (i < b) = false := by simpa using hlt
      go_wp2_with fail
      go_end0
      refine ⟨rfl, Lib.hid ?_⟩
      have := HO.out
      rw [insOuter_stop _ _ _ _ _ hlt] at this
      rw [insertionSort, ← this]
      exact HS.out
end Go.Proofs.YtmpajlpemabniaaGreat
