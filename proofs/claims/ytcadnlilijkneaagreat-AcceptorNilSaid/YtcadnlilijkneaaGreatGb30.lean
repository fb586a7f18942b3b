/-
  A tape with its disk: Open, Append, Replace, and the readers, over a state. No claim of their own.
-/
import Derived.Test.YtcadnlilijkneaaGreatGb29
import Derived.Lib.SlBytesConst
import Derived.Test.YtcadnlilijkneaaGreatGb15
import Derived.Test.YtcadnlilijkneaaGreatGb19
import Derived.Test.YtcadnlilijkneaaGreatGb2
import Derived.Maps.OwnIn
import Derived.Maps.OwnSet
import Derived.Maps.Ext
import Derived.Lib.SlKeysI
namespace Go.Proofs.YtcadnlilijkneaaGreat
open Go.RowKit Go.Deep Go.Shelf
set_option linter.unusedVariables false
set_option linter.unusedSimpArgs false

def calm (F : Nat → Sec) (m : Nat → Option Sec) (h : Nat) (L : List Rec) : TS := ⟨F, m, h, h, L, L, 0⟩
def TDT (w : World) (l : List Nat) (q p g b n : Nat) (S : TS) (w' : World) : Prop := ∃ l', TD w' l' q p g b n S ∧ (∀ x ∈ l', x ∈ l ∨ w.heap.size ≤ x) ∧ Chg l w w'
theorem TpT.td {w w' : World} {l : List Nat} {q p g b n : Nat} {S : TS} {h h' : Nat} {L L' : List Rec} {k : Nat} (t : TD w l q p g b n S) (u : TpT w l q p n h h' L L' k w') : TDT w l q p g b n ⟨S.F, S.m, h, h', L, L', k⟩ w' := by
  obtain ⟨l1, ⟨vF, vE, vF', vE', h1⟩, h21, h3⟩ := u
  obtain ⟨h1, hn⟩ := h1.norm
  have h2 : ∀ x ∈ q :: (bl vF ++ bl vE ++ bl vF' ++ bl vE'), x ∈ l ∨ w.heap.size ≤ x := fun x hx => h21 x (hn x hx).1
  generalize (q :: (bl vF ++ bl vE ++ bl vF' ++ bl vE')) = l' at h1 hn h2
  have np : p ∉ l' := fun hx => by
    rcases h2 p hx with h4 | h4
    · exact t.np h4
    · have := t.dsk.ltp; omega
  have ng : g ∉ l' := fun hx => by
    rcases h2 g hx with h4 | h4
    · exact t.ng h4
    · have := t.dsk.ltg; omega
  have nb : b ∉ l' := fun hx => by
    rcases h2 b hx with h4 | h4
    · exact t.nb h4
    · have := t.dsk.ltb; omega
  exact ⟨l', ⟨⟨_, _, _, _, h1⟩, t.dsk.keep h3 t.np t.ng t.nb, np, ng, nb, t.three, fun x hx => (hn x hx).2⟩, h2, h3⟩
theorem open_at (w : World) {p g b n : Nat} {F : Nat → Sec} {m : Nat → Option Sec} {h : Nat} {L : List Rec} (hd : Dsk w p g b n F m) (hn : 3 ≤ n) (o : Opens n (now F m) h L) :
    Calls Tryz.prog 74 #[.pointer (some ⟨p, 0, none⟩)] w fun e w' => ∃ q l, e = .returned (.tuple #[.pointer (some ⟨q, 0, none⟩), .int .i64 0]) ∧ Hid (TD w' l q p g b n (calm F m h L)) ∧ Hid (∀ x ∈ l, w.heap.size ≤ x) ∧ Chg [] w w' := by
  refine (open_ok w hd hn).mono fun e w' h => ?_
  rcases h with ⟨h2, L2, q, l, o2, he, ht, hl, hc⟩ | ⟨hno, _, _⟩
  · obtain ⟨rfl, rfl⟩ := o2.uniq hd.top o
    obtain ⟨vF, vE, vF', vE', h1⟩ := ht
    obtain ⟨h1, hnn⟩ := h1.norm
    have hl1 : ∀ x ∈ q :: (bl vF ++ bl vE ++ bl vF' ++ bl vE'), w.heap.size ≤ x := fun x hx => hl x (hnn x hx).1
    clear hl
    generalize (q :: (bl vF ++ bl vE ++ bl vF' ++ bl vE')) = l at h1 hnn hl1
    have hl := hl1
    exact ⟨q, l, he, Lib.hid ⟨⟨_, _, _, _, h1⟩, hd.kept hc, fun hx => by have := hl _ hx; have := hd.ltp; omega, fun hx => by have := hl _ hx; have := hd.ltg; omega, fun hx => by have := hl _ hx; have := hd.ltb; omega, hn, fun x hx => (hnn x hx).2⟩, Lib.hid hl, hc⟩
  · exact absurd o (hno _ _)
section
variable {w : World} {l : List Nat} {q p g b n : Nat} {S : TS}
def appS (n : Nat) (S : TS) (r : Rec) : TS := { S with L' := appL n S.k S.h S.h' S.L S.L' r }
theorem append_TD (t : TD w l q p g b n S) (a : Option Addr) (r : Rec) (c B : Nat) (hro : Ro w B a (u8s r)) (hB : B ≤ w.heap.size) (hsep : okR r → ∀ x, a = some x → x.block ∉ l) :
    Calls Tryz.prog 89 #[.pointer (some ⟨q, 0, none⟩), .slice a r.length c] w fun e w' => e = .returned (.int .i64 ((appE n S.k S.h S.h' S.L S.L' r : Nat) : Int)) ∧ Hid (TDT w l q p g b n (appS n S r) w') := by
  obtain ⟨_, _, _, _, tv⟩ := t.tp
  exact (append_tape tv t.dsk a r c B hro hB hsep).mono fun e w' h => ⟨h.1, Lib.hid (TpT.td t h.2)⟩
theorem len_TD (t : TD w l q p g b n S) : Calls Tryz.prog 75 #[.pointer (some ⟨q, 0, none⟩)] w fun e w' => e = .returned (.int .i64 ((S.L.length : Nat) : Int)) ∧ Chg [] w w' := by
  obtain ⟨_, _, _, _, tv⟩ := t.tp
  exact len_tape tv
theorem TD.dlt (t : TD w l q p g b n S) : p < w.heap.size ∧ g < w.heap.size ∧ b < w.heap.size := ⟨t.dsk.ltp, t.dsk.ltg, t.dsk.ltb⟩
end
theorem commit_k0 {n : Nat} {S : TS} (hi : ¬ S.idle) (hk : S.k = 0) : commitS n S = ⟨now (now S.F (wfM n S.h S.h' S.L S.L' S.m)) (upd (fun _ => none) 0 (supS S.h' S.L'.length (frs S.L').length)), fun _ => none, S.h', S.h', S.L', S.L', 0⟩ := by
  unfold commitS
  rw [if_neg hi, if_pos hk]
  have e1 : stepS n S = ⟨S.F, wfM n S.h S.h' S.L S.L' S.m, S.h, S.h', S.L, S.L', 1⟩ := by unfold stepS; rw [if_neg hi, if_pos hk]
  have e2 : stepS n ⟨S.F, wfM n S.h S.h' S.L S.L' S.m, S.h, S.h', S.L, S.L', 1⟩ = ⟨now S.F (wfM n S.h S.h' S.L S.L' S.m), fun _ => none, S.h, S.h', S.L, S.L', 2⟩ := by
    unfold stepS; rw [if_neg (show ¬ TS.idle ⟨S.F, wfM n S.h S.h' S.L S.L' S.m, S.h, S.h', S.L, S.L', 1⟩ from hi), if_neg (by simp), if_pos rfl]
  have e3 : stepS n ⟨now S.F (wfM n S.h S.h' S.L S.L' S.m), fun _ => none, S.h, S.h', S.L, S.L', 2⟩ = ⟨now S.F (wfM n S.h S.h' S.L S.L' S.m), upd (fun _ => none) 0 (supS S.h' S.L'.length (frs S.L').length), S.h, S.h', S.L, S.L', 3⟩ := by
    unfold stepS; rw [if_neg (show ¬ TS.idle ⟨now S.F (wfM n S.h S.h' S.L S.L' S.m), fun _ => none, S.h, S.h', S.L, S.L', 2⟩ from hi), if_neg (by simp), if_neg (by simp), if_pos rfl]
  have e4 : stepS n ⟨now S.F (wfM n S.h S.h' S.L S.L' S.m), upd (fun _ => none) 0 (supS S.h' S.L'.length (frs S.L').length), S.h, S.h', S.L, S.L', 3⟩ = ⟨now (now S.F (wfM n S.h S.h' S.L S.L' S.m)) (upd (fun _ => none) 0 (supS S.h' S.L'.length (frs S.L').length)), fun _ => none, S.h', S.h', S.L', S.L', 0⟩ := by
    unfold stepS; rw [if_neg (show ¬ TS.idle ⟨now S.F (wfM n S.h S.h' S.L S.L' S.m), upd (fun _ => none) 0 (supS S.h' S.L'.length (frs S.L').length), S.h, S.h', S.L, S.L', 3⟩ from hi), if_neg (by simp), if_neg (by simp), if_neg (by simp)]
  rw [e1, e2, e3, e4]
end Go.Proofs.YtcadnlilijkneaaGreat
namespace Go.Proofs.YtcadnlilijkneaaGreat
open Go.RowKit
set_option linter.unusedVariables false
set_option linter.unusedSimpArgs false

def packL (l : List Int) (vs : List Nat) : List UInt8 := (List.range (((nat l).sum + 7) / 8)).map fun i => UInt8.ofNat (nm (fun j => (packB (nat l) vs).getD (8 * i + j) false) 8)
theorem packL_to (l : List Bool) (i : Nat) : IsBytesTo l ((List.range i).map fun i => UInt8.ofNat (nm (fun j => l.getD (8 * i + j) false) 8)) i := by
  induction i with
  | zero => exact IsBytesTo.start l
  | succ i ih =>
    rw [List.range_succ, List.map_append]
    exact ih.step
theorem packL_is {l : List Int} {vs : List Nat} (h : l.length = vs.length) : IsPack l vs (packL l vs) := by
  refine isPack_of_bytes h ((packL_to _ _).stop ?_)
  rw [packB_length _ _ (by simpa using h)]
@[simp] theorem packL_len (l : List Int) (vs : List Nat) : (packL l vs).length = ((nat l).sum + 7) / 8 := by simp [packL]
def encY (y : Ly) : List UInt8 := packL (fw (fLy y)) (fv (fLy y))
theorem encY_is (y : Ly) : IsLE y (encY y) := packL_is (by simp)

abbrev Bt := Int × Int
def Bt.less (a b : Bt) : Bool := decide (a.1 < b.1) || (decide (a.1 = b.1) && decide (a.2 < b.2))
def btOk (b : Bt) : Bool := !decide (b = (0, 0)) && (decide (0 ≤ b.1) && (decide (b.1 ≤ 65535) && (decide (0 ≤ b.2) && decide (b.2 < 4))))
theorem btOk_iff {b : Bt} : btOk b = true ↔ b ≠ (0, 0) ∧ 0 ≤ b.1 ∧ b.1 ≤ 65535 ∧ 0 ≤ b.2 ∧ b.2 < 4 := by
  unfold btOk
  simp only [Bool.and_eq_true, Bool.not_eq_true', decide_eq_false_iff_not, decide_eq_true_eq]
theorem less_iff {a b : Bt} : a.less b = true ↔ a.1 < b.1 ∨ a.1 = b.1 ∧ a.2 < b.2 := by
  unfold Bt.less
  simp only [Bool.or_eq_true, Bool.and_eq_true, decide_eq_true_eq]
theorem less_false {a b : Bt} : a.less b = false ↔ b.1 < a.1 ∨ b.1 = a.1 ∧ b.2 ≤ a.2 := by
  cases h : a.less b with
  | true =>
    have := less_iff.1 h
    constructor
    · intro e; cases e
    · omega
  | false =>
    have : ¬ (a.1 < b.1 ∨ a.1 = b.1 ∧ a.2 < b.2) := fun k => by rw [less_iff.2 k] at h; cases h
    constructor
    · intro _; omega
    · intro _; rfl
def ep0 (e : Nat) : Bool := decide (1 ≤ e ∧ e ≤ 1048576)
def zLy : Ly := ⟨0, [], 0⟩
structure Rc where
  k : Bool
  e : Nat
  b : Bt
  y : Ly
def wid4 : List Int := [1, 21, 16, 2]
def val4 (x : Rc) : List Nat := [if x.k then 1 else 0, x.e, x.b.1.toNat, x.b.2.toNat]
structure okA (x : Rc) : Prop where
  e : 1 ≤ x.e ∧ x.e ≤ 1048576
  b : btOk x.b = true
  y : x.k = true → lright x.y = true ∧ x.y.e = x.e
  y0 : x.k = false → x.y = zLy
def encA (x : Rc) : Rec := packL wid4 (val4 x) ++ if x.k then encY x.y else []
theorem wid4_span : (spanOf wid4).isSome := by simp [wid4, spanOf]
theorem okA.pack {x : Rc} (h : okA x) : PackOk wid4 (val4 x) := by
  obtain ⟨_, h1, h2, h3, h4⟩ := btOk_iff.1 h.b
  have he := h.e
  refine ⟨wid4_span, rfl, fun i hi => ?_⟩
  have hi' : i = 0 ∨ i = 1 ∨ i = 2 ∨ i = 3 := by simp [wid4] at hi; omega
  rcases hi' with rfl | rfl | rfl | rfl
  · show (if x.k then 1 else 0) < 2 ^ 1
    split <;> omega
  · show x.e < 2 ^ 21; omega
  · show x.b.1.toNat < 2 ^ 16; omega
  · show x.b.2.toNat < 2 ^ 2; omega
theorem fsum_flat {α : Type} {f : α → List (Nat × Nat)} {n : Nat} : ∀ {xs : List α}, (∀ x ∈ xs, fsum (f x) ≤ n) → fsum (xs.flatMap f) ≤ xs.length * n
  | [], _ => by simp [fsum]
  | x :: xs, h => by
    have h1 := h x (by simp)
    have h2 := fsum_flat (xs := xs) fun y hy => h y (by simp [hy])
    rw [List.flatMap_cons, fsum_app, List.length_cons, Nat.succ_mul]
    omega
theorem encY_len {y : Ly} (h : lright y = true) : 1 ≤ (encY y).length ∧ (encY y).length ≤ 59 := by
  obtain ⟨_, _, h3⟩ := lright_iff.1 h
  obtain ⟨h4, _, h5, _⟩ := sgOk_iff.1 h3
  have hs : fsum (y.s.flatMap fSg) ≤ y.s.length * 110 := fsum_flat fun s hs => by
    obtain ⟨i, hi, rfl⟩ := mem_sx hs
    obtain ⟨g1, g2, _⟩ := chOk_iff.1 (h5 i hi).2
    have hc : fsum ((sx y.s i).2.flatMap fCh) ≤ (sx y.s i).2.length * 22 := fsum_flat fun c hc => by
      have hl := g2 c hc
      have hu : fsum (c.flatMap fun u : Int => [(5, u.toNat)]) ≤ c.length * 5 := fsum_flat fun u _ => by simp [fsum]
      unfold fCh
      rw [fsum_cons]
      simp only
      omega
    unfold fSg
    rw [fsum_cons, fsum_cons]
    simp only
    omega
  unfold encY
  rw [packL_len, nat_fw_sum]
  unfold fLy
  rw [fsum_cons, fsum_cons, fsum_cons]
  simp only
  omega
theorem head_len (x : Rc) : (packL wid4 (val4 x)).length = 5 := by rw [packL_len]; rfl
theorem encA_len {x : Rc} (h : okA x) : 5 ≤ (encA x).length ∧ (encA x).length ≤ 64 := by
  unfold encA
  rw [List.length_append, head_len]
  cases hk : x.k with
  | false => simp
  | true =>
    have := encY_len (h.y hk).1
    simp only [if_true]
    omega
theorem encA_ok {x : Rc} (h : okA x) : okR (encA x) := by have := encA_len h; unfold okR; omega

structure Es where
  p : Bt
  a : Bt
  y : Ly
def Es.zero : Es := ⟨(0, 0), (0, 0), zLy⟩
abbrev AS := Nat → Option Es
def AS.at (S : AS) (e : Nat) : Es := (S e).getD Es.zero
def behind (s : Es) (x : Rc) : Es := ⟨x.b, if x.k then x.b else s.a, if x.k then x.y else s.y⟩
def exec (S : AS) (x : Rc) : AS := fun e => if e = x.e then some (behind (S.at x.e) x) else S e
def allow (S : AS) (x : Rc) : Bool := !Bt.less x.b (S.at x.e).p
structure EsOk (e : Nat) (s : Es) : Prop where
  p : btOk s.p = true
  a : s.a = (0, 0) ∧ s.y = zLy ∨ btOk s.a = true ∧ lright s.y = true ∧ s.y.e = e
  le : Bt.less s.p s.a = false
def Gd (S : AS) : Prop := ∀ e s, S e = some s → (1 ≤ e ∧ e ≤ 1048576) ∧ EsOk e s
theorem Gd.zero : Gd (fun _ => none) := fun e s h => by cases h
theorem Gd.exec {S : AS} {x : Rc} (g : Gd S) (h : okA x) (ha : allow S x = true) : Gd (exec S x) := by
  intro e s hs
  unfold Proofs.YtcadnlilijkneaaGreat.exec at hs
  by_cases he : e = x.e
  · rw [if_pos he] at hs
    subst he
    injection hs with hs
    subst hs
    refine ⟨h.e, h.b, ?_, ?_⟩
    · unfold behind
      cases hk : x.k with
      | true => exact .inr ⟨by simpa using h.b, by simpa using (h.y hk).1, by simpa using (h.y hk).2⟩
      | false =>
        simp only [Bool.false_eq_true, if_false]
        unfold AS.at
        cases hS : S x.e with
        | none => exact .inl ⟨rfl, rfl⟩
        | some s => exact (g x.e s hS).2.a
    · unfold behind
      cases hk : x.k with
      | true => simp only [if_true]; rw [less_false]; omega
      | false =>
        simp only [Bool.false_eq_true, if_false]
        unfold allow at ha
        rw [Bool.not_eq_true'] at ha
        obtain ⟨hb0, hb1, _, hb3, _⟩ := btOk_iff.1 h.b
        unfold AS.at at ha ⊢
        cases hS : S x.e with
        | none => simp only [Option.getD_none, Es.zero]; rw [less_false]; simp only; omega
        | some s =>
          have := (g x.e s hS).2.le
          rw [hS] at ha
          simp only [Option.getD_some] at ha ⊢
          rw [less_false] at this ha ⊢
          omega
  · rw [if_neg he] at hs
    exact g e s hs
theorem at_exec_same (S : AS) (x : Rc) : (exec S x).at x.e = behind (S.at x.e) x := by unfold AS.at exec; rw [if_pos rfl]; rfl
theorem at_exec_other (S : AS) (x : Rc) {e : Nat} (h : e ≠ x.e) : (exec S x).at e = S.at e := by unfold AS.at exec; rw [if_neg h]
inductive Desc : List Rec → AS → Prop
  | nil : Desc [] (fun _ => none)
  | snoc {L : List Rec} {S : AS} {x : Rc} : Desc L S → okA x → allow S x = true → Desc (L ++ [encA x]) (exec S x)
theorem Desc.good {L : List Rec} {S : AS} (h : Desc L S) : Gd S := by
  induction h with
  | nil => exact Gd.zero
  | snoc _ h1 h2 ih => exact ih.exec h1 h2
theorem Desc.okL {L : List Rec} {S : AS} (h : Desc L S) : okL L := by
  induction h with
  | nil => exact okL_nil
  | snoc _ h1 _ ih => exact ih.snoc (encA_ok h1)

def cmF (n : Nat) (F : Nat → Sec) (h h' : Nat) (L L' : List Rec) : Nat → Sec := now (now F (wfM n h h' L L' fun _ => none)) (upd (fun _ => none) 0 (supS h' L'.length (frs L').length))
theorem app_commit {n : Nat} {F : Nat → Sec} {h : Nat} {L : List Rec} {r : Rec} (ho : okR r) (hfit : (frs L).length + 2 + r.length ≤ hsec n * 64) :
    appE n 0 h h L L r = 0 ∧ commitS n (appS n (calm F (fun _ => none) h L) r) = calm (cmF n F h h L (L ++ [r])) (fun _ => none) h (L ++ [r]) := by
  have e1 : appE n 0 h h L L r = 0 := by
    unfold appE
    rw [if_neg (by simpa using ho), if_neg (by simp), if_neg]
    unfold roomN
    simp
    omega
  refine ⟨e1, ?_⟩
  have e2 : appS n (calm F (fun _ => none) h L) r = ⟨F, fun _ => none, h, h, L, L ++ [r], 0⟩ := by
    unfold appS calm appL
    simp only [e1, if_true]
  rw [e2, commit_k0 (by unfold TS.idle idle; simp) rfl]
  rfl
end Go.Proofs.YtcadnlilijkneaaGreat
namespace Go.Proofs.YtcadnlilijkneaaGreat
open Go.RowKit Go.Maps Go.Shelf
set_option linter.unusedVariables false
set_option linter.unusedSimpArgs false

def idR (v : Value) : Option (DataW Value × List MemPlace) := some (.held v, [])
theorem idR_inv {v : Value} {z : DataW Value × List MemPlace} (h : idR v = some z) : z = (.held v, []) := by simpa [idR, eq_comm] using h
theorem nodup_le {l : List Nat} (h : l.Nodup) {N : Nat} (hN : ∀ x ∈ l, x < N) : l.length ≤ N := by
  have hp : l.Perm ((List.range N).filter fun x => decide (x ∈ l)) := (List.perm_ext_iff_of_nodup h (List.nodup_range.filter _)).2 fun x => by
    simp only [List.mem_filter, List.mem_range, decide_eq_true_eq]
    exact ⟨fun hx => ⟨hN x hx, hx⟩, fun hx => hx.2⟩
  rw [hp.length_eq]
  have := List.length_filter_le (fun x => decide (x ∈ l)) (List.range N)
  simpa using this
def updV (V : Nat → Option Value) (a : Nat) (v : Value) : Nat → Option Value := fun x => if x = a then some v else V x
end Go.Proofs.YtcadnlilijkneaaGreat
