/-
  A tape with its disk as a state; contracts of package tape's Step and Commit over it. No claim of their own.
-/
import Derived.Test.YtmpajlpemabniaaGreatZk22
import Derived.Test.YtmpajlpemabniaaGreatZk13
import Derived.Lib.SlBytesConst
import Derived.Test.YtmpajlpemabniaaGreatZk7
import Derived.Test.YtmpajlpemabniaaGreatZk12
namespace Go.Proofs.YtmpajlpemabniaaGreat
open Go.RowKit Go.Shelf Go.Deep Go.Maps
set_option linter.unusedVariables false
set_option linter.unusedSimpArgs false

structure TS where
  F : Nat → Sec
  m : Nat → Option Sec
  h : Nat
  h' : Nat
  L : List Rec
  L' : List Rec
  k : Nat
def TS.idle (S : TS) : Prop := Proofs.YtmpajlpemabniaaGreat.idle S.h S.h' S.L S.L'
instance (S : TS) : Decidable S.idle := by unfold TS.idle; infer_instance
def stepS (n : Nat) (S : TS) : TS :=
  if S.idle then S else
    if S.k = 0 then { S with m := wfM n S.h S.h' S.L S.L' S.m, k := 1 }
    else if S.k = 1 then { S with F := now S.F S.m, m := fun _ => none, k := 2 }
    else if S.k = 2 then { S with m := upd S.m 0 (supS S.h' S.L'.length (frs S.L').length), k := 3 }
    else { S with F := now S.F S.m, m := fun _ => none, h := S.h', L := S.L', k := 0 }
def doneS (S : TS) : Bool := decide (S.idle) || decide (S.k = 3)
def commitS (n : Nat) (S : TS) : TS :=
  if S.idle then S else
    if S.k = 0 then stepS n (stepS n (stepS n (stepS n S)))
    else if S.k = 1 then stepS n (stepS n (stepS n S))
    else if S.k = 2 then stepS n (stepS n S)
    else stepS n S
theorem step_idleS {n : Nat} {S : TS} (h : S.idle) : stepS n S = S := by unfold stepS; rw [if_pos h]
theorem step_keep {n : Nat} {S : TS} (h : ¬ S.idle) (hk : S.k < 3) : ¬ (stepS n S).idle ∧ (stepS n S).k = S.k + 1 := by
  unfold stepS
  rw [if_neg h]
  by_cases h0 : S.k = 0
  · rw [if_pos h0]; exact ⟨h, by show 1 = _; omega⟩
  · rw [if_neg h0]
    by_cases h1 : S.k = 1
    · rw [if_pos h1]; exact ⟨h, by show 2 = _; omega⟩
    · rw [if_neg h1, if_pos (by omega)]; exact ⟨h, by show 3 = _; omega⟩
theorem commit_done {n : Nat} {S : TS} (hd : doneS S = true) : stepS n S = commitS n S := by
  unfold commitS
  by_cases hi : S.idle
  · rw [if_pos hi, step_idleS hi]
  · have hk : S.k = 3 := by
      unfold doneS at hd
      rw [decide_eq_false hi] at hd
      simpa using hd
    rw [if_neg hi, if_neg (by omega), if_neg (by omega), if_neg (by omega)]
theorem commit_more {n : Nat} {S : TS} (hd : doneS S = false) (hk : S.k ≤ 3) : commitS n (stepS n S) = commitS n S ∧ (stepS n S).k = S.k + 1 := by
  unfold doneS at hd
  have hi : ¬ S.idle := by
    intro h
    rw [decide_eq_true h] at hd
    simp at hd
  have h3 : S.k ≠ 3 := by
    intro h
    rw [decide_eq_true h] at hd
    simp at hd
  obtain ⟨h1, h2⟩ := step_keep (n := n) hi (by omega)
  refine ⟨?_, h2⟩
  conv => lhs; unfold commitS
  conv => rhs; unfold commitS
  rw [if_neg h1, if_neg hi, h2]
  by_cases e0 : S.k = 0
  · rw [if_neg (by omega), if_pos (by omega), if_pos e0]
  · by_cases e1 : S.k = 1
    · rw [if_neg (by omega), if_neg (by omega), if_pos (by omega), if_neg e0, if_pos e1]
    · rw [if_neg (by omega), if_neg (by omega), if_neg (by omega), if_neg e0, if_neg e1, if_pos (by omega)]
structure TD (w : World) (l : List Nat) (q p g b n : Nat) (S : TS) : Prop where
  tp : Tp w l q p n S.h S.h' S.L S.L' S.k
  dsk : Dsk w p g b n S.F S.m
  np : p ∉ l
  ng : g ∉ l
  nb : b ∉ l
  three : 3 ≤ n
  lt : ∀ x ∈ l, x < w.heap.size
theorem TpV.norm {w : World} {l : List Nat} {q p n h h' : Nat} {L L' : List Rec} {k : Nat} {vF vE vF' vE' : Value} (t : TpV w l q p n h h' L L' k vF vE vF' vE') : TpV w (q :: (bl vF ++ bl vE ++ bl vF' ++ bl vE')) q p n h h' L L' k vF vE vF' vE' ∧ (∀ x ∈ q :: (bl vF ++ bl vE ++ bl vF' ++ bl vE'), x ∈ l ∧ x < w.heap.size) := by
  refine ⟨⟨t.own, t.fr, t.en, t.fr', t.en', t.alF, t.alE, by simp, ?_, t.half, t.half', t.step, t.ok, t.ok', t.room, t.room', t.pre, t.busy⟩, fun x hx => ?_⟩
  · rintro x (hx | hx | hx | hx) <;> simp [hx]
  · simp only [List.mem_cons, List.mem_append] at hx
    rcases hx with rfl | ((hx | hx) | hx) | hx
    · exact ⟨t.memq, t.own.lt⟩
    · exact ⟨t.memv x (.inl hx), t.fr.bl_lt x hx⟩
    · exact ⟨t.memv x (.inr (.inl hx)), t.en.bl_lt x hx⟩
    · exact ⟨t.memv x (.inr (.inr (.inl hx))), t.fr'.bl_lt x hx⟩
    · exact ⟨t.memv x (.inr (.inr (.inr hx))), t.en'.bl_lt x hx⟩
theorem TD.kept {w w' : World} {l : List Nat} {q p g b n : Nat} {S : TS} (t : TD w l q p g b n S) (hc : Chg [] w w') : TD w' l q p g b n S := ⟨t.tp.kept hc, t.dsk.kept hc, t.np, t.ng, t.nb, t.three, fun x hx => Nat.lt_of_lt_of_le (t.lt x hx) hc.size⟩
theorem TD.chg {w w' : World} {l m : List Nat} {q p g b n : Nat} {S : TS} (t : TD w l q p g b n S) (hc : Chg m w w') (hm : ∀ x ∈ m, x ∉ l ∧ x ≠ p ∧ x ≠ g ∧ x ≠ b) : TD w' l q p g b n S :=
  ⟨t.tp.chg hc (fun x hx => (hm x hx).1), t.dsk.keep hc (fun hx => (hm _ hx).2.1 rfl) (fun hx => (hm _ hx).2.2.1 rfl) (fun hx => (hm _ hx).2.2.2 rfl), t.np, t.ng, t.nb, t.three, fun x hx => Nat.lt_of_lt_of_le (t.lt x hx) hc.size⟩
theorem TD.le3 {w : World} {l : List Nat} {q p g b n : Nat} {S : TS} (t : TD w l q p g b n S) : S.k ≤ 3 := by
  obtain ⟨_, _, _, _, h⟩ := t.tp
  exact h.step
theorem step_TD {w : World} {l : List Nat} {q p g b n : Nat} {S : TS} (t : TD w l q p g b n S) :
    Calls Tryz.prog 116 #[.pointer (some ⟨q, 0, none⟩)] w fun e w' => e = .returned (.tuple #[.bool (doneS S), .int .i64 0]) ∧ Hid (TD w' l q p g b n (stepS n S)) ∧ Chg (l ++ [g, b]) w w' := by
  obtain ⟨F, m, h, h', L, L', k⟩ := S
  obtain ⟨⟨vF, vE, vF', vE', tv⟩, hd, np, ng, nb, h3, hlt⟩ := t
  dsimp only at tv hd
  by_cases hi : idle h h' L L'
  · have e1 : doneS ⟨F, m, h, h', L, L', k⟩ = true := by unfold doneS; rw [decide_eq_true (show TS.idle ⟨F, m, h, h', L, L', k⟩ from hi)]; rfl
    have e2 : stepS n ⟨F, m, h, h', L, L', k⟩ = ⟨F, m, h, h', L, L', k⟩ := step_idleS hi
    rw [e1, e2]
    exact (step_idle tv hd.top hi).mono fun e w' ⟨he, hc⟩ => ⟨he, Lib.hid ⟨⟨_, _, _, _, tv.kept hc⟩, hd.kept hc, np, ng, nb, h3, fun x hx => Nat.lt_of_lt_of_le (hlt x hx) hc.size⟩, hc.mono (by simp)⟩
  · have hni : ¬ TS.idle ⟨F, m, h, h', L, L', k⟩ := hi
    have hk := tv.step
    have e0 : doneS ⟨F, m, h, h', L, L', k⟩ = decide (k = 3) := by unfold doneS; rw [decide_eq_false hni]; rfl
    rw [e0]
    unfold stepS
    rw [if_neg hni]
    dsimp only
    by_cases k0 : k = 0
    · subst k0
      rw [if_pos rfl]
      exact (step_0 tv hd nb ng hi).mono fun e w' ⟨he, hx, hc⟩ => ⟨he, Lib.hid ⟨⟨_, _, _, _, hx.out.2⟩, hx.out.1, np, ng, nb, h3, fun x hx => Nat.lt_of_lt_of_le (hlt x hx) hc.size⟩, hc⟩
    · rw [if_neg k0]
      by_cases k1 : k = 1
      · subst k1
        rw [if_pos rfl]
        exact (step_1 tv hd nb ng hi).mono fun e w' ⟨he, hx, hc⟩ => ⟨he, Lib.hid ⟨⟨_, _, _, _, hx.out.2⟩, hx.out.1, np, ng, nb, h3, fun x hx => Nat.lt_of_lt_of_le (hlt x hx) hc.size⟩, hc⟩
      · rw [if_neg k1]
        by_cases k2 : k = 2
        · subst k2
          rw [if_pos rfl]
          exact (step_2 tv hd nb ng hi).mono fun e w' ⟨he, hx, hc⟩ => ⟨he, Lib.hid ⟨⟨_, _, _, _, hx.out.2⟩, hx.out.1, np, ng, nb, h3, fun x hx => Nat.lt_of_lt_of_le (hlt x hx) hc.size⟩, hc⟩
        · rw [if_neg k2]
          have k3 : k = 3 := by omega
          subst k3
          exact (step_3 tv hd nb ng hi).mono fun e w' ⟨he, hx, hc⟩ => ⟨he, Lib.hid ⟨⟨_, _, _, _, hx.out.2⟩, hx.out.1, np, ng, nb, h3, fun x hx => Nat.lt_of_lt_of_le (hlt x hx) hc.size⟩, hc⟩
def leftN (q : Nat) (w : World) : Nat := match w.cell? ⟨q, 7, none⟩ with
  | some (.int _ z) => 4 - z.toNat
  | _ => 0
theorem left_TD {w : World} {l : List Nat} {q p g b n : Nat} {S : TS} (t : TD w l q p g b n S) : leftN q w = 4 - S.k := by
  obtain ⟨_, _, _, _, tv⟩ := t.tp
  have h := tv.own.cell 7
  unfold leftN
  simp at h
  rw [h]
  simp
theorem commit_TD {w : World} {l : List Nat} {q p g b n : Nat} {S : TS} (t : TD w l q p g b n S) :
    Calls Tryz.prog 59 #[.pointer (some ⟨q, 0, none⟩)] w fun e w' => e = .returned (.int .i64 0) ∧ Hid (TD w' l q p g b n (commitS n S)) ∧ Chg (l ++ [g, b]) w w' := by
  have HT := Lib.hid t
  clear t
  go_enter Tryz.func59, Tryz.ntmps59
  go_wp2_with fail
  go_loopw [3] (fun _ wr => ∃ S', Hid (TD wr l q p g b n S' ∧ commitS n S' = commitS n S) ∧ Chg (l ++ [g, b]) w wr) (fun _ wr => leftN q wr)
  case atStart => exact ⟨S, Lib.hid ⟨HT.out, rfl⟩, Chg.refl _ _⟩
  case round =>
    obtain ⟨S', HS, hc⟩ := hrel
    have HC := Lib.hid hc
    have hst := step_TD HS.out.1
    have HL := Lib.hid (left_TD HS.out.1)
    clear hc
    cases hb : doneS S' with
    | true =>
      rw [hb] at hst
      have HST := Lib.hid hst
      have HE := Lib.hid ((commit_done (n := n) hb).trans HS.out.2)
      clear hst hb
      go_wp2_with (first | (go_at_call 116; refine HST.out.mono ?_; rintro e w2 ⟨rfl, ht2, hc2⟩) | fail)
      go_ret
      rw [HE.out] at ht2
      exact ⟨rfl, ht2, HC.out.trans hc2⟩
    | false =>
      rw [hb] at hst
      have HST := Lib.hid hst
      have HE := Lib.hid (commit_more (n := n) hb HS.out.1.le3)
      have h3 := HS.out.1.le3
      clear hst hb
      go_wp2_with (first | (go_at_call 116; refine HST.out.mono ?_; rintro e w2 ⟨rfl, ht2, hc2⟩; have HC2 := Lib.hid hc2; clear hc2) | fail)
      go_roundw
      case rel => exact ⟨_, Lib.hid ⟨ht2.out, HE.out.1.trans HS.out.2⟩, HC.out.trans HC2.out⟩
      case measure =>
        have h1 := HL.out
        have h2 := left_TD ht2.out
        rw [HE.out.2] at h2
        rw [h1, h2]
        omega
end Go.Proofs.YtmpajlpemabniaaGreat
namespace Go.Proofs.YtmpajlpemabniaaGreat
open Go.RowKit Go.Maps Go.Shelf
set_option linter.unusedVariables false
set_option linter.unusedSimpArgs false

def bls (l : List Bool) : List Value := l.map Value.bool
@[simp] theorem bls_length (l : List Bool) : (bls l).length = l.length := by simp [bls]
theorem Ro.bl {w : World} {B : Nat} {a : Option Addr} {l : List Bool} (h : Ro w B a (bls l)) (hn : 0 < l.length) :
    ∃ b off, a = some ⟨b, off, none⟩ ∧ b < B ∧ ∀ i, i < l.length → w.cell? ⟨b, off + i, none⟩ = some (.bool (l.getD i false)) := by
  obtain ⟨b, off, h1, h2, h3⟩ := h.at_ (by intro e; have e2 := congrArg List.length e; simp only [bls_length, List.length_nil] at e2; omega)
  refine ⟨b, off, h1, h2, fun i hi => ?_⟩
  rw [h3 i (by simpa using hi)]
  simp [bls, List.getD, hi]
def rows (F : Nat → Sec) : Nat → List Value
  | 0 => []
  | n + 1 => rows F n ++ u8s (F n)
end Go.Proofs.YtmpajlpemabniaaGreat
namespace Go.Proofs.YtmpajlpemabniaaGreat
open Go.RowKit Go.Maps Go.Shelf
set_option linter.unusedVariables false
set_option linter.unusedSimpArgs false

end Go.Proofs.YtmpajlpemabniaaGreat
namespace Go.Proofs.YtmpajlpemabniaaGreat
open Go.RowKit
set_option linter.unusedVariables false
set_option linter.unusedSimpArgs false

theorem cat_get {R : Nat → Sec} (hR : ∀ i, (R i).length = 64) (f : Nat) : ∀ n i, i < n * 64 → (cat R f n)[i]? = (R (f + i / 64))[i % 64]?
  | 0, i, h => by omega
  | n + 1, i, h => by
    rw [cat]
    by_cases hi : i < n * 64
    · rw [List.getElem?_append_left (by rw [cat_len hR]; exact hi)]
      exact cat_get hR f n i hi
    · rw [List.getElem?_append_right (by rw [cat_len hR]; omega), cat_len hR, show i / 64 = n from by omega, show i - n * 64 = i % 64 from by omega]
def Has (n : Nat) (R : Nat → Sec) (h : Nat) (B : List UInt8) : Prop := ∀ i, i < B.length → (R (1 + h * hsec n + i / 64))[i % 64]? = B[i]?
theorem has_iff {n : Nat} {R : Nat → Sec} (hR : ∀ i, (R i).length = 64) {h : Nat} {B : List UInt8} (hB : B.length ≤ hsec n * 64) : (halfB n R h).take B.length = B ↔ Has n R h B := by
  unfold halfB
  constructor
  · intro e i hi
    rw [← cat_get hR _ (hsec n) i (by omega)]
    have := congrArg (fun l : List UInt8 => l[i]?) e
    simpa [List.getElem?_take, hi] using this
  · intro e
    refine List.ext_getElem? fun i => ?_
    rw [List.getElem?_take]
    by_cases hi : i < B.length
    · rw [if_pos hi, cat_get hR _ _ i (by omega)]
      exact e i hi
    · rw [if_neg hi, List.getElem?_eq_none (by omega)]
theorem fillS_at (B : List UInt8) (i : Nat) (hi : i < B.length) : (fillS (B.drop (i / 64 * 64)))[i % 64]? = B[i]? := by
  rw [fillS_get _ _ (by omega)]
  have e : i / 64 * 64 + i % 64 = i := by omega
  simp [List.getD, e, hi]
theorem wfM_at (n h h' : Nat) (L L' : List Rec) (m : Nat → Option Sec) (x : Nat) : wfM n h h' L L' m x =
    if 1 + h' * hsec n + fromN h h' L / 64 ≤ x ∧ x < 1 + h' * hsec n + (fromN h h' L / 64 + secN (fromN h h' L) (frs L').length) then some (fillS ((frs L').drop ((x - (1 + h' * hsec n)) * 64))) else m x := by
  unfold wfM
  rw [wrP_range]
  rfl
section
variable {n h h' : Nat} {L L' : List Rec} {F : Nat → Sec}
theorem Opens.mk' {R : Nat → Sec} (hR : ∀ i, (R i).length = 64) (h1 : h ≤ 1) (h2 : okL L) (h3 : (frs L).length ≤ hsec n * 64) (h4 : R 0 = supS h L.length (frs L).length) (h5 : Has n R h (frs L)) : Opens n R h L :=
  ⟨h1, h2, h3, h4, (has_iff hR h3).2 h5⟩
theorem Opens.has {R : Nat → Sec} (hR : ∀ i, (R i).length = 64) (o : Opens n R h L) : Has n R h (frs L) := (has_iff hR o.room).1 o.bytes
theorem now_wf (n h h' : Nat) (L L' : List Rec) (F : Nat → Sec) (x : Nat) : now F (wfM n h h' L L' fun _ => none) x =
    if 1 + h' * hsec n + fromN h h' L / 64 ≤ x ∧ x < 1 + h' * hsec n + (fromN h h' L / 64 + secN (fromN h h' L) (frs L').length) then fillS ((frs L').drop ((x - (1 + h' * hsec n)) * 64)) else F x := by
  unfold now
  rw [wfM_at]
  split <;> rfl
theorem pre_at (hp : h = h' → ∃ W, L' = L ++ W) (e : h = h') {i : Nat} (hi : i < (frs L).length) : (frs L')[i]? = (frs L)[i]? ∧ i < (frs L').length := by
  obtain ⟨W, rfl⟩ := hp e
  rw [frs_append]
  exact ⟨List.getElem?_append_left hi, by rw [List.length_append]; omega⟩
theorem mid_opens {R : Nat → Sec} (hF : ∀ i, (F i).length = 64) (hR : ∀ i, (R i).length = 64) (o : Opens n F h L) (hp : h = h' → ∃ W, L' = L ++ W) (hh : h' ≤ 1) (hr : (frs L').length ≤ hsec n * 64) (hx : ∀ x, R x = F x ∨ R x = now F (wfM n h h' L L' fun _ => none) x) : Opens n R h L := by
  have h0 := o.half
  refine Opens.mk' hR o.half o.ok o.room ?_ fun i hi => ?_
  · rw [← o.sup]
    rcases hx 0 with e | e
    · exact e
    · rw [e, now_wf, if_neg (by omega)]
  · have hF2 := o.has hF i hi
    rcases hx (1 + h * hsec n + i / 64) with e | e
    · rw [e]; exact hF2
    · rw [e, now_wf]
      split
      · rename_i hw
        by_cases hhh : h = h'
        · obtain ⟨p1, p2⟩ := pre_at hp hhh hi
          rw [← hhh, Nat.add_sub_cancel_left, fillS_at _ _ p2, p1]
        · exfalso
          have h3 := o.room
          have hf : fromN h h' L = 0 := by unfold fromN; rw [if_neg hhh]
          rw [hf] at hw
          unfold secN at hw
          have h4 : h = 0 ∧ h' = 1 ∨ h = 1 ∧ h' = 0 := by omega
          rcases h4 with ⟨rfl, rfl⟩ | ⟨rfl, rfl⟩ <;> omega
      · exact hF2
theorem mid_has (hF : ∀ i, (F i).length = 64) (o : Opens n F h L) (hp : h = h' → ∃ W, L' = L ++ W) : Has n (now F (wfM n h h' L L' fun _ => none)) h' (frs L') := by
  intro i hi
  rw [now_wf]
  split
  · rw [Nat.add_sub_cancel_left, fillS_at _ _ hi]
  · rename_i hw
    by_cases hhh : h = h'
    · have hf : fromN h h' L = (frs L).length := by unfold fromN; rw [if_pos hhh]
      rw [hf] at hw
      unfold secN at hw
      have hi2 : i < (frs L).length := by omega
      obtain ⟨p1, _⟩ := pre_at hp hhh hi2
      rw [p1, ← hhh]
      exact o.has hF i hi2
    · have hf : fromN h h' L = 0 := by unfold fromN; rw [if_neg hhh]
      rw [hf] at hw
      unfold secN at hw
      omega
theorem sup_opens {R : Nat → Sec} (hR : ∀ i, (R i).length = 64) (o : Opens n F h L) (hh : Has n F h' (frs L')) (h1 : h' ≤ 1) (h2 : okL L') (h3 : (frs L').length ≤ hsec n * 64) (h4 : R 0 = supS h' L'.length (frs L').length) (h5 : ∀ x, x ≠ 0 → R x = F x) : Opens n R h' L' :=
  Opens.mk' hR h1 h2 h3 h4 fun i hi => by rw [h5 _ (by omega)]; exact hh i hi
end
theorem opens_zero (n : Nat) : Opens n (fun _ => zsec) 0 [] := by
  have hz : zsec = supS 0 0 0 := by decide
  exact ⟨by omega, okL_nil, by simp [frs], hz, by simp [frs]⟩
end Go.Proofs.YtmpajlpemabniaaGreat
namespace Go.Proofs.YtmpajlpemabniaaGreat
open Go.RowKit Go.Deep Go.Shelf
set_option linter.unusedVariables false
set_option linter.unusedSimpArgs false

def calm (F : Nat → Sec) (m : Nat → Option Sec) (h : Nat) (L : List Rec) : TS := ⟨F, m, h, h, L, L, 0⟩
def TDT (w : World) (l : List Nat) (q p g b n : Nat) (S : TS) (w' : World) : Prop := ∃ l', TD w' l' q p g b n S ∧ (∀ x ∈ l', x ∈ l ∨ w.heap.size ≤ x) ∧ Chg l w w'
theorem TpT.td {w w' : World} {l : List Nat} {q p g b n : Nat} {S : TS} {h h' : Nat} {L L' : List Rec} {k : Nat} (t : TD w l q p g b n S) (u : TpT w l q p n h h' L L' k w') : TDT w l q p g b n ⟨S.F, S.m, h, h', L, L', k⟩ w' := by
  obtain ⟨l1, ⟨vF, vE, vF', vE', h1⟩, h21, h3⟩ := u
  obtain ⟨h1, hn⟩ := h1.norm
  have h2 : ∀ x ∈ q :: (bl vF ++ bl vE ++ bl vF' ++ bl vE'), x ∈ l ∨ w.heap.size ≤ x := fun x hx => h21 x (hn x hx).1
  generalize (q :: (bl vF ++ bl vE ++ bl vF' ++ bl vE')) = l' at h1 hn h2
  have np : p ∉ l' := fun hx => by
    rcases h2 p hx with h4 | h4
    · exact t.np h4
    · have := t.dsk.ltp; omega
  have ng : g ∉ l' := fun hx => by
    rcases h2 g hx with h4 | h4
    · exact t.ng h4
    · have := t.dsk.ltg; omega
  have nb : b ∉ l' := fun hx => by
    rcases h2 b hx with h4 | h4
    · exact t.nb h4
    · have := t.dsk.ltb; omega
  exact ⟨l', ⟨⟨_, _, _, _, h1⟩, t.dsk.keep h3 t.np t.ng t.nb, np, ng, nb, t.three, fun x hx => (hn x hx).2⟩, h2, h3⟩
theorem open_at (w : World) {p g b n : Nat} {F : Nat → Sec} {m : Nat → Option Sec} {h : Nat} {L : List Rec} (hd : Dsk w p g b n F m) (hn : 3 ≤ n) (o : Opens n (now F m) h L) :
    Calls Tryz.prog 37 #[.pointer (some ⟨p, 0, none⟩)] w fun e w' => ∃ q l, e = .returned (.tuple #[.pointer (some ⟨q, 0, none⟩), .int .i64 0]) ∧ Hid (TD w' l q p g b n (calm F m h L)) ∧ Hid (∀ x ∈ l, w.heap.size ≤ x) ∧ Chg [] w w' := by
  refine (open_ok w hd hn).mono fun e w' h => ?_
  rcases h with ⟨h2, L2, q, l, o2, he, ht, hl, hc⟩ | ⟨hno, _, _⟩
  · obtain ⟨rfl, rfl⟩ := o2.uniq hd.top o
    obtain ⟨vF, vE, vF', vE', h1⟩ := ht
    obtain ⟨h1, hnn⟩ := h1.norm
    have hl1 : ∀ x ∈ q :: (bl vF ++ bl vE ++ bl vF' ++ bl vE'), w.heap.size ≤ x := fun x hx => hl x (hnn x hx).1
    clear hl
    generalize (q :: (bl vF ++ bl vE ++ bl vF' ++ bl vE')) = l at h1 hnn hl1
    have hl := hl1
    exact ⟨q, l, he, Lib.hid ⟨⟨_, _, _, _, h1⟩, hd.kept hc, fun hx => by have := hl _ hx; have := hd.ltp; omega, fun hx => by have := hl _ hx; have := hd.ltg; omega, fun hx => by have := hl _ hx; have := hd.ltb; omega, hn, fun x hx => (hnn x hx).2⟩, Lib.hid hl, hc⟩
  · exact absurd o (hno _ _)
section
variable {w : World} {l : List Nat} {q p g b n : Nat} {S : TS}
def appS (n : Nat) (S : TS) (r : Rec) : TS := { S with L' := appL n S.k S.h S.h' S.L S.L' r }
theorem append_TD (t : TD w l q p g b n S) (a : Option Addr) (r : Rec) (c B : Nat) (hro : Ro w B a (u8s r)) (hB : B ≤ w.heap.size) (hsep : okR r → ∀ x, a = some x → x.block ∉ l) :
    Calls Tryz.prog 58 #[.pointer (some ⟨q, 0, none⟩), .slice a r.length c] w fun e w' => e = .returned (.int .i64 ((appE n S.k S.h S.h' S.L S.L' r : Nat) : Int)) ∧ Hid (TDT w l q p g b n (appS n S r) w') := by
  obtain ⟨_, _, _, _, tv⟩ := t.tp
  exact (append_tape tv t.dsk a r c B hro hB hsep).mono fun e w' h => ⟨h.1, Lib.hid (TpT.td t h.2)⟩
def replS (n : Nat) (S : TS) (xs : List SB) : TS := { S with h' := replH n S.k S.h S.h' xs, L' := replL n S.k S.L' xs }
theorem replace_TD (t : TD w l q p g b n S) (a : Option Addr) (xs : List SB) (c B : Nat) (hr : RoL w B a xs) (hB : B ≤ w.heap.size) (hs : Sep l a xs) (hl : xs.length ≤ 1000000) :
    Calls Tryz.prog 123 #[.pointer (some ⟨q, 0, none⟩), .slice a xs.length c] w fun e w' => e = .returned (.int .i64 ((replE n S.k xs : Nat) : Int)) ∧ Hid (TDT w l q p g b n (replS n S xs) w') := by
  obtain ⟨_, _, _, _, tv⟩ := t.tp
  exact (replace_tape tv t.dsk a xs c B hr hB hs hl).mono fun e w' h => ⟨h.1, Lib.hid (TpT.td t h.2)⟩
theorem len_TD (t : TD w l q p g b n S) : Calls Tryz.prog 39 #[.pointer (some ⟨q, 0, none⟩)] w fun e w' => e = .returned (.int .i64 ((S.L.length : Nat) : Int)) ∧ Chg [] w w' := by
  obtain ⟨_, _, _, _, tv⟩ := t.tp
  exact len_tape tv
theorem TD.dlt (t : TD w l q p g b n S) : p < w.heap.size ∧ g < w.heap.size ∧ b < w.heap.size := ⟨t.dsk.ltp, t.dsk.ltg, t.dsk.ltb⟩
end
theorem commit_k0 {n : Nat} {S : TS} (hi : ¬ S.idle) (hk : S.k = 0) : commitS n S = ⟨now (now S.F (wfM n S.h S.h' S.L S.L' S.m)) (upd (fun _ => none) 0 (supS S.h' S.L'.length (frs S.L').length)), fun _ => none, S.h', S.h', S.L', S.L', 0⟩ := by
  unfold commitS
  rw [if_neg hi, if_pos hk]
  have e1 : stepS n S = ⟨S.F, wfM n S.h S.h' S.L S.L' S.m, S.h, S.h', S.L, S.L', 1⟩ := by unfold stepS; rw [if_neg hi, if_pos hk]
  have e2 : stepS n ⟨S.F, wfM n S.h S.h' S.L S.L' S.m, S.h, S.h', S.L, S.L', 1⟩ = ⟨now S.F (wfM n S.h S.h' S.L S.L' S.m), fun _ => none, S.h, S.h', S.L, S.L', 2⟩ := by
    unfold stepS; rw [if_neg (show ¬ TS.idle ⟨S.F, wfM n S.h S.h' S.L S.L' S.m, S.h, S.h', S.L, S.L', 1⟩ from hi), if_neg (by simp), if_pos rfl]
  have e3 : stepS n ⟨now S.F (wfM n S.h S.h' S.L S.L' S.m), fun _ => none, S.h, S.h', S.L, S.L', 2⟩ = ⟨now S.F (wfM n S.h S.h' S.L S.L' S.m), upd (fun _ => none) 0 (supS S.h' S.L'.length (frs S.L').length), S.h, S.h', S.L, S.L', 3⟩ := by
    unfold stepS; rw [if_neg (show ¬ TS.idle ⟨now S.F (wfM n S.h S.h' S.L S.L' S.m), fun _ => none, S.h, S.h', S.L, S.L', 2⟩ from hi), if_neg (by simp), if_neg (by simp), if_pos rfl]
  have e4 : stepS n ⟨now S.F (wfM n S.h S.h' S.L S.L' S.m), upd (fun _ => none) 0 (supS S.h' S.L'.length (frs S.L').length), S.h, S.h', S.L, S.L', 3⟩ = ⟨now (now S.F (wfM n S.h S.h' S.L S.L' S.m)) (upd (fun _ => none) 0 (supS S.h' S.L'.length (frs S.L').length)), fun _ => none, S.h', S.h', S.L', S.L', 0⟩ := by
    unfold stepS; rw [if_neg (show ¬ TS.idle ⟨now S.F (wfM n S.h S.h' S.L S.L' S.m), upd (fun _ => none) 0 (supS S.h' S.L'.length (frs S.L').length), S.h, S.h', S.L, S.L', 3⟩ from hi), if_neg (by simp), if_neg (by simp), if_neg (by simp)]
  rw [e1, e2, e3, e4]
end Go.Proofs.YtmpajlpemabniaaGreat
namespace Go.Proofs.YtmpajlpemabniaaGreat
open Go.RowKit
set_option linter.unusedVariables false
set_option linter.unusedSimpArgs false

def packL (l : List Int) (vs : List Nat) : List UInt8 := (List.range (((nat l).sum + 7) / 8)).map fun i => UInt8.ofNat (nm (fun j => (packB (nat l) vs).getD (8 * i + j) false) 8)
theorem packL_to (l : List Bool) (i : Nat) : IsBytesTo l ((List.range i).map fun i => UInt8.ofNat (nm (fun j => l.getD (8 * i + j) false) 8)) i := by
  induction i with
  | zero => exact IsBytesTo.start l
  | succ i ih =>
    rw [List.range_succ, List.map_append]
    exact ih.step
theorem packL_is {l : List Int} {vs : List Nat} (h : l.length = vs.length) : IsPack l vs (packL l vs) := by
  refine isPack_of_bytes h ((packL_to _ _).stop ?_)
  rw [packB_length _ _ (by simpa using h)]
@[simp] theorem packL_len (l : List Int) (vs : List Nat) : (packL l vs).length = ((nat l).sum + 7) / 8 := by simp [packL]
def encC (c : Ce) : List UInt8 := if c.k = 2 then [2] else packL (wid c.b.length) (vals c) ++ c.d
theorem encC_is {c : Ce} (h : right c = true) : IsEnc c (encC c) := by
  unfold encC
  rcases right_kind h with k | k
  · rw [if_neg (by omega)]
    exact .inr ⟨k, _, packL_is (packOk_vals h k).2.1, rfl⟩
  · rw [if_pos k]
    exact .inl ⟨k, rfl⟩
theorem right_fit {c : Ce} (h : right c = true) : ∀ b ∈ c.b, FitB b := by
  intro b hb
  rcases right_kind h with k | k
  · obtain ⟨_, _, hx⟩ := right_data h k
    obtain ⟨i, hi, rfl⟩ := List.getElem_of_mem hb
    have h1 := backsOk_at hx i hi
    have e : bk c.b i = c.b[i] := by simp [bk, List.getD, hi]
    rw [e] at h1
    obtain ⟨h2, h3⟩ := lastOk_iff.1 h1.2.2.2
    refine ⟨by omega, by omega, by omega, by omega⟩
  · rw [right_junk h k] at hb
    cases hb

structure Rc where
  k : Nat
  n : Nat
  t : Nat
  c : Ce
def zCe : Ce := ⟨0, [], []⟩
def wid3 (k : Nat) : List Int := if k = 2 then [3, 20, 0] else if k = 4 then [3, 21, 21] else [3, 21, 0]
structure okN (r : Rc) : Prop where
  k1 : 1 ≤ r.k
  k5 : r.k ≤ 5
  n : r.n < if r.k = 2 then 1048576 else 2097152
  t4 : r.k = 4 → r.t < 2097152
  t0 : r.k ≠ 4 → r.t = 0
  c2 : r.k = 2 → right r.c = true
  c0 : r.k ≠ 2 → r.c = zCe
def encR (r : Rc) : List UInt8 := packL (wid3 r.k) [r.k, r.n, r.t] ++ if r.k = 2 then encC r.c else []
theorem wid3_len (k : Nat) : (wid3 k).length = 3 := by unfold wid3; by_cases h2 : k = 2 <;> by_cases h4 : k = 4 <;> simp [h2, h4, nat]
theorem wid3_sum (k : Nat) : (nat (wid3 k)).sum = if k = 2 then 23 else if k = 4 then 45 else 24 := by unfold wid3; by_cases h2 : k = 2 <;> by_cases h4 : k = 4 <;> simp [h2, h4, nat]
theorem wid3_bytes (k : Nat) : ((nat (wid3 k)).sum + 7) / 8 = if k = 4 then 6 else 3 := by
  rw [wid3_sum]
  by_cases h2 : k = 2
  · subst h2; rfl
  · rw [if_neg h2]
    split <;> rfl
theorem wid3_span (k : Nat) : (spanOf (wid3 k)).isSome := by unfold wid3; by_cases h2 : k = 2 <;> by_cases h4 : k = 4 <;> simp [h2, h4, spanOf]
theorem okN.pack {r : Rc} (h : okN r) : PackOk (wid3 r.k) [r.k, r.n, r.t] := by
  refine ⟨wid3_span _, by rw [wid3_len]; rfl, fun i hi => ?_⟩
  rw [wid3_len] at hi
  have hk1 := h.k1
  have hk5 := h.k5
  have hn := h.n
  have ht := h.t4
  have h0 := h.t0
  have hi' : i = 0 ∨ i = 1 ∨ i = 2 := by omega
  unfold wid3
  by_cases k2 : r.k = 2
  · rw [if_pos k2] at hn ⊢
    rcases hi' with rfl | rfl | rfl
    · show r.k < 2 ^ 3; omega
    · show r.n < 2 ^ 20; omega
    · show r.t < 2 ^ 0; rw [h0 (by omega)]; decide
  · rw [if_neg k2] at hn ⊢
    by_cases k4 : r.k = 4
    · rw [if_pos k4]
      rcases hi' with rfl | rfl | rfl
      · show r.k < 2 ^ 3; omega
      · show r.n < 2 ^ 21; omega
      · show r.t < 2 ^ 21; have := ht k4; omega
    · rw [if_neg k4]
      rcases hi' with rfl | rfl | rfl
      · show r.k < 2 ^ 3; omega
      · show r.n < 2 ^ 21; omega
      · show r.t < 2 ^ 0; rw [h0 k4]; decide
theorem encC_len {c : Ce} (h : right c = true) : 1 ≤ (encC c).length ∧ (encC c).length ≤ 130 := by
  rcases enc_length (encC_is h) h with ⟨_, h1⟩ | ⟨h0, h1, _⟩
  · omega
  · obtain ⟨h2, h3, _⟩ := right_data h h0
    omega
theorem encR_len {r : Rc} : (encR r).length = (if r.k = 4 then 6 else 3) + if r.k = 2 then (encC r.c).length else 0 := by
  unfold encR
  rw [List.length_append, packL_len, wid3_bytes]
  by_cases h2 : r.k = 2 <;> simp [h2]
theorem encR_ok {r : Rc} (h : okN r) : okR (encR r) := by
  unfold okR
  rw [encR_len]
  by_cases k2 : r.k = 2
  · have := encC_len (h.c2 k2)
    rw [if_pos k2]
    split <;> omega
  · rw [if_neg k2]
    split <;> omega

structure PS where
  ep : Nat
  op : Nat
  mr : Nat
  T : List Rn
  m : Nat → Option Ce
theorem PS.ext' {S U : PS} (h1 : S.ep = U.ep) (h2 : S.op = U.op) (h3 : S.mr = U.mr) (h4 : S.T = U.T) (h5 : S.m = U.m) : S = U := by cases S; cases U; simp_all
def PS.zero : PS := ⟨0, 0, 0, [], fun _ => none⟩
def PS.tr (S : PS) (a : Nat) : Bool := decide (a < S.mr) || mem S.T a
def updC (m : Nat → Option Ce) (a : Nat) (c : Ce) : Nat → Option Ce := fun x => if x = a then some c else m x
def rmC (m : Nat → Option Ce) (f t : Nat) : Nat → Option Ce := fun x => if f ≤ x ∧ x < t then none else m x
def exec (S : PS) (r : Rc) : PS :=
  if r.k = 1 then { S with ep := r.n } else
  if r.k = 2 then { S with m := updC S.m r.n r.c } else
  if r.k = 3 then { S with mr := r.n, T := cutL S.T (0, r.n), m := rmC S.m 0 r.n } else
  if r.k = 4 then { S with T := putL S.T (max r.n S.mr, r.t), m := rmC S.m r.n r.t } else
  if r.k = 5 then { S with op := r.n } else S
def allow (S : PS) (r : Rc) : Bool :=
  if r.k = 1 then decide (S.ep ≤ r.n ∧ r.n ≤ 1048576) else
  if r.k = 2 then !S.tr r.n && (S.m r.n).isNone else
  if r.k = 3 then decide (S.mr ≤ r.n ∧ r.n ≤ 1048576) else
  if r.k = 4 then decide (r.n < r.t ∧ r.t ≤ 1048576) else
  if r.k = 5 then decide (S.op ≤ r.n ∧ r.n ≤ 1048576) else false
structure Gd (S : PS) : Prop where
  nf : NF S.T
  lo : ∀ r ∈ S.T, S.mr ≤ r.1
  hi : ∀ r ∈ S.T, r.2 ≤ 1048576
  ep : S.ep ≤ 1048576
  op : S.op ≤ 1048576
  mr : S.mr ≤ 1048576
  cell : ∀ a c, S.m a = some c → a < 1048576 ∧ right c = true ∧ S.tr a = false
theorem Gd.zero : Gd PS.zero := ⟨trivial, (fun r h => by cases h), (fun r h => by cases h), Nat.zero_le _, Nat.zero_le _, Nat.zero_le _, (fun a c h => by cases h)⟩
theorem tr_false {S : PS} {a : Nat} : S.tr a = false ↔ S.mr ≤ a ∧ mem S.T a = false := by
  unfold PS.tr
  rw [Bool.or_eq_false_iff, decide_eq_false_iff_not, Nat.not_lt]
theorem tr_true {S : PS} {a : Nat} : S.tr a = true ↔ a < S.mr ∨ mem S.T a = true := by
  unfold PS.tr
  rw [Bool.or_eq_true, decide_eq_true_eq]
theorem rmC_some {m : Nat → Option Ce} {f t a : Nat} {c : Ce} (h : rmC m f t a = some c) : m a = some c ∧ ¬ (f ≤ a ∧ a < t) := by
  unfold rmC at h
  split at h
  · cases h
  · rename_i hn; exact ⟨h, hn⟩
theorem cutL_lo {L : List Rn} (h : NF L) (n : Nat) : ∀ r ∈ cutL L (0, n), n ≤ r.1 := by
  intro r hr
  obtain ⟨h1, h2⟩ := cutL_ok h (0, n)
  have hne := h1.nonempty r hr
  have h3 := h2 r.1
  rw [mem_iff.2 ⟨r, hr, Nat.le_refl _, hne⟩] at h3
  have h4 : inR (0, n) r.1 = false := by
    cases hx : inR (0, n) r.1 with
    | false => rfl
    | true => rw [hx] at h3; simp at h3
  have := inR_false.1 h4
  simp only at this
  omega
theorem cutL_hi {L : List Rn} (h : NF L) (r : Rn) {E : Nat} (hL : ∀ x ∈ L, x.2 ≤ E) : ∀ x ∈ cutL L r, x.2 ≤ E :=
  bound_of_mem (cutL_ok h r).1 (fun n hn => by rw [(cutL_ok h r).2, Bool.and_eq_true] at hn; exact hn.1) hL
theorem putL_hi {L : List Rn} (h : NF L) (r : Rn) {E : Nat} (hL : ∀ x ∈ L, x.2 ≤ E) (hE : r.2 ≤ E) : ∀ x ∈ putL L r, x.2 ≤ E := by
  unfold putL
  by_cases hr : r.1 < r.2
  · rw [if_pos hr]; exact addL_bound h hr hL hE
  · rw [if_neg hr]; exact hL
theorem putL_lo {L : List Rn} (h : NF L) (r : Rn) {E : Nat} (hL : ∀ x ∈ L, E ≤ x.1) (hE : E ≤ r.1) : ∀ x ∈ putL L r, E ≤ x.1 := by
  intro x hx
  obtain ⟨h1, h2⟩ := putL_ok h r
  have hne := h1.nonempty x hx
  have h3 := h2 x.1
  rw [mem_iff.2 ⟨x, hx, Nat.le_refl _, hne⟩] at h3
  have h3' := h3.symm
  rw [Bool.or_eq_true] at h3'
  rcases h3' with h4 | h4
  · obtain ⟨y, hy, h5, _⟩ := mem_iff.1 h4
    have := hL y hy
    omega
  · have := (inR_iff.1 h4).1
    omega
theorem Gd.exec {S : PS} {r : Rc} (g : Gd S) (h : okN r) (ha : allow S r = true) : Gd (exec S r) := by
  have hk1 := h.k1
  have hk5 := h.k5
  unfold allow at ha
  unfold Proofs.YtmpajlpemabniaaGreat.exec
  by_cases k1 : r.k = 1
  · rw [if_pos k1] at ha ⊢
    have := of_decide_eq_true ha
    exact ⟨g.nf, g.lo, g.hi, this.2, g.op, g.mr, g.cell⟩
  · rw [if_neg k1] at ha ⊢
    by_cases k2 : r.k = 2
    · rw [if_pos k2] at ha ⊢
      rw [Bool.and_eq_true, Bool.not_eq_true'] at ha
      have hn := h.n
      rw [if_pos k2] at hn
      refine ⟨g.nf, g.lo, g.hi, g.ep, g.op, g.mr, fun a c hc => ?_⟩
      unfold updC at hc
      simp only at hc
      split at hc
      · rename_i e
        subst e
        cases hc
        exact ⟨hn, h.c2 k2, ha.1⟩
      · exact g.cell a c hc
    · rw [if_neg k2] at ha ⊢
      by_cases k3 : r.k = 3
      · rw [if_pos k3] at ha ⊢
        have hd := of_decide_eq_true ha
        refine ⟨(cutL_ok g.nf _).1, cutL_lo g.nf _, cutL_hi g.nf _ g.hi, g.ep, g.op, hd.2, fun a c hc => ?_⟩
        obtain ⟨h1, h2⟩ := rmC_some hc
        obtain ⟨h3, h4, h5⟩ := g.cell a c h1
        refine ⟨h3, h4, tr_false.2 ⟨by simp only; omega, ?_⟩⟩
        rw [(cutL_ok g.nf _).2, (tr_false.1 h5).2]
        rfl
      · rw [if_neg k3] at ha ⊢
        by_cases k4 : r.k = 4
        · rw [if_pos k4] at ha ⊢
          have hd := of_decide_eq_true ha
          refine ⟨(putL_ok g.nf _).1, putL_lo g.nf _ g.lo (Nat.le_max_right _ _), putL_hi g.nf _ g.hi hd.2, g.ep, g.op, g.mr, fun a c hc => ?_⟩
          obtain ⟨h1, h2⟩ := rmC_some hc
          obtain ⟨h3, h4, h5⟩ := g.cell a c h1
          obtain ⟨h6, h7⟩ := tr_false.1 h5
          refine ⟨h3, h4, tr_false.2 ⟨h6, ?_⟩⟩
          rw [(putL_ok g.nf _).2, h7, Bool.false_or]
          refine inR_false.2 fun hx => h2 ?_
          simp only at hx
          omega
        · rw [if_neg k4] at ha ⊢
          have k5 : r.k = 5 := by omega
          rw [if_pos k5] at ha ⊢
          have := of_decide_eq_true ha
          exact ⟨g.nf, g.lo, g.hi, g.ep, this.2, g.mr, g.cell⟩

noncomputable def maxA : Nat := Classical.choose (⟨1048576, rfl⟩ : ∃ n : Nat, n = 1048576)
theorem maxA_eq : maxA = 1048576 := Classical.choose_spec (⟨1048576, rfl⟩ : ∃ n : Nat, n = 1048576)
noncomputable def addrs (m : Nat → Option Ce) : List Nat := (List.range maxA).filter fun a => (m a).isSome
theorem mem_addrs {m : Nat → Option Ce} {a : Nat} : a ∈ addrs m ↔ a < 1048576 ∧ (m a).isSome = true := by simp [addrs, maxA_eq]
theorem addrs_nodup (m : Nat → Option Ce) : (addrs m).Nodup := List.nodup_range.filter _
theorem addrs_sorted (m : Nat → Option Ce) : (addrs m).Pairwise (· < ·) := List.Pairwise.filter _ List.pairwise_lt_range
def one0 (k n : Nat) : List Rc := if n = 0 then [] else [⟨k, n, 0, zCe⟩]
def tRc (r : Rn) : Rc := ⟨4, r.1, r.2, zCe⟩
def cRc (m : Nat → Option Ce) (a : Nat) : Rc := ⟨2, a, 0, (m a).getD zCe⟩
noncomputable def allR' (S : PS) : List Rc := one0 1 S.ep ++ one0 5 S.op ++ one0 3 S.mr ++ S.T.map tRc ++ (addrs S.m).map (cRc S.m)
noncomputable def all (S : PS) : List Rec := (allR' S).map encR

inductive Desc : List Rec → PS → Prop
  | nil : Desc [] PS.zero
  | snoc {L : List Rec} {S : PS} {r : Rc} : Desc L S → okN r → allow S r = true → Desc (L ++ [encR r]) (exec S r)
theorem Desc.good {L : List Rec} {S : PS} (h : Desc L S) : Gd S := by
  induction h with
  | nil => exact Gd.zero
  | snoc _ h1 h2 ih => exact ih.exec h1 h2
theorem Desc.okL {L : List Rec} {S : PS} (h : Desc L S) : okL L := by
  induction h with
  | nil => exact okL_nil
  | snoc _ h1 _ ih => exact ih.snoc (encR_ok h1)
theorem filter_le {p q : Nat → Bool} (h : ∀ a, p a = true → q a = true) (l : List Nat) : (l.filter p).length ≤ (l.filter q).length := by
  rw [← List.countP_eq_length_filter, ← List.countP_eq_length_filter]
  exact List.countP_mono_left fun x _ => h x
theorem filter_one {p q : Nat → Bool} (a : Nat) (h : ∀ x, x ≠ a → p x = q x) : ∀ l : List Nat, l.Nodup → (l.filter q).length ≤ (l.filter p).length + 1
  | [], _ => by simp
  | x :: l, hn => by
    obtain ⟨h1, h2⟩ := List.nodup_cons.1 hn
    by_cases e : x = a
    · subst e
      have hc : l.filter q = l.filter p := List.filter_congr fun y hy => (h y (fun e => h1 (e ▸ hy))).symm
      rw [List.filter_cons, List.filter_cons, hc]
      split <;> split <;> (try simp only [List.length_cons]) <;> omega
    · have ih := filter_one a h l h2
      rw [List.filter_cons, List.filter_cons, h x e]
      split
      · simp only [List.length_cons]; omega
      · exact ih
theorem addrs_upd (m : Nat → Option Ce) (a : Nat) (c : Ce) : (addrs (updC m a c)).length ≤ (addrs m).length + 1 := by
  refine filter_one a (fun x hx => ?_) _ List.nodup_range
  unfold updC
  rw [if_neg hx]
theorem addrs_rm (m : Nat → Option Ce) (f t : Nat) : (addrs (rmC m f t)).length ≤ (addrs m).length := by
  refine filter_le (fun a h => ?_) _
  obtain ⟨c, hc⟩ := Option.isSome_iff_exists.1 h
  rw [(rmC_some hc).1]
  rfl
theorem Desc.size {L : List Rec} {S : PS} (h : Desc L S) : S.T.length ≤ L.length ∧ (addrs S.m).length ≤ L.length := by
  induction h with
  | nil => exact ⟨by simp [PS.zero], by simp [PS.zero, addrs]⟩
  | @snoc L S r hd h1 h2 ih =>
    have g := hd.good
    rw [List.length_append, List.length_singleton]
    unfold exec
    split
    · exact ⟨by simp only; omega, by simp only; omega⟩
    · split
      · have := addrs_upd S.m r.n r.c
        exact ⟨by simp only; omega, by simp only; omega⟩
      · split
        · have := addrs_rm S.m 0 r.n
          have := cutL_len g.nf (0, r.n)
          exact ⟨by simp only; omega, by simp only; omega⟩
        · split
          · have := addrs_rm S.m r.n r.t
            have := putL_len g.nf (max r.n S.mr, r.t)
            exact ⟨by simp only; omega, by simp only; omega⟩
          · split <;> exact ⟨by (try simp only); omega, by (try simp only); omega⟩
end Go.Proofs.YtmpajlpemabniaaGreat
