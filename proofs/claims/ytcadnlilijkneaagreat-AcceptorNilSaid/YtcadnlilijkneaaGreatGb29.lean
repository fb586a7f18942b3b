/-
  A tape with its disk as a state; contracts of package tape's Step and Commit over it. No claim of their own.
-/
import Derived.Test.YtcadnlilijkneaaGreatGb28
import Derived.Test.YtcadnlilijkneaaGreatGb7
namespace Go.Proofs.YtcadnlilijkneaaGreat
open Go.RowKit Go.Shelf Go.Deep Go.Maps
set_option linter.unusedVariables false
set_option linter.unusedSimpArgs false

structure TS where
  F : Nat → Sec
  m : Nat → Option Sec
  h : Nat
  h' : Nat
  L : List Rec
  L' : List Rec
  k : Nat
def TS.idle (S : TS) : Prop := Proofs.YtcadnlilijkneaaGreat.idle S.h S.h' S.L S.L'
instance (S : TS) : Decidable S.idle := by unfold TS.idle; infer_instance
def stepS (n : Nat) (S : TS) : TS :=
  if S.idle then S else
    if S.k = 0 then { S with m := wfM n S.h S.h' S.L S.L' S.m, k := 1 }
    else if S.k = 1 then { S with F := now S.F S.m, m := fun _ => none, k := 2 }
    else if S.k = 2 then { S with m := upd S.m 0 (supS S.h' S.L'.length (frs S.L').length), k := 3 }
    else { S with F := now S.F S.m, m := fun _ => none, h := S.h', L := S.L', k := 0 }
def doneS (S : TS) : Bool := decide (S.idle) || decide (S.k = 3)
def commitS (n : Nat) (S : TS) : TS :=
  if S.idle then S else
    if S.k = 0 then stepS n (stepS n (stepS n (stepS n S)))
    else if S.k = 1 then stepS n (stepS n (stepS n S))
    else if S.k = 2 then stepS n (stepS n S)
    else stepS n S
theorem step_idleS {n : Nat} {S : TS} (h : S.idle) : stepS n S = S := by unfold stepS; rw [if_pos h]
theorem step_keep {n : Nat} {S : TS} (h : ¬ S.idle) (hk : S.k < 3) : ¬ (stepS n S).idle ∧ (stepS n S).k = S.k + 1 := by
  unfold stepS
  rw [if_neg h]
  by_cases h0 : S.k = 0
  · rw [if_pos h0]; exact ⟨h, by show 1 = _; omega⟩
  · rw [if_neg h0]
    by_cases h1 : S.k = 1
    · rw [if_pos h1]; exact ⟨h, by show 2 = _; omega⟩
    · rw [if_neg h1, if_pos (by omega)]; exact ⟨h, by show 3 = _; omega⟩
theorem commit_done {n : Nat} {S : TS} (hd : doneS S = true) : stepS n S = commitS n S := by
  unfold commitS
  by_cases hi : S.idle
  · rw [if_pos hi, step_idleS hi]
  · have hk : S.k = 3 := by
      unfold doneS at hd
      rw [decide_eq_false hi] at hd
      simpa using hd
    rw [if_neg hi, if_neg (by omega), if_neg (by omega), if_neg (by omega)]
theorem commit_more {n : Nat} {S : TS} (hd : doneS S = false) (hk : S.k ≤ 3) : commitS n (stepS n S) = commitS n S ∧ (stepS n S).k = S.k + 1 := by
  unfold doneS at hd
  have hi : ¬ S.idle := by
    intro h
    rw [decide_eq_true h] at hd
    simp at hd
  have h3 : S.k ≠ 3 := by
    intro h
    rw [decide_eq_true h] at hd
    simp at hd
  obtain ⟨h1, h2⟩ := step_keep (n := n) hi (by omega)
  refine ⟨?_, h2⟩
  conv => lhs; unfold commitS
  conv => rhs; unfold commitS
  rw [if_neg h1, if_neg hi, h2]
  by_cases e0 : S.k = 0
  · rw [if_neg (by omega), if_pos (by omega), if_pos e0]
  · by_cases e1 : S.k = 1
    · rw [if_neg (by omega), if_neg (by omega), if_pos (by omega), if_neg e0, if_pos e1]
    · rw [if_neg (by omega), if_neg (by omega), if_neg (by omega), if_neg e0, if_neg e1, if_pos (by omega)]
structure TD (w : World) (l : List Nat) (q p g b n : Nat) (S : TS) : Prop where
  tp : Tp w l q p n S.h S.h' S.L S.L' S.k
  dsk : Dsk w p g b n S.F S.m
  np : p ∉ l
  ng : g ∉ l
  nb : b ∉ l
  three : 3 ≤ n
  lt : ∀ x ∈ l, x < w.heap.size
theorem TpV.norm {w : World} {l : List Nat} {q p n h h' : Nat} {L L' : List Rec} {k : Nat} {vF vE vF' vE' : Value} (t : TpV w l q p n h h' L L' k vF vE vF' vE') : TpV w (q :: (bl vF ++ bl vE ++ bl vF' ++ bl vE')) q p n h h' L L' k vF vE vF' vE' ∧ (∀ x ∈ q :: (bl vF ++ bl vE ++ bl vF' ++ bl vE'), x ∈ l ∧ x < w.heap.size) := by
  refine ⟨⟨t.own, t.fr, t.en, t.fr', t.en', t.alF, t.alE, by simp, ?_, t.half, t.half', t.step, t.ok, t.ok', t.room, t.room', t.pre, t.busy⟩, fun x hx => ?_⟩
  · rintro x (hx | hx | hx | hx) <;> simp [hx]
  · simp only [List.mem_cons, List.mem_append] at hx
    rcases hx with rfl | ((hx | hx) | hx) | hx
    · exact ⟨t.memq, t.own.lt⟩
    · exact ⟨t.memv x (.inl hx), t.fr.bl_lt x hx⟩
    · exact ⟨t.memv x (.inr (.inl hx)), t.en.bl_lt x hx⟩
    · exact ⟨t.memv x (.inr (.inr (.inl hx))), t.fr'.bl_lt x hx⟩
    · exact ⟨t.memv x (.inr (.inr (.inr hx))), t.en'.bl_lt x hx⟩
theorem TD.kept {w w' : World} {l : List Nat} {q p g b n : Nat} {S : TS} (t : TD w l q p g b n S) (hc : Chg [] w w') : TD w' l q p g b n S := ⟨t.tp.kept hc, t.dsk.kept hc, t.np, t.ng, t.nb, t.three, fun x hx => Nat.lt_of_lt_of_le (t.lt x hx) hc.size⟩
theorem TD.chg {w w' : World} {l m : List Nat} {q p g b n : Nat} {S : TS} (t : TD w l q p g b n S) (hc : Chg m w w') (hm : ∀ x ∈ m, x ∉ l ∧ x ≠ p ∧ x ≠ g ∧ x ≠ b) : TD w' l q p g b n S :=
  ⟨t.tp.chg hc (fun x hx => (hm x hx).1), t.dsk.keep hc (fun hx => (hm _ hx).2.1 rfl) (fun hx => (hm _ hx).2.2.1 rfl) (fun hx => (hm _ hx).2.2.2 rfl), t.np, t.ng, t.nb, t.three, fun x hx => Nat.lt_of_lt_of_le (t.lt x hx) hc.size⟩
theorem TD.le3 {w : World} {l : List Nat} {q p g b n : Nat} {S : TS} (t : TD w l q p g b n S) : S.k ≤ 3 := by
  obtain ⟨_, _, _, _, h⟩ := t.tp
  exact h.step
theorem step_TD {w : World} {l : List Nat} {q p g b n : Nat} {S : TS} (t : TD w l q p g b n S) :
    Calls Tryz.prog 146 #[.pointer (some ⟨q, 0, none⟩)] w fun e w' => e = .returned (.tuple #[.bool (doneS S), .int .i64 0]) ∧ Hid (TD w' l q p g b n (stepS n S)) ∧ Chg (l ++ [g, b]) w w' := by
  obtain ⟨F, m, h, h', L, L', k⟩ := S
  obtain ⟨⟨vF, vE, vF', vE', tv⟩, hd, np, ng, nb, h3, hlt⟩ := t
  dsimp only at tv hd
  by_cases hi : idle h h' L L'
  · have e1 : doneS ⟨F, m, h, h', L, L', k⟩ = true := by unfold doneS; rw [decide_eq_true (show TS.idle ⟨F, m, h, h', L, L', k⟩ from hi)]; rfl
    have e2 : stepS n ⟨F, m, h, h', L, L', k⟩ = ⟨F, m, h, h', L, L', k⟩ := step_idleS hi
    rw [e1, e2]
    exact (step_idle tv hd.top hi).mono fun e w' ⟨he, hc⟩ => ⟨he, Lib.hid ⟨⟨_, _, _, _, tv.kept hc⟩, hd.kept hc, np, ng, nb, h3, fun x hx => Nat.lt_of_lt_of_le (hlt x hx) hc.size⟩, hc.mono (by simp)⟩
  · have hni : ¬ TS.idle ⟨F, m, h, h', L, L', k⟩ := hi
    have hk := tv.step
    have e0 : doneS ⟨F, m, h, h', L, L', k⟩ = decide (k = 3) := by unfold doneS; rw [decide_eq_false hni]; rfl
    rw [e0]
    unfold stepS
    rw [if_neg hni]
    dsimp only
    by_cases k0 : k = 0
    · subst k0
      rw [if_pos rfl]
      exact (step_0 tv hd nb ng hi).mono fun e w' ⟨he, hx, hc⟩ => ⟨he, Lib.hid ⟨⟨_, _, _, _, hx.out.2⟩, hx.out.1, np, ng, nb, h3, fun x hx => Nat.lt_of_lt_of_le (hlt x hx) hc.size⟩, hc⟩
    · rw [if_neg k0]
      by_cases k1 : k = 1
      · subst k1
        rw [if_pos rfl]
        exact (step_1 tv hd nb ng hi).mono fun e w' ⟨he, hx, hc⟩ => ⟨he, Lib.hid ⟨⟨_, _, _, _, hx.out.2⟩, hx.out.1, np, ng, nb, h3, fun x hx => Nat.lt_of_lt_of_le (hlt x hx) hc.size⟩, hc⟩
      · rw [if_neg k1]
        by_cases k2 : k = 2
        · subst k2
          rw [if_pos rfl]
          exact (step_2 tv hd nb ng hi).mono fun e w' ⟨he, hx, hc⟩ => ⟨he, Lib.hid ⟨⟨_, _, _, _, hx.out.2⟩, hx.out.1, np, ng, nb, h3, fun x hx => Nat.lt_of_lt_of_le (hlt x hx) hc.size⟩, hc⟩
        · rw [if_neg k2]
          have k3 : k = 3 := by omega
          subst k3
          exact (step_3 tv hd nb ng hi).mono fun e w' ⟨he, hx, hc⟩ => ⟨he, Lib.hid ⟨⟨_, _, _, _, hx.out.2⟩, hx.out.1, np, ng, nb, h3, fun x hx => Nat.lt_of_lt_of_le (hlt x hx) hc.size⟩, hc⟩
def leftN (q : Nat) (w : World) : Nat := match w.cell? ⟨q, 7, none⟩ with
  | some (.int _ z) => 4 - z.toNat
  | _ => 0
theorem left_TD {w : World} {l : List Nat} {q p g b n : Nat} {S : TS} (t : TD w l q p g b n S) : leftN q w = 4 - S.k := by
  obtain ⟨_, _, _, _, tv⟩ := t.tp
  have h := tv.own.cell 7
  unfold leftN
  simp at h
  rw [h]
  simp
theorem commit_TD {w : World} {l : List Nat} {q p g b n : Nat} {S : TS} (t : TD w l q p g b n S) :
    Calls Tryz.prog 90 #[.pointer (some ⟨q, 0, none⟩)] w fun e w' => e = .returned (.int .i64 0) ∧ Hid (TD w' l q p g b n (commitS n S)) ∧ Chg (l ++ [g, b]) w w' := by
  have HT := Lib.hid t
  clear t
  go_enter Tryz.func90, Tryz.ntmps90
  go_wp2_with fail
  go_loopw [3] (fun _ wr => ∃ S', Hid (TD wr l q p g b n S' ∧ commitS n S' = commitS n S) ∧ Chg (l ++ [g, b]) w wr) (fun _ wr => leftN q wr)
  case atStart => exact ⟨S, Lib.hid ⟨HT.out, rfl⟩, Chg.refl _ _⟩
  case round =>
    obtain ⟨S', HS, hc⟩ := hrel
    have HC := Lib.hid hc
    have hst := step_TD HS.out.1
    have HL := Lib.hid (left_TD HS.out.1)
    clear hc
    cases hb : doneS S' with
    | true =>
      rw [hb] at hst
      have HST := Lib.hid hst
      have HE := Lib.hid ((commit_done (n := n) hb).trans HS.out.2)
      clear hst hb
      go_wp2_with (first | (go_at_call 146; refine HST.out.mono ?_; rintro e w2 ⟨rfl, ht2, hc2⟩) | fail)
      go_ret
      rw [HE.out] at ht2
      exact ⟨rfl, ht2, HC.out.trans hc2⟩
    | false =>
      rw [hb] at hst
      have HST := Lib.hid hst
      have HE := Lib.hid (commit_more (n := n) hb HS.out.1.le3)
      have h3 := HS.out.1.le3
      clear hst hb
      go_wp2_with (first | (go_at_call 146; refine HST.out.mono ?_; rintro e w2 ⟨rfl, ht2, hc2⟩; have HC2 := Lib.hid hc2; clear hc2) | fail)
      go_roundw
      case rel => exact ⟨_, Lib.hid ⟨ht2.out, HE.out.1.trans HS.out.2⟩, HC.out.trans HC2.out⟩
      case measure =>
        have h1 := HL.out
        have h2 := left_TD ht2.out
        rw [HE.out.2] at h2
        rw [h1, h2]
        omega
end Go.Proofs.YtcadnlilijkneaaGreat
namespace Go.Proofs.YtcadnlilijkneaaGreat
open Go.RowKit Go.Maps Go.Shelf
set_option linter.unusedVariables false
set_option linter.unusedSimpArgs false

end Go.Proofs.YtcadnlilijkneaaGreat
namespace Go.Proofs.YtcadnlilijkneaaGreat
open Go.RowKit
set_option linter.unusedVariables false
set_option linter.unusedSimpArgs false

theorem cat_get {R : Nat → Sec} (hR : ∀ i, (R i).length = 64) (f : Nat) : ∀ n i, i < n * 64 → (cat R f n)[i]? = (R (f + i / 64))[i % 64]?
  | 0, i, h => by omega
  | n + 1, i, h => by
    rw [cat]
    by_cases hi : i < n * 64
    · rw [List.getElem?_append_left (by rw [cat_len hR]; exact hi)]
      exact cat_get hR f n i hi
    · rw [List.getElem?_append_right (by rw [cat_len hR]; omega), cat_len hR, show i / 64 = n from by omega, show i - n * 64 = i % 64 from by omega]
def Has (n : Nat) (R : Nat → Sec) (h : Nat) (B : List UInt8) : Prop := ∀ i, i < B.length → (R (1 + h * hsec n + i / 64))[i % 64]? = B[i]?
theorem has_iff {n : Nat} {R : Nat → Sec} (hR : ∀ i, (R i).length = 64) {h : Nat} {B : List UInt8} (hB : B.length ≤ hsec n * 64) : (halfB n R h).take B.length = B ↔ Has n R h B := by
  unfold halfB
  constructor
  · intro e i hi
    rw [← cat_get hR _ (hsec n) i (by omega)]
    have := congrArg (fun l : List UInt8 => l[i]?) e
    simpa [List.getElem?_take, hi] using this
  · intro e
    refine List.ext_getElem? fun i => ?_
    rw [List.getElem?_take]
    by_cases hi : i < B.length
    · rw [if_pos hi, cat_get hR _ _ i (by omega)]
      exact e i hi
    · rw [if_neg hi, List.getElem?_eq_none (by omega)]
theorem fillS_at (B : List UInt8) (i : Nat) (hi : i < B.length) : (fillS (B.drop (i / 64 * 64)))[i % 64]? = B[i]? := by
  rw [fillS_get _ _ (by omega)]
  have e : i / 64 * 64 + i % 64 = i := by omega
  simp [List.getD, e, hi]
theorem wfM_at (n h h' : Nat) (L L' : List Rec) (m : Nat → Option Sec) (x : Nat) : wfM n h h' L L' m x =
    if 1 + h' * hsec n + fromN h h' L / 64 ≤ x ∧ x < 1 + h' * hsec n + (fromN h h' L / 64 + secN (fromN h h' L) (frs L').length) then some (fillS ((frs L').drop ((x - (1 + h' * hsec n)) * 64))) else m x := by
  unfold wfM
  rw [wrP_range]
  rfl
section
variable {n h h' : Nat} {L L' : List Rec} {F : Nat → Sec}
theorem Opens.mk' {R : Nat → Sec} (hR : ∀ i, (R i).length = 64) (h1 : h ≤ 1) (h2 : okL L) (h3 : (frs L).length ≤ hsec n * 64) (h4 : R 0 = supS h L.length (frs L).length) (h5 : Has n R h (frs L)) : Opens n R h L :=
  ⟨h1, h2, h3, h4, (has_iff hR h3).2 h5⟩
theorem Opens.has {R : Nat → Sec} (hR : ∀ i, (R i).length = 64) (o : Opens n R h L) : Has n R h (frs L) := (has_iff hR o.room).1 o.bytes
theorem now_wf (n h h' : Nat) (L L' : List Rec) (F : Nat → Sec) (x : Nat) : now F (wfM n h h' L L' fun _ => none) x =
    if 1 + h' * hsec n + fromN h h' L / 64 ≤ x ∧ x < 1 + h' * hsec n + (fromN h h' L / 64 + secN (fromN h h' L) (frs L').length) then fillS ((frs L').drop ((x - (1 + h' * hsec n)) * 64)) else F x := by
  unfold now
  rw [wfM_at]
  split <;> rfl
theorem pre_at (hp : h = h' → ∃ W, L' = L ++ W) (e : h = h') {i : Nat} (hi : i < (frs L).length) : (frs L')[i]? = (frs L)[i]? ∧ i < (frs L').length := by
  obtain ⟨W, rfl⟩ := hp e
  rw [frs_append]
  exact ⟨List.getElem?_append_left hi, by rw [List.length_append]; omega⟩
theorem mid_opens {R : Nat → Sec} (hF : ∀ i, (F i).length = 64) (hR : ∀ i, (R i).length = 64) (o : Opens n F h L) (hp : h = h' → ∃ W, L' = L ++ W) (hh : h' ≤ 1) (hr : (frs L').length ≤ hsec n * 64) (hx : ∀ x, R x = F x ∨ R x = now F (wfM n h h' L L' fun _ => none) x) : Opens n R h L := by
  have h0 := o.half
  refine Opens.mk' hR o.half o.ok o.room ?_ fun i hi => ?_
  · rw [← o.sup]
    rcases hx 0 with e | e
    · exact e
    · rw [e, now_wf, if_neg (by omega)]
  · have hF2 := o.has hF i hi
    rcases hx (1 + h * hsec n + i / 64) with e | e
    · rw [e]; exact hF2
    · rw [e, now_wf]
      split
      · rename_i hw
        by_cases hhh : h = h'
        · obtain ⟨p1, p2⟩ := pre_at hp hhh hi
          rw [← hhh, Nat.add_sub_cancel_left, fillS_at _ _ p2, p1]
        · exfalso
          have h3 := o.room
          have hf : fromN h h' L = 0 := by unfold fromN; rw [if_neg hhh]
          rw [hf] at hw
          unfold secN at hw
          have h4 : h = 0 ∧ h' = 1 ∨ h = 1 ∧ h' = 0 := by omega
          rcases h4 with ⟨rfl, rfl⟩ | ⟨rfl, rfl⟩ <;> omega
      · exact hF2
theorem mid_has (hF : ∀ i, (F i).length = 64) (o : Opens n F h L) (hp : h = h' → ∃ W, L' = L ++ W) : Has n (now F (wfM n h h' L L' fun _ => none)) h' (frs L') := by
  intro i hi
  rw [now_wf]
  split
  · rw [Nat.add_sub_cancel_left, fillS_at _ _ hi]
  · rename_i hw
    by_cases hhh : h = h'
    · have hf : fromN h h' L = (frs L).length := by unfold fromN; rw [if_pos hhh]
      rw [hf] at hw
      unfold secN at hw
      have hi2 : i < (frs L).length := by omega
      obtain ⟨p1, _⟩ := pre_at hp hhh hi2
      rw [p1, ← hhh]
      exact o.has hF i hi2
    · have hf : fromN h h' L = 0 := by unfold fromN; rw [if_neg hhh]
      rw [hf] at hw
      unfold secN at hw
      omega
theorem sup_opens {R : Nat → Sec} (hR : ∀ i, (R i).length = 64) (o : Opens n F h L) (hh : Has n F h' (frs L')) (h1 : h' ≤ 1) (h2 : okL L') (h3 : (frs L').length ≤ hsec n * 64) (h4 : R 0 = supS h' L'.length (frs L').length) (h5 : ∀ x, x ≠ 0 → R x = F x) : Opens n R h' L' :=
  Opens.mk' hR h1 h2 h3 h4 fun i hi => by rw [h5 _ (by omega)]; exact hh i hi
end
theorem opens_zero (n : Nat) : Opens n (fun _ => zsec) 0 [] := by
  have hz : zsec = supS 0 0 0 := by decide
  exact ⟨by omega, okL_nil, by simp [frs], hz, by simp [frs]⟩
end Go.Proofs.YtcadnlilijkneaaGreat
