/-
  A tape with its disk as a state; contracts of package tape's Step and Commit over it. No claim of their own.
-/
import Derived.Test.YtdiemejdbakffaaTpT
namespace Go.Proofs.Ytdiemejdbakffaa
open Go.RowKit Go.Shelf Go.Deep Go.Maps
set_option linter.unusedVariables false
set_option linter.unusedSimpArgs false

/-- what a tape and its disk have -/
structure TS where
  F : Nat → Sec
  m : Nat → Option Sec
  h : Nat
  h' : Nat
  L : List Rec
  L' : List Rec
  k : Nat
def TS.idle (S : TS) : Prop := Proofs.Ytdiemejdbakffaa.idle S.h S.h' S.L S.L'
instance (S : TS) : Decidable S.idle := by unfold TS.idle; infer_instance
/-- a step -/
def stepS (n : Nat) (S : TS) : TS :=
  if S.idle then S else
    if S.k = 0 then { S with m := wfM n S.h S.h' S.L S.L' S.m, k := 1 }
    else if S.k = 1 then { S with F := now S.F S.m, m := fun _ => none, k := 2 }
    else if S.k = 2 then { S with m := upd S.m 0 (supS S.h' S.L'.length (frs S.L').length), k := 3 }
    else { S with F := now S.F S.m, m := fun _ => none, h := S.h', L := S.L', k := 0 }
def doneS (S : TS) : Bool := decide (S.idle) || decide (S.k = 3)
/-- all steps that are left -/
def commitS (n : Nat) (S : TS) : TS :=
  if S.idle then S else
    if S.k = 0 then stepS n (stepS n (stepS n (stepS n S)))
    else if S.k = 1 then stepS n (stepS n (stepS n S))
    else if S.k = 2 then stepS n (stepS n S)
    else stepS n S
theorem step_idleS {n : Nat} {S : TS} (h : S.idle) : stepS n S = S := by unfold stepS; rw [if_pos h]
theorem step_keep {n : Nat} {S : TS} (h : ¬ S.idle) (hk : S.k < 3) : ¬ (stepS n S).idle ∧ (stepS n S).k = S.k + 1 := by
  unfold stepS
  rw [if_neg h]
  by_cases h0 : S.k = 0
  · rw [if_pos h0]; exact ⟨h, by show 1 = _; omega⟩
  · rw [if_neg h0]
    by_cases h1 : S.k = 1
    · rw [if_pos h1]; exact ⟨h, by show 2 = _; omega⟩
    · rw [if_neg h1, if_pos (by omega)]; exact ⟨h, by show 3 = _; omega⟩
theorem commit_done {n : Nat} {S : TS} (hd : doneS S = true) : stepS n S = commitS n S := by
  unfold commitS
  by_cases hi : S.idle
  · rw [if_pos hi, step_idleS hi]
  · have hk : S.k = 3 := by
      unfold doneS at hd
      rw [decide_eq_false hi] at hd
      simpa using hd
    rw [if_neg hi, if_neg (by omega), if_neg (by omega), if_neg (by omega)]
theorem commit_more {n : Nat} {S : TS} (hd : doneS S = false) (hk : S.k ≤ 3) : commitS n (stepS n S) = commitS n S ∧ (stepS n S).k = S.k + 1 := by
  unfold doneS at hd
  have hi : ¬ S.idle := by
    intro h
    rw [decide_eq_true h] at hd
    simp at hd
  have h3 : S.k ≠ 3 := by
    intro h
    rw [decide_eq_true h] at hd
    simp at hd
  obtain ⟨h1, h2⟩ := step_keep (n := n) hi (by omega)
  refine ⟨?_, h2⟩
  conv => lhs; unfold commitS
  conv => rhs; unfold commitS
  rw [if_neg h1, if_neg hi, h2]
  by_cases e0 : S.k = 0
  · rw [if_neg (by omega), if_pos (by omega), if_pos e0]
  · by_cases e1 : S.k = 1
    · rw [if_neg (by omega), if_neg (by omega), if_pos (by omega), if_neg e0, if_pos e1]
    · rw [if_neg (by omega), if_neg (by omega), if_neg (by omega), if_neg e0, if_neg e1, if_pos (by omega)]
/-- a tape in block q, its blocks in l, its disk in p, g, b -/
structure TD (w : World) (l : List Nat) (q p g b n : Nat) (S : TS) : Prop where
  tp : Tp w l q p n S.h S.h' S.L S.L' S.k
  dsk : Dsk w p g b n S.F S.m
  np : p ∉ l
  ng : g ∉ l
  nb : b ∉ l
  three : 3 ≤ n
  lt : ∀ x ∈ l, x < w.heap.size
theorem TpV.norm {w : World} {l : List Nat} {q p n h h' : Nat} {L L' : List Rec} {k : Nat} {vF vE vF' vE' : Value} (t : TpV w l q p n h h' L L' k vF vE vF' vE') : TpV w (q :: (bl vF ++ bl vE ++ bl vF' ++ bl vE')) q p n h h' L L' k vF vE vF' vE' ∧ (∀ x ∈ q :: (bl vF ++ bl vE ++ bl vF' ++ bl vE'), x ∈ l ∧ x < w.heap.size) := by
  refine ⟨⟨t.own, t.fr, t.en, t.fr', t.en', t.alF, t.alE, by simp, ?_, t.half, t.half', t.step, t.ok, t.ok', t.room, t.room', t.pre, t.busy⟩, fun x hx => ?_⟩
  · rintro x (hx | hx | hx | hx) <;> simp [hx]
  · simp only [List.mem_cons, List.mem_append] at hx
    rcases hx with rfl | ((hx | hx) | hx) | hx
    · exact ⟨t.memq, t.own.lt⟩
    · exact ⟨t.memv x (.inl hx), t.fr.bl_lt x hx⟩
    · exact ⟨t.memv x (.inr (.inl hx)), t.en.bl_lt x hx⟩
    · exact ⟨t.memv x (.inr (.inr (.inl hx))), t.fr'.bl_lt x hx⟩
    · exact ⟨t.memv x (.inr (.inr (.inr hx))), t.en'.bl_lt x hx⟩
theorem TD.kept {w w' : World} {l : List Nat} {q p g b n : Nat} {S : TS} (t : TD w l q p g b n S) (hc : Chg [] w w') : TD w' l q p g b n S := ⟨t.tp.kept hc, t.dsk.kept hc, t.np, t.ng, t.nb, t.three, fun x hx => Nat.lt_of_lt_of_le (t.lt x hx) hc.size⟩
theorem TD.chg {w w' : World} {l m : List Nat} {q p g b n : Nat} {S : TS} (t : TD w l q p g b n S) (hc : Chg m w w') (hm : ∀ x ∈ m, x ∉ l ∧ x ≠ p ∧ x ≠ g ∧ x ≠ b) : TD w' l q p g b n S :=
  ⟨t.tp.chg hc (fun x hx => (hm x hx).1), t.dsk.keep hc (fun hx => (hm _ hx).2.1 rfl) (fun hx => (hm _ hx).2.2.1 rfl) (fun hx => (hm _ hx).2.2.2 rfl), t.np, t.ng, t.nb, t.three, fun x hx => Nat.lt_of_lt_of_le (t.lt x hx) hc.size⟩
theorem TD.le3 {w : World} {l : List Nat} {q p g b n : Nat} {S : TS} (t : TD w l q p g b n S) : S.k ≤ 3 := by
  obtain ⟨_, _, _, _, h⟩ := t.tp
  exact h.step
theorem step_TD {w : World} {l : List Nat} {q p g b n : Nat} {S : TS} (t : TD w l q p g b n S) :
    Calls Try.prog 17 #[.pointer (some ⟨q, 0, none⟩)] w fun e w' => e = .returned (.tuple #[.bool (doneS S), .int .i64 0]) ∧ Hid (TD w' l q p g b n (stepS n S)) ∧ Chg (l ++ [g, b]) w w' := by
  obtain ⟨F, m, h, h', L, L', k⟩ := S
  obtain ⟨⟨vF, vE, vF', vE', tv⟩, hd, np, ng, nb, h3, hlt⟩ := t
  dsimp only at tv hd
  by_cases hi : idle h h' L L'
  · have e1 : doneS ⟨F, m, h, h', L, L', k⟩ = true := by unfold doneS; rw [decide_eq_true (show TS.idle ⟨F, m, h, h', L, L', k⟩ from hi)]; rfl
    have e2 : stepS n ⟨F, m, h, h', L, L', k⟩ = ⟨F, m, h, h', L, L', k⟩ := step_idleS hi
    rw [e1, e2]
    exact (step_idle tv hd.top hi).mono fun e w' ⟨he, hc⟩ => ⟨he, Lib.hid ⟨⟨_, _, _, _, tv.kept hc⟩, hd.kept hc, np, ng, nb, h3, fun x hx => Nat.lt_of_lt_of_le (hlt x hx) hc.size⟩, hc.mono (by simp)⟩
  · have hni : ¬ TS.idle ⟨F, m, h, h', L, L', k⟩ := hi
    have hk := tv.step
    have e0 : doneS ⟨F, m, h, h', L, L', k⟩ = decide (k = 3) := by unfold doneS; rw [decide_eq_false hni]; rfl
    rw [e0]
    unfold stepS
    rw [if_neg hni]
    dsimp only
    by_cases k0 : k = 0
    · subst k0
      rw [if_pos rfl]
      exact (step_0 tv hd nb ng hi).mono fun e w' ⟨he, hx, hc⟩ => ⟨he, Lib.hid ⟨⟨_, _, _, _, hx.out.2⟩, hx.out.1, np, ng, nb, h3, fun x hx => Nat.lt_of_lt_of_le (hlt x hx) hc.size⟩, hc⟩
    · rw [if_neg k0]
      by_cases k1 : k = 1
      · subst k1
        rw [if_pos rfl]
        exact (step_1 tv hd nb ng hi).mono fun e w' ⟨he, hx, hc⟩ => ⟨he, Lib.hid ⟨⟨_, _, _, _, hx.out.2⟩, hx.out.1, np, ng, nb, h3, fun x hx => Nat.lt_of_lt_of_le (hlt x hx) hc.size⟩, hc⟩
      · rw [if_neg k1]
        by_cases k2 : k = 2
        · subst k2
          rw [if_pos rfl]
          exact (step_2 tv hd nb ng hi).mono fun e w' ⟨he, hx, hc⟩ => ⟨he, Lib.hid ⟨⟨_, _, _, _, hx.out.2⟩, hx.out.1, np, ng, nb, h3, fun x hx => Nat.lt_of_lt_of_le (hlt x hx) hc.size⟩, hc⟩
        · rw [if_neg k2]
          have k3 : k = 3 := by omega
          subst k3
          exact (step_3 tv hd nb ng hi).mono fun e w' ⟨he, hx, hc⟩ => ⟨he, Lib.hid ⟨⟨_, _, _, _, hx.out.2⟩, hx.out.1, np, ng, nb, h3, fun x hx => Nat.lt_of_lt_of_le (hlt x hx) hc.size⟩, hc⟩
/-- how many steps are left, out of memory -/
def leftN (q : Nat) (w : World) : Nat := match w.cell? ⟨q, 7, none⟩ with
  | some (.int _ z) => 4 - z.toNat
  | _ => 0
theorem left_TD {w : World} {l : List Nat} {q p g b n : Nat} {S : TS} (t : TD w l q p g b n S) : leftN q w = 4 - S.k := by
  obtain ⟨_, _, _, _, tv⟩ := t.tp
  have h := tv.own.cell 7
  unfold leftN
  simp at h
  rw [h]
  simp
theorem commit_nilT (w : World) : Calls Try.prog 12 #[.pointer none] w fun e w' => e = .returned (.int .i64 1) ∧ w = w' := by
  go_enter Try.func12, Try.ntmps12
  go_wp2_with fail
  refine wp_loop_rounds 1 ?_
  rw [rounds_succ]
  go_wp2_with (first | (go_at_call 17; refine (step_nilT _).mono ?_; rintro e w' ⟨rfl, rfl⟩) | fail)
  go_ret
  exact ⟨rfl, rfl⟩
theorem commit_TD {w : World} {l : List Nat} {q p g b n : Nat} {S : TS} (t : TD w l q p g b n S) :
    Calls Try.prog 12 #[.pointer (some ⟨q, 0, none⟩)] w fun e w' => e = .returned (.int .i64 0) ∧ Hid (TD w' l q p g b n (commitS n S)) ∧ Chg (l ++ [g, b]) w w' := by
  have HT := Lib.hid t
  clear t
  go_enter Try.func12, Try.ntmps12
  go_wp2_with fail
  go_loopw [3] (fun _ wr => ∃ S', Hid (TD wr l q p g b n S' ∧ commitS n S' = commitS n S) ∧ Chg (l ++ [g, b]) w wr) (fun _ wr => leftN q wr)
  case atStart => exact ⟨S, Lib.hid ⟨HT.out, rfl⟩, Chg.refl _ _⟩
  case round =>
    obtain ⟨S', HS, hc⟩ := hrel
    have HC := Lib.hid hc
    have hst := step_TD HS.out.1
    have HL := Lib.hid (left_TD HS.out.1)
    clear hc
    cases hb : doneS S' with
    | true =>
      rw [hb] at hst
      have HST := Lib.hid hst
      have HE := Lib.hid ((commit_done (n := n) hb).trans HS.out.2)
      clear hst hb
      go_wp2_with (first | (go_at_call 17; refine HST.out.mono ?_; rintro e w2 ⟨rfl, ht2, hc2⟩) | fail)
      go_ret
      rw [HE.out] at ht2
      exact ⟨rfl, ht2, HC.out.trans hc2⟩
    | false =>
      rw [hb] at hst
      have HST := Lib.hid hst
      have HE := Lib.hid (commit_more (n := n) hb HS.out.1.le3)
      have h3 := HS.out.1.le3
      clear hst hb
      go_wp2_with (first | (go_at_call 17; refine HST.out.mono ?_; rintro e w2 ⟨rfl, ht2, hc2⟩; have HC2 := Lib.hid hc2; clear hc2) | fail)
      go_roundw
      case rel => exact ⟨_, Lib.hid ⟨ht2.out, HE.out.1.trans HS.out.2⟩, HC.out.trans HC2.out⟩
      case measure =>
        have h1 := HL.out
        have h2 := left_TD ht2.out
        rw [HE.out.2] at h2
        rw [h1, h2]
        omega
end Go.Proofs.Ytdiemejdbakffaa
