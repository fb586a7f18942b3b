/-
  Contracts of the document's tape: Step, Commit. No claim of their own.
-/
import Derived.Test.YtdiemejdbakffaaGreatRt11
namespace Go.Proofs.YtdiemejdbakffaaGreat
open Go.RowKit Go.Deep Go.Shelf Go.Maps
set_option linter.unusedVariables false
set_option linter.unusedSimpArgs false

theorem upd_len {F : Nat → Sec} {m : Nat → Option Sec} (h : ∀ i, (now F m i).length = 64) (j : Nat) {X : Sec} (hX : X.length = 64) : ∀ i, (now F (upd m j X) i).length = 64 := fun i => by
  have h1 := h i
  unfold now at h1 ⊢
  unfold upd
  by_cases e : i = j
  · rw [if_pos e]; exact hX
  · rw [if_neg e]; exact h1
theorem wrP_len {F : Nat → Sec} (f : Nat) (B : List UInt8) : ∀ (ks : List Nat) (m : Nat → Option Sec), (∀ i, (now F m i).length = 64) → ∀ i, (now F (wrP m f B ks) i).length = 64
  | [], m, h => h
  | k :: ks, m, h => wrP_len f B ks (upd m (f + k) (fillS (B.drop (k * 64)))) (upd_len h _ (fillS_len _))
theorem TI.stepped {n : Nat} {S : TS} (t : TI n S) : TI n (stepS n S) := by
  unfold stepS
  by_cases hi : S.idle
  · rw [if_pos hi]; exact t
  · rw [if_neg hi]
    have hb : S.h ≠ S.h' ∨ S.L.length < S.L'.length := by
      by_cases h : S.h = S.h'
      · right
        obtain ⟨W, hW⟩ := t.pre h
        have h1 := congrArg List.length hW
        rw [List.length_append] at h1
        by_cases h2 : S.L'.length = S.L.length
        · exact absurd ⟨h, h2⟩ hi
        · omega
      · exact .inl h
    have hlN : ∀ i, (now (now S.F S.m) (fun _ => none) i).length = 64 := t.lenN
    by_cases h0 : S.k = 0
    · rw [if_pos h0]
      exact ⟨t.three, t.top, t.half, t.half', (by decide : (1 : Nat) ≤ 3), t.ok, t.ok', t.room, t.room', t.pre, fun _ => hb, t.lenF, wrP_len _ _ _ _ t.lenN⟩
    · rw [if_neg h0]
      by_cases h1 : S.k = 1
      · rw [if_pos h1]
        exact ⟨t.three, t.top, t.half, t.half', (by decide : (2 : Nat) ≤ 3), t.ok, t.ok', t.room, t.room', t.pre, fun _ => hb, t.lenN, hlN⟩
      · rw [if_neg h1]
        by_cases h2 : S.k = 2
        · rw [if_pos h2]
          exact ⟨t.three, t.top, t.half, t.half', (by decide : (3 : Nat) ≤ 3), t.ok, t.ok', t.room, t.room', t.pre, fun _ => hb, t.lenF, upd_len t.lenN 0 (supS_len _ _ _)⟩
        · rw [if_neg h2]
          exact ⟨t.three, t.top, t.half', t.half', (by decide : (0 : Nat) ≤ 3), t.ok', t.ok', t.room', t.room', fun _ => ⟨[], by simp⟩, fun h => absurd (show (0:Nat) < 0 from h) (by decide), t.lenN, hlN⟩
section
variable {w : World} {N : List Nat} {u q gn go gd n : Nat} {S : TS}
set_option maxRecDepth 100000 in
theorem rstep_idle (t : Rt w N u q gn go gd n S) (ti : TI n S) (hi : S.idle) :
    Calls Tryz.prog 41 #[.pointer (some ⟨u, 0, none⟩)] w fun e w' => e = .returned (.bool true) ∧ w = w' := by
  obtain ⟨aL, cL, xs, aW, cW, ys, tc, eL, eW⟩ := t
  obtain ⟨c0, c1, c2, c3, c4, c5⟩ := tc.cells
  have hd : decide (S.h ≠ S.h') = false := decide_eq_false (fun x => x hi.1)
  have hl : ys.length = 0 := by
    rw [← recs_len, eW]
    unfold waitL
    have h1 : S.h = S.h' := hi.1
    have h2 : S.L'.length = S.L.length := hi.2
    rw [if_pos h1, List.length_drop]
    omega
  rw [hd] at c4
  rw [hl] at c3
  clear tc eL eW hi hd hl ti
  go_enter Tryz.func41, Tryz.ntmps41
  go_wp2_with fail
  go_ret
  exact ⟨rfl, rfl⟩
theorem rstep_any (t : Rt w N u q gn go gd n S) (ti : TI n S) (hN : ∀ x ∈ N, x < w.heap.size) :
    Calls Tryz.prog 41 #[.pointer (some ⟨u, 0, none⟩)] w fun e w' => e = .returned (.bool (doneS S)) ∧ Hid (Rt w' N u q gn go gd n (stepS n S)) ∧ Chg [u, gn, go, gd] w w' := by
  by_cases hi : S.idle
  · have hd : doneS S = true := by unfold doneS; rw [decide_eq_true hi]; rfl
    rw [hd, step_idleS hi]
    exact (rstep_idle t ti hi).mono fun e w' h => ⟨h.1, by rw [← h.2]; exact Lib.hid t, by rw [← h.2]; exact Chg.refl _ _⟩
  · by_cases h3 : S.k = 3
    · have hd : doneS S = true := by unfold doneS; rw [decide_eq_true h3]; simp
      rw [hd]
      exact rstep_3 t ti hN hi h3
    · have hd : doneS S = false := by unfold doneS; rw [decide_eq_false hi, decide_eq_false h3]; rfl
      rw [hd]
      have := ti.step
      by_cases h0 : S.k = 0
      · exact rstep_0 t ti hi h0
      · by_cases h1 : S.k = 1
        · exact rstep_1 t ti hN hi h1
        · exact rstep_2 t ti hN hi (by omega)
def leftR (u : Nat) (w : World) : Nat := match w.cell? ⟨u, 5, none⟩ with
  | some (.int _ z) => 4 - z.toNat
  | _ => 0
theorem left_R (t : Rt w N u q gn go gd n S) : leftR u w = 4 - S.k := by
  obtain ⟨aL, cL, xs, aW, cW, ys, tc, eL, eW⟩ := t
  have h := tc.cells.2.2.2.2.2
  unfold leftR
  rw [h]
  simp
set_option maxRecDepth 100000 in
theorem rcommit_any (t : Rt w N u q gn go gd n S) (ti : TI n S) (hN : ∀ x ∈ N, x < w.heap.size) :
    Calls Tryz.prog 42 #[.pointer (some ⟨u, 0, none⟩)] w fun e w' => (∃ v, e = .returned v) ∧ Hid (Rt w' N u q gn go gd n (commitS n S)) ∧ Chg [u, gn, go, gd] w w' := by
  have HT := Lib.hid t
  have HTI := Lib.hid ti
  have HNN := Lib.hid hN
  clear t ti hN
  go_enter Tryz.func42, Tryz.ntmps42
  go_wp2_with fail
  go_loopw [2] (fun d wr => Chg [u, gn, go, gd] w wr ∧ ((d = .bool true ∧ Hid (Rt wr N u q gn go gd n (commitS n S))) ∨ (d = .bool false ∧ ∃ S', Hid (Rt wr N u q gn go gd n S' ∧ TI n S' ∧ commitS n S' = commitS n S)))) (fun d wr => match d with | .bool true => 0 | _ => 1 + leftR u wr)
  case atStart => exact ⟨Chg.refl _ _, .inr ⟨rfl, S, Lib.hid ⟨HT.out, HTI.out, rfl⟩⟩⟩
  case round =>
    obtain ⟨hc, ⟨rfl, HF⟩ | ⟨rfl, S', HS⟩⟩ := hrel
    · have HC := Lib.hid hc
      clear hc
      go_wp2_with fail
      go_end0
      exact ⟨⟨_, rfl⟩, HF, HC.out⟩
    · have HC := Lib.hid hc
      have hst := rstep_any HS.out.1 HS.out.2.1 (fun x hx => Nat.lt_of_lt_of_le (HNN.out x hx) hc.size)
      have HL := Lib.hid (left_R HS.out.1)
      clear hc
      cases hb : doneS S' with
      | true =>
        rw [hb] at hst
        have HST := Lib.hid hst
        have HE := Lib.hid ((commit_done (n := n) hb).trans HS.out.2.2)
        clear hst hb
        go_wp2_with (first | (go_at_call 41; refine HST.out.mono ?_; rintro e w2 ⟨rfl, ht2, hc2⟩; have HC2 := Lib.hid hc2; clear hc2) | fail)
        go_roundw
        case rel => exact ⟨HC.out.trans HC2.out, .inl ⟨rfl, by rw [HE.out] at ht2; exact ht2⟩⟩
        case measure => simp; omega
      | false =>
        rw [hb] at hst
        have HST := Lib.hid hst
        have HE := Lib.hid (commit_more (n := n) hb HS.out.2.1.step)
        have h3 := HS.out.2.1.step
        clear hst hb
        go_wp2_with (first | (go_at_call 41; refine HST.out.mono ?_; rintro e w2 ⟨rfl, ht2, hc2⟩; have HC2 := Lib.hid hc2; clear hc2) | fail)
        go_roundw
        case rel => exact ⟨HC.out.trans HC2.out, .inr ⟨rfl, _, Lib.hid ⟨ht2.out, HS.out.2.1.stepped, HE.out.1.trans HS.out.2.2⟩⟩⟩
        case measure =>
          have h1 := HL.out
          have h2 := left_R ht2.out
          rw [HE.out.2] at h2
          show 1 + leftR u _ < 1 + leftR u _
          rw [h1, h2]
          omega
end
end Go.Proofs.YtdiemejdbakffaaGreat
