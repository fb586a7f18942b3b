/-
  Serve of package sequencer, in one form. No claim of its own.
-/
import Derived.Test.YtdblplkaobeimaaGc15
import Derived.Test.YtdblplkaobeimaaGc4
import Derived.Test.YtdblplkaobeimaaGc1
import Derived.OpenShut
import Derived.ChangeSlices
import Derived.Deep.Grids
import Derived.Deep.Fields
import Derived.Lib.SmallJoins
import Derived.Test.YtdblplkaobeimaaGc13
namespace Go.Proofs.Ytdblplkaobeimaa
open Go.RowKit Go.Deep Go.Shelf
set_option linter.unusedVariables false
set_option linter.unusedSimpArgs false

/-- is it answered? -/
def svB (S : SqS) (A : MgT) : Bool := mright A.x && (decide (A.to.1 = 2 ∧ A.to.2 = S.n) && decide (A.k = 10 ∨ A.k = 7 ∨ A.k = 9))
/-- the answer -/
def svT (S : SqS) (A : MgT) (a1 : Option Addr) (c1 : Nat) (a2 : Option Addr) (c2 : Nat) : MgT :=
  if svB S A then (if A.k = 10 then begT S A else if A.k = 7 then endT S A else if S.now A.ep then (if S.t = 1048576 then ansT A 152 else tokT S A a1 c1 a2 c2) else refT S A) else zmT
/-- the state behind it -/
def svS (S : SqS) (A : MgT) : SqS :=
  if svB S A then (if A.k = 10 then begS S A else if A.k = 7 then S else if S.now A.ep then (if S.t = 1048576 then S else tokS S A) else S) else S
/-- what the answer reads -/
def SvR (w0 w' : World) (R : MgT) : Prop := Ro w' w'.heap.size R.sa (i64s R.st) ∧ Lb w' w0.heap.size (.slice R.ka R.bk.length R.kc) R.bk
theorem SvR.none {w0 w' : World} {R : MgT} (h1 : R.st = []) (h2 : R.bk = []) (h3 : R.ka = none) (h4 : R.kc = 0) : SvR w0 w' R := by
  unfold SvR
  rw [h1, h2, h3, h4]
  exact ⟨Ro.nil _ _ _, Lb.nil _ _⟩
theorem refT_no (w0 w' : World) (S : SqS) (A : MgT) : SvR w0 w' (refT S A) := SvR.none rfl rfl rfl rfl
theorem ansT_no (w0 w' : World) (A : MgT) (e : Int) : SvR w0 w' (ansT A e) := SvR.none rfl rfl rfl rfl
theorem zmT_no (w0 w' : World) : SvR w0 w' zmT := SvR.none rfl rfl rfl rfl
theorem endT_no (w0 w' : World) (S : SqS) (A : MgT) : SvR w0 w' (endT S A) := by
  unfold endT
  split
  · exact SvR.none rfl rfl rfl rfl
  · exact refT_no _ _ _ _
theorem begT_no (w0 w' : World) (S : SqS) (A : MgT) : SvR w0 w' (begT S A) := by
  unfold begT
  split
  · exact refT_no _ _ _ _
  · split <;> exact ansT_no _ _ _ _
theorem Serve_any (S : SqS) (hSL : S.L.length = 16) (hST : S.t ≤ 1048576) (p : Nat) (A : MgT) (w0 : World) (ho : Sqn w0 p S) (hin : MgIn w0 w0.heap.size A) (hf : MgFit A) (hx : RoX w0 [p] A.sa (i64s A.st)) :
    Calls Try.prog 9 #[.pointer (some ⟨p, 0, none⟩), .agg A.cs.toArray] w0 fun e w' => ∃ a1 c1 a2 c2, e = .returned (.tuple #[.agg (svT S A a1 c1 a2 c2).cs.toArray, .bool (svB S A)]) ∧ Sqn w' p (svS S A) ∧ SvR w0 w' (svT S A a1 c1 a2 c2) ∧ Chg [p] w0 w' := by
  have hpl := ho.lt
  have hpn : p ∉ [w0.heap.size + 1] := by simp; omega
  cases hr : mright A.x with
  | false =>
    have hB : svB S A = false := by unfold svB; rw [hr]; rfl
    refine (Serve_wrong S p A w0 ho hin hf hr).mono ?_
    rintro e w' ⟨rfl, hb⟩
    refine ⟨none, 0, none, 0, ?_, ?_, ?_, (Chg.refl _ _).of_below hb⟩
    · simp [svT, hB]
    · simp only [svS, hB, Bool.false_eq_true, if_false]; exact ho.below hb hpl
    · simp only [svT, hB, Bool.false_eq_true, if_false]; exact zmT_no _ _
  | true =>
  have hm := mright_all hr
  by_cases ht : A.to.1 = 2 ∧ A.to.2 = S.n
  · by_cases k10 : A.k = 10
    · have hB : svB S A = true := by unfold svB; rw [hr, decide_eq_true ht, decide_eq_true (Or.inl k10)]; rfl
      refine (Serve_beg S p A w0 ho hin hf hr ht k10 (fun R w' => R = begT S A ∧ Sqn w' p (begS S A)) (fun R w' => R = begT S A ∧ Sqn w' p (begS S A)) (fun V hc hs hz => ?_) (fun R w' w'' h1 _ _ hc => ⟨h1.1, h1.2.chg hc hpn⟩)).mono ?_
      · refine (begin_any S hSL p A V hs ((hin.below hc.low (Nat.le_refl _)).mono hc.size) (by have h1 : A.bk.length ≤ 16 := hm.bk.1; omega)).mono ?_
        rintro e w' ⟨rfl, h1, h2⟩
        exact ⟨_, rfl, h2, rfl, h1⟩
      · rintro e w' ⟨R, rfl, hc, rfl, hs⟩
        refine ⟨none, 0, none, 0, ?_, ?_, ?_, hc⟩
        · simp [svT, hB, k10]
        · simp only [svS, hB, k10, if_true]; exact hs
        · simp only [svT, hB, k10, if_true]; exact begT_no _ _ _ _
    · by_cases k7 : A.k = 7
      · have hB : svB S A = true := by unfold svB; rw [hr, decide_eq_true ht, decide_eq_true (Or.inr (Or.inl k7))]; rfl
        refine (Serve_end S p A w0 ho hin hf hr ht k7 (fun R w' => R = endT S A ∧ Sqn w' p S) (fun R w' => R = endT S A ∧ Sqn w' p S) (fun V hc hs hz => ?_) (fun R w' w'' h1 _ _ hc => ⟨h1.1, h1.2.chg hc hpn⟩)).mono ?_
        · refine (end_any S p A V hs).mono ?_
          rintro e w' ⟨rfl, h1⟩
          exact ⟨_, rfl, (Chg.refl _ _).of_below h1, rfl, hs.below h1 hs.lt⟩
        · rintro e w' ⟨R, rfl, hc, rfl, hs⟩
          refine ⟨none, 0, none, 0, ?_, ?_, ?_, hc⟩
          · simp [svT, hB, k7]
          · simp only [svS, hB, k7, if_true]; exact hs
          · simp only [svT, hB, k7, if_true]; exact endT_no _ _ _ _
      · by_cases k9 : A.k = 9
        · have hB : svB S A = true := by unfold svB; rw [hr, decide_eq_true ht, decide_eq_true (Or.inr (Or.inr k9))]; rfl
          cases hn : S.now A.ep with
          | false =>
            refine (Serve_tok S p A w0 ho hin hf hr ht k9 (fun R w' => R = refT S A ∧ Sqn w' p S) (fun R w' => R = refT S A ∧ Sqn w' p S) (fun V hc hs hz => ?_) (fun R w' w'' h1 _ _ hc => ⟨h1.1, h1.2.chg hc hpn⟩)).mono ?_
            · refine (token_no S p A V hs hn).mono ?_
              rintro e w' ⟨rfl, h1⟩
              exact ⟨_, rfl, (Chg.refl _ _).of_below h1, rfl, hs.below h1 hs.lt⟩
            · rintro e w' ⟨R, rfl, hc, rfl, hs⟩
              refine ⟨none, 0, none, 0, ?_, ?_, ?_, hc⟩
              · simp [svT, hB, k10, k7, hn]
              · simp only [svS, hB, k10, k7, hn, if_true, if_false, Bool.false_eq_true]; exact hs
              · simp only [svT, hB, k10, k7, hn, if_true, if_false, Bool.false_eq_true]; exact refT_no _ _ _ _
          | true =>
            by_cases hf2 : S.t = 1048576
            · refine (Serve_tok S p A w0 ho hin hf hr ht k9 (fun R w' => R = ansT A 152 ∧ Sqn w' p S) (fun R w' => R = ansT A 152 ∧ Sqn w' p S) (fun V hc hs hz => ?_) (fun R w' w'' h1 _ _ hc => ⟨h1.1, h1.2.chg hc hpn⟩)).mono ?_
              · refine (token_full S p A V hs hn hf2).mono ?_
                rintro e w' ⟨rfl, h1⟩
                exact ⟨_, rfl, (Chg.refl _ _).of_below h1, rfl, hs.below h1 hs.lt⟩
              · rintro e w' ⟨R, rfl, hc, rfl, hs⟩
                refine ⟨none, 0, none, 0, ?_, ?_, ?_, hc⟩
                · simp [svT, hB, k10, k7, hn, hf2]
                · simp only [svS, hB, k10, k7, hn, hf2, if_true, if_false]; exact hs
                · simp only [svT, hB, k10, k7, hn, hf2, if_true, if_false]; exact ansT_no _ _ _ _
            · refine (Serve_tok S p A w0 ho hin hf hr ht k9 (fun R w' => ∃ a1 c1 a2 c2, R = tokT S A a1 c1 a2 c2 ∧ Sqn w' p (tokS S A) ∧ Ro w' w'.heap.size a1 (i64s A.st) ∧ (∀ x, a1 = some x → w0.heap.size + 1 < x.block) ∧ Lb w' w0.heap.size (.slice a2 A.st.length c2) (backsL S.L A.st)) (fun R w' => ∃ a1 c1 a2 c2, R = tokT S A a1 c1 a2 c2 ∧ Sqn w' p (tokS S A) ∧ Ro w' w'.heap.size a1 (i64s A.st) ∧ Lb w' w0.heap.size (.slice a2 A.st.length c2) (backsL S.L A.st)) (fun V hc hs hz => ?_) ?_).mono ?_
              · refine (token_yes S hSL p A V hs hn (by omega) ((hin.below hc.low (Nat.le_refl _)).mono hc.size) (hx.chg (hc.mono (by simp))) hm.st.2 (by have h1 : A.st.length ≤ 4 := hm.st.1; omega)).mono ?_
                rintro e w' ⟨a1, c1, a2, c2, rfl, h1, h2, h3, h4, h5⟩
                exact ⟨_, rfl, h5, a1, c1, a2, c2, rfl, h1, h2, fun x hx => Nat.lt_of_lt_of_le hz (h3 x hx), h4.baseQ hc.size⟩
              · rintro R w' w'' ⟨a1, c1, a2, c2, rfl, h1, h2, h3, h4⟩ hz ht' hc
                refine ⟨a1, c1, a2, c2, rfl, h1.chg hc hpn, ?_, h4.chgQ hc (fun x hx => by simp only [List.mem_singleton] at hx; subst hx; exact ht' _ (by decide))⟩
                rcases h2 with h2 | ⟨b, off, e1, e2, e3⟩
                · exact .inl h2
                · refine .inr ⟨b, off, e1, Nat.lt_of_lt_of_le e2 hc.size, fun i hi => hc.cell (e3 i hi) ?_⟩
                  have h9 : w0.heap.size + 1 < b := h3 _ e1
                  simp only [List.mem_singleton]
                  omega
              · rintro e w' ⟨R, rfl, hc, a1, c1, a2, c2, rfl, hs, h1, h2⟩
                refine ⟨a1, c1, a2, c2, ?_, ?_, ?_, hc⟩
                · simp [svT, hB, k10, k7, hn, hf2]
                · simp only [svS, hB, k10, k7, hn, hf2, if_true, if_false]; exact hs
                · simp only [svT, hB, k10, k7, hn, hf2, if_true, if_false]
                  exact ⟨h1, by simpa [tokT] using h2⟩
        · have hB : svB S A = false := by unfold svB; rw [hr, decide_eq_true ht, decide_eq_false (by simp [k10, k7, k9])]; rfl
          refine (Serve_other S p A w0 ho hin hf hr ht k10 k7 k9).mono ?_
          rintro e w' ⟨rfl, hb⟩
          refine ⟨none, 0, none, 0, ?_, ?_, ?_, (Chg.refl _ _).of_below hb⟩
          · simp [svT, hB]
          · simp only [svS, hB, Bool.false_eq_true, if_false]; exact ho.below hb hpl
          · simp only [svT, hB, Bool.false_eq_true, if_false]; exact zmT_no _ _
  · have hB : svB S A = false := by unfold svB; rw [hr, decide_eq_false ht]; rfl
    refine (Serve_else S p A w0 ho hin hf hr ht).mono ?_
    rintro e w' ⟨rfl, hb⟩
    refine ⟨none, 0, none, 0, ?_, ?_, ?_, (Chg.refl _ _).of_below hb⟩
    · simp [svT, hB]
    · simp only [svS, hB, Bool.false_eq_true, if_false]; exact ho.below hb hpl
    · simp only [svT, hB, Bool.false_eq_true, if_false]; exact zmT_no _ _
end Go.Proofs.Ytdblplkaobeimaa
namespace Go.Proofs.Ytdblplkaobeimaa
open Go.RowKit Go.Deep Go.Shelf
set_option linter.unusedVariables false
set_option linter.unusedSimpArgs false

def al1 (g : Nat) : MgT := ⟨10, (4, 0), (2, 2), 0, 0, 3, 7, 0, noC, none, 0, none, 0, [], none, 0, [(1, 6, nA)], some ⟨g, 0, none⟩, 1, (0, 0), (0, 0), ⟨0, none, 0, [], 0⟩⟩
def al2 (g : Nat) : MgT := ⟨9, (4, 0), (2, 2), 0, 0, 3, 0, 0, noC, none, 0, none, 0, [1], some ⟨g, 0, none⟩, 1, [], none, 0, (0, 0), (0, 0), ⟨0, none, 0, [], 0⟩⟩
def al3 : MgT := ⟨9, (4, 0), (2, 2), 0, 0, 2, 0, 0, noC, none, 0, none, 0, [], none, 0, [], none, 0, (0, 0), (0, 0), ⟨0, none, 0, [], 0⟩⟩
def alS1 : SqS := ⟨2, 3, 7, lastsM [(1, 6, nA)] 16⟩
def alS2 : SqS := ⟨2, 3, 8, (lastsM [(1, 6, nA)] 16).set 1 (7, 6)⟩
theorem noly_in (w : World) (B : Nat) : LyIn w B ⟨0, none, 0, [], 0⟩ := ⟨Ro.nil _ _ _, fun s hs => by cases hs⟩
theorem noly_fit : SgFit (LyT.sg ⟨0, none, 0, [], 0⟩) := ⟨by simp, (fun s hs => by cases hs)⟩
theorem al_serve1 (w : World) (p : Nat) (ho : Sqn w p (newS 2)) :
    Calls Try.prog 9 #[.pointer (some ⟨p, 0, none⟩), .agg (al1 w.heap.size).cs.toArray] (w.alloc (.cells #[.int .i64 1, .int .u64 6, .int .u64 18446744073709551615] 54)) fun e w' => e = .returned (.tuple #[.agg (ansT (al1 w.heap.size) 0).cs.toArray, .bool true]) ∧ Sqn w' p alS1 ∧ Chg [p] w w' := by
  have hc : Chg [p] w (w.alloc (.cells #[.int .i64 1, .int .u64 6, .int .u64 18446744073709551615] 54)) := (Chg.refl _ _).alloc _
  have hin : MgIn (w.alloc (.cells #[.int .i64 1, .int .u64 6, .int .u64 18446744073709551615] 54)) (w.alloc (.cells #[.int .i64 1, .int .u64 6, .int .u64 18446744073709551615] 54)).heap.size (al1 w.heap.size) :=
    ⟨Ro.nil _ _ _, Ro.nil _ _ _, Ro.nil _ _ _, (Own.new w 54 (bcs [(1, 6, nA)])).ro _ (by simp), noly_in _ _⟩
  have hf : MgFit (al1 w.heap.size) := ⟨by simp [al1, noC], by simp [al1, noC], by simp [al1], by simp [al1], noly_fit, (fun b hb => by cases hb), (fun b hb => by simp [al1] at hb; subst hb; exact ⟨by decide, by decide, by decide, by decide⟩)⟩
  refine (Serve_any (newS 2) (by simp [newS]) (by simp [newS]) p (al1 w.heap.size) _ (Own.alloc ho _) hin hf (.inl rfl)).mono ?_
  rintro e w' ⟨a1, c1, a2, c2, rfl, h1, -, h2⟩
  exact ⟨rfl, h1, hc.trans h2⟩
theorem al_serve2 (w : World) (p : Nat) (ho : Sqn w p alS1) :
    Calls Try.prog 9 #[.pointer (some ⟨p, 0, none⟩), .agg (al2 w.heap.size).cs.toArray] (w.alloc (.cells #[.int .i64 1] 3)) fun e w' => ∃ a1 c1 a2 c2, e = .returned (.tuple #[.agg (tokT alS1 (al2 w.heap.size) a1 c1 a2 c2).cs.toArray, .bool true]) ∧ Sqn w' p alS2 ∧ Lb w' w.heap.size (.slice a2 1 c2) [(1, 6, nA)] ∧ Chg [p] w w' := by
  have hc : Chg [p] w (w.alloc (.cells #[.int .i64 1] 3)) := (Chg.refl _ _).alloc _
  have hro := (Own.new w 3 (i64s [1])).ro (w.heap.size + 1) (by omega)
  have hin : MgIn (w.alloc (.cells #[.int .i64 1] 3)) (w.alloc (.cells #[.int .i64 1] 3)).heap.size (al2 w.heap.size) :=
    ⟨Ro.nil _ _ _, Ro.nil _ _ _, by rw [World.size_alloc]; exact hro, Ro.nil _ _ _, noly_in _ _⟩
  have hf : MgFit (al2 w.heap.size) := ⟨by simp [al2, noC], by simp [al2, noC], by simp [al2], by simp [al2], noly_fit, (fun b hb => by cases hb), (fun b hb => by cases hb)⟩
  have hpl := ho.lt
  have hx : RoX (w.alloc (.cells #[.int .i64 1] 3)) [p] (al2 w.heap.size).sa (i64s (al2 w.heap.size).st) :=
    .inr ⟨w.heap.size, 0, rfl, by simp, by simp; omega, fun i hi => by
      rcases hro with h | ⟨b, off, h1, _, h3⟩
      · cases h
      · injection h1 with h1
        injection h1 with h1 h2 _
        subst h1 h2
        exact h3 i hi⟩
  refine (Serve_any alS1 (by simp [alS1]) (by simp [alS1]) p (al2 w.heap.size) _ (Own.alloc ho _) hin hf hx).mono ?_
  rintro e w' ⟨a1, c1, a2, c2, rfl, h1, h3, h2⟩
  exact ⟨a1, c1, a2, c2, rfl, h1, Lb.baseQ h3.2 (by simp), hc.trans h2⟩
theorem al_serve3 (w : World) (p : Nat) (ho : Sqn w p alS2) :
    Calls Try.prog 9 #[.pointer (some ⟨p, 0, none⟩), .agg al3.cs.toArray] w fun e w' => e = .returned (.tuple #[.agg (refT alS2 al3).cs.toArray, .bool true]) ∧ Sqn w' p alS2 ∧ Chg [p] w w' := by
  have hin : MgIn w w.heap.size al3 := ⟨Ro.nil _ _ _, Ro.nil _ _ _, Ro.nil _ _ _, Ro.nil _ _ _, noly_in _ _⟩
  have hf : MgFit al3 := ⟨by simp [al3, noC], by simp [al3, noC], by simp [al3], by simp [al3], noly_fit, (fun b hb => by cases hb), (fun b hb => by cases hb)⟩
  refine (Serve_any alS2 (by simp [alS2]) (by simp [alS2]) p al3 _ ho hin hf (.inl rfl)).mono ?_
  rintro e w' ⟨a1, c1, a2, c2, rfl, h1, -, h2⟩
  exact ⟨rfl, h1, h2⟩
end Go.Proofs.Ytdblplkaobeimaa
namespace Go.Proofs.Ytdblplkaobeimaa
open Go.RowKit Go.Deep Go.Shelf
set_option linter.unusedVariables false
set_option linter.unusedSimpArgs false

set_option maxHeartbeats 8000000 in
set_option maxRecDepth 100000 in
theorem alive15_any (w : World) : Calls Try.prog 8 #[] w fun e w' => e = .returned (.bool true) ∧ Below w.heap.size w w' := by
  have HN := Lib.hid (SqNew_any 2 w (by omega) (by omega))
  have HS1 := Lib.hid (fun V p (h : Sqn V p (newS 2)) => al_serve1 V p h)
  have HS2 := Lib.hid (fun V p (h : Sqn V p alS1) => al_serve2 V p h)
  have HS3 := Lib.hid (fun V p (h : Sqn V p alS2) => al_serve3 V p h)
  have HT : Hid (∀ V p (h : Sqn V p alS2), Calls Try.prog 12 #[.pointer (some ⟨p, 0, none⟩)] V fun e w' => e = .returned (.int .u64 8) ∧ Below V.heap.size V w') := Lib.hid (fun V p h => Tail_any alS2 p V h)
  have HL : Hid (∀ V p (h : Sqn V p alS2), Calls Try.prog 11 #[.pointer (some ⟨p, 0, none⟩), .int .i64 1] V fun e w' => e = .returned (.agg #[.int .u64 7, .int .u64 6]) ∧ Below V.heap.size V w') := Lib.hid (fun V p h => Last_any alS2 (by simp [alS2]) p 1 V h)
  go_enter Try.func8, Try.ntmps8
  go_wp2_with fail
  refine HN.out.mono ?_
  rintro e w1 ⟨p, rfl, hp, hs, hb⟩
  have HB1 := Lib.hid hb
  have HP1 := Lib.hid hs
  have HPG := Lib.hid hp
  clear hs hb hp
  go_upto_region 6 with fail
  obtain ⟨W, hW⟩ : ∃ W, ((w1.alloc (.cells #[.int .i64 2, .int .i64 2] 25)).alloc (.cells #[.int .i64 4, .int .i64 0] 25)) = W := ⟨_, rfl⟩
  obtain ⟨g, hg⟩ : ∃ g, w1.heap.size = g := ⟨_, rfl⟩
  have oA : Own W g 25 [.int .i64 2, .int .i64 2] := by rw [← hW, ← hg]; exact (Own.new w1 _ _).alloc _
  have oB : Own W (g + 1) 25 [.int .i64 4, .int .i64 0] := by
    rw [← hW, ← hg]
    have := Own.new (w1.alloc (.cells #[.int .i64 2, .int .i64 2] 25)) 25 [.int .i64 4, .int .i64 0]
    rw [World.size_alloc] at this
    exact this
  have HPW : Hid (Sqn W p (newS 2)) := Lib.hid (by rw [← hW]; exact (Own.alloc HP1.out _).alloc _)
  have HCW : Hid (Chg [p] w1 W) := Lib.hid (by rw [← hW]; exact ((Chg.refl _ _).alloc _).alloc _)
  have HPG2 : Hid (p < g) := Lib.hid (by rw [← hg]; exact HP1.out.lt)
  have HGW : Hid (w1.heap.size = g) := Lib.hid hg
  rw [hW, hg]
  have HOA := Lib.hid oA
  have HOB := Lib.hid oB
  have x0 := oA.cell 0
  have x1 := oA.cell 1
  have y0 := oB.cell 0
  have y1 := oB.cell 1
  have z0 := oA.lt
  have z1 := oB.lt
  simp at x0 x1 y0 y1
  clear hW oA oB hg
  go_wp2_with fail
  refine (HS1.out W p HPW.out).mono ?_
  rintro e w2 ⟨rfl, hs, hc⟩
  have HP2 := Lib.hid hs
  have HC2 := Lib.hid (HCW.out.trans hc)
  have HOA2 := Lib.hid (HOA.out.chg hc (by have := HPG2.out; simp; omega))
  have HOB2 := Lib.hid (HOB.out.chg hc (by have := HPG2.out; simp; omega))
  clear hs hc x0 x1 y0 y1 z0 z1
  go_wp2_with (refine wpList_storeMg rfl (.tmp 5) (.tmp 32) rfl w2.heap.size rfl (ansT (al1 W.heap.size) 0) rfl zmT.cs (zm_new w2) rfl ?_)
  intro w3 ho hc
  have hc3 : Chg [] w2 w3 := ((Chg.refl [] w2).alloc _).then hc (fun x hx => by simp only [List.mem_singleton] at hx; subst hx; exact .inr (Nat.le_refl _))
  obtain ⟨g5, hg5⟩ : ∃ g, w2.heap.size = g := ⟨_, rfl⟩
  rw [hg5] at ho ⊢
  have HM5 := Lib.hid ho
  have HG5 : Hid (g + 1 < g5) := Lib.hid (by rw [← hg5]; exact HOB2.out.lt)
  have HP3 := Lib.hid (HP2.out.chg hc3 (by simp))
  have HC3 := Lib.hid (HC2.out.trans (hc3.mono (by simp)))
  have HOA3 := Lib.hid (HOA2.out.chg hc3 (by simp))
  have HOB3 := Lib.hid (HOB2.out.chg hc3 (by simp))
  have x0 := HOA3.out.cell 0
  have x1 := HOA3.out.cell 1
  have y0 := HOB3.out.cell 0
  have y1 := HOB3.out.cell 1
  have z0 := HOA3.out.lt
  have z1 := HOB3.out.lt
  simp at x0 x1 y0 y1
  clear ho hc hc3 hg5
  go_wp2_with fail
  refine (HS2.out w3 p HP3.out).mono ?_
  rintro e w4 ⟨a1, c1, a2, c2, rfl, hs, hl, hc⟩
  have HP4 := Lib.hid hs
  have HL4 := Lib.hid hl
  have HC4 := Lib.hid (HC3.out.trans hc)
  have HOA4 := Lib.hid (HOA3.out.chg hc (by have := HPG2.out; simp; omega))
  have HOB4 := Lib.hid (HOB3.out.chg hc (by have := HPG2.out; simp; omega))
  have HM54 := Lib.hid (HM5.out.chg hc (by have := HPG2.out; have := HG5.out; simp; omega))
  clear hs hc hl x0 x1 y0 y1 z0 z1
  obtain ⟨RR2, hRR2⟩ : ∃ RR2, tokT alS1 (al2 w3.heap.size) a1 c1 a2 c2 = RR2 := ⟨_, rfl⟩
  rw [hRR2]
  have HRR2 := Lib.hid hRR2
  clear hRR2
  go_wp2_with (refine wpList_storeMg rfl (.tmp 7) (.tmp 41) rfl w4.heap.size rfl RR2 rfl zmT.cs (zm_new w4) rfl ?_)
  intro w5 ho hc
  have hc5 : Chg [] w4 w5 := ((Chg.refl [] w4).alloc _).then hc (fun x hx => by simp only [List.mem_singleton] at hx; subst hx; exact .inr (Nat.le_refl _))
  obtain ⟨g7, hg7⟩ : ∃ g, w4.heap.size = g := ⟨_, rfl⟩
  rw [hg7] at ho ⊢
  have HM7 := Lib.hid ho
  have HG7 : Hid (g5 < g7) := Lib.hid (by rw [← hg7]; exact HM54.out.lt)
  have HP5 := Lib.hid (HP4.out.chg hc5 (by simp))
  have HC5 := Lib.hid (HC4.out.trans (hc5.mono (by simp)))
  have HOA5 := Lib.hid (HOA4.out.chg hc5 (by simp))
  have HOB5 := Lib.hid (HOB4.out.chg hc5 (by simp))
  have HM55 := Lib.hid (HM54.out.chg hc5 (by simp))
  have HL5 := Lib.hid (HL4.out.chgQ hc5 (by simp))
  have x0 := HOA5.out.cell 0
  have x1 := HOA5.out.cell 1
  have y0 := HOB5.out.cell 0
  have y1 := HOB5.out.cell 1
  have z0 := HOA5.out.lt
  have z1 := HOB5.out.lt
  simp at x0 x1 y0 y1
  clear ho hc hc5 hg7
  go_wp2_with fail
  refine (HS3.out w5 p HP5.out).mono ?_
  rintro e w6 ⟨rfl, hs, hc⟩
  have HP6 := Lib.hid hs
  have HC6 := Lib.hid (HC5.out.trans hc)
  have HM56 := Lib.hid (HM55.out.chg hc (by have := HPG2.out; have := HG5.out; simp; omega))
  have HM76 := Lib.hid (HM7.out.chg hc (by have := HPG2.out; have := HG5.out; have := HG7.out; simp; omega))
  have HL6 := Lib.hid (HL5.out.chgQ hc (HP5.out.own.notQ (by decide)))
  clear hs hc x0 x1 y0 y1 z0 z1
  go_wp2_with (refine wpList_storeMg rfl (.tmp 9) (.tmp 49) rfl w6.heap.size rfl (refT alS2 al3) rfl zmT.cs (zm_new w6) rfl ?_)
  intro w7 ho hc
  have hc7 : Chg [] w6 w7 := ((Chg.refl [] w6).alloc _).then hc (fun x hx => by simp only [List.mem_singleton] at hx; subst hx; exact .inr (Nat.le_refl _))
  obtain ⟨g9, hg9⟩ : ∃ g, w6.heap.size = g := ⟨_, rfl⟩
  rw [hg9] at ho ⊢
  have HP7 := Lib.hid (HP6.out.chg hc7 (by simp))
  have HC7 := Lib.hid (HC6.out.trans (hc7.mono (by simp)))
  have hm5 := HM56.out.chg hc7 (by simp)
  have hm7 := HM76.out.chg hc7 (by simp)
  have HL7 := Lib.hid (HL6.out.chgQ hc7 (by simp))
  obtain ⟨a3, c3, hv, hr, -, -⟩ := HL7.out.form
  injection hv with hv hv2 hv3
  subst hv
  clear hv2 hv3
  obtain ⟨b0, off, hb0, -, hcl⟩ := hr.bk (by simp)
  have k1 : w7.cell? ⟨b0, off + 1, none⟩ = some (.int .u64 6) := (hcl 0 (by simp)).2.1
  have q7 : w7.cell? ⟨g5, 9, none⟩ = some (.int .i64 0) := hm5.cell 9
  have r6 : w7.cell? ⟨g7, 8, none⟩ = some (.int .u64 7) := by rw [hm7.cell 8, ← HRR2.out]; rfl
  have r10 : w7.cell? ⟨g7, 14, none⟩ = some (.slice (some ⟨b0, off, none⟩) 1 c2) := by rw [hm7.cell 14, ← HRR2.out, ← hb0]; rfl
  have t7 : w7.cell? ⟨g9, 9, none⟩ = some (.int .i64 84) := ho.cell 9
  have t5 : w7.cell? ⟨g9, 7, none⟩ = some (.int .u64 3) := ho.cell 7
  have z5 := hm5.lt
  have z7 := hm7.lt
  have z9 := ho.lt
  clear ho hc hc7 hg9 hm5 hm7 hr hcl
  have heq : ∀ w, (Op.equalIn 10000 50 (.agg #[.int .u64 7, .int .u64 6]) (.agg #[.int .u64 7, .int .u64 6])).run Try.prog w = .ok true w := fun w => eq_two 9998 7 6 7 6 w
  have HP7' := Lib.hid HP7.out
  go_wp2_with fail
  refine (HT.out _ p HP7.out).mono ?_
  rintro e w8 ⟨rfl, hb⟩
  have HP8 := Lib.hid (HP7.out.below hb HP7.out.lt)
  have HC8 := Lib.hid (HC7.out.of_below hb)
  clear hb
  go_wp2_with fail
  refine (HL.out _ p HP8.out).mono ?_
  rintro e w9 ⟨rfl, hb⟩
  have HC9 := Lib.hid (HC8.out.of_below hb)
  clear hb
  go_wp2_with fail
  go_ret
  exact ⟨rfl, HB1.out.trans (HC9.out.below HB1.out.size (by have := HPG.out; simp; exact this))⟩
end Go.Proofs.Ytdblplkaobeimaa
namespace Go.Proofs.Ytdblplkaobeimaa
set_option linter.unusedVariables false
set_option linter.unusedSimpArgs false
open Go.RowKit

/-- a slice of integers that came in: nil, or a row of cells, each fitting its kind -/
def IsRow (k : IntKind) (w : World) (a : Option Addr) (len cap : Nat) (zs : List Int) : Prop :=
  (a = none ∧ len = 0 ∧ cap = 0 ∧ zs = []) ∨
  ∃ x, a = some x ∧ len ≤ cap ∧ cap ≤ maxLen ∧ zs.length = cap ∧ (∀ i, i < zs.length → w.cell? (x.add i) = some (.int k (zs.getD i 0))) ∧ ∀ n ∈ zs, (Lit.int k n).wf = true

/-- the elements alone, in a row below the heap's end -/
theorem IsRow.vals {k : IntKind} {w : World} {a : Option Addr} {len cap : Nat} {zs : List Int} (h : IsRow k w a len cap zs) :
    ∃ ys : List Int, ys.length = len ∧ len ≤ cap ∧ (a = none → cap = 0) ∧ Ro w w.heap.size a (ys.map fun x => .int k x) ∧ ∀ n ∈ ys, (Lit.int k n).wf = true := by
  rcases h with ⟨rfl, rfl, rfl, rfl⟩ | ⟨x, rfl, h1, h2, h3, h4, h5⟩
  · exact ⟨[], rfl, Nat.le_refl _, fun _ => rfl, .inl rfl, by simp⟩
  · refine ⟨zs.take len, by rw [List.length_take]; omega, h1, (fun h => by cases h), ?_, (fun n hn => h5 n (List.mem_of_mem_take hn))⟩
    by_cases h0 : len = 0
    · subst h0; exact .inl (by simp)
    · obtain ⟨b, off, spot⟩ := x
      have hc := h4 0 (by omega)
      have hspot : spot = none := by simpa [Addr.add] using World.cell?_spot hc
      subst hspot
      have hb := World.block_lt_of_cell? w _ hc
      refine .inr ⟨b, off, rfl, by simpa [add_off] using hb, fun i hi => ?_⟩
      rw [List.length_map, List.length_take] at hi
      have := h4 i (by omega)
      rw [add_off] at this
      rw [this]
      simp [List.getD, List.getElem?_take, show i < len from by omega, show i < zs.length from by omega]
theorem IsRow.len_le {k : IntKind} {w : World} {a : Option Addr} {len cap : Nat} {zs : List Int} (h : IsRow k w a len cap zs) : len ≤ 9223372036854775807 := by
  rcases h with ⟨_, rfl, _, _⟩ | ⟨x, _, h1, h2, _⟩
  · omega
  · unfold maxLen at h2; omega
theorem IsRow.cap_le {k : IntKind} {w : World} {a : Option Addr} {len cap : Nat} {zs : List Int} (h : IsRow k w a len cap zs) : cap ≤ 9223372036854775807 := by
  rcases h with ⟨_, _, rfl, _⟩ | ⟨x, _, h1, h2, _⟩
  · omega
  · unfold maxLen at h2; omega
/-- bytes -/
theorem IsRow.u8s {w : World} {a : Option Addr} {len cap : Nat} {zs : List Int} (h : IsRow .u8 w a len cap zs) :
    ∃ bs : List UInt8, bs.length = len ∧ len ≤ cap ∧ (a = none → cap = 0) ∧ Ro w w.heap.size a (u8s bs) := by
  obtain ⟨ys, h1, h2, h3, h4, h5⟩ := h.vals
  refine ⟨ys.map fun n => UInt8.ofNat n.toNat, by simpa using h1, h2, h3, ?_⟩
  have e : Ytdblplkaobeimaa.u8s (ys.map fun n => UInt8.ofNat n.toNat) = ys.map fun x => .int .u8 x := by
    unfold Ytdblplkaobeimaa.u8s
    rw [List.map_map]
    apply List.map_congr_left
    intro n hn
    have := bounds_u8 (h5 n hn)
    have e2 : (UInt8.ofNat n.toNat).toNat = n.toNat := by simp; omega
    simp only [Function.comp, e2]
    congr 1
    omega
  rw [e]; exact h4
/-- unsigned numbers -/
theorem IsRow.u64s {w : World} {a : Option Addr} {len cap : Nat} {zs : List Int} (h : IsRow .u64 w a len cap zs) :
    ∃ l : List Nat, l.length = len ∧ len ≤ cap ∧ (a = none → cap = 0) ∧ Ro w w.heap.size a (u64s l) ∧ ∀ i, l.getD i 0 < 18446744073709551616 := by
  obtain ⟨ys, h1, h2, h3, h4, h5⟩ := h.vals
  refine ⟨ys.map Int.toNat, by simpa using h1, h2, h3, ?_, fun i => ?_⟩
  · have e : Ytdblplkaobeimaa.u64s (ys.map Int.toNat) = ys.map fun x => .int .u64 x := by
      unfold Ytdblplkaobeimaa.u64s
      rw [List.map_map]
      apply List.map_congr_left
      intro n hn
      have := bounds_u64 (h5 n hn)
      simp only [Function.comp]
      congr 1
      omega
    rw [e]; exact h4
  · by_cases hi : i < ys.length
    · have := bounds_u64 (h5 ys[i] (List.getElem_mem hi))
      have e : (ys.map Int.toNat).getD i 0 = ys[i].toNat := by simp [List.getD, hi]
      rw [e]; omega
    · have e : (ys.map Int.toNat).getD i 0 = 0 := by simp [List.getD, hi]
      rw [e]; omega
/-- signed numbers -/
theorem IsRow.i64s {w : World} {a : Option Addr} {len cap : Nat} {zs : List Int} (h : IsRow .i64 w a len cap zs) :
    ∃ l : List Int, l.length = len ∧ len ≤ cap ∧ (a = none → cap = 0) ∧ Ro w w.heap.size a (i64s l) ∧ ∀ i, -9223372036854775808 ≤ l.getD i 0 ∧ l.getD i 0 ≤ 9223372036854775807 := by
  obtain ⟨ys, h1, h2, h3, h4, h5⟩ := h.vals
  refine ⟨ys, h1, h2, h3, h4, fun i => ?_⟩
  by_cases hi : i < ys.length
  · have := bounds_i64 (h5 ys[i] (List.getElem_mem hi))
    have e : ys.getD i 0 = ys[i] := by simp [List.getD, hi]
    rw [e]; omega
  · have e : ys.getD i 0 = 0 := by simp [List.getD, hi]
    rw [e]; omega
section
variable {H : Type} {enc : TypeId × Value → H} {P : Program} {w : World} {base : Nat} {spare : Nat → Bool} {held : Bool}
/-- an array of integers by value, opened -/
theorem open_array_ints {k : IntKind} {r : Reach} {b0 n : Nat} {t e : TypeId} {v : Value} {d : DataW H} {p : List MemPlace} (ht : P.underlying t = some (.array n e)) (he : P.underlying e = some (.int k)) (hce : P.cellsOf e = 1) (hct : P.cellsOf t = n)
    (hv : Value.okWide P w r b0 t v) (h : DataW.Trod enc P w base spare held t v d p) :
    ∃ zs : List Int, v = .agg (zs.map (Value.int k)).toArray ∧ zs.length = n ∧ ∀ x ∈ zs, (Lit.int k x).wf = true := by
  obtain ⟨cs, rfl, hsz⟩ : ∃ cs, v = .agg cs ∧ cs.size = P.cellsOf t := by
    simp only [Value.okWide, ht] at hv
    obtain ⟨cs, h1, h2, _⟩ := hv
    exact ⟨cs, h1, h2⟩
  obtain ⟨fuel, hf⟩ := h
  obtain ⟨xs, m, _, _, _, hl, hi⟩ := DataW.trod_array ht hf
  have hall : ∀ i (h : i < cs.toList.length), ∃ x, cs.toList[i] = .int k x ∧ (Lit.int k x).wf = true := by
    intro i h
    have hin : i < n := by simp only [Array.length_toList] at h; omega
    have h1 := hi i hin
    rw [hce, Nat.mul_one, List.getElem?_eq_getElem (by omega)] at h1
    obtain ⟨x, hx, _, hw⟩ := DataW.trod_int he h1
    refine ⟨x, ?_, hw⟩
    have e : ((Value.agg cs).cells.toList.drop i).take 1 = [cs.toList[i]] := by
      show (cs.toList.drop i).take 1 = _
      rw [List.drop_eq_getElem_cons h]
      simp
    rw [e] at hx
    simpa using hx
  refine ⟨cs.toList.map intOf, ?_, by simp; omega, ?_⟩
  · congr 1
    apply Array.ext'
    simp only [List.map_map]
    apply List.ext_getElem
    · simp
    · intro i h1 h2
      obtain ⟨x, hx, _⟩ := hall i h1
      simp only [List.getElem_map, Function.comp]
      rw [hx]
      rfl
  · intro x hx
    rw [List.mem_map] at hx
    obtain ⟨v, hv1, rfl⟩ := hx
    obtain ⟨i, h1, rfl⟩ := List.getElem_of_mem hv1
    obtain ⟨x, hx, hw⟩ := hall i h1
    rw [hx]
    exact hw
/-- an array of slices of integers by value, opened: each element a row -/
theorem open_array_rows {k : IntKind} {r : Reach} {b0 n : Nat} {t s e : TypeId} {v : Value} {d : DataW H} {p : List MemPlace} (ht : P.underlying t = some (.array n s)) (hs : P.underlying s = some (.slice e)) (he : P.underlying e = some (.int k)) (hce : P.cellsOf e = 1) (hcs : P.cellsOf s = 1) (hct : P.cellsOf t = n)
    (hv : Value.okWide P w r b0 t v) (h : DataW.Trod enc P w base (fun _ => true) held t v d p) :
    ∃ cs : List Value, v = .agg cs.toArray ∧ cs.length = n ∧ ∀ x ∈ cs, ∃ a l c zs, x = .slice a l c ∧ IsRow k w a l c zs := by
  obtain ⟨cs, rfl, hsz⟩ : ∃ cs, v = .agg cs ∧ cs.size = P.cellsOf t := by
    simp only [Value.okWide, ht] at hv
    obtain ⟨cs, h1, h2, _⟩ := hv
    exact ⟨cs, h1, h2⟩
  obtain ⟨fuel, hf⟩ := h
  obtain ⟨xs, m, _, _, _, hl, hi⟩ := DataW.trod_array ht hf
  refine ⟨cs.toList, by simp, by simp; omega, fun x hx => ?_⟩
  obtain ⟨i, h1, rfl⟩ := List.getElem_of_mem hx
  have hin : i < n := by simp only [Array.length_toList] at h1; omega
  have h2 := hi i hin
  rw [hcs, Nat.mul_one, List.getElem?_eq_getElem (by omega)] at h2
  have e1 : ((Value.agg cs).cells.toList.drop i).take 1 = [cs.toList[i]] := by
    show (cs.toList.drop i).take 1 = _
    rw [List.drop_eq_getElem_cons h1]
    simp
  rw [e1] at h2
  rcases ChangeShapes.open_ints hs he hce h2 with ⟨hc, _⟩ | ⟨a, l, c, zs, hc, _, hl, hm, hz, _, hcell, hwz⟩
  · exact ⟨none, 0, 0, [], by simpa using hc, .inl ⟨rfl, rfl, rfl, rfl⟩⟩
  · exact ⟨some a, l, c, zs, by simpa using hc, .inr ⟨a, rfl, hl, hm, by simpa using hz, hcell, hwz⟩⟩
end
end Go.Proofs.Ytdblplkaobeimaa
namespace Go.Proofs.Ytdblplkaobeimaa
open Go.RowKit Go.ChangeShapes Go.WideShapes Go.Deep
set_option linter.unusedVariables false
set_option linter.unusedSimpArgs false

section
variable {H : Type} {enc : TypeId × Value → H} {w : World} {base : Nat} {held : Bool}
theorem row_u8 {n : Nat} {v : Value} {y : DataW H × List MemPlace} (h : DataW.trod enc Try.prog w base (fun _ => true) held n 29 [v] = some y) :
    ∃ (a : Option Addr) (bs : List UInt8) (c : Nat), v = .slice a bs.length c ∧ Ro w w.heap.size a (u8s bs) ∧ bs.length ≤ c ∧ c ≤ 9223372036854775807 := by
  have hrow : ∃ a l c zs, v = .slice a l c ∧ IsRow .u8 w a l c zs := by
    rcases open_ints Try.underlying29 Try.underlying5 (by kernel_rfl) h with ⟨hc, _⟩ | ⟨a, l, c, zs, hc, _, hl, hm, hz, _, hcell, hwz⟩
    · exact ⟨none, 0, 0, [], by simpa using hc, .inl ⟨rfl, rfl, rfl, rfl⟩⟩
    · exact ⟨some a, l, c, zs, by simpa using hc, .inr ⟨a, rfl, hl, hm, by simpa using hz, hcell, hwz⟩⟩
  obtain ⟨a, l, c, zs, rfl, hr⟩ := hrow
  obtain ⟨bs, h1, h2, h3, h4⟩ := hr.u8s
  have := hr.cap_le
  exact ⟨a, bs, c, by rw [h1], h4, by omega, by omega⟩
set_option maxRecDepth 100000 in
theorem trod_back {n : Nat} {cs : List Value} {y : DataW H × List MemPlace} (h : DataW.trod enc Try.prog w base (fun _ => true) held n 54 cs = some y) :
    ∃ b : Bk, cs = [.int .i64 b.1, .int .u64 (b.2.1 : Int), .int .u64 (b.2.2 : Int)] ∧ FitB b := by
  obtain ⟨xs, m, _, _, hlen, hxl, hf⟩ := DataW.trod_struct Try.underlying54 h
  have hc3 : cs.length = 3 := hlen.trans (by kernel_rfl)
  match cs, hc3, xs, hxl with
  | [c0, c1, c2], _, [x0, x1], _ =>
    have g0 : DataW.trod enc Try.prog w base (fun _ => true) held m 3 (([c0, c1, c2].drop 0).take (Try.prog.cellsOf 3)) = some x0 := hf 0 _ rfl
    have g1 : DataW.trod enc Try.prog w base (fun _ => true) held m 50 (([c0, c1, c2].drop 1).take (Try.prog.cellsOf 50)) = some x1 := hf 1 _ rfl
    rw [show Try.prog.cellsOf 3 = 1 by kernel_rfl] at g0
    rw [show Try.prog.cellsOf 50 = 2 by kernel_rfl] at g1
    simp only [List.drop_zero, List.drop_succ_cons, List.take_succ_cons, List.take_zero] at g0 g1
    obtain ⟨s, e0, _, hw0⟩ := DataW.trod_int Try.underlying3 g0
    have hu : Try.prog.underlying 50 = some (.array 2 26) := by kernel_rfl
    obtain ⟨ys, m2, _, _, _, hl, hi⟩ := DataW.trod_array hu g1
    have hce : Try.prog.cellsOf 26 = 1 := by kernel_rfl
    have i0 := hi 0 (by omega)
    have i1 := hi 1 (by omega)
    rw [hce, Nat.mul_one, List.getElem?_eq_getElem (by omega)] at i0 i1
    simp only [List.drop_zero, List.drop_succ_cons, List.take_succ_cons, List.take_zero] at i0 i1
    obtain ⟨p, e1, _, hw1⟩ := DataW.trod_int Try.underlying26 i0
    obtain ⟨q, e2, _, hw2⟩ := DataW.trod_int Try.underlying26 i1
    simp only [List.cons.injEq, and_true] at e0 e1 e2
    subst e0 e1 e2
    have h0 := bounds_i64 hw0
    have h1 := bounds_u64 hw1
    have h2 := bounds_u64 hw2
    refine ⟨(s, p.toNat, q.toNat), ?_, ⟨h0.1, h0.2, ?_, ?_⟩⟩
    · simp only
      rw [show ((p.toNat : Nat) : Int) = p by omega, show ((q.toNat : Nat) : Int) = q by omega]
    · show p.toNat ≤ _; omega
    · show q.toNat ≤ _; omega
set_option maxRecDepth 100000 in
theorem row_backs {n : Nat} {v : Value} {y : DataW H × List MemPlace} (h : DataW.trod enc Try.prog w base (fun _ => true) held n 30 [v] = some y) :
    ∃ (a : Option Addr) (L : List Bk) (c : Nat), v = .slice a L.length c ∧ Ro w w.heap.size a (bcs L) ∧ (∀ b ∈ L, FitB b) ∧ L.length ≤ 9223372036854775807 := by
  rcases open_slice Try.underlying30 h with ⟨hc, _⟩ | ⟨a, len, cap, m, k, D, Pl, hc, _, hl, hm, hmm, _, hi⟩
  · exact ⟨none, [], 0, by simpa using hc, Ro.nil _ _ _, by simp, by simp⟩
  · have hc2 : Try.prog.cellsOf 54 = 3 := by kernel_rfl
    simp only [if_true] at hmm
    subst hmm
    have hall : ∀ i, i < m → ∃ b : Bk, FitB b ∧ w.cell? (a.add (i * 3)) = some (.int .i64 b.1) ∧ w.cell? ((a.add (i * 3)).add 1) = some (.int .u64 (b.2.1 : Int)) ∧ w.cell? ((a.add (i * 3)).add 2) = some (.int .u64 (b.2.2 : Int)) := by
      intro i him
      obtain ⟨cs, h1, h2⟩ := hi i him
      rw [hc2] at h1
      obtain ⟨_, _, h3⟩ := World.cells?_some h1
      obtain ⟨r, rfl, hr⟩ := trod_back h2
      refine ⟨r, hr, ?_, h3 1 (by omega), h3 2 (by omega)⟩
      have := h3 0 (by omega)
      simpa [Addr.add] using this
    obtain ⟨A, hA⟩ : ∃ A : Nat → Bk, ∀ i, i < m → FitB (A i) ∧ w.cell? (a.add (i * 3)) = some (.int .i64 (A i).1) ∧ w.cell? ((a.add (i * 3)).add 1) = some (.int .u64 ((A i).2.1 : Int)) ∧ w.cell? ((a.add (i * 3)).add 2) = some (.int .u64 ((A i).2.2 : Int)) :=
      ⟨fun i => if hi : i < m then Classical.choose (hall i hi) else (0, 0, 0), fun i him => by
        have := Classical.choose_spec (hall i him)
        dsimp only
        rw [dif_pos him]
        exact this⟩
    refine ⟨some a, (List.range len).map A, m, by simpa using hc, ?_, fun r hr => ?_, by simp; unfold maxLen at hm; omega⟩
    · rcases Nat.eq_zero_or_pos len with h0 | h0
      · subst h0; exact .inl rfl
      · obtain ⟨b, off, spot⟩ := a
        have hc0 := (hA 0 (by omega)).2.1
        have hspot : spot = none := by simpa [Addr.add] using World.cell?_spot hc0
        subst hspot
        have hb := World.block_lt_of_cell? w _ hc0
        refine .inr ⟨b, off, rfl, by simpa [add_off] using hb, fun i hi => ?_⟩
        rw [bcs_length, List.length_map, List.length_range] at hi
        have hel : ∀ t, t < len → bk ((List.range len).map A) t = A t := fun t ht => by simp [bk, List.getD, ht]
        have hi2 : i / 3 < len := by omega
        obtain ⟨_, g1, g2, g3⟩ := hA (i / 3) (by omega)
        have e := bcs_bk (L := (List.range len).map A) (i := i / 3) (by simpa using hi2)
        rw [hel _ hi2] at e
        have hp : i % 3 = 0 ∨ i % 3 = 1 ∨ i % 3 = 2 := by omega
        rcases hp with hp | hp | hp
        · have ei : i = i / 3 * 3 := by omega
          rw [ei, e.1]
          rw [add_off] at g1
          exact g1
        · have ei : i = i / 3 * 3 + 1 := by omega
          rw [ei, e.2.1]
          rw [add_off, add_off] at g2
          exact g2
        · have ei : i = i / 3 * 3 + 2 := by omega
          rw [ei, e.2.2]
          rw [add_off, add_off] at g3
          exact g3
    · rw [List.mem_map] at hr
      obtain ⟨i, hi, rfl⟩ := hr
      exact (hA i (by have := List.mem_range.1 hi; omega)).1
/-- a cell that came in: where its parts lie -/
structure CeT where
  x : Ce
  a : Option Addr
  c : Nat
  a2 : Option Addr
  c2 : Nat
/-- its ranges, and its rows -/
structure CeOk (w : World) (A : CeT) : Prop where
  k : -9223372036854775808 ≤ A.x.k ∧ A.x.k ≤ 9223372036854775807
  d : Ro w w.heap.size A.a (u8s A.x.d)
  dl : A.x.d.length ≤ 9223372036854775807
  b : Ro w w.heap.size A.a2 (bcs A.x.b)
  bl : A.x.b.length ≤ 9223372036854775807
  fit : ∀ b ∈ A.x.b, FitB b
def CeT.val (A : CeT) : Value := cev A.x.k A.a A.x.d.length A.c A.a2 A.x.b.length A.c2
set_option maxRecDepth 100000 in
theorem trod_cell {n : Nat} {cs : List Value} {y : DataW H × List MemPlace} (h : DataW.trod enc Try.prog w base (fun _ => true) held n 32 cs = some y) :
    ∃ A : CeT, cs = [.int .i64 A.x.k, .slice A.a A.x.d.length A.c, .slice A.a2 A.x.b.length A.c2] ∧ CeOk w A := by
  obtain ⟨xs, m, _, _, hlen, hxl, hf⟩ := DataW.trod_struct Try.underlying32 h
  have hc3 : cs.length = 3 := hlen.trans (by kernel_rfl)
  match cs, hc3, xs, hxl with
  | [c0, c1, c2], _, [x0, x1, x2], _ =>
    have g0 : DataW.trod enc Try.prog w base (fun _ => true) held m 28 (([c0, c1, c2].drop 0).take (Try.prog.cellsOf 28)) = some x0 := hf 0 _ rfl
    have g1 : DataW.trod enc Try.prog w base (fun _ => true) held m 29 (([c0, c1, c2].drop 1).take (Try.prog.cellsOf 29)) = some x1 := hf 1 _ rfl
    have g2 : DataW.trod enc Try.prog w base (fun _ => true) held m 30 (([c0, c1, c2].drop 2).take (Try.prog.cellsOf 30)) = some x2 := hf 2 _ rfl
    rw [show Try.prog.cellsOf 28 = 1 by kernel_rfl] at g0
    rw [show Try.prog.cellsOf 29 = 1 by kernel_rfl] at g1
    rw [show Try.prog.cellsOf 30 = 1 by kernel_rfl] at g2
    simp only [List.drop_zero, List.drop_succ_cons, List.take_succ_cons, List.take_zero] at g0 g1 g2
    obtain ⟨k, e0, _, hw0⟩ := DataW.trod_int Try.underlying28 g0
    obtain ⟨a, bs, c, e1, h1, h1', h1''⟩ := row_u8 g1
    obtain ⟨a2, L, c2', e2, h2, h2', h2''⟩ := row_backs g2
    simp only [List.cons.injEq, and_true] at e0
    subst e0 e1 e2
    exact ⟨⟨⟨k, bs, L⟩, a, c, a2, c2'⟩, rfl, ⟨bounds_i64 hw0, h1, by show bs.length ≤ _; omega, h2, h2'', h2'⟩⟩
set_option maxRecDepth 100000 in
theorem open_cellV {r : Reach} {b0 : Nat} {v : Value} {d : DataW H} {p : List MemPlace} (hv : Value.okWide Try.prog w r b0 32 v) (h : DataW.Trod enc Try.prog w base (fun _ => true) held 32 v d p) :
    ∃ A : CeT, v = A.val ∧ CeOk w A := by
  obtain ⟨cs, rfl, hsz⟩ := okWide_struct Try.underlying32 hv
  obtain ⟨fuel, hf⟩ := h
  obtain ⟨A, hA, hok⟩ := trod_cell hf
  refine ⟨A, ?_, hok⟩
  unfold CeT.val
  congr 1
  apply Array.ext'
  exact hA
end
end Go.Proofs.Ytdblplkaobeimaa
namespace Go.Proofs.Ytdblplkaobeimaa
open Go.RowKit Go.ChangeShapes Go.WideShapes Go.Deep
set_option linter.unusedVariables false
set_option linter.unusedSimpArgs false

section
variable {H : Type} {enc : TypeId × Value → H} {w : World} {base : Nat} {held : Bool}
theorem row_ints {n : Nat} {v : Value} {y : DataW H × List MemPlace} (h : DataW.trod enc Try.prog w base (fun _ => true) held n 33 [v] = some y) :
    ∃ (a : Option Addr) (L : List Int) (c : Nat), v = .slice a L.length c ∧ Ro w w.heap.size a (i64s L) ∧ L.length ≤ c ∧ c ≤ 9223372036854775807 ∧ (a = none → c = 0) := by
  have hrow : ∃ a l c zs, v = .slice a l c ∧ IsRow .i64 w a l c zs := by
    rcases open_ints Try.underlying33 Try.underlying3 (by kernel_rfl) h with ⟨hc, _⟩ | ⟨a, l, c, zs, hc, _, hl, hm, hz, _, hcell, hwz⟩
    · exact ⟨none, 0, 0, [], by simpa using hc, .inl ⟨rfl, rfl, rfl, rfl⟩⟩
    · exact ⟨some a, l, c, zs, by simpa using hc, .inr ⟨a, rfl, hl, hm, by simpa using hz, hcell, hwz⟩⟩
  obtain ⟨a, l, c, zs, rfl, hr⟩ := hrow
  obtain ⟨bs, h1, h2, h3, h4, _⟩ := hr.i64s
  have := hr.cap_le
  exact ⟨a, bs, c, by rw [h1], h4, by omega, by omega, h3⟩
set_option maxRecDepth 100000 in
theorem row_chs {n : Nat} {v : Value} {y : DataW H × List MemPlace} (h : DataW.trod enc Try.prog w base (fun _ => true) held n 41 [v] = some y) :
    ∃ (a : Option Addr) (M : List ChT) (c : Nat), v = .slice a M.length c ∧ Ro w w.heap.size a (chv M) ∧ ChIn w w.heap.size M ∧ ChFit M := by
  rcases open_slice Try.underlying41 h with ⟨hc, _⟩ | ⟨a, len, cap, m, k, D, Pl, hc, _, hl, hm, hmm, _, hi⟩
  · exact ⟨none, [], 0, by simpa using hc, Ro.nil _ _ _, by intro c hc; simp at hc, by constructor <;> simp⟩
  · have hc1 : Try.prog.cellsOf 33 = 1 := by kernel_rfl
    simp only [if_true] at hmm
    subst hmm
    have hall : ∀ i, i < m → ∃ T : ChT, w.cell? (a.add i) = some T.val ∧ Ro w w.heap.size T.a (i64s T.u) ∧ T.u.length ≤ 9223372036854775807 := by
      intro i him
      obtain ⟨cs, h1, h2⟩ := hi i him
      rw [hc1, Nat.mul_one] at h1
      obtain ⟨hl1, _, h3⟩ := World.cells?_some h1
      have hcs : ∃ v, cs = [v] := by
        match cs, hl1 with
        | [v], _ => exact ⟨v, rfl⟩
      obtain ⟨v, rfl⟩ := hcs
      obtain ⟨b, L, c, rfl, g1, g2, g3, _⟩ := row_ints h2
      refine ⟨⟨b, c, L⟩, ?_, g1, by show L.length ≤ _; omega⟩
      have := h3 0 (by omega)
      simpa [Addr.add, ChT.val] using this
    obtain ⟨A, hA⟩ : ∃ A : Nat → ChT, ∀ i, i < m → w.cell? (a.add i) = some (A i).val ∧ Ro w w.heap.size (A i).a (i64s (A i).u) ∧ (A i).u.length ≤ 9223372036854775807 :=
      ⟨fun i => if hi : i < m then Classical.choose (hall i hi) else ⟨none, 0, []⟩, fun i him => by
        have := Classical.choose_spec (hall i him)
        dsimp only
        rw [dif_pos him]
        exact this⟩
    refine ⟨some a, (List.range len).map A, m, by simpa using hc, ?_, fun c hcm => ?_, ?_, fun c hcm => ?_⟩
    · rcases Nat.eq_zero_or_pos len with h0 | h0
      · subst h0; exact .inl rfl
      · obtain ⟨b, off, spot⟩ := a
        have hc0 := (hA 0 (by omega)).1
        have hspot : spot = none := by simpa [Addr.add] using World.cell?_spot hc0
        subst hspot
        have hb := World.block_lt_of_cell? w _ hc0
        refine .inr ⟨b, off, rfl, by simpa [add_off] using hb, fun i hi => ?_⟩
        rw [chv_length, List.length_map, List.length_range] at hi
        have g1 := (hA i (by omega)).1
        rw [add_off] at g1
        rw [g1]
        simp [chv, List.getD, hi]
    · rw [List.mem_map] at hcm
      obtain ⟨i, hi, rfl⟩ := hcm
      exact (hA i (by have := List.mem_range.1 hi; omega)).2.1
    · simp; unfold maxLen at hm; omega
    · rw [List.mem_map] at hcm
      obtain ⟨i, hi, rfl⟩ := hcm
      exact (hA i (by have := List.mem_range.1 hi; omega)).2.2
set_option maxRecDepth 100000 in
theorem trod_seg {n : Nat} {cs : List Value} {y : DataW H × List MemPlace} (h : DataW.trod enc Try.prog w base (fun _ => true) held n 91 cs = some y) :
    ∃ S : SgT, cs = [.int .u64 (S.f : Int), .slice S.a S.ch.length S.c] ∧ Ro w w.heap.size S.a (chv S.ch) ∧ ChIn w w.heap.size S.ch ∧ ChFit S.ch := by
  obtain ⟨xs, m, _, _, hlen, hxl, hf⟩ := DataW.trod_struct Try.underlying91 h
  have hc2 : cs.length = 2 := hlen.trans (by kernel_rfl)
  match cs, hc2, xs, hxl with
  | [c0, c1], _, [x0, x1], _ =>
    have g0 : DataW.trod enc Try.prog w base (fun _ => true) held m 26 (([c0, c1].drop 0).take (Try.prog.cellsOf 26)) = some x0 := hf 0 _ rfl
    have g1 : DataW.trod enc Try.prog w base (fun _ => true) held m 41 (([c0, c1].drop 1).take (Try.prog.cellsOf 41)) = some x1 := hf 1 _ rfl
    rw [show Try.prog.cellsOf 26 = 1 by kernel_rfl] at g0
    rw [show Try.prog.cellsOf 41 = 1 by kernel_rfl] at g1
    simp only [List.drop_zero, List.drop_succ_cons, List.take_succ_cons, List.take_zero] at g0 g1
    obtain ⟨s, e0, _, hw0⟩ := DataW.trod_int Try.underlying26 g0
    obtain ⟨a, M, c, rfl, k1, k2, k3⟩ := row_chs g1
    simp only [List.cons.injEq, and_true] at e0
    subst e0
    have h1 := bounds_u64 hw0
    refine ⟨⟨s.toNat, a, c, M⟩, ?_, k1, k2, k3⟩
    simp only
    rw [show ((s.toNat : Nat) : Int) = s by omega]
set_option maxRecDepth 100000 in
theorem row_segs {n : Nat} {v : Value} {y : DataW H × List MemPlace} (h : DataW.trod enc Try.prog w base (fun _ => true) held n 36 [v] = some y) :
    ∃ (a : Option Addr) (L : List SgT) (c : Nat), v = .slice a L.length c ∧ Ro w w.heap.size a (sgv L) ∧ SgIn w w.heap.size L ∧ SgFit L := by
  rcases open_slice Try.underlying36 h with ⟨hc, _⟩ | ⟨a, len, cap, m, k, D, Pl, hc, _, hl, hm, hmm, _, hi⟩
  · exact ⟨none, [], 0, by simpa using hc, Ro.nil _ _ _, by intro c hc; simp at hc, by constructor <;> simp⟩
  · have hc2 : Try.prog.cellsOf 91 = 2 := by kernel_rfl
    simp only [if_true] at hmm
    subst hmm
    have hall : ∀ i, i < m → ∃ S : SgT, (Ro w w.heap.size S.a (chv S.ch) ∧ ChIn w w.heap.size S.ch ∧ ChFit S.ch) ∧ w.cell? (a.add (i * 2)) = some (.int .u64 (S.f : Int)) ∧ w.cell? ((a.add (i * 2)).add 1) = some (.slice S.a S.ch.length S.c) := by
      intro i him
      obtain ⟨cs, h1, h2⟩ := hi i him
      rw [hc2] at h1
      obtain ⟨_, _, h3⟩ := World.cells?_some h1
      obtain ⟨S, rfl, hr⟩ := trod_seg h2
      refine ⟨S, hr, ?_, h3 1 (by omega)⟩
      have := h3 0 (by omega)
      simpa [Addr.add] using this
    obtain ⟨A, hA⟩ : ∃ A : Nat → SgT, ∀ i, i < m → (Ro w w.heap.size (A i).a (chv (A i).ch) ∧ ChIn w w.heap.size (A i).ch ∧ ChFit (A i).ch) ∧ w.cell? (a.add (i * 2)) = some (.int .u64 ((A i).f : Int)) ∧ w.cell? ((a.add (i * 2)).add 1) = some (.slice (A i).a (A i).ch.length (A i).c) :=
      ⟨fun i => if hi : i < m then Classical.choose (hall i hi) else ⟨0, none, 0, []⟩, fun i him => by
        have := Classical.choose_spec (hall i him)
        dsimp only
        rw [dif_pos him]
        exact this⟩
    refine ⟨some a, (List.range len).map A, m, by simpa using hc, ?_, fun s hs => ?_, ?_, fun s hs => ?_⟩
    · rcases Nat.eq_zero_or_pos len with h0 | h0
      · subst h0; exact .inl rfl
      · obtain ⟨b, off, spot⟩ := a
        have hc0 := (hA 0 (by omega)).2.1
        have hspot : spot = none := by simpa [Addr.add] using World.cell?_spot hc0
        subst hspot
        have hb := World.block_lt_of_cell? w _ hc0
        refine .inr ⟨b, off, rfl, by simpa [add_off] using hb, fun i hi => ?_⟩
        rw [sgv_length, List.length_map, List.length_range] at hi
        have hi2 : i / 2 < len := by omega
        have hel : ((List.range len).map A)[i / 2]? = some (A (i / 2)) := by simp [hi2]
        obtain ⟨_, g1, g2⟩ := hA (i / 2) (by omega)
        obtain ⟨e1, e2⟩ := sgv_get ((List.range len).map A) (i / 2)
        rw [hel] at e1 e2
        have hp : i % 2 = 0 ∨ i % 2 = 1 := by omega
        rcases hp with hp | hp
        · have ei : i = i / 2 * 2 := by omega
          rw [ei]
          rw [add_off] at g1
          rw [g1]
          simp only [List.getD, e1, Option.map_some, Option.getD_some]
        · have ei : i = i / 2 * 2 + 1 := by omega
          rw [ei]
          rw [add_off, add_off] at g2
          rw [← Nat.add_assoc, g2]
          simp only [List.getD, e2, Option.map_some, Option.getD_some]
    · rw [List.mem_map] at hs
      obtain ⟨i, hi, rfl⟩ := hs
      have := (hA i (by have := List.mem_range.1 hi; omega)).1
      exact ⟨this.1, this.2.1⟩
    · simp; unfold maxLen at hm; omega
    · rw [List.mem_map] at hs
      obtain ⟨i, hi, rfl⟩ := hs
      exact (hA i (by have := List.mem_range.1 hi; omega)).1.2.2
/-- a layout that came in -/
structure LyOk (w : World) (A : LyT) : Prop where
  inn : LyIn w w.heap.size A
  fit : SgFit A.sg
  e : A.e ≤ 18446744073709551615
  q : -9223372036854775808 ≤ A.q ∧ A.q ≤ 9223372036854775807
set_option maxRecDepth 100000 in
theorem open_layoutV {r : Reach} {b0 : Nat} {v : Value} {d : DataW H} {p : List MemPlace} (hv : Value.okWide Try.prog w r b0 38 v) (h : DataW.Trod enc Try.prog w base (fun _ => true) held 38 v d p) :
    ∃ A : LyT, v = A.val ∧ LyOk w A := by
  obtain ⟨cs, rfl, hsz⟩ := okWide_struct Try.underlying38 hv
  obtain ⟨fuel, hf⟩ := h
  obtain ⟨xs, m, _, _, hlen, hxl, hf⟩ := DataW.trod_struct Try.underlying38 hf
  have hc3 : cs.toList.length = 3 := hlen.trans (by kernel_rfl)
  obtain ⟨cl⟩ := cs
  match cl, hc3, xs, hxl with
  | [c0, c1, c2], _, [x0, x1, x2], _ =>
    have g0 : DataW.trod enc Try.prog w base (fun _ => true) held m 26 (([c0, c1, c2].drop 0).take (Try.prog.cellsOf 26)) = some x0 := hf 0 _ rfl
    have g1 : DataW.trod enc Try.prog w base (fun _ => true) held m 36 (([c0, c1, c2].drop 1).take (Try.prog.cellsOf 36)) = some x1 := hf 1 _ rfl
    have g2 : DataW.trod enc Try.prog w base (fun _ => true) held m 3 (([c0, c1, c2].drop 2).take (Try.prog.cellsOf 3)) = some x2 := hf 2 _ rfl
    rw [show Try.prog.cellsOf 26 = 1 by kernel_rfl] at g0
    rw [show Try.prog.cellsOf 36 = 1 by kernel_rfl] at g1
    rw [show Try.prog.cellsOf 3 = 1 by kernel_rfl] at g2
    simp only [List.drop_zero, List.drop_succ_cons, List.take_succ_cons, List.take_zero] at g0 g1 g2
    obtain ⟨s, e0, _, hw0⟩ := DataW.trod_int Try.underlying26 g0
    obtain ⟨a, L, c, rfl, k1, k2, k3⟩ := row_segs g1
    obtain ⟨q, e2, _, hw2⟩ := DataW.trod_int Try.underlying3 g2
    simp only [List.cons.injEq, and_true] at e0 e2
    subst e0 e2
    have h1 := bounds_u64 hw0
    refine ⟨⟨s.toNat, a, c, L, q⟩, ?_, ⟨k1, k2⟩, k3, by show s.toNat ≤ _; omega, bounds_i64 hw2⟩
    unfold LyT.val
    simp only
    rw [show ((s.toNat : Nat) : Int) = s by omega]
/-- what is asked of a layout, that came in -/
structure FoT where
  a1 : Option Addr
  c1 : Nat
  dr : List Int
  a2 : Option Addr
  c2 : Nat
  fr : List Int
  q : Int
  f : Nat
  a3 : Option Addr
  c3 : Nat
  ch : List ChT
def FoT.val (F : FoT) : Value := folV F.a1 F.dr.length F.c1 F.a2 F.fr.length F.c2 F.q F.f F.a3 F.ch.length F.c3
structure FoOk (w : World) (F : FoT) : Prop where
  dr : Ro w w.heap.size F.a1 (i64s F.dr)
  fr : Ro w w.heap.size F.a2 (i64s F.fr)
  fc : F.fr.length ≤ F.c2 ∧ F.c2 ≤ 9223372036854775807 ∧ (F.a2 = none → F.c2 = 0)
  f : F.f ≤ 18446744073709551615
  ch : Ro w w.heap.size F.a3 (chv F.ch)
  chi : ChIn w w.heap.size F.ch
  chf : ChFit F.ch
end
end Go.Proofs.Ytdblplkaobeimaa
