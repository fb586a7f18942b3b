/-
  Serve of package sequencer, in one form. No claim of its own.
-/
import Derived.Test.YtdblplkaobeimaaGa11
import Derived.Test.YtdblplkaobeimaaGa5
namespace Go.Proofs.Ytdblplkaobeimaa
open Go.RowKit Go.Deep Go.Shelf
set_option linter.unusedVariables false
set_option linter.unusedSimpArgs false

/-- is it answered? -/
def svB (S : SqS) (A : MgT) : Bool := mright A.x && (decide (A.to.1 = 2 ∧ A.to.2 = S.n) && decide (A.k = 10 ∨ A.k = 7 ∨ A.k = 9))
/-- the answer -/
def svT (S : SqS) (A : MgT) (a1 : Option Addr) (c1 : Nat) (a2 : Option Addr) (c2 : Nat) : MgT :=
  if svB S A then (if A.k = 10 then begT S A else if A.k = 7 then endT S A else if S.now A.ep then (if S.t = 1048576 then ansT A 152 else tokT S A a1 c1 a2 c2) else refT S A) else zmT
/-- the state behind it -/
def svS (S : SqS) (A : MgT) : SqS :=
  if svB S A then (if A.k = 10 then begS S A else if A.k = 7 then S else if S.now A.ep then (if S.t = 1048576 then S else tokS S A) else S) else S
/-- what the answer reads -/
def SvR (w0 w' : World) (R : MgT) : Prop := Ro w' w'.heap.size R.sa (i64s R.st) ∧ Lb w' w0.heap.size (.slice R.ka R.bk.length R.kc) R.bk
theorem SvR.none {w0 w' : World} {R : MgT} (h1 : R.st = []) (h2 : R.bk = []) (h3 : R.ka = none) (h4 : R.kc = 0) : SvR w0 w' R := by
  unfold SvR
  rw [h1, h2, h3, h4]
  exact ⟨Ro.nil _ _ _, Lb.nil _ _⟩
theorem refT_no (w0 w' : World) (S : SqS) (A : MgT) : SvR w0 w' (refT S A) := SvR.none rfl rfl rfl rfl
theorem ansT_no (w0 w' : World) (A : MgT) (e : Int) : SvR w0 w' (ansT A e) := SvR.none rfl rfl rfl rfl
theorem zmT_no (w0 w' : World) : SvR w0 w' zmT := SvR.none rfl rfl rfl rfl
theorem endT_no (w0 w' : World) (S : SqS) (A : MgT) : SvR w0 w' (endT S A) := by
  unfold endT
  split
  · exact SvR.none rfl rfl rfl rfl
  · exact refT_no _ _ _ _
theorem begT_no (w0 w' : World) (S : SqS) (A : MgT) : SvR w0 w' (begT S A) := by
  unfold begT
  split
  · exact refT_no _ _ _ _
  · split <;> exact ansT_no _ _ _ _
theorem Serve_any (S : SqS) (hSL : S.L.length = 16) (hST : S.t ≤ 1048576) (p : Nat) (A : MgT) (w0 : World) (ho : Sqn w0 p S) (hin : MgIn w0 w0.heap.size A) (hf : MgFit A) (hx : RoX w0 [p] A.sa (i64s A.st)) :
    Calls Try.prog 9 #[.pointer (some ⟨p, 0, none⟩), .agg A.cs.toArray] w0 fun e w' => ∃ a1 c1 a2 c2, e = .returned (.tuple #[.agg (svT S A a1 c1 a2 c2).cs.toArray, .bool (svB S A)]) ∧ Sqn w' p (svS S A) ∧ SvR w0 w' (svT S A a1 c1 a2 c2) ∧ Chg [p] w0 w' := by
  have hpl := ho.lt
  have hpn : p ∉ [w0.heap.size + 1] := by simp; omega
  cases hr : mright A.x with
  | false =>
    have hB : svB S A = false := by unfold svB; rw [hr]; rfl
    refine (Serve_wrong S p A w0 ho hin hf hr).mono ?_
    rintro e w' ⟨rfl, hb⟩
    refine ⟨none, 0, none, 0, ?_, ?_, ?_, (Chg.refl _ _).of_below hb⟩
    · simp [svT, hB]
    · simp only [svS, hB, Bool.false_eq_true, if_false]; exact ho.below hb hpl
    · simp only [svT, hB, Bool.false_eq_true, if_false]; exact zmT_no _ _
  | true =>
  have hm := mright_all hr
  by_cases ht : A.to.1 = 2 ∧ A.to.2 = S.n
  · by_cases k10 : A.k = 10
    · have hB : svB S A = true := by unfold svB; rw [hr, decide_eq_true ht, decide_eq_true (Or.inl k10)]; rfl
      refine (Serve_beg S p A w0 ho hin hf hr ht k10 (fun R w' => R = begT S A ∧ Sqn w' p (begS S A)) (fun R w' => R = begT S A ∧ Sqn w' p (begS S A)) (fun V hc hs hz => ?_) (fun R w' w'' h1 _ _ hc => ⟨h1.1, h1.2.chg hc hpn⟩)).mono ?_
      · refine (begin_any S hSL p A V hs ((hin.below hc.low (Nat.le_refl _)).mono hc.size) (by have h1 : A.bk.length ≤ 16 := hm.bk.1; omega)).mono ?_
        rintro e w' ⟨rfl, h1, h2⟩
        exact ⟨_, rfl, h2, rfl, h1⟩
      · rintro e w' ⟨R, rfl, hc, rfl, hs⟩
        refine ⟨none, 0, none, 0, ?_, ?_, ?_, hc⟩
        · simp [svT, hB, k10]
        · simp only [svS, hB, k10, if_true]; exact hs
        · simp only [svT, hB, k10, if_true]; exact begT_no _ _ _ _
    · by_cases k7 : A.k = 7
      · have hB : svB S A = true := by unfold svB; rw [hr, decide_eq_true ht, decide_eq_true (Or.inr (Or.inl k7))]; rfl
        refine (Serve_end S p A w0 ho hin hf hr ht k7 (fun R w' => R = endT S A ∧ Sqn w' p S) (fun R w' => R = endT S A ∧ Sqn w' p S) (fun V hc hs hz => ?_) (fun R w' w'' h1 _ _ hc => ⟨h1.1, h1.2.chg hc hpn⟩)).mono ?_
        · refine (end_any S p A V hs).mono ?_
          rintro e w' ⟨rfl, h1⟩
          exact ⟨_, rfl, (Chg.refl _ _).of_below h1, rfl, hs.below h1 hs.lt⟩
        · rintro e w' ⟨R, rfl, hc, rfl, hs⟩
          refine ⟨none, 0, none, 0, ?_, ?_, ?_, hc⟩
          · simp [svT, hB, k7]
          · simp only [svS, hB, k7, if_true]; exact hs
          · simp only [svT, hB, k7, if_true]; exact endT_no _ _ _ _
      · by_cases k9 : A.k = 9
        · have hB : svB S A = true := by unfold svB; rw [hr, decide_eq_true ht, decide_eq_true (Or.inr (Or.inr k9))]; rfl
          cases hn : S.now A.ep with
          | false =>
            refine (Serve_tok S p A w0 ho hin hf hr ht k9 (fun R w' => R = refT S A ∧ Sqn w' p S) (fun R w' => R = refT S A ∧ Sqn w' p S) (fun V hc hs hz => ?_) (fun R w' w'' h1 _ _ hc => ⟨h1.1, h1.2.chg hc hpn⟩)).mono ?_
            · refine (token_no S p A V hs hn).mono ?_
              rintro e w' ⟨rfl, h1⟩
              exact ⟨_, rfl, (Chg.refl _ _).of_below h1, rfl, hs.below h1 hs.lt⟩
            · rintro e w' ⟨R, rfl, hc, rfl, hs⟩
              refine ⟨none, 0, none, 0, ?_, ?_, ?_, hc⟩
              · simp [svT, hB, k10, k7, hn]
              · simp only [svS, hB, k10, k7, hn, if_true, if_false, Bool.false_eq_true]; exact hs
              · simp only [svT, hB, k10, k7, hn, if_true, if_false, Bool.false_eq_true]; exact refT_no _ _ _ _
          | true =>
            by_cases hf2 : S.t = 1048576
            · refine (Serve_tok S p A w0 ho hin hf hr ht k9 (fun R w' => R = ansT A 152 ∧ Sqn w' p S) (fun R w' => R = ansT A 152 ∧ Sqn w' p S) (fun V hc hs hz => ?_) (fun R w' w'' h1 _ _ hc => ⟨h1.1, h1.2.chg hc hpn⟩)).mono ?_
              · refine (token_full S p A V hs hn hf2).mono ?_
                rintro e w' ⟨rfl, h1⟩
                exact ⟨_, rfl, (Chg.refl _ _).of_below h1, rfl, hs.below h1 hs.lt⟩
              · rintro e w' ⟨R, rfl, hc, rfl, hs⟩
                refine ⟨none, 0, none, 0, ?_, ?_, ?_, hc⟩
                · simp [svT, hB, k10, k7, hn, hf2]
                · simp only [svS, hB, k10, k7, hn, hf2, if_true, if_false]; exact hs
                · simp only [svT, hB, k10, k7, hn, hf2, if_true, if_false]; exact ansT_no _ _ _ _
            · refine (Serve_tok S p A w0 ho hin hf hr ht k9 (fun R w' => ∃ a1 c1 a2 c2, R = tokT S A a1 c1 a2 c2 ∧ Sqn w' p (tokS S A) ∧ Ro w' w'.heap.size a1 (i64s A.st) ∧ (∀ x, a1 = some x → w0.heap.size + 1 < x.block) ∧ Lb w' w0.heap.size (.slice a2 A.st.length c2) (backsL S.L A.st)) (fun R w' => ∃ a1 c1 a2 c2, R = tokT S A a1 c1 a2 c2 ∧ Sqn w' p (tokS S A) ∧ Ro w' w'.heap.size a1 (i64s A.st) ∧ Lb w' w0.heap.size (.slice a2 A.st.length c2) (backsL S.L A.st)) (fun V hc hs hz => ?_) ?_).mono ?_
              · refine (token_yes S hSL p A V hs hn (by omega) ((hin.below hc.low (Nat.le_refl _)).mono hc.size) (hx.chg (hc.mono (by simp))) hm.st.2 (by have h1 : A.st.length ≤ 4 := hm.st.1; omega)).mono ?_
                rintro e w' ⟨a1, c1, a2, c2, rfl, h1, h2, h3, h4, h5⟩
                exact ⟨_, rfl, h5, a1, c1, a2, c2, rfl, h1, h2, fun x hx => Nat.lt_of_lt_of_le hz (h3 x hx), h4.baseQ hc.size⟩
              · rintro R w' w'' ⟨a1, c1, a2, c2, rfl, h1, h2, h3, h4⟩ hz ht' hc
                refine ⟨a1, c1, a2, c2, rfl, h1.chg hc hpn, ?_, h4.chgQ hc (fun x hx => by simp only [List.mem_singleton] at hx; subst hx; exact ht' _ (by decide))⟩
                rcases h2 with h2 | ⟨b, off, e1, e2, e3⟩
                · exact .inl h2
                · refine .inr ⟨b, off, e1, Nat.lt_of_lt_of_le e2 hc.size, fun i hi => hc.cell (e3 i hi) ?_⟩
                  have h9 : w0.heap.size + 1 < b := h3 _ e1
                  simp only [List.mem_singleton]
                  omega
              · rintro e w' ⟨R, rfl, hc, a1, c1, a2, c2, rfl, hs, h1, h2⟩
                refine ⟨a1, c1, a2, c2, ?_, ?_, ?_, hc⟩
                · simp [svT, hB, k10, k7, hn, hf2]
                · simp only [svS, hB, k10, k7, hn, hf2, if_true, if_false]; exact hs
                · simp only [svT, hB, k10, k7, hn, hf2, if_true, if_false]
                  exact ⟨h1, by simpa [tokT] using h2⟩
        · have hB : svB S A = false := by unfold svB; rw [hr, decide_eq_true ht, decide_eq_false (by simp [k10, k7, k9])]; rfl
          refine (Serve_other S p A w0 ho hin hf hr ht k10 k7 k9).mono ?_
          rintro e w' ⟨rfl, hb⟩
          refine ⟨none, 0, none, 0, ?_, ?_, ?_, (Chg.refl _ _).of_below hb⟩
          · simp [svT, hB]
          · simp only [svS, hB, Bool.false_eq_true, if_false]; exact ho.below hb hpl
          · simp only [svT, hB, Bool.false_eq_true, if_false]; exact zmT_no _ _
  · have hB : svB S A = false := by unfold svB; rw [hr, decide_eq_false ht]; rfl
    refine (Serve_else S p A w0 ho hin hf hr ht).mono ?_
    rintro e w' ⟨rfl, hb⟩
    refine ⟨none, 0, none, 0, ?_, ?_, ?_, (Chg.refl _ _).of_below hb⟩
    · simp [svT, hB]
    · simp only [svS, hB, Bool.false_eq_true, if_false]; exact ho.below hb hpl
    · simp only [svT, hB, Bool.false_eq_true, if_false]; exact zmT_no _ _
end Go.Proofs.Ytdblplkaobeimaa
namespace Go.Proofs.Ytdblplkaobeimaa
open Go.RowKit Go.Deep Go.Shelf
set_option linter.unusedVariables false
set_option linter.unusedSimpArgs false

def al1 (g : Nat) : MgT := ⟨10, (4, 0), (2, 2), 0, 0, 3, 7, 0, noC, none, 0, none, 0, [], none, 0, [(1, 6, nA)], some ⟨g, 0, none⟩, 1, (0, 0), (0, 0), ⟨0, none, 0, [], 0⟩⟩
def al2 (g : Nat) : MgT := ⟨9, (4, 0), (2, 2), 0, 0, 3, 0, 0, noC, none, 0, none, 0, [1], some ⟨g, 0, none⟩, 1, [], none, 0, (0, 0), (0, 0), ⟨0, none, 0, [], 0⟩⟩
def al3 : MgT := ⟨9, (4, 0), (2, 2), 0, 0, 2, 0, 0, noC, none, 0, none, 0, [], none, 0, [], none, 0, (0, 0), (0, 0), ⟨0, none, 0, [], 0⟩⟩
def alS1 : SqS := ⟨2, 3, 7, lastsM [(1, 6, nA)] 16⟩
def alS2 : SqS := ⟨2, 3, 8, (lastsM [(1, 6, nA)] 16).set 1 (7, 6)⟩
theorem noly_in (w : World) (B : Nat) : LyIn w B ⟨0, none, 0, [], 0⟩ := ⟨Ro.nil _ _ _, fun s hs => by cases hs⟩
theorem noly_fit : SgFit (LyT.sg ⟨0, none, 0, [], 0⟩) := ⟨by simp, (fun s hs => by cases hs)⟩
theorem al_serve1 (w : World) (p : Nat) (ho : Sqn w p (newS 2)) :
    Calls Try.prog 9 #[.pointer (some ⟨p, 0, none⟩), .agg (al1 w.heap.size).cs.toArray] (w.alloc (.cells #[.int .i64 1, .int .u64 6, .int .u64 18446744073709551615] 54)) fun e w' => e = .returned (.tuple #[.agg (ansT (al1 w.heap.size) 0).cs.toArray, .bool true]) ∧ Sqn w' p alS1 ∧ Chg [p] w w' := by
  have hc : Chg [p] w (w.alloc (.cells #[.int .i64 1, .int .u64 6, .int .u64 18446744073709551615] 54)) := (Chg.refl _ _).alloc _
  have hin : MgIn (w.alloc (.cells #[.int .i64 1, .int .u64 6, .int .u64 18446744073709551615] 54)) (w.alloc (.cells #[.int .i64 1, .int .u64 6, .int .u64 18446744073709551615] 54)).heap.size (al1 w.heap.size) :=
    ⟨Ro.nil _ _ _, Ro.nil _ _ _, Ro.nil _ _ _, (Own.new w 54 (bcs [(1, 6, nA)])).ro _ (by simp), noly_in _ _⟩
  have hf : MgFit (al1 w.heap.size) := ⟨by simp [al1, noC], by simp [al1, noC], by simp [al1], by simp [al1], noly_fit, (fun b hb => by cases hb), (fun b hb => by simp [al1] at hb; subst hb; exact ⟨by decide, by decide, by decide, by decide⟩)⟩
  refine (Serve_any (newS 2) (by simp [newS]) (by simp [newS]) p (al1 w.heap.size) _ (Own.alloc ho _) hin hf (.inl rfl)).mono ?_
  rintro e w' ⟨a1, c1, a2, c2, rfl, h1, -, h2⟩
  exact ⟨rfl, h1, hc.trans h2⟩
theorem al_serve2 (w : World) (p : Nat) (ho : Sqn w p alS1) :
    Calls Try.prog 9 #[.pointer (some ⟨p, 0, none⟩), .agg (al2 w.heap.size).cs.toArray] (w.alloc (.cells #[.int .i64 1] 3)) fun e w' => ∃ a1 c1 a2 c2, e = .returned (.tuple #[.agg (tokT alS1 (al2 w.heap.size) a1 c1 a2 c2).cs.toArray, .bool true]) ∧ Sqn w' p alS2 ∧ Lb w' w.heap.size (.slice a2 1 c2) [(1, 6, nA)] ∧ Chg [p] w w' := by
  have hc : Chg [p] w (w.alloc (.cells #[.int .i64 1] 3)) := (Chg.refl _ _).alloc _
  have hro := (Own.new w 3 (i64s [1])).ro (w.heap.size + 1) (by omega)
  have hin : MgIn (w.alloc (.cells #[.int .i64 1] 3)) (w.alloc (.cells #[.int .i64 1] 3)).heap.size (al2 w.heap.size) :=
    ⟨Ro.nil _ _ _, Ro.nil _ _ _, by rw [World.size_alloc]; exact hro, Ro.nil _ _ _, noly_in _ _⟩
  have hf : MgFit (al2 w.heap.size) := ⟨by simp [al2, noC], by simp [al2, noC], by simp [al2], by simp [al2], noly_fit, (fun b hb => by cases hb), (fun b hb => by cases hb)⟩
  have hpl := ho.lt
  have hx : RoX (w.alloc (.cells #[.int .i64 1] 3)) [p] (al2 w.heap.size).sa (i64s (al2 w.heap.size).st) :=
    .inr ⟨w.heap.size, 0, rfl, by simp, by simp; omega, fun i hi => by
      rcases hro with h | ⟨b, off, h1, _, h3⟩
      · cases h
      · injection h1 with h1
        injection h1 with h1 h2 _
        subst h1 h2
        exact h3 i hi⟩
  refine (Serve_any alS1 (by simp [alS1]) (by simp [alS1]) p (al2 w.heap.size) _ (Own.alloc ho _) hin hf hx).mono ?_
  rintro e w' ⟨a1, c1, a2, c2, rfl, h1, h3, h2⟩
  exact ⟨a1, c1, a2, c2, rfl, h1, Lb.baseQ h3.2 (by simp), hc.trans h2⟩
theorem al_serve3 (w : World) (p : Nat) (ho : Sqn w p alS2) :
    Calls Try.prog 9 #[.pointer (some ⟨p, 0, none⟩), .agg al3.cs.toArray] w fun e w' => e = .returned (.tuple #[.agg (refT alS2 al3).cs.toArray, .bool true]) ∧ Sqn w' p alS2 ∧ Chg [p] w w' := by
  have hin : MgIn w w.heap.size al3 := ⟨Ro.nil _ _ _, Ro.nil _ _ _, Ro.nil _ _ _, Ro.nil _ _ _, noly_in _ _⟩
  have hf : MgFit al3 := ⟨by simp [al3, noC], by simp [al3, noC], by simp [al3], by simp [al3], noly_fit, (fun b hb => by cases hb), (fun b hb => by cases hb)⟩
  refine (Serve_any alS2 (by simp [alS2]) (by simp [alS2]) p al3 _ ho hin hf (.inl rfl)).mono ?_
  rintro e w' ⟨a1, c1, a2, c2, rfl, h1, -, h2⟩
  exact ⟨rfl, h1, h2⟩
end Go.Proofs.Ytdblplkaobeimaa
namespace Go.Proofs.Ytdblplkaobeimaa
open Go.RowKit Go.Deep Go.Shelf
set_option linter.unusedVariables false
set_option linter.unusedSimpArgs false

set_option maxHeartbeats 8000000 in
set_option maxRecDepth 100000 in
theorem alive15_any (w : World) : Calls Try.prog 8 #[] w fun e w' => e = .returned (.bool true) ∧ Below w.heap.size w w' := by
  have HN := Lib.hid (SqNew_any 2 w (by omega) (by omega))
  have HS1 := Lib.hid (fun V p (h : Sqn V p (newS 2)) => al_serve1 V p h)
  have HS2 := Lib.hid (fun V p (h : Sqn V p alS1) => al_serve2 V p h)
  have HS3 := Lib.hid (fun V p (h : Sqn V p alS2) => al_serve3 V p h)
  have HT : Hid (∀ V p (h : Sqn V p alS2), Calls Try.prog 12 #[.pointer (some ⟨p, 0, none⟩)] V fun e w' => e = .returned (.int .u64 8) ∧ Below V.heap.size V w') := Lib.hid (fun V p h => Tail_any alS2 p V h)
  have HL : Hid (∀ V p (h : Sqn V p alS2), Calls Try.prog 11 #[.pointer (some ⟨p, 0, none⟩), .int .i64 1] V fun e w' => e = .returned (.agg #[.int .u64 7, .int .u64 6]) ∧ Below V.heap.size V w') := Lib.hid (fun V p h => Last_any alS2 (by simp [alS2]) p 1 V h)
  go_enter Try.func8, Try.ntmps8
  go_wp2_with fail
  refine HN.out.mono ?_
  rintro e w1 ⟨p, rfl, hp, hs, hb⟩
  have HB1 := Lib.hid hb
  have HP1 := Lib.hid hs
  have HPG := Lib.hid hp
  clear hs hb hp
  go_upto_region 6 with fail
  obtain ⟨W, hW⟩ : ∃ W, ((w1.alloc (.cells #[.int .i64 2, .int .i64 2] 25)).alloc (.cells #[.int .i64 4, .int .i64 0] 25)) = W := ⟨_, rfl⟩
  obtain ⟨g, hg⟩ : ∃ g, w1.heap.size = g := ⟨_, rfl⟩
  have oA : Own W g 25 [.int .i64 2, .int .i64 2] := by rw [← hW, ← hg]; exact (Own.new w1 _ _).alloc _
  have oB : Own W (g + 1) 25 [.int .i64 4, .int .i64 0] := by
    rw [← hW, ← hg]
    have := Own.new (w1.alloc (.cells #[.int .i64 2, .int .i64 2] 25)) 25 [.int .i64 4, .int .i64 0]
    rw [World.size_alloc] at this
    exact this
  have HPW : Hid (Sqn W p (newS 2)) := Lib.hid (by rw [← hW]; exact (Own.alloc HP1.out _).alloc _)
  have HCW : Hid (Chg [p] w1 W) := Lib.hid (by rw [← hW]; exact ((Chg.refl _ _).alloc _).alloc _)
  have HPG2 : Hid (p < g) := Lib.hid (by rw [← hg]; exact HP1.out.lt)
  have HGW : Hid (w1.heap.size = g) := Lib.hid hg
  rw [hW, hg]
  have HOA := Lib.hid oA
  have HOB := Lib.hid oB
  have x0 := oA.cell 0
  have x1 := oA.cell 1
  have y0 := oB.cell 0
  have y1 := oB.cell 1
  have z0 := oA.lt
  have z1 := oB.lt
  simp at x0 x1 y0 y1
  clear hW oA oB hg
  go_wp2_with fail
  refine (HS1.out W p HPW.out).mono ?_
  rintro e w2 ⟨rfl, hs, hc⟩
  have HP2 := Lib.hid hs
  have HC2 := Lib.hid (HCW.out.trans hc)
  have HOA2 := Lib.hid (HOA.out.chg hc (by have := HPG2.out; simp; omega))
  have HOB2 := Lib.hid (HOB.out.chg hc (by have := HPG2.out; simp; omega))
  clear hs hc x0 x1 y0 y1 z0 z1
  go_wp2_with (refine wpList_storeMg rfl (.tmp 5) (.tmp 32) rfl w2.heap.size rfl (ansT (al1 W.heap.size) 0) rfl zmT.cs (zm_new w2) rfl ?_)
  intro w3 ho hc
  have hc3 : Chg [] w2 w3 := ((Chg.refl [] w2).alloc _).then hc (fun x hx => by simp only [List.mem_singleton] at hx; subst hx; exact .inr (Nat.le_refl _))
  obtain ⟨g5, hg5⟩ : ∃ g, w2.heap.size = g := ⟨_, rfl⟩
  rw [hg5] at ho ⊢
  have HM5 := Lib.hid ho
  have HG5 : Hid (g + 1 < g5) := Lib.hid (by rw [← hg5]; exact HOB2.out.lt)
  have HP3 := Lib.hid (HP2.out.chg hc3 (by simp))
  have HC3 := Lib.hid (HC2.out.trans (hc3.mono (by simp)))
  have HOA3 := Lib.hid (HOA2.out.chg hc3 (by simp))
  have HOB3 := Lib.hid (HOB2.out.chg hc3 (by simp))
  have x0 := HOA3.out.cell 0
  have x1 := HOA3.out.cell 1
  have y0 := HOB3.out.cell 0
  have y1 := HOB3.out.cell 1
  have z0 := HOA3.out.lt
  have z1 := HOB3.out.lt
  simp at x0 x1 y0 y1
  clear ho hc hc3 hg5
  go_wp2_with fail
  refine (HS2.out w3 p HP3.out).mono ?_
  rintro e w4 ⟨a1, c1, a2, c2, rfl, hs, hl, hc⟩
  have HP4 := Lib.hid hs
  have HL4 := Lib.hid hl
  have HC4 := Lib.hid (HC3.out.trans hc)
  have HOA4 := Lib.hid (HOA3.out.chg hc (by have := HPG2.out; simp; omega))
  have HOB4 := Lib.hid (HOB3.out.chg hc (by have := HPG2.out; simp; omega))
  have HM54 := Lib.hid (HM5.out.chg hc (by have := HPG2.out; have := HG5.out; simp; omega))
  clear hs hc hl x0 x1 y0 y1 z0 z1
  obtain ⟨RR2, hRR2⟩ : ∃ RR2, tokT alS1 (al2 w3.heap.size) a1 c1 a2 c2 = RR2 := ⟨_, rfl⟩
  rw [hRR2]
  have HRR2 := Lib.hid hRR2
  clear hRR2
  go_wp2_with (refine wpList_storeMg rfl (.tmp 7) (.tmp 41) rfl w4.heap.size rfl RR2 rfl zmT.cs (zm_new w4) rfl ?_)
  intro w5 ho hc
  have hc5 : Chg [] w4 w5 := ((Chg.refl [] w4).alloc _).then hc (fun x hx => by simp only [List.mem_singleton] at hx; subst hx; exact .inr (Nat.le_refl _))
  obtain ⟨g7, hg7⟩ : ∃ g, w4.heap.size = g := ⟨_, rfl⟩
  rw [hg7] at ho ⊢
  have HM7 := Lib.hid ho
  have HG7 : Hid (g5 < g7) := Lib.hid (by rw [← hg7]; exact HM54.out.lt)
  have HP5 := Lib.hid (HP4.out.chg hc5 (by simp))
  have HC5 := Lib.hid (HC4.out.trans (hc5.mono (by simp)))
  have HOA5 := Lib.hid (HOA4.out.chg hc5 (by simp))
  have HOB5 := Lib.hid (HOB4.out.chg hc5 (by simp))
  have HM55 := Lib.hid (HM54.out.chg hc5 (by simp))
  have HL5 := Lib.hid (HL4.out.chgQ hc5 (by simp))
  have x0 := HOA5.out.cell 0
  have x1 := HOA5.out.cell 1
  have y0 := HOB5.out.cell 0
  have y1 := HOB5.out.cell 1
  have z0 := HOA5.out.lt
  have z1 := HOB5.out.lt
  simp at x0 x1 y0 y1
  clear ho hc hc5 hg7
  go_wp2_with fail
  refine (HS3.out w5 p HP5.out).mono ?_
  rintro e w6 ⟨rfl, hs, hc⟩
  have HP6 := Lib.hid hs
  have HC6 := Lib.hid (HC5.out.trans hc)
  have HM56 := Lib.hid (HM55.out.chg hc (by have := HPG2.out; have := HG5.out; simp; omega))
  have HM76 := Lib.hid (HM7.out.chg hc (by have := HPG2.out; have := HG5.out; have := HG7.out; simp; omega))
  have HL6 := Lib.hid (HL5.out.chgQ hc (HP5.out.own.notQ (by decide)))
  clear hs hc x0 x1 y0 y1 z0 z1
  go_wp2_with (refine wpList_storeMg rfl (.tmp 9) (.tmp 49) rfl w6.heap.size rfl (refT alS2 al3) rfl zmT.cs (zm_new w6) rfl ?_)
  intro w7 ho hc
  have hc7 : Chg [] w6 w7 := ((Chg.refl [] w6).alloc _).then hc (fun x hx => by simp only [List.mem_singleton] at hx; subst hx; exact .inr (Nat.le_refl _))
  obtain ⟨g9, hg9⟩ : ∃ g, w6.heap.size = g := ⟨_, rfl⟩
  rw [hg9] at ho ⊢
  have HP7 := Lib.hid (HP6.out.chg hc7 (by simp))
  have HC7 := Lib.hid (HC6.out.trans (hc7.mono (by simp)))
  have hm5 := HM56.out.chg hc7 (by simp)
  have hm7 := HM76.out.chg hc7 (by simp)
  have HL7 := Lib.hid (HL6.out.chgQ hc7 (by simp))
  obtain ⟨a3, c3, hv, hr, -, -⟩ := HL7.out.form
  injection hv with hv hv2 hv3
  subst hv
  clear hv2 hv3
  obtain ⟨b0, off, hb0, -, hcl⟩ := hr.bk (by simp)
  have k1 : w7.cell? ⟨b0, off + 1, none⟩ = some (.int .u64 6) := (hcl 0 (by simp)).2.1
  have q7 : w7.cell? ⟨g5, 9, none⟩ = some (.int .i64 0) := hm5.cell 9
  have r6 : w7.cell? ⟨g7, 8, none⟩ = some (.int .u64 7) := by rw [hm7.cell 8, ← HRR2.out]; rfl
  have r10 : w7.cell? ⟨g7, 14, none⟩ = some (.slice (some ⟨b0, off, none⟩) 1 c2) := by rw [hm7.cell 14, ← HRR2.out, ← hb0]; rfl
  have t7 : w7.cell? ⟨g9, 9, none⟩ = some (.int .i64 84) := ho.cell 9
  have t5 : w7.cell? ⟨g9, 7, none⟩ = some (.int .u64 3) := ho.cell 7
  have z5 := hm5.lt
  have z7 := hm7.lt
  have z9 := ho.lt
  clear ho hc hc7 hg9 hm5 hm7 hr hcl
  have heq : ∀ w, (Op.equalIn 10000 50 (.agg #[.int .u64 7, .int .u64 6]) (.agg #[.int .u64 7, .int .u64 6])).run Try.prog w = .ok true w := fun w => eq_two 9998 7 6 7 6 w
  have HP7' := Lib.hid HP7.out
  go_wp2_with fail
  refine (HT.out _ p HP7.out).mono ?_
  rintro e w8 ⟨rfl, hb⟩
  have HP8 := Lib.hid (HP7.out.below hb HP7.out.lt)
  have HC8 := Lib.hid (HC7.out.of_below hb)
  clear hb
  go_wp2_with fail
  refine (HL.out _ p HP8.out).mono ?_
  rintro e w9 ⟨rfl, hb⟩
  have HC9 := Lib.hid (HC8.out.of_below hb)
  clear hb
  go_wp2_with fail
  go_ret
  exact ⟨rfl, HB1.out.trans (HC9.out.below HB1.out.size (by have := HPG.out; simp; exact this))⟩
end Go.Proofs.Ytdblplkaobeimaa
