/-
  Contract of package tape's Step. No claim of its own.
-/
import Derived.Test.YtdiemejdbakffaaGreatTpS
namespace Go.Proofs.YtdiemejdbakffaaGreat
open Go.RowKit Go.Shelf Go.Deep Go.Maps
set_option linter.unusedVariables false
set_option linter.unusedSimpArgs false

theorem step_nilT (w : World) : Calls Tryz.prog 40 #[.pointer none] w fun e w' => e = .returned (.tuple #[.bool false, .int .i64 1]) ∧ w = w' := by
  go_enter Tryz.func40, Tryz.ntmps40
  go_wp2
  go_ret2
  exact ⟨rfl, rfl⟩
/-- nothing is to be done -/
def idle (h h' : Nat) (L L' : List Rec) : Prop := h = h' ∧ L'.length = L.length
instance (h h' : Nat) (L L' : List Rec) : Decidable (idle h h' L L') := by unfold idle; infer_instance
section
variable {w : World} {l : List Nat} {q p n h h' : Nat} {L L' : List Rec} {k : Nat} {vF vE vF' vE' : Value}
theorem TpV.tick {W : World} {k' : Nat} (t : TpV w l q p n h h' L L' k vF vE vF' vE') (hW : Chg [q] w W)
    (ho : Own W q 70 [.pointer (some ⟨p, 0, none⟩), .int .i64 (h : Int), vF, vE, .int .i64 (h' : Int), vF', vE', .int .i64 (k' : Int)]) (hk : k' ≤ 3) (hb : ¬ idle h h' L L') : TpV W l q p n h h' L L' k' vF vE vF' vE' :=
  have h8 : ∀ u zs, Lst w 0 5 u zs → Lst W 0 5 u zs := fun u zs hu => hu.other hW (fun g hg _ => by simp at hg; subst hg; exact ⟨_, _, _, t.own, ne_tp_u8⟩)
  have hI : ∀ u zs, Lst w 0 3 u zs → Lst W 0 3 u zs := fun u zs hu => hu.other hW (fun g hg _ => by simp at hg; subst hg; exact ⟨_, _, _, t.own, ne_tp_int⟩)
  ⟨ho, h8 _ _ t.fr, hI _ _ t.en, h8 _ _ t.fr', hI _ _ t.en', t.alF, t.alE, t.memq, t.memv, t.half, t.half', hk, t.ok, t.ok', t.room, t.room', t.pre, fun _ => by
    by_cases e : h = h'
    · right
      obtain ⟨W2, hW2⟩ := t.pre e
      have h1 : L'.length = L.length + W2.length := by rw [hW2, List.length_append]
      have h2 : L'.length ≠ L.length := fun h3 => hb ⟨e, h3⟩
      omega
    · exact .inl e⟩
/-- behind the last step -/
theorem TpV.settled {w1 w2 W : World} {m : List Nat} (t : TpV w l q p n h h' L L' k vF vE vF' vE') (h1 : Chg m w w1) (hm : ∀ x ∈ m, x ∉ l) (h2 : Chg [q] w1 w2) (h3 : Chg [q] w2 W)
    (ho : Own W q 70 [.pointer (some ⟨p, 0, none⟩), .int .i64 (h' : Int), vF', vE', .int .i64 (h' : Int), vF', vE', .int .i64 ((0 : Nat) : Int)]) : TpV W l q p n h' h' L' L' 0 vF' vE' vF' vE' :=
  have t1 := t.chg h1 hm
  have hW : Chg [q] w1 W := h2.trans h3
  have h8 : ∀ u zs, Lst w1 0 5 u zs → Lst W 0 5 u zs := fun u zs hu => hu.other hW (fun g hg _ => by simp at hg; subst hg; exact ⟨_, _, _, t1.own, ne_tp_u8⟩)
  have hI : ∀ u zs, Lst w1 0 3 u zs → Lst W 0 3 u zs := fun u zs hu => hu.other hW (fun g hg _ => by simp at hg; subst hg; exact ⟨_, _, _, t1.own, ne_tp_int⟩)
  ⟨ho, h8 _ _ t1.fr', hI _ _ t1.en', h8 _ _ t1.fr', hI _ _ t1.en', fun _ _ _ => Nat.le_refl _, fun _ _ _ => Nat.le_refl _, t.memq, fun x hx => t.memv x (by
    rcases hx with hx | hx | hx | hx
    · exact .inr (.inr (.inl hx))
    · exact .inr (.inr (.inr hx))
    · exact .inr (.inr (.inl hx))
    · exact .inr (.inr (.inr hx))), t.half', t.half', by omega, t.ok', t.ok', t.room', t.room', fun _ => ⟨[], by simp⟩, fun e => by omega⟩
theorem steps_cells (t : TpV w l q p n h h' L L' k vF vE vF' vE') :
    Calls Tryz.prog 68 #[.pointer (some ⟨q, 0, none⟩)] w fun e w' => ∃ s, e = .returned (.slice (some ⟨s, 0, none⟩) 4 4) ∧ w.heap.size ≤ s ∧ Hid (Own w' s 58 [mv 77 q, mv 78 p, mv 79 q, mv 80 q]) ∧ Chg [] w w' :=
  (steps_any t).mono fun e w' ⟨he, hw⟩ => by
    subst hw
    exact ⟨_, he, Nat.le_refl _, Lib.hid (Own.new w _ [_, _, _, _]), (Chg.refl [] w).alloc _⟩
set_option maxHeartbeats 1000000 in
theorem step_idle (t : TpV w l q p n h h' L L' k vF vE vF' vE') (hn : n ≤ 1024) (hi : idle h h' L L') :
    Calls Tryz.prog 40 #[.pointer (some ⟨q, 0, none⟩)] w fun e w' => e = .returned (.tuple #[.bool true, .int .i64 0]) ∧ Chg [] w w' := by
  have hr := replacing_any t
  rw [decide_eq_false (show ¬ h ≠ h' from fun x => x hi.1)] at hr
  have HR := Lib.hid hr
  have hw := fun W (hW : Chg [] w W) => waiting_tape (t.kept hW) hn
  have e0 : waitN h h' L L' = 0 := by unfold waitN; rw [if_pos hi.1, hi.2]; omega
  simp only [e0] at hw
  have HW := Lib.hid hw
  clear t hr hw hi e0
  go_enter Tryz.func40, Tryz.ntmps40
  go_wp2_with (first
    | (go_at_call 55; refine HR.out.mono ?_; rintro e w1 ⟨rfl, hq1⟩; have HC1 := Lib.hid ((Chg.refl [] w).qt hq1); clear hq1)
    | (go_at_call 48; refine (HW.out _ HC1.out).mono ?_; rintro e w2 ⟨rfl, hc2⟩; have HC2 := Lib.hid (HC1.out.trans hc2); clear hc2)
    | fail)
  go_ret2
  exact ⟨rfl, HC2.out⟩
set_option maxHeartbeats 2000000 in
set_option maxRecDepth 100000 in
theorem step_0 {g b : Nat} {F : Nat → Sec} {m : Nat → Option Sec} (t : TpV w l q p n h h' L L' 0 vF vE vF' vE') (hd : Dsk w p g b n F m) (hbl : b ∉ l) (hgl : g ∉ l) (hi : ¬ idle h h' L L') :
    Calls Tryz.prog 40 #[.pointer (some ⟨q, 0, none⟩)] w fun e w' => e = .returned (.tuple #[.bool false, .int .i64 0]) ∧ Hid (Dsk w' p g b n F (wfM n h h' L L' m) ∧ TpV w' l q p n h h' L L' 1 vF vE vF' vE') ∧ Chg (l ++ [g, b]) w w' := by
  have hn := hd.top
  have hqp := t.ne_p hd
  have HBL := Lib.hid (And.intro hbl hgl)
  have HT := Lib.hid t
  have HD := Lib.hid hd
  have HI := Lib.hid hi
  have hw := fun W (hW : Chg [] w W) => waiting_tape (t.kept hW) hn
  have HS := Lib.hid (fun W (hW : Chg [] w W) => steps_cells (t.kept hW))
  have hr := replacing_any t
  have hqm : q ∈ l := t.memq
  have hqg : q ≠ g := fun e => hgl (e ▸ hqm)
  have hqb : q ≠ b := fun e => hbl (e ▸ hqm)
  have HQ := Lib.hid (And.intro hqp (And.intro hqg hqb))
  obtain ⟨x, HX⟩ : ∃ x, Hid (waitN h h' L L' = x) := ⟨_, Lib.hid rfl⟩
  simp only [HX.out] at hw
  have HW := Lib.hid hw
  have HX0 := Lib.hid (show h = h' → 0 < x from fun e => by
    rw [← HX.out]
    unfold waitN
    rw [if_pos e]
    obtain ⟨W2, hW2⟩ := t.pre e
    have h1 : L'.length = L.length + W2.length := by rw [hW2, List.length_append]
    have h2 : L'.length ≠ L.length := fun h3 => hi ⟨e, h3⟩
    omega)
  have h4 : (0 : Int) ≤ 4 := by omega
  clear t hd hi hw hqm hqg hqb hqp hbl hgl
  by_cases hh : h = h'
  case' pos =>
    rw [decide_eq_false (show ¬ h ≠ h' from fun x => x hh)] at hr
    have hx0 := HX0.out hh
    have hxd : decide (x = 0) = false := by simp; omega
    have hxe : ((x : Int) == 0) = false := by simp; omega
  case' neg =>
    rw [decide_eq_true (show h ≠ h' from hh)] at hr
  all_goals
    have HR := Lib.hid hr
    clear hr hh
    go_enter Tryz.func40, Tryz.ntmps40
    go_wp2_with (first
      | (go_at_call 55; refine HR.out.mono ?_; rintro e w1 ⟨rfl, hq1⟩; have HC1 := Lib.hid ((Chg.refl [] w).qt hq1); clear hq1)
      | (go_at_call 48; refine (HW.out _ HC1.out).mono ?_; rintro e w2 ⟨rfl, hc2⟩; have HC0 := HC1; clear HC1; have HC1 := Lib.hid (HC0.out.trans hc2); clear hc2 HC0)
      | (go_at_call 68; refine (HS.out _ HC1.out).mono ?_; rintro e w3 ⟨s, rfl, hs3, HO3, hc3⟩; have HC3 := Lib.hid (HC1.out.trans hc3); have c3 := HO3.out.cell 0; unfold mv at c3; simp at c3; have cq := (HT.out.own.chg HC3.out (by simp)).cell 7; simp at cq; clear hc3 hs3)
      | fail)
    have HCALL := Lib.hid (writeFrames_any (HT.out.kept HC3.out) (HD.out.kept HC3.out) HBL.out.1)
    refine HCALL.out.mono ?_
    rintro e w4 ⟨rfl, hd4, hc4⟩
    have ho4 := (HT.out.own.chg HC3.out (by simp)).chg hc4 (by simpa using HQ.out.2.2)
    have c7 := ho4.cell 7
    have f7 := ho4.frozen 7
    simp at c7
    have HO4 := Lib.hid ho4
    have HC4 := Lib.hid hc4
    clear ho4 hc4 c3 cq
    go_wp2_with fail
    go_ret2
    have hst : Chg [q] w4 (w4.setCell ⟨q, 7, none⟩ (.int .i64 1)) := (Chg.refl _ _).setCell (by simp) _
    have t4 := ((HT.out.kept HC3.out).chg HC4.out (fun y hy => by simp at hy; subst hy; exact HBL.out.1)).tick (k' := 1) hst (HO4.out.set 7 (.int .i64 1)) (by omega) HI.out
    have hQ := HQ.out
    refine ⟨rfl, Lib.hid ⟨hd4.out.keep hst (by simpa using fun e => hQ.1 e.symm) (by simpa using fun e => hQ.2.1 e.symm) (by simpa using fun e => hQ.2.2 e.symm), t4⟩, ?_⟩
    refine ((HC3.out.mono (by simp)).trans (HC4.out.mono (fun y hy => .inl ?_))).trans (hst.mono (fun y hy => .inl ?_))
    · simp at hy ⊢
      first | exact .inr (.inr hy) | (rcases hy with rfl | rfl <;> simp)
    · simp at hy ⊢
      subst hy
      exact .inl HT.out.memq
set_option maxHeartbeats 2000000 in
set_option maxRecDepth 100000 in
theorem step_1 {g b : Nat} {F : Nat → Sec} {m : Nat → Option Sec} (t : TpV w l q p n h h' L L' 1 vF vE vF' vE') (hd : Dsk w p g b n F m) (hbl : b ∉ l) (hgl : g ∉ l) (hi : ¬ idle h h' L L') :
    Calls Tryz.prog 40 #[.pointer (some ⟨q, 0, none⟩)] w fun e w' => e = .returned (.tuple #[.bool false, .int .i64 0]) ∧ Hid (Dsk w' p g b n (now F m) (fun _ => none) ∧ TpV w' l q p n h h' L L' 2 vF vE vF' vE') ∧ Chg (l ++ [g, b]) w w' := by
  have hn := hd.top
  have hqp := t.ne_p hd
  have HBL := Lib.hid (And.intro hbl hgl)
  have HT := Lib.hid t
  have HD := Lib.hid hd
  have HI := Lib.hid hi
  have hw := fun W (hW : Chg [] w W) => waiting_tape (t.kept hW) hn
  have HS := Lib.hid (fun W (hW : Chg [] w W) => steps_cells (t.kept hW))
  have hr := replacing_any t
  have hqm : q ∈ l := t.memq
  have hqg : q ≠ g := fun e => hgl (e ▸ hqm)
  have hqb : q ≠ b := fun e => hbl (e ▸ hqm)
  have HQ := Lib.hid (And.intro hqp (And.intro hqg hqb))
  obtain ⟨x, HX⟩ : ∃ x, Hid (waitN h h' L L' = x) := ⟨_, Lib.hid rfl⟩
  simp only [HX.out] at hw
  have HW := Lib.hid hw
  have HX0 := Lib.hid (show h = h' → 0 < x from fun e => by
    rw [← HX.out]
    unfold waitN
    rw [if_pos e]
    obtain ⟨W2, hW2⟩ := t.pre e
    have h1 : L'.length = L.length + W2.length := by rw [hW2, List.length_append]
    have h2 : L'.length ≠ L.length := fun h3 => hi ⟨e, h3⟩
    omega)
  have h4 : (0 : Int) ≤ 4 := by omega
  clear t hd hi hw hqm hqg hqb hqp hbl hgl
  by_cases hh : h = h'
  case' pos =>
    rw [decide_eq_false (show ¬ h ≠ h' from fun x => x hh)] at hr
    have hx0 := HX0.out hh
    have hxd : decide (x = 0) = false := by simp; omega
    have hxe : ((x : Int) == 0) = false := by simp; omega
  case' neg =>
    rw [decide_eq_true (show h ≠ h' from hh)] at hr
  all_goals
    have HR := Lib.hid hr
    clear hr hh
    go_enter Tryz.func40, Tryz.ntmps40
    go_wp2_with (first
      | (go_at_call 55; refine HR.out.mono ?_; rintro e w1 ⟨rfl, hq1⟩; have HC1 := Lib.hid ((Chg.refl [] w).qt hq1); clear hq1)
      | (go_at_call 48; refine (HW.out _ HC1.out).mono ?_; rintro e w2 ⟨rfl, hc2⟩; have HC0 := HC1; clear HC1; have HC1 := Lib.hid (HC0.out.trans hc2); clear hc2 HC0)
      | (go_at_call 68; refine (HS.out _ HC1.out).mono ?_; rintro e w3 ⟨s, rfl, hs3, HO3, hc3⟩; have HC3 := Lib.hid (HC1.out.trans hc3); have c3 := HO3.out.cell 1; unfold mv at c3; simp at c3; have cq := (HT.out.own.chg HC3.out (by simp)).cell 7; simp at cq; clear hc3 hs3)
      | fail)
    have HCALL := Lib.hid (flush_ok w3 (HD.out.kept HC3.out))
    refine HCALL.out.mono ?_
    rintro e w4 ⟨rfl, hd4x, hc4⟩
    have hd4 := Lib.hid hd4x
    have ho4 := (HT.out.own.chg HC3.out (by simp)).chg hc4 (by simp; exact ⟨HQ.out.2.1, HQ.out.2.2⟩)
    have c7 := ho4.cell 7
    have f7 := ho4.frozen 7
    simp at c7
    have HO4 := Lib.hid ho4
    have HC4 := Lib.hid hc4
    clear ho4 hc4 hd4x c3 cq
    go_wp2_with fail
    go_ret2
    have hst : Chg [q] w4 (w4.setCell ⟨q, 7, none⟩ (.int .i64 2)) := (Chg.refl _ _).setCell (by simp) _
    have t4 := ((HT.out.kept HC3.out).chg HC4.out (fun y hy => by simp at hy; rcases hy with rfl | rfl; exact HBL.out.2; exact HBL.out.1)).tick (k' := 2) hst (HO4.out.set 7 (.int .i64 2)) (by omega) HI.out
    have hQ := HQ.out
    refine ⟨rfl, Lib.hid ⟨hd4.out.keep hst (by simpa using fun e => hQ.1 e.symm) (by simpa using fun e => hQ.2.1 e.symm) (by simpa using fun e => hQ.2.2 e.symm), t4⟩, ?_⟩
    refine ((HC3.out.mono (by simp)).trans (HC4.out.mono (fun y hy => .inl ?_))).trans (hst.mono (fun y hy => .inl ?_))
    · simp at hy ⊢
      first | exact .inr (.inr hy) | (rcases hy with rfl | rfl <;> simp)
    · simp at hy ⊢
      subst hy
      exact .inl HT.out.memq
set_option maxHeartbeats 2000000 in
set_option maxRecDepth 100000 in
theorem step_2 {g b : Nat} {F : Nat → Sec} {m : Nat → Option Sec} (t : TpV w l q p n h h' L L' 2 vF vE vF' vE') (hd : Dsk w p g b n F m) (hbl : b ∉ l) (hgl : g ∉ l) (hi : ¬ idle h h' L L') :
    Calls Tryz.prog 40 #[.pointer (some ⟨q, 0, none⟩)] w fun e w' => e = .returned (.tuple #[.bool false, .int .i64 0]) ∧ Hid (Dsk w' p g b n F (upd m 0 (supS h' L'.length (frs L').length)) ∧ TpV w' l q p n h h' L L' 3 vF vE vF' vE') ∧ Chg (l ++ [g, b]) w w' := by
  have hn := hd.top
  have hqp := t.ne_p hd
  have HBL := Lib.hid (And.intro hbl hgl)
  have HT := Lib.hid t
  have HD := Lib.hid hd
  have HI := Lib.hid hi
  have hw := fun W (hW : Chg [] w W) => waiting_tape (t.kept hW) hn
  have HS := Lib.hid (fun W (hW : Chg [] w W) => steps_cells (t.kept hW))
  have hr := replacing_any t
  have hqm : q ∈ l := t.memq
  have hqg : q ≠ g := fun e => hgl (e ▸ hqm)
  have hqb : q ≠ b := fun e => hbl (e ▸ hqm)
  have HQ := Lib.hid (And.intro hqp (And.intro hqg hqb))
  obtain ⟨x, HX⟩ : ∃ x, Hid (waitN h h' L L' = x) := ⟨_, Lib.hid rfl⟩
  simp only [HX.out] at hw
  have HW := Lib.hid hw
  have HX0 := Lib.hid (show h = h' → 0 < x from fun e => by
    rw [← HX.out]
    unfold waitN
    rw [if_pos e]
    obtain ⟨W2, hW2⟩ := t.pre e
    have h1 : L'.length = L.length + W2.length := by rw [hW2, List.length_append]
    have h2 : L'.length ≠ L.length := fun h3 => hi ⟨e, h3⟩
    omega)
  have h4 : (0 : Int) ≤ 4 := by omega
  clear t hd hi hw hqm hqg hqb hqp hbl hgl
  by_cases hh : h = h'
  case' pos =>
    rw [decide_eq_false (show ¬ h ≠ h' from fun x => x hh)] at hr
    have hx0 := HX0.out hh
    have hxd : decide (x = 0) = false := by simp; omega
    have hxe : ((x : Int) == 0) = false := by simp; omega
  case' neg =>
    rw [decide_eq_true (show h ≠ h' from hh)] at hr
  all_goals
    have HR := Lib.hid hr
    clear hr hh
    go_enter Tryz.func40, Tryz.ntmps40
    go_wp2_with (first
      | (go_at_call 55; refine HR.out.mono ?_; rintro e w1 ⟨rfl, hq1⟩; have HC1 := Lib.hid ((Chg.refl [] w).qt hq1); clear hq1)
      | (go_at_call 48; refine (HW.out _ HC1.out).mono ?_; rintro e w2 ⟨rfl, hc2⟩; have HC0 := HC1; clear HC1; have HC1 := Lib.hid (HC0.out.trans hc2); clear hc2 HC0)
      | (go_at_call 68; refine (HS.out _ HC1.out).mono ?_; rintro e w3 ⟨s, rfl, hs3, HO3, hc3⟩; have HC3 := Lib.hid (HC1.out.trans hc3); have c3 := HO3.out.cell 2; unfold mv at c3; simp at c3; have cq := (HT.out.own.chg HC3.out (by simp)).cell 7; simp at cq; clear hc3 hs3)
      | fail)
    have HCALL := Lib.hid (writeSuper_any (HT.out.kept HC3.out) (HD.out.kept HC3.out) HBL.out.1)
    refine HCALL.out.mono ?_
    rintro e w4 ⟨rfl, hd4, hc4⟩
    have ho4 := (HT.out.own.chg HC3.out (by simp)).chg hc4 (by simpa using HQ.out.2.2)
    have c7 := ho4.cell 7
    have f7 := ho4.frozen 7
    simp at c7
    have HO4 := Lib.hid ho4
    have HC4 := Lib.hid hc4
    clear ho4 hc4 c3 cq
    go_wp2_with fail
    go_ret2
    have hst : Chg [q] w4 (w4.setCell ⟨q, 7, none⟩ (.int .i64 3)) := (Chg.refl _ _).setCell (by simp) _
    have t4 := ((HT.out.kept HC3.out).chg HC4.out (fun y hy => by simp at hy; subst hy; exact HBL.out.1)).tick (k' := 3) hst (HO4.out.set 7 (.int .i64 3)) (by omega) HI.out
    have hQ := HQ.out
    refine ⟨rfl, Lib.hid ⟨hd4.out.keep hst (by simpa using fun e => hQ.1 e.symm) (by simpa using fun e => hQ.2.1 e.symm) (by simpa using fun e => hQ.2.2 e.symm), t4⟩, ?_⟩
    refine ((HC3.out.mono (by simp)).trans (HC4.out.mono (fun y hy => .inl ?_))).trans (hst.mono (fun y hy => .inl ?_))
    · simp at hy ⊢
      first | exact .inr (.inr hy) | (rcases hy with rfl | rfl <;> simp)
    · simp at hy ⊢
      subst hy
      exact .inl HT.out.memq
set_option maxHeartbeats 2000000 in
set_option maxRecDepth 100000 in
theorem step_3 {g b : Nat} {F : Nat → Sec} {m : Nat → Option Sec} (t : TpV w l q p n h h' L L' 3 vF vE vF' vE') (hd : Dsk w p g b n F m) (hbl : b ∉ l) (hgl : g ∉ l) (hi : ¬ idle h h' L L') :
    Calls Tryz.prog 40 #[.pointer (some ⟨q, 0, none⟩)] w fun e w' => e = .returned (.tuple #[.bool true, .int .i64 0]) ∧ Hid (Dsk w' p g b n (now F m) (fun _ => none) ∧ TpV w' l q p n h' h' L' L' 0 vF' vE' vF' vE') ∧ Chg (l ++ [g, b]) w w' := by
  have hn := hd.top
  have hqp := t.ne_p hd
  have HBL := Lib.hid (And.intro hbl hgl)
  have HT := Lib.hid t
  have HD := Lib.hid hd
  have HI := Lib.hid hi
  have hw := fun W (hW : Chg [] w W) => waiting_tape (t.kept hW) hn
  have HS := Lib.hid (fun W (hW : Chg [] w W) => steps_cells (t.kept hW))
  have hr := replacing_any t
  have hqm : q ∈ l := t.memq
  have hqg : q ≠ g := fun e => hgl (e ▸ hqm)
  have hqb : q ≠ b := fun e => hbl (e ▸ hqm)
  have HQ := Lib.hid (And.intro hqp (And.intro hqg hqb))
  obtain ⟨x, HX⟩ : ∃ x, Hid (waitN h h' L L' = x) := ⟨_, Lib.hid rfl⟩
  simp only [HX.out] at hw
  have HW := Lib.hid hw
  have HX0 := Lib.hid (show h = h' → 0 < x from fun e => by
    rw [← HX.out]
    unfold waitN
    rw [if_pos e]
    obtain ⟨W2, hW2⟩ := t.pre e
    have h1 : L'.length = L.length + W2.length := by rw [hW2, List.length_append]
    have h2 : L'.length ≠ L.length := fun h3 => hi ⟨e, h3⟩
    omega)
  have h4 : (0 : Int) ≤ 4 := by omega
  clear t hd hi hw hqm hqg hqb hqp hbl hgl
  by_cases hh : h = h'
  case' pos =>
    rw [decide_eq_false (show ¬ h ≠ h' from fun x => x hh)] at hr
    have hx0 := HX0.out hh
    have hxd : decide (x = 0) = false := by simp; omega
    have hxe : ((x : Int) == 0) = false := by simp; omega
  case' neg =>
    rw [decide_eq_true (show h ≠ h' from hh)] at hr
  all_goals
    have HR := Lib.hid hr
    clear hr hh
    go_enter Tryz.func40, Tryz.ntmps40
    go_wp2_with (first
      | (go_at_call 55; refine HR.out.mono ?_; rintro e w1 ⟨rfl, hq1⟩; have HC1 := Lib.hid ((Chg.refl [] w).qt hq1); clear hq1)
      | (go_at_call 48; refine (HW.out _ HC1.out).mono ?_; rintro e w2 ⟨rfl, hc2⟩; have HC0 := HC1; clear HC1; have HC1 := Lib.hid (HC0.out.trans hc2); clear hc2 HC0)
      | (go_at_call 68; refine (HS.out _ HC1.out).mono ?_; rintro e w3 ⟨s, rfl, hs3, HO3, hc3⟩; have HC3 := Lib.hid (HC1.out.trans hc3); have c3 := HO3.out.cell 3; unfold mv at c3; simp at c3; have cq := (HT.out.own.chg HC3.out (by simp)).cell 7; simp at cq; clear hc3 hs3)
      | fail)
    have HCALL := Lib.hid (settle_any (HT.out.kept HC3.out) (HD.out.kept HC3.out) HBL.out.1 HBL.out.2)
    refine HCALL.out.mono ?_
    rintro e w4 ⟨rfl, H4⟩
    have c7 := H4.out.2.1.cell 7
    have f7 := H4.out.2.1.frozen 7
    simp at c7
    clear c3 cq
    go_wp2_with fail
    go_ret2
    obtain ⟨hd4, ho4, w5, hc5, hc6⟩ := H4.out
    have hst : Chg [q] w4 (w4.setCell ⟨q, 7, none⟩ (.int .i64 0)) := (Chg.refl _ _).setCell (by simp) _
    have t4 := (HT.out.kept HC3.out).settled hc5 (fun y hy => by simp at hy; rcases hy with rfl | rfl; exact HBL.out.2; exact HBL.out.1) hc6 hst (ho4.set 7 (.int .i64 0))
    have hQ := HQ.out
    refine ⟨rfl, Lib.hid ⟨hd4.keep hst (by simpa using fun e => hQ.1 e.symm) (by simpa using fun e => hQ.2.1 e.symm) (by simpa using fun e => hQ.2.2 e.symm), t4⟩, ?_⟩
    have hqm := HT.out.memq
    refine (((HC3.out.mono (by simp)).trans (hc5.mono (fun y hy => .inl ?_))).trans (hc6.mono (fun y hy => .inl ?_))).trans (hst.mono (fun y hy => .inl ?_))
    · simp at hy ⊢
      exact .inr hy
    · simp at hy ⊢
      subst hy
      exact .inl hqm
    · simp at hy ⊢
      subst hy
      exact .inl hqm
end
end Go.Proofs.YtdiemejdbakffaaGreat
