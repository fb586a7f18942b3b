/-
  Contract of package tape's Step. No claim of its own.
-/
import Derived.Test.YtmpajlpemabniaaGreatJ19
namespace Go.Proofs.YtmpajlpemabniaaGreat
open Go.RowKit Go.Shelf Go.Deep Go.Maps
set_option linter.unusedVariables false
set_option linter.unusedSimpArgs false

theorem step_nilT (w : World) : Calls Tryz.prog 116 #[.pointer none] w fun e w' => e = .returned (.tuple #[.bool false, .int .i64 1]) ∧ w = w' := by
  go_enter Tryz.func116, Tryz.ntmps116
  go_wp2
  go_ret2
  exact ⟨rfl, rfl⟩
/-- nothing is to be done -/
def idle (h h' : Nat) (L L' : List Rec) : Prop := h = h' ∧ L'.length = L.length
instance (h h' : Nat) (L L' : List Rec) : Decidable (idle h h' L L') := by unfold idle; infer_instance
section
variable {w : World} {l : List Nat} {q p n h h' : Nat} {L L' : List Rec} {k : Nat} {vF vE vF' vE' : Value}
theorem TpV.tick {W : World} {k' : Nat} (t : TpV w l q p n h h' L L' k vF vE vF' vE') (hW : Chg [q] w W)
    (ho : Own W q 147 [.pointer (some ⟨p, 0, none⟩), .int .i64 (h : Int), vF, vE, .int .i64 (h' : Int), vF', vE', .int .i64 (k' : Int)]) (hk : k' ≤ 3) (hb : ¬ idle h h' L L') : TpV W l q p n h h' L L' k' vF vE vF' vE' :=
  have h8 : ∀ u zs, Lst w 0 5 u zs → Lst W 0 5 u zs := fun u zs hu => hu.other hW (fun g hg _ => by simp at hg; subst hg; exact ⟨_, _, _, t.own, ne_tp_u8⟩)
  have hI : ∀ u zs, Lst w 0 3 u zs → Lst W 0 3 u zs := fun u zs hu => hu.other hW (fun g hg _ => by simp at hg; subst hg; exact ⟨_, _, _, t.own, ne_tp_int⟩)
  ⟨ho, h8 _ _ t.fr, hI _ _ t.en, h8 _ _ t.fr', hI _ _ t.en', t.alF, t.alE, t.memq, t.memv, t.half, t.half', hk, t.ok, t.ok', t.room, t.room', t.pre, fun _ => by
    by_cases e : h = h'
    · right
      obtain ⟨W2, hW2⟩ := t.pre e
      have h1 : L'.length = L.length + W2.length := by rw [hW2, List.length_append]
      have h2 : L'.length ≠ L.length := fun h3 => hb ⟨e, h3⟩
      omega
    · exact .inl e⟩
/-- behind the last step -/
theorem TpV.settled {w1 w2 W : World} {m : List Nat} (t : TpV w l q p n h h' L L' k vF vE vF' vE') (h1 : Chg m w w1) (hm : ∀ x ∈ m, x ∉ l) (h2 : Chg [q] w1 w2) (h3 : Chg [q] w2 W)
    (ho : Own W q 147 [.pointer (some ⟨p, 0, none⟩), .int .i64 (h' : Int), vF', vE', .int .i64 (h' : Int), vF', vE', .int .i64 ((0 : Nat) : Int)]) : TpV W l q p n h' h' L' L' 0 vF' vE' vF' vE' :=
  have t1 := t.chg h1 hm
  have hW : Chg [q] w1 W := h2.trans h3
  have h8 : ∀ u zs, Lst w1 0 5 u zs → Lst W 0 5 u zs := fun u zs hu => hu.other hW (fun g hg _ => by simp at hg; subst hg; exact ⟨_, _, _, t1.own, ne_tp_u8⟩)
  have hI : ∀ u zs, Lst w1 0 3 u zs → Lst W 0 3 u zs := fun u zs hu => hu.other hW (fun g hg _ => by simp at hg; subst hg; exact ⟨_, _, _, t1.own, ne_tp_int⟩)
  ⟨ho, h8 _ _ t1.fr', hI _ _ t1.en', h8 _ _ t1.fr', hI _ _ t1.en', fun _ _ _ => Nat.le_refl _, fun _ _ _ => Nat.le_refl _, t.memq, fun x hx => t.memv x (by
    rcases hx with hx | hx | hx | hx
    · exact .inr (.inr (.inl hx))
    · exact .inr (.inr (.inr hx))
    · exact .inr (.inr (.inl hx))
    · exact .inr (.inr (.inr hx))), t.half', t.half', by omega, t.ok', t.ok', t.room', t.room', fun _ => ⟨[], by simp⟩, fun e => by omega⟩
theorem steps_cells (t : TpV w l q p n h h' L L' k vF vE vF' vE') :
    Calls Tryz.prog 170 #[.pointer (some ⟨q, 0, none⟩)] w fun e w' => ∃ s, e = .returned (.slice (some ⟨s, 0, none⟩) 4 4) ∧ w.heap.size ≤ s ∧ Hid (Own w' s 125 [mv 213 q, mv 214 p, mv 215 q, mv 216 q]) ∧ Chg [] w w' :=
  (steps_any t).mono fun e w' ⟨he, hw⟩ => by
    subst hw
    exact ⟨_, he, Nat.le_refl _, Lib.hid (Own.new w _ [_, _, _, _]), (Chg.refl [] w).alloc _⟩
set_option maxHeartbeats 1000000 in
theorem step_idle (t : TpV w l q p n h h' L L' k vF vE vF' vE') (hn : n ≤ 1024) (hi : idle h h' L L') :
    Calls Tryz.prog 116 #[.pointer (some ⟨q, 0, none⟩)] w fun e w' => e = .returned (.tuple #[.bool true, .int .i64 0]) ∧ Chg [] w w' := by
  have hr := replacing_any t
  rw [decide_eq_false (show ¬ h ≠ h' from fun x => x hi.1)] at hr
  have HR := Lib.hid hr
  have hw := fun W (hW : Chg [] w W) => waiting_tape (t.kept hW) hn
  have e0 : waitN h h' L L' = 0 := by unfold waitN; rw [if_pos hi.1, hi.2]; omega
  simp only [e0] at hw
  have HW := Lib.hid hw
  clear t hr hw hi e0
  go_enter Tryz.func116, Tryz.ntmps116
  go_wp2_with (first
    | (go_at_call 112; refine HR.out.mono ?_; rintro e w1 ⟨rfl, hq1⟩; have HC1 := Lib.hid ((Chg.refl [] w).qt hq1); clear hq1)
    | (go_at_call 169; refine (HW.out _ HC1.out).mono ?_; rintro e w2 ⟨rfl, hc2⟩; have HC2 := Lib.hid (HC1.out.trans hc2); clear hc2)
    | fail)
  go_ret2
  exact ⟨rfl, HC2.out⟩
set_option maxHeartbeats 2000000 in
set_option maxRecDepth 100000 in
theorem step_0 {g b : Nat} {F : Nat → Sec} {m : Nat → Option Sec} (t : TpV w l q p n h h' L L' 0 vF vE vF' vE') (hd : Dsk w p g b n F m) (hbl : b ∉ l) (hgl : g ∉ l) (hi : ¬ idle h h' L L') :
    Calls Tryz.prog 116 #[.pointer (some ⟨q, 0, none⟩)] w fun e w' => e = .returned (.tuple #[.bool false, .int .i64 0]) ∧ Hid (Dsk w' p g b n F (wfM n h h' L L' m) ∧ TpV w' l q p n h h' L L' 1 vF vE vF' vE') ∧ Chg (l ++ [g, b]) w w' := by
  have hn := hd.top
  have hqp := t.ne_p hd
  have HBL := Lib.hid (And.intro hbl hgl)
  have HT := Lib.hid t
  have HD := Lib.hid hd
  have HI := Lib.hid hi
  have hw := fun W (hW : Chg [] w W) => waiting_tape (t.kept hW) hn
  have HS := Lib.hid (fun W (hW : Chg [] w W) => steps_cells (t.kept hW))
  have hr := replacing_any t
  have hqm : q ∈ l := t.memq
  have hqg : q ≠ g := fun e => hgl (e ▸ hqm)
  have hqb : q ≠ b := fun e => hbl (e ▸ hqm)
  have HQ := Lib.hid (And.intro hqp (And.intro hqg hqb))
  obtain ⟨x, HX⟩ : ∃ x, Hid (waitN h h' L L' = x) := ⟨_, Lib.hid rfl⟩
  simp only [HX.out] at hw
  have HW := Lib.hid hw
  have HX0 := Lib.hid (show h = h' → 0 < x from fun e => by
    rw [← HX.out]
    unfold waitN
    rw [if_pos e]
    obtain ⟨W2, hW2⟩ := t.pre e
    have h1 : L'.length = L.length + W2.length := by rw [hW2, List.length_append]
    have h2 : L'.length ≠ L.length := fun h3 => hi ⟨e, h3⟩
    omega)
  have h4 : (0 : Int) ≤ 4 := by omega
  clear t hd hi hw hqm hqg hqb hqp hbl hgl
  by_cases hh : h = h'
  case' pos =>
    rw [decide_eq_false (show ¬ h ≠ h' from fun x => x hh)] at hr
    have hx0 := HX0.out hh
    have hxd : decide (x = 0) = false := by simp; omega
    have hxe : ((x : Int) == 0) = false := by simp; omega
  case' neg =>
    rw [decide_eq_true (show h ≠ h' from hh)] at hr
  all_goals
    have HR := Lib.hid hr
    clear hr hh
    go_enter Tryz.func116, Tryz.ntmps116
    go_wp2_with (first
      | (go_at_call 112; refine HR.out.mono ?_; rintro e w1 ⟨rfl, hq1⟩; have HC1 := Lib.hid ((Chg.refl [] w).qt hq1); clear hq1)
      | (go_at_call 169; refine (HW.out _ HC1.out).mono ?_; rintro e w2 ⟨rfl, hc2⟩; have HC0 := HC1; clear HC1; have HC1 := Lib.hid (HC0.out.trans hc2); clear hc2 HC0)
      | (go_at_call 170; refine (HS.out _ HC1.out).mono ?_; rintro e w3 ⟨s, rfl, hs3, HO3, hc3⟩; have HC3 := Lib.hid (HC1.out.trans hc3); have c3 := HO3.out.cell 0; unfold mv at c3; simp at c3; have cq := (HT.out.own.chg HC3.out (by simp)).cell 7; simp at cq; clear hc3 hs3)
      | fail)
    have HCALL := Lib.hid (writeFrames_any (HT.out.kept HC3.out) (HD.out.kept HC3.out) HBL.out.1)
    refine HCALL.out.mono ?_
    rintro e w4 ⟨rfl, hd4, hc4⟩
    have ho4 := (HT.out.own.chg HC3.out (by simp)).chg hc4 (by simpa using HQ.out.2.2)
    have c7 := ho4.cell 7
    have f7 := ho4.frozen 7
    simp at c7
    have HO4 := Lib.hid ho4
    have HC4 := Lib.hid hc4
    clear ho4 hc4 c3 cq
    go_wp2_with fail
    go_ret2
    have hst : Chg [q] w4 (w4.setCell ⟨q, 7, none⟩ (.int .i64 1)) := (Chg.refl _ _).setCell (by simp) _
    have t4 := ((HT.out.kept HC3.out).chg HC4.out (fun y hy => by simp at hy; subst hy; exact HBL.out.1)).tick (k' := 1) hst (HO4.out.set 7 (.int .i64 1)) (by omega) HI.out
    have hQ := HQ.out
    refine ⟨rfl, Lib.hid ⟨hd4.out.keep hst (by simpa using fun e => hQ.1 e.symm) (by simpa using fun e => hQ.2.1 e.symm) (by simpa using fun e => hQ.2.2 e.symm), t4⟩, ?_⟩
    refine ((HC3.out.mono (by simp)).trans (HC4.out.mono (fun y hy => .inl ?_))).trans (hst.mono (fun y hy => .inl ?_))
    · simp at hy ⊢
      first | exact .inr (.inr hy) | (rcases hy with rfl | rfl <;> simp)
    · simp at hy ⊢
      subst hy
      exact .inl HT.out.memq
set_option maxHeartbeats 2000000 in
set_option maxRecDepth 100000 in
theorem step_1 {g b : Nat} {F : Nat → Sec} {m : Nat → Option Sec} (t : TpV w l q p n h h' L L' 1 vF vE vF' vE') (hd : Dsk w p g b n F m) (hbl : b ∉ l) (hgl : g ∉ l) (hi : ¬ idle h h' L L') :
    Calls Tryz.prog 116 #[.pointer (some ⟨q, 0, none⟩)] w fun e w' => e = .returned (.tuple #[.bool false, .int .i64 0]) ∧ Hid (Dsk w' p g b n (now F m) (fun _ => none) ∧ TpV w' l q p n h h' L L' 2 vF vE vF' vE') ∧ Chg (l ++ [g, b]) w w' := by
  have hn := hd.top
  have hqp := t.ne_p hd
  have HBL := Lib.hid (And.intro hbl hgl)
  have HT := Lib.hid t
  have HD := Lib.hid hd
  have HI := Lib.hid hi
  have hw := fun W (hW : Chg [] w W) => waiting_tape (t.kept hW) hn
  have HS := Lib.hid (fun W (hW : Chg [] w W) => steps_cells (t.kept hW))
  have hr := replacing_any t
  have hqm : q ∈ l := t.memq
  have hqg : q ≠ g := fun e => hgl (e ▸ hqm)
  have hqb : q ≠ b := fun e => hbl (e ▸ hqm)
  have HQ := Lib.hid (And.intro hqp (And.intro hqg hqb))
  obtain ⟨x, HX⟩ : ∃ x, Hid (waitN h h' L L' = x) := ⟨_, Lib.hid rfl⟩
  simp only [HX.out] at hw
  have HW := Lib.hid hw
  have HX0 := Lib.hid (show h = h' → 0 < x from fun e => by
    rw [← HX.out]
    unfold waitN
    rw [if_pos e]
    obtain ⟨W2, hW2⟩ := t.pre e
    have h1 : L'.length = L.length + W2.length := by rw [hW2, List.length_append]
    have h2 : L'.length ≠ L.length := fun h3 => hi ⟨e, h3⟩
    omega)
  have h4 : (0 : Int) ≤ 4 := by omega
  clear t hd hi hw hqm hqg hqb hqp hbl hgl
  by_cases hh : h = h'
  case' pos =>
    rw [decide_eq_false (show ¬ h ≠ h' from fun x => x hh)] at hr
    have hx0 := HX0.out hh
    have hxd : decide (x = 0) = false := by simp; omega
    have hxe : ((x : Int) == 0) = false := by simp; omega
  case' neg =>
    rw [decide_eq_true (show h ≠ h' from hh)] at hr
  all_goals
    have HR := Lib.hid hr
    clear hr hh
    go_enter Tryz.func116, Tryz.ntmps116
    go_wp2_with (first
      | (go_at_call 112; refine HR.out.mono ?_; rintro e w1 ⟨rfl, hq1⟩; have HC1 := Lib.hid ((Chg.refl [] w).qt hq1); clear hq1)
      | (go_at_call 169; refine (HW.out _ HC1.out).mono ?_; rintro e w2 ⟨rfl, hc2⟩; have HC0 := HC1; clear HC1; have HC1 := Lib.hid (HC0.out.trans hc2); clear hc2 HC0)
      | (go_at_call 170; refine (HS.out _ HC1.out).mono ?_; rintro e w3 ⟨s, rfl, hs3, HO3, hc3⟩; have HC3 := Lib.hid (HC1.out.trans hc3); have c3 := HO3.out.cell 1; unfold mv at c3; simp at c3; have cq := (HT.out.own.chg HC3.out (by simp)).cell 7; simp at cq; clear hc3 hs3)
      | fail)
    have HCALL := Lib.hid (flush_ok w3 (HD.out.kept HC3.out))
    refine HCALL.out.mono ?_
    rintro e w4 ⟨rfl, hd4x, hc4⟩
    have hd4 := Lib.hid hd4x
    have ho4 := (HT.out.own.chg HC3.out (by simp)).chg hc4 (by simp; exact ⟨HQ.out.2.1, HQ.out.2.2⟩)
    have c7 := ho4.cell 7
    have f7 := ho4.frozen 7
    simp at c7
    have HO4 := Lib.hid ho4
    have HC4 := Lib.hid hc4
    clear ho4 hc4 hd4x c3 cq
    go_wp2_with fail
    go_ret2
    have hst : Chg [q] w4 (w4.setCell ⟨q, 7, none⟩ (.int .i64 2)) := (Chg.refl _ _).setCell (by simp) _
    have t4 := ((HT.out.kept HC3.out).chg HC4.out (fun y hy => by simp at hy; rcases hy with rfl | rfl; exact HBL.out.2; exact HBL.out.1)).tick (k' := 2) hst (HO4.out.set 7 (.int .i64 2)) (by omega) HI.out
    have hQ := HQ.out
    refine ⟨rfl, Lib.hid ⟨hd4.out.keep hst (by simpa using fun e => hQ.1 e.symm) (by simpa using fun e => hQ.2.1 e.symm) (by simpa using fun e => hQ.2.2 e.symm), t4⟩, ?_⟩
    refine ((HC3.out.mono (by simp)).trans (HC4.out.mono (fun y hy => .inl ?_))).trans (hst.mono (fun y hy => .inl ?_))
    · simp at hy ⊢
      first | exact .inr (.inr hy) | (rcases hy with rfl | rfl <;> simp)
    · simp at hy ⊢
      subst hy
      exact .inl HT.out.memq
set_option maxHeartbeats 2000000 in
set_option maxRecDepth 100000 in
theorem step_2 {g b : Nat} {F : Nat → Sec} {m : Nat → Option Sec} (t : TpV w l q p n h h' L L' 2 vF vE vF' vE') (hd : Dsk w p g b n F m) (hbl : b ∉ l) (hgl : g ∉ l) (hi : ¬ idle h h' L L') :
    Calls Tryz.prog 116 #[.pointer (some ⟨q, 0, none⟩)] w fun e w' => e = .returned (.tuple #[.bool false, .int .i64 0]) ∧ Hid (Dsk w' p g b n F (upd m 0 (supS h' L'.length (frs L').length)) ∧ TpV w' l q p n h h' L L' 3 vF vE vF' vE') ∧ Chg (l ++ [g, b]) w w' := by
  have hn := hd.top
  have hqp := t.ne_p hd
  have HBL := Lib.hid (And.intro hbl hgl)
  have HT := Lib.hid t
  have HD := Lib.hid hd
  have HI := Lib.hid hi
  have hw := fun W (hW : Chg [] w W) => waiting_tape (t.kept hW) hn
  have HS := Lib.hid (fun W (hW : Chg [] w W) => steps_cells (t.kept hW))
  have hr := replacing_any t
  have hqm : q ∈ l := t.memq
  have hqg : q ≠ g := fun e => hgl (e ▸ hqm)
  have hqb : q ≠ b := fun e => hbl (e ▸ hqm)
  have HQ := Lib.hid (And.intro hqp (And.intro hqg hqb))
  obtain ⟨x, HX⟩ : ∃ x, Hid (waitN h h' L L' = x) := ⟨_, Lib.hid rfl⟩
  simp only [HX.out] at hw
  have HW := Lib.hid hw
  have HX0 := Lib.hid (show h = h' → 0 < x from fun e => by
    rw [← HX.out]
    unfold waitN
    rw [if_pos e]
    obtain ⟨W2, hW2⟩ := t.pre e
    have h1 : L'.length = L.length + W2.length := by rw [hW2, List.length_append]
    have h2 : L'.length ≠ L.length := fun h3 => hi ⟨e, h3⟩
    omega)
  have h4 : (0 : Int) ≤ 4 := by omega
  clear t hd hi hw hqm hqg hqb hqp hbl hgl
  by_cases hh : h = h'
  case' pos =>
    rw [decide_eq_false (show ¬ h ≠ h' from fun x => x hh)] at hr
    have hx0 := HX0.out hh
    have hxd : decide (x = 0) = false := by simp; omega
    have hxe : ((x : Int) == 0) = false := by simp; omega
  case' neg =>
    rw [decide_eq_true (show h ≠ h' from hh)] at hr
  all_goals
    have HR := Lib.hid hr
    clear hr hh
    go_enter Tryz.func116, Tryz.ntmps116
    go_wp2_with (first
      | (go_at_call 112; refine HR.out.mono ?_; rintro e w1 ⟨rfl, hq1⟩; have HC1 := Lib.hid ((Chg.refl [] w).qt hq1); clear hq1)
      | (go_at_call 169; refine (HW.out _ HC1.out).mono ?_; rintro e w2 ⟨rfl, hc2⟩; have HC0 := HC1; clear HC1; have HC1 := Lib.hid (HC0.out.trans hc2); clear hc2 HC0)
      | (go_at_call 170; refine (HS.out _ HC1.out).mono ?_; rintro e w3 ⟨s, rfl, hs3, HO3, hc3⟩; have HC3 := Lib.hid (HC1.out.trans hc3); have c3 := HO3.out.cell 2; unfold mv at c3; simp at c3; have cq := (HT.out.own.chg HC3.out (by simp)).cell 7; simp at cq; clear hc3 hs3)
      | fail)
    have HCALL := Lib.hid (writeSuper_any (HT.out.kept HC3.out) (HD.out.kept HC3.out) HBL.out.1)
    refine HCALL.out.mono ?_
    rintro e w4 ⟨rfl, hd4, hc4⟩
    have ho4 := (HT.out.own.chg HC3.out (by simp)).chg hc4 (by simpa using HQ.out.2.2)
    have c7 := ho4.cell 7
    have f7 := ho4.frozen 7
    simp at c7
    have HO4 := Lib.hid ho4
    have HC4 := Lib.hid hc4
    clear ho4 hc4 c3 cq
    go_wp2_with fail
    go_ret2
    have hst : Chg [q] w4 (w4.setCell ⟨q, 7, none⟩ (.int .i64 3)) := (Chg.refl _ _).setCell (by simp) _
    have t4 := ((HT.out.kept HC3.out).chg HC4.out (fun y hy => by simp at hy; subst hy; exact HBL.out.1)).tick (k' := 3) hst (HO4.out.set 7 (.int .i64 3)) (by omega) HI.out
    have hQ := HQ.out
    refine ⟨rfl, Lib.hid ⟨hd4.out.keep hst (by simpa using fun e => hQ.1 e.symm) (by simpa using fun e => hQ.2.1 e.symm) (by simpa using fun e => hQ.2.2 e.symm), t4⟩, ?_⟩
    refine ((HC3.out.mono (by simp)).trans (HC4.out.mono (fun y hy => .inl ?_))).trans (hst.mono (fun y hy => .inl ?_))
    · simp at hy ⊢
      first | exact .inr (.inr hy) | (rcases hy with rfl | rfl <;> simp)
    · simp at hy ⊢
      subst hy
      exact .inl HT.out.memq
set_option maxHeartbeats 2000000 in
set_option maxRecDepth 100000 in
theorem step_3 {g b : Nat} {F : Nat → Sec} {m : Nat → Option Sec} (t : TpV w l q p n h h' L L' 3 vF vE vF' vE') (hd : Dsk w p g b n F m) (hbl : b ∉ l) (hgl : g ∉ l) (hi : ¬ idle h h' L L') :
    Calls Tryz.prog 116 #[.pointer (some ⟨q, 0, none⟩)] w fun e w' => e = .returned (.tuple #[.bool true, .int .i64 0]) ∧ Hid (Dsk w' p g b n (now F m) (fun _ => none) ∧ TpV w' l q p n h' h' L' L' 0 vF' vE' vF' vE') ∧ Chg (l ++ [g, b]) w w' := by
  have hn := hd.top
  have hqp := t.ne_p hd
  have HBL := Lib.hid (And.intro hbl hgl)
  have HT := Lib.hid t
  have HD := Lib.hid hd
  have HI := Lib.hid hi
  have hw := fun W (hW : Chg [] w W) => waiting_tape (t.kept hW) hn
  have HS := Lib.hid (fun W (hW : Chg [] w W) => steps_cells (t.kept hW))
  have hr := replacing_any t
  have hqm : q ∈ l := t.memq
  have hqg : q ≠ g := fun e => hgl (e ▸ hqm)
  have hqb : q ≠ b := fun e => hbl (e ▸ hqm)
  have HQ := Lib.hid (And.intro hqp (And.intro hqg hqb))
  obtain ⟨x, HX⟩ : ∃ x, Hid (waitN h h' L L' = x) := ⟨_, Lib.hid rfl⟩
  simp only [HX.out] at hw
  have HW := Lib.hid hw
  have HX0 := Lib.hid (show h = h' → 0 < x from fun e => by
    rw [← HX.out]
    unfold waitN
    rw [if_pos e]
    obtain ⟨W2, hW2⟩ := t.pre e
    have h1 : L'.length = L.length + W2.length := by rw [hW2, List.length_append]
    have h2 : L'.length ≠ L.length := fun h3 => hi ⟨e, h3⟩
    omega)
  have h4 : (0 : Int) ≤ 4 := by omega
  clear t hd hi hw hqm hqg hqb hqp hbl hgl
  by_cases hh : h = h'
  case' pos =>
    rw [decide_eq_false (show ¬ h ≠ h' from fun x => x hh)] at hr
    have hx0 := HX0.out hh
    have hxd : decide (x = 0) = false := by simp; omega
    have hxe : ((x : Int) == 0) = false := by simp; omega
  case' neg =>
    rw [decide_eq_true (show h ≠ h' from hh)] at hr
  all_goals
    have HR := Lib.hid hr
    clear hr hh
    go_enter Tryz.func116, Tryz.ntmps116
    go_wp2_with (first
      | (go_at_call 112; refine HR.out.mono ?_; rintro e w1 ⟨rfl, hq1⟩; have HC1 := Lib.hid ((Chg.refl [] w).qt hq1); clear hq1)
      | (go_at_call 169; refine (HW.out _ HC1.out).mono ?_; rintro e w2 ⟨rfl, hc2⟩; have HC0 := HC1; clear HC1; have HC1 := Lib.hid (HC0.out.trans hc2); clear hc2 HC0)
      | (go_at_call 170; refine (HS.out _ HC1.out).mono ?_; rintro e w3 ⟨s, rfl, hs3, HO3, hc3⟩; have HC3 := Lib.hid (HC1.out.trans hc3); have c3 := HO3.out.cell 3; unfold mv at c3; simp at c3; have cq := (HT.out.own.chg HC3.out (by simp)).cell 7; simp at cq; clear hc3 hs3)
      | fail)
    have HCALL := Lib.hid (settle_any (HT.out.kept HC3.out) (HD.out.kept HC3.out) HBL.out.1 HBL.out.2)
    refine HCALL.out.mono ?_
    rintro e w4 ⟨rfl, H4⟩
    have c7 := H4.out.2.1.cell 7
    have f7 := H4.out.2.1.frozen 7
    simp at c7
    clear c3 cq
    go_wp2_with fail
    go_ret2
    obtain ⟨hd4, ho4, w5, hc5, hc6⟩ := H4.out
    have hst : Chg [q] w4 (w4.setCell ⟨q, 7, none⟩ (.int .i64 0)) := (Chg.refl _ _).setCell (by simp) _
    have t4 := (HT.out.kept HC3.out).settled hc5 (fun y hy => by simp at hy; rcases hy with rfl | rfl; exact HBL.out.2; exact HBL.out.1) hc6 hst (ho4.set 7 (.int .i64 0))
    have hQ := HQ.out
    refine ⟨rfl, Lib.hid ⟨hd4.keep hst (by simpa using fun e => hQ.1 e.symm) (by simpa using fun e => hQ.2.1 e.symm) (by simpa using fun e => hQ.2.2 e.symm), t4⟩, ?_⟩
    have hqm := HT.out.memq
    refine (((HC3.out.mono (by simp)).trans (hc5.mono (fun y hy => .inl ?_))).trans (hc6.mono (fun y hy => .inl ?_))).trans (hst.mono (fun y hy => .inl ?_))
    · simp at hy ⊢
      exact .inr hy
    · simp at hy ⊢
      subst hy
      exact .inl hqm
    · simp at hy ⊢
      subst hy
      exact .inl hqm
end
end Go.Proofs.YtmpajlpemabniaaGreat
namespace Go.Proofs.YtmpajlpemabniaaGreat
open Go.RowKit Go.Shelf Go.Deep Go.Maps
set_option linter.unusedVariables false
set_option linter.unusedSimpArgs false

/-- what a tape and its disk have -/
structure TS where
  F : Nat → Sec
  m : Nat → Option Sec
  h : Nat
  h' : Nat
  L : List Rec
  L' : List Rec
  k : Nat
def TS.idle (S : TS) : Prop := Proofs.YtmpajlpemabniaaGreat.idle S.h S.h' S.L S.L'
instance (S : TS) : Decidable S.idle := by unfold TS.idle; infer_instance
/-- a step -/
def stepS (n : Nat) (S : TS) : TS :=
  if S.idle then S else
    if S.k = 0 then { S with m := wfM n S.h S.h' S.L S.L' S.m, k := 1 }
    else if S.k = 1 then { S with F := now S.F S.m, m := fun _ => none, k := 2 }
    else if S.k = 2 then { S with m := upd S.m 0 (supS S.h' S.L'.length (frs S.L').length), k := 3 }
    else { S with F := now S.F S.m, m := fun _ => none, h := S.h', L := S.L', k := 0 }
def doneS (S : TS) : Bool := decide (S.idle) || decide (S.k = 3)
/-- all steps that are left -/
def commitS (n : Nat) (S : TS) : TS :=
  if S.idle then S else
    if S.k = 0 then stepS n (stepS n (stepS n (stepS n S)))
    else if S.k = 1 then stepS n (stepS n (stepS n S))
    else if S.k = 2 then stepS n (stepS n S)
    else stepS n S
theorem step_idleS {n : Nat} {S : TS} (h : S.idle) : stepS n S = S := by unfold stepS; rw [if_pos h]
theorem step_keep {n : Nat} {S : TS} (h : ¬ S.idle) (hk : S.k < 3) : ¬ (stepS n S).idle ∧ (stepS n S).k = S.k + 1 := by
  unfold stepS
  rw [if_neg h]
  by_cases h0 : S.k = 0
  · rw [if_pos h0]; exact ⟨h, by show 1 = _; omega⟩
  · rw [if_neg h0]
    by_cases h1 : S.k = 1
    · rw [if_pos h1]; exact ⟨h, by show 2 = _; omega⟩
    · rw [if_neg h1, if_pos (by omega)]; exact ⟨h, by show 3 = _; omega⟩
theorem commit_done {n : Nat} {S : TS} (hd : doneS S = true) : stepS n S = commitS n S := by
  unfold commitS
  by_cases hi : S.idle
  · rw [if_pos hi, step_idleS hi]
  · have hk : S.k = 3 := by
      unfold doneS at hd
      rw [decide_eq_false hi] at hd
      simpa using hd
    rw [if_neg hi, if_neg (by omega), if_neg (by omega), if_neg (by omega)]
theorem commit_more {n : Nat} {S : TS} (hd : doneS S = false) (hk : S.k ≤ 3) : commitS n (stepS n S) = commitS n S ∧ (stepS n S).k = S.k + 1 := by
  unfold doneS at hd
  have hi : ¬ S.idle := by
    intro h
    rw [decide_eq_true h] at hd
    simp at hd
  have h3 : S.k ≠ 3 := by
    intro h
    rw [decide_eq_true h] at hd
    simp at hd
  obtain ⟨h1, h2⟩ := step_keep (n := n) hi (by omega)
  refine ⟨?_, h2⟩
  conv => lhs; unfold commitS
  conv => rhs; unfold commitS
  rw [if_neg h1, if_neg hi, h2]
  by_cases e0 : S.k = 0
  · rw [if_neg (by omega), if_pos (by omega), if_pos e0]
  · by_cases e1 : S.k = 1
    · rw [if_neg (by omega), if_neg (by omega), if_pos (by omega), if_neg e0, if_pos e1]
    · rw [if_neg (by omega), if_neg (by omega), if_neg (by omega), if_neg e0, if_neg e1, if_pos (by omega)]
/-- a tape in block q, its blocks in l, its disk in p, g, b -/
structure TD (w : World) (l : List Nat) (q p g b n : Nat) (S : TS) : Prop where
  tp : Tp w l q p n S.h S.h' S.L S.L' S.k
  dsk : Dsk w p g b n S.F S.m
  np : p ∉ l
  ng : g ∉ l
  nb : b ∉ l
  three : 3 ≤ n
  lt : ∀ x ∈ l, x < w.heap.size
theorem TpV.norm {w : World} {l : List Nat} {q p n h h' : Nat} {L L' : List Rec} {k : Nat} {vF vE vF' vE' : Value} (t : TpV w l q p n h h' L L' k vF vE vF' vE') : TpV w (q :: (bl vF ++ bl vE ++ bl vF' ++ bl vE')) q p n h h' L L' k vF vE vF' vE' ∧ (∀ x ∈ q :: (bl vF ++ bl vE ++ bl vF' ++ bl vE'), x ∈ l ∧ x < w.heap.size) := by
  refine ⟨⟨t.own, t.fr, t.en, t.fr', t.en', t.alF, t.alE, by simp, ?_, t.half, t.half', t.step, t.ok, t.ok', t.room, t.room', t.pre, t.busy⟩, fun x hx => ?_⟩
  · rintro x (hx | hx | hx | hx) <;> simp [hx]
  · simp only [List.mem_cons, List.mem_append] at hx
    rcases hx with rfl | ((hx | hx) | hx) | hx
    · exact ⟨t.memq, t.own.lt⟩
    · exact ⟨t.memv x (.inl hx), t.fr.bl_lt x hx⟩
    · exact ⟨t.memv x (.inr (.inl hx)), t.en.bl_lt x hx⟩
    · exact ⟨t.memv x (.inr (.inr (.inl hx))), t.fr'.bl_lt x hx⟩
    · exact ⟨t.memv x (.inr (.inr (.inr hx))), t.en'.bl_lt x hx⟩
theorem TD.kept {w w' : World} {l : List Nat} {q p g b n : Nat} {S : TS} (t : TD w l q p g b n S) (hc : Chg [] w w') : TD w' l q p g b n S := ⟨t.tp.kept hc, t.dsk.kept hc, t.np, t.ng, t.nb, t.three, fun x hx => Nat.lt_of_lt_of_le (t.lt x hx) hc.size⟩
theorem TD.chg {w w' : World} {l m : List Nat} {q p g b n : Nat} {S : TS} (t : TD w l q p g b n S) (hc : Chg m w w') (hm : ∀ x ∈ m, x ∉ l ∧ x ≠ p ∧ x ≠ g ∧ x ≠ b) : TD w' l q p g b n S :=
  ⟨t.tp.chg hc (fun x hx => (hm x hx).1), t.dsk.keep hc (fun hx => (hm _ hx).2.1 rfl) (fun hx => (hm _ hx).2.2.1 rfl) (fun hx => (hm _ hx).2.2.2 rfl), t.np, t.ng, t.nb, t.three, fun x hx => Nat.lt_of_lt_of_le (t.lt x hx) hc.size⟩
theorem TD.le3 {w : World} {l : List Nat} {q p g b n : Nat} {S : TS} (t : TD w l q p g b n S) : S.k ≤ 3 := by
  obtain ⟨_, _, _, _, h⟩ := t.tp
  exact h.step
theorem step_TD {w : World} {l : List Nat} {q p g b n : Nat} {S : TS} (t : TD w l q p g b n S) :
    Calls Tryz.prog 116 #[.pointer (some ⟨q, 0, none⟩)] w fun e w' => e = .returned (.tuple #[.bool (doneS S), .int .i64 0]) ∧ Hid (TD w' l q p g b n (stepS n S)) ∧ Chg (l ++ [g, b]) w w' := by
  obtain ⟨F, m, h, h', L, L', k⟩ := S
  obtain ⟨⟨vF, vE, vF', vE', tv⟩, hd, np, ng, nb, h3, hlt⟩ := t
  dsimp only at tv hd
  by_cases hi : idle h h' L L'
  · have e1 : doneS ⟨F, m, h, h', L, L', k⟩ = true := by unfold doneS; rw [decide_eq_true (show TS.idle ⟨F, m, h, h', L, L', k⟩ from hi)]; rfl
    have e2 : stepS n ⟨F, m, h, h', L, L', k⟩ = ⟨F, m, h, h', L, L', k⟩ := step_idleS hi
    rw [e1, e2]
    exact (step_idle tv hd.top hi).mono fun e w' ⟨he, hc⟩ => ⟨he, Lib.hid ⟨⟨_, _, _, _, tv.kept hc⟩, hd.kept hc, np, ng, nb, h3, fun x hx => Nat.lt_of_lt_of_le (hlt x hx) hc.size⟩, hc.mono (by simp)⟩
  · have hni : ¬ TS.idle ⟨F, m, h, h', L, L', k⟩ := hi
    have hk := tv.step
    have e0 : doneS ⟨F, m, h, h', L, L', k⟩ = decide (k = 3) := by unfold doneS; rw [decide_eq_false hni]; rfl
    rw [e0]
    unfold stepS
    rw [if_neg hni]
    dsimp only
    by_cases k0 : k = 0
    · subst k0
      rw [if_pos rfl]
      exact (step_0 tv hd nb ng hi).mono fun e w' ⟨he, hx, hc⟩ => ⟨he, Lib.hid ⟨⟨_, _, _, _, hx.out.2⟩, hx.out.1, np, ng, nb, h3, fun x hx => Nat.lt_of_lt_of_le (hlt x hx) hc.size⟩, hc⟩
    · rw [if_neg k0]
      by_cases k1 : k = 1
      · subst k1
        rw [if_pos rfl]
        exact (step_1 tv hd nb ng hi).mono fun e w' ⟨he, hx, hc⟩ => ⟨he, Lib.hid ⟨⟨_, _, _, _, hx.out.2⟩, hx.out.1, np, ng, nb, h3, fun x hx => Nat.lt_of_lt_of_le (hlt x hx) hc.size⟩, hc⟩
      · rw [if_neg k1]
        by_cases k2 : k = 2
        · subst k2
          rw [if_pos rfl]
          exact (step_2 tv hd nb ng hi).mono fun e w' ⟨he, hx, hc⟩ => ⟨he, Lib.hid ⟨⟨_, _, _, _, hx.out.2⟩, hx.out.1, np, ng, nb, h3, fun x hx => Nat.lt_of_lt_of_le (hlt x hx) hc.size⟩, hc⟩
        · rw [if_neg k2]
          have k3 : k = 3 := by omega
          subst k3
          exact (step_3 tv hd nb ng hi).mono fun e w' ⟨he, hx, hc⟩ => ⟨he, Lib.hid ⟨⟨_, _, _, _, hx.out.2⟩, hx.out.1, np, ng, nb, h3, fun x hx => Nat.lt_of_lt_of_le (hlt x hx) hc.size⟩, hc⟩
/-- how many steps are left, out of memory -/
def leftN (q : Nat) (w : World) : Nat := match w.cell? ⟨q, 7, none⟩ with
  | some (.int _ z) => 4 - z.toNat
  | _ => 0
theorem left_TD {w : World} {l : List Nat} {q p g b n : Nat} {S : TS} (t : TD w l q p g b n S) : leftN q w = 4 - S.k := by
  obtain ⟨_, _, _, _, tv⟩ := t.tp
  have h := tv.own.cell 7
  unfold leftN
  simp at h
  rw [h]
  simp
theorem commit_nilT (w : World) : Calls Tryz.prog 59 #[.pointer none] w fun e w' => e = .returned (.int .i64 1) ∧ w = w' := by
  go_enter Tryz.func59, Tryz.ntmps59
  go_wp2_with fail
  refine wp_loop_rounds 1 ?_
  rw [rounds_succ]
  go_wp2_with (first | (go_at_call 116; refine (step_nilT _).mono ?_; rintro e w' ⟨rfl, rfl⟩) | fail)
  go_ret
  exact ⟨rfl, rfl⟩
theorem commit_TD {w : World} {l : List Nat} {q p g b n : Nat} {S : TS} (t : TD w l q p g b n S) :
    Calls Tryz.prog 59 #[.pointer (some ⟨q, 0, none⟩)] w fun e w' => e = .returned (.int .i64 0) ∧ Hid (TD w' l q p g b n (commitS n S)) ∧ Chg (l ++ [g, b]) w w' := by
  have HT := Lib.hid t
  clear t
  go_enter Tryz.func59, Tryz.ntmps59
  go_wp2_with fail
  go_loopw [3] (fun _ wr => ∃ S', Hid (TD wr l q p g b n S' ∧ commitS n S' = commitS n S) ∧ Chg (l ++ [g, b]) w wr) (fun _ wr => leftN q wr)
  case atStart => exact ⟨S, Lib.hid ⟨HT.out, rfl⟩, Chg.refl _ _⟩
  case round =>
    obtain ⟨S', HS, hc⟩ := hrel
    have HC := Lib.hid hc
    have hst := step_TD HS.out.1
    have HL := Lib.hid (left_TD HS.out.1)
    clear hc
    cases hb : doneS S' with
    | true =>
      rw [hb] at hst
      have HST := Lib.hid hst
      have HE := Lib.hid ((commit_done (n := n) hb).trans HS.out.2)
      clear hst hb
      go_wp2_with (first | (go_at_call 116; refine HST.out.mono ?_; rintro e w2 ⟨rfl, ht2, hc2⟩) | fail)
      go_ret
      rw [HE.out] at ht2
      exact ⟨rfl, ht2, HC.out.trans hc2⟩
    | false =>
      rw [hb] at hst
      have HST := Lib.hid hst
      have HE := Lib.hid (commit_more (n := n) hb HS.out.1.le3)
      have h3 := HS.out.1.le3
      clear hst hb
      go_wp2_with (first | (go_at_call 116; refine HST.out.mono ?_; rintro e w2 ⟨rfl, ht2, hc2⟩; have HC2 := Lib.hid hc2; clear hc2) | fail)
      go_roundw
      case rel => exact ⟨_, Lib.hid ⟨ht2.out, HE.out.1.trans HS.out.2⟩, HC.out.trans HC2.out⟩
      case measure =>
        have h1 := HL.out
        have h2 := left_TD ht2.out
        rw [HE.out.2] at h2
        rw [h1, h2]
        omega
end Go.Proofs.YtmpajlpemabniaaGreat
