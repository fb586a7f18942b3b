/-
  Contract of the document's tape: Append. No claim of its own.
-/
import Derived.Test.YtdiemejdbakffaaGreatRt5
namespace Go.Proofs.YtdiemejdbakffaaGreat
open Go.RowKit Go.Deep Go.Shelf Go.Maps
set_option linter.unusedVariables false
set_option linter.unusedSimpArgs false

theorem sb_one (zs : List SB) : ∀ u ∈ zs.map SB.val, u.oneCell' = true := fun u hu => by
  obtain ⟨x, _, rfl⟩ := List.mem_map.1 hu
  rfl
/-- what RS asks of a list made anew -/
theorem RS.fresh {w w1 : World} {N : List Nat} {a1 : Option Addr} {n c1 : Nat} {zs : List SB} (hN : ∀ y ∈ N, y < w.heap.size) (hl : Lst w1 0 37 (.slice a1 n c1) (zs.map SB.val)) (hb : ∀ y ∈ bl (.slice a1 n c1), w.heap.size ≤ y) (hz : ∀ z ∈ zs, Ro w1 w1.heap.size z.a (u8s z.bs) ∧ z.bs.length ≤ 9223372036854775807 ∧ (z.bs ≠ [] → ∀ x, z.a = some x → x.block ∉ N)) (hlen : zs.length ≤ 9223372036854775807) : RS w1 N a1 zs := by
  obtain ⟨a2, c2, h1, h2, _⟩ := hl.form
  injection h1 with h3
  subst h3
  exact ⟨⟨h2, fun y hy => (hz y hy).1, hlen, fun y hy => (hz y hy).2.1⟩, fun _ y hy hm => by have := hb _ (lst_bl hl y hy); have := hN _ hm; omega, fun y hy h0 z hz2 => (hz y hy).2.2 h0 z hz2⟩
theorem RS.elems {w w1 : World} {N : List Nat} {a : Option Addr} {ys : List SB} (h : RS w N a ys) (hc : Chg [] w w1) : ∀ z ∈ ys, Ro w1 w1.heap.size z.a (u8s z.bs) ∧ z.bs.length ≤ 9223372036854775807 ∧ (z.bs ≠ [] → ∀ x, z.a = some x → x.block ∉ N) := fun z hz =>
  ⟨(h.kept hc).rom.el z hz, h.rom.lens z hz, fun h0 x hx => h.sep.2 z hz h0 x hx⟩
theorem row_elem {w w1 : World} {N : List Nat} {a : Option Addr} {n c : Nat} {r : Rec} (hN : ∀ y ∈ N, y < w.heap.size) (hl : Lst w1 0 5 (.slice a n c) (u8s r)) (hb : ∀ y ∈ bl (.slice a n c), w.heap.size ≤ y) (hr : r.length ≤ 9223372036854775807) : Ro w1 w1.heap.size a (u8s r) ∧ r.length ≤ 9223372036854775807 ∧ (r ≠ [] → ∀ x, a = some x → x.block ∉ N) := by
  obtain ⟨a2, c2, h1, h2, _⟩ := hl.form
  injection h1 with h3
  subst h3
  refine ⟨h2, hr, fun _ x hx hm => ?_⟩
  have := hb _ (lst_bl hl x hx)
  have := hN _ hm
  omega
theorem RtC.ltM {w : World} {N : List Nat} {u q gn go gd n : Nat} {F : Nat → Sec} {m : Nat → Option Sec} {h k : Nat} {fl : Bool} {aL aW : Option Addr} {cL cW : Nat} {xs ys : List SB} (t : RtC w N u q gn go gd n F m h fl k aL cL xs aW cW ys) (hN : ∀ x ∈ N, x < w.heap.size) : ∀ x ∈ N ++ [u, gn, go, gd], x < w.heap.size := fun x hx => by
  rcases List.mem_append.1 hx with hx | hx
  · exact hN x hx
  · simp only [List.mem_cons, List.mem_nil_iff, or_false] at hx
    rcases hx with rfl | rfl | rfl | rfl
    · exact t.own.lt
    · exact t.dk.ltn
    · exact t.dk.lto
    · exact t.dk.ltd
theorem app_ok {n : Nat} {S : TS} {r : Rec} (h : appE n S.k S.h S.h' S.L S.L' r = 0) : okR r ∧ S.k = 0 ∧ S.h = S.h' ∧ 2 + r.length ≤ roomN n S.h S.h' S.L S.L' := by
  unfold appE at h
  split at h
  · omega
  · split at h
    · omega
    · split at h
      · omega
      · rename_i h1 h2 h3
        have h4 : ¬ 0 < S.k ∧ ¬ S.h ≠ S.h' := not_or.1 h2
        exact ⟨Classical.not_not.1 h1, by omega, Classical.not_not.1 h4.2, by omega⟩
theorem app_wait {n : Nat} {S : TS} (ti : TI n S) {r : Rec} (h : appE n S.k S.h S.h' S.L S.L' r = 0) : waitL (appS n S r) = waitL S ++ [r] := by
  have hh := (app_ok h).2.2.1
  have h1 : (appS n S r).L' = S.L ++ (waitL S ++ [r]) := by
    show appL n S.k S.h S.h' S.L S.L' r = _
    unfold appL
    rw [if_pos h, waitL_same ti hh, List.append_assoc]
  show (if S.h = S.h' then (appS n S r).L'.drop S.L.length else (appS n S r).L') = _
  rw [if_pos hh, h1, List.drop_left]
theorem app_stay {n : Nat} {S : TS} {r : Rec} (h : appE n S.k S.h S.h' S.L S.L' r ≠ 0) : appS n S r = S := by
  unfold appS appL
  rw [if_neg h]
section
variable {w : World} {N : List Nat} {u q gn go gd n : Nat} {S : TS}
set_option maxHeartbeats 4000000 in
set_option maxRecDepth 100000 in
theorem rappend_any (t : Rt w N u q gn go gd n S) (ti : TI n S) (hN : ∀ x ∈ N, x < w.heap.size) (a : Option Addr) (r : Rec) (c : Nat) (hro : Ro w w.heap.size a (u8s r)) (hrl : r.length ≤ 1000000) :
    Calls Tryz.prog 37 #[.pointer (some ⟨u, 0, none⟩), .slice a r.length c] w fun e w' => e = .returned (.int .i64 ((appE n S.k S.h S.h' S.L S.L' r : Nat) : Int)) ∧ Hid (Rt w' N u q gn go gd n (appS n S r)) ∧ Chg [u] w w' := by
  have HT := Lib.hid t
  have HRM := Lib.hid (rroom_any t ti)
  have hst := ti.step
  obtain ⟨aL, cL, xs, aW, cW, ys, tc, eL, eW⟩ := t
  obtain ⟨c0, c1, c2, c3, c4, c5⟩ := tc.cells
  have hRI := right_any w a r.length c
  obtain ⟨R, HRO⟩ : ∃ R, Hid (roomN n S.h S.h' S.L S.L' = R) := ⟨_, Lib.hid rfl⟩
  have hRle : R ≤ 100000 := by
    rw [← HRO.out]
    have h1 := ti.top
    have h2 : hsec n * 64 ≤ 512 * 64 := Nat.mul_le_mul_right _ (by unfold hsec; omega)
    unfold roomN
    omega
  rw [HRO.out] at HRM
  by_cases hE : appE n S.k S.h S.h' S.L S.L' r = 0
  · obtain ⟨hr, hk, hh, hroom⟩ := app_ok hE
    rw [HRO.out] at hroom
    have HW := Lib.hid (app_wait ti hE)
    have hlW : (waitL S).length ≤ 100000 := by
      have := ti.lens
      unfold waitL
      split
      · rw [List.length_drop]; omega
      · omega
    obtain ⟨lw, HLW⟩ : ∃ x, Hid (ys.length = x) := ⟨_, Lib.hid rfl⟩
    have hlw : lw ≤ 100000 := by rw [← HLW.out, ← recs_len, eW]; exact hlW
    obtain ⟨N1, HN1⟩ : ∃ M, Hid (r.length = M) := ⟨_, Lib.hid rfl⟩
    have hN1 : N1 ≤ 300 := by rw [← HN1.out]; exact hr.2
    have hrt : decide (1 ≤ r.length ∧ r.length ≤ 300) = true := decide_eq_true hr
    have hdf : decide (S.h ≠ S.h') = false := decide_eq_false (fun x => x hh)
    rw [hdf] at tc c4
    rw [hk] at c5 tc
    rw [hrt] at hRI
    rw [HLW.out] at c3
    have HTC := Lib.hid tc
    have HEE := Lib.hid (And.intro eL eW)
    rw [hE]
    rw [HN1.out] at hRI hroom ⊢
    have HRI := Lib.hid hRI
    have A1 : IntKind.i64.wrap ((N1 : Int) + 2) = ((N1 + 2 : Nat) : Int) := by rw [IntKind.wrap_i64]; omega
    obtain ⟨A2, hA2⟩ : ∃ x, x = N1 + 2 := ⟨_, rfl⟩
    rw [← hA2] at A1
    have d1 : decide ((R : Int) < (A2 : Int)) = false := by simp; omega
    have d2 : decide (R < A2) = false := by simp; omega
    have HHK := Lib.hid (And.intro hk hh)
    have HRR := Lib.hid hro
    clear hr hk hh hroom hrt hdf hRI tc eL eW hA2 hE hro hlW
    go_enter Tryz.func37, Tryz.ntmps37
    go_wp2_with fail
    refine HRI.out.mono ?_
    rintro e w' ⟨rfl, rfl⟩
    clear HRI
    go_wp2_with fail
    refine HRM.out.mono ?_
    rintro e w1 ⟨rfl, hc1⟩
    have k3 := hc1.cell c3 (by simp)
    have HE1 := Lib.hid (show Lst (w1.alloc (.cells #[] 37)) 0 37 (.slice (some ⟨w1.heap.size, 0, none⟩) 0 0) [] from Lst.lit w1 0 37 #[] (Nat.zero_le _) (by decide))
    have HLWR := Lib.hid (show Ro (w1.alloc (.cells #[] 37)) w.heap.size aW (ys.map SB.val) from HTC.out.lW.rom.row.chgs (hc1.alloc _) (by simp))
    have k3' := (hc1.alloc (.cells #[] 37)).cell c3 (by simp)
    have HC1 := Lib.hid hc1
    clear hc1 HRM c0 c1 c2 c4 c5
    have hltM := HTC.out.ltM hN
    have HMK := Lib.hid (show ∀ (v2 : Value) (w2 : World) (a3 : Option Addr) (c3 : Nat) (w3 : World) (v4 : Value) (w4 : World), Chg [] w w2 → (∀ x ∈ bl v2, w.heap.size ≤ x) → Chg [] w2 w3 → (∀ x ∈ bl (.slice a3 r.length c3), w.heap.size ≤ x) → Lst w3 0 5 (.slice a3 r.length c3) (u8s r) → Lst w3 0 37 v2 (ys.map SB.val) → AppK w3 w4 37 v2 v4 (ys.map SB.val) [.slice a3 r.length c3] →
        RtC w4 N u q gn go gd n S.F S.m S.h false 0 aL cL xs aW cW ys ∧ Chg [] w w4 ∧ (∀ a4 n4 c4, v4 = .slice a4 n4 c4 → n4 = (ys ++ [(⟨a3, r, c3⟩ : SB)]).length ∧ RS w4 (N ++ [u, gn, go, gd]) a4 (ys ++ [⟨a3, r, c3⟩])) from fun v2 w2 a3 c3 w3 v4 w4 h2 hb2 h23 hb3 hl3 K4lst K4 => by
      have hc4 : Chg [] w w4 := (h2.trans h23).then K4.chg (fun x hx => .inr (hb2 x hx))
      have hl4 : Lst w4 0 37 v4 ((ys ++ [(⟨a3, r, c3⟩ : SB)]).map SB.val) := by rw [List.map_append]; exact K4.lst
      refine ⟨HTC.out.kept hc4, hc4, fun a4 n4 c4 e => ?_⟩
      subst e
      refine ⟨?_, RS.fresh (w := w) hltM hl4 (fun y hy => ?_) (fun z hz => ?_) ?_⟩
      · have := hl4.1
        obtain ⟨_, _, h5, _⟩ := hl4.form
        injection h5 with _ h6 _
        rw [h6, List.length_map]
      · rcases K4.bl y hy with h5 | h5
        · exact hb2 y h5
        · have := h2.size; have := h23.size; omega
      · rcases List.mem_append.1 hz with hz | hz
        · exact HTC.out.lW.elems hc4 z hz
        · simp only [List.mem_cons, List.mem_nil_iff, or_false] at hz
          subst hz
          have hl3' : Lst w4 0 5 (.slice a3 r.length c3) (u8s r) := hl3.chg K4.chg (fun g hg hm => hl3.off K4lst (Ne.symm ne_sl_u8) g hg hm)
          exact row_elem hltM hl3' hb3 (show r.length ≤ _ by omega)
      · rw [List.length_append, HLW.out, List.length_singleton]; omega)
    have hv2 : ∀ (w1 w2 : World) (v2 : Value), Chg [] w w1 → AppK (w1.alloc (.cells #[] 37)) w2 37 (.slice (some ⟨w1.heap.size, 0, none⟩) 0 0) v2 [] (ys.map SB.val) → ∀ x ∈ bl v2, w.heap.size ≤ x := fun w1 w2 v2 h K x hx => by
      rcases K.bl x hx with h5 | h5
      · have := bl_some _ _ _ x h5; have := h.size; omega
      · rw [World.size_alloc] at h5; have := h.size; omega
    have hv3 : ∀ (w2 w3 : World) (v3 : Value), Chg [] w w2 → AppK (w2.alloc (.cells #[] 5)) w3 5 (.slice (some ⟨w2.heap.size, 0, none⟩) 0 0) v3 [] (u8s r) → ∀ x ∈ bl v3, w.heap.size ≤ x := fun w2 w3 v3 h K x hx => by
      rcases K.bl x hx with h5 | h5
      · have := bl_some _ _ _ x h5; have := h.size; omega
      · rw [World.size_alloc] at h5; have := h.size; omega
    have HV := Lib.hid (And.intro hv2 hv3)
    clear hN hltM hv2 hv3
    go_wp2_with (first
      | (at_builtin; refine wpList_appK rfl _ _ 38 rfl 37 (.slice none 0 0) 24 Tryz.underlying38 infoSl rfl (.slice (some ⟨w1.heap.size, 0, none⟩) 0 0) [] (by rfl) HE1.out aW w.heap.size lw cW (ys.map SB.val) (by rfl) (by rw [List.length_map]; exact HLW.out) HLWR.out (sb_one ys) (by simp; omega) (by simp; omega) ?_; intro v2 w2 K2; have HC2 := Lib.hid (show Chg [] w w2 from (HC1.out.alloc _).then K2.out.chg (fun x hx => .inr (by have := bl_some _ _ _ x hx; have := HC1.out.size; omega))); have HE2 := Lib.hid (show Lst (w2.alloc (.cells #[] 5)) 0 5 (.slice (some ⟨w2.heap.size, 0, none⟩) 0 0) [] from Lst.lit w2 0 5 #[] (Nat.zero_le _) (by decide)); have HRB := Lib.hid (show Ro (w2.alloc (.cells #[] 5)) w.heap.size a (u8s r) from HRR.out.chgs (HC2.out.alloc _) (by simp)); clear k3 k3' HE1 HLWR)
      | (at_builtin; refine wpList_appK rfl _ _ 37 rfl 5 (.int .u8 0) 1 Tryz.underlying37 infoU8 rfl (.slice (some ⟨w2.heap.size, 0, none⟩) 0 0) [] (by rfl) HE2.out a w.heap.size N1 c (u8s r) (by rfl) (by rw [u8s_length, HN1.out]) HRB.out (u8s_one r) (by simp; omega) (by simp; omega) ?_; intro v3 w3 K3; obtain ⟨a3, c3', rfl⟩ := (show Lst w3 0 5 v3 (u8s r) from K3.out.lst).sl8; have hC23 : Chg [] w2 w3 := ((Chg.refl [] w2).alloc _).then K3.out.chg (fun x hx => .inr (by have := bl_some _ _ _ x hx; omega)); have HL3 := Lib.hid (show Lst w3 0 37 v2 (ys.map SB.val) from (show Lst w2 0 37 v2 (ys.map SB.val) from K2.out.lst).kept0 hC23); have HC23 := Lib.hid hC23; clear hC23 HE2 HRB)
      | (at_builtin; refine wpList_appK1 rfl _ _ 38 rfl 37 (.slice none 0 0) 24 Tryz.underlying38 infoSl rfl _ rfl _ _ (by rfl) HL3.out _ (by rfl) (by simp) (by rw [List.length_map, HLW.out]; omega) (by rw [List.length_map, HLW.out]; omega) ?_; intro v4 w4 K4; obtain ⟨a4, n4, c4, rfl⟩ := K4.out.lst.shape; have hm := HMK.out v2 w2 _ c3' w3 _ w4 HC2.out (HV.out.1 w1 w2 v2 HC1.out K2.out) HC23.out (HV.out.2 w2 w3 _ HC2.out K3.out) K3.out.lst HL3.out K4.out; have f3 := hm.1.frz.2.2.1; have g3 := hm.1.cells.2.2.2.1; rw [HLW.out] at g3; have HM := Lib.hid hm; clear hm)
      | fail)
    go_ret
    obtain ⟨hl4, hrs4⟩ := HM.out.2.2 _ _ _ rfl
    subst hl4
    have hx := HM.out.1.setu (.slice a4 (ys ++ [(⟨a3, r, c3'⟩ : SB)]).length c4) 3 (h' := S.h) (k' := 0) (fl' := false) (aL' := aL) (cL' := cL) (xs' := xs) (aW' := a4) (cW' := c4) (ys' := ys ++ [⟨a3, r, c3'⟩]) rfl HM.out.1.lL hrs4
    have e1 : decide ((appS n S r).h ≠ (appS n S r).h') = false := decide_eq_false (fun x => x HHK.out.2)
    have e2 : (appS n S r).k = 0 := HHK.out.1
    have hfin : RtC (w4.setCell ⟨u, 3, none⟩ (.slice a4 (ys ++ [(⟨a3, r, c3'⟩ : SB)]).length c4)) N u q gn go gd n (appS n S r).F (appS n S r).m (appS n S r).h (decide ((appS n S r).h ≠ (appS n S r).h')) (appS n S r).k aL cL xs a4 c4 (ys ++ [⟨a3, r, c3'⟩]) := by
      rw [e1, e2]
      exact hx
    exact ⟨rfl, Lib.hid ⟨aL, cL, xs, a4, c4, ys ++ [⟨a3, r, c3'⟩], hfin, HEE.out.1, by rw [recs_snoc, HEE.out.2, HW.out]⟩, (HM.out.2.1.mono (by simp)).setCell (by simp) _⟩
  · have hst2 := app_stay hE
    rw [hst2]
    by_cases hr : okR r
    · have hrt : decide (1 ≤ r.length ∧ r.length ≤ 300) = true := decide_eq_true hr
      rw [hrt] at hRI
      have hr300 : r.length ≤ 300 := hr.2
      by_cases hk : 0 < S.k ∨ S.h ≠ S.h'
      · have hE1 : appE n S.k S.h S.h' S.L S.L' r = 131 := by unfold appE; rw [if_neg (not_not_intro hr), if_pos hk]
        rw [hE1]
        have HRI := Lib.hid hRI
        generalize r.length = N1 at *
        by_cases hk0 : 0 < S.k
        · have d0 : decide (0 < S.k) = true := decide_eq_true hk0
          have d1 : (0 : Int) < (S.k : Int) := by omega
          generalize S.k = k at *
          clear hRI hr hrt hE1 hE HRM hk hk0
          go_enter Tryz.func37, Tryz.ntmps37
          go_wp2_with fail
          refine HRI.out.mono ?_
          rintro e w' ⟨rfl, rfl⟩
          go_wp2_with fail
          go_ret
          exact ⟨rfl, HT, (Chg.refl _ _)⟩
        · have hk2 : S.k = 0 := by omega
          have hf : decide (S.h ≠ S.h') = true := decide_eq_true (hk.resolve_left hk0)
          rw [hk2] at c5
          rw [hf] at c4
          clear hRI hr hrt hE1 hE HRM hk hk0 hk2 hf
          go_enter Tryz.func37, Tryz.ntmps37
          go_wp2_with fail
          refine HRI.out.mono ?_
          rintro e w' ⟨rfl, rfl⟩
          go_wp2_with fail
          go_ret
          exact ⟨rfl, HT, (Chg.refl _ _)⟩
      · obtain ⟨hk1, hk2⟩ := not_or.1 hk
        have hk3 : S.k = 0 := by omega
        have hf : decide (S.h ≠ S.h') = false := decide_eq_false hk2
        have hE0 : R < 2 + r.length := by
          unfold appE at hE
          rw [if_neg (not_not_intro hr), if_neg hk] at hE
          rw [← HRO.out]
          by_cases h : roomN n S.h S.h' S.L S.L' < 2 + r.length
          · exact h
          · rw [if_neg h] at hE; exact absurd rfl hE
        have hE1 : appE n S.k S.h S.h' S.L S.L' r = 61 := by unfold appE; rw [if_neg (not_not_intro hr), if_neg hk, HRO.out, if_pos hE0]
        rw [hE1]
        have HRI := Lib.hid hRI
        rw [hk3] at c5
        rw [hf] at c4
        generalize r.length = N1 at *
        obtain ⟨A2, hA2⟩ : ∃ x, x = N1 + 2 := ⟨_, rfl⟩
        have A1 : IntKind.i64.wrap ((N1 : Int) + 2) = (A2 : Int) := by rw [IntKind.wrap_i64]; omega
        have d1 : decide ((R : Int) < (A2 : Int)) = true := by simp; omega
        have d2 : decide (R < A2) = true := by simp; omega
        clear hRI hr hrt hE1 hE hk hk1 hk2 hk3 hf hE0 hA2
        go_enter Tryz.func37, Tryz.ntmps37
        go_wp2_with fail
        refine HRI.out.mono ?_
        rintro e w' ⟨rfl, rfl⟩
        go_wp2_with fail
        refine HRM.out.mono ?_
        rintro e w1 ⟨rfl, hc1⟩
        go_wp2_with fail
        go_ret
        exact ⟨rfl, Lib.hid (HT.out.kept hc1), hc1.mono (by simp)⟩
    · have hrt : decide (1 ≤ r.length ∧ r.length ≤ 300) = false := decide_eq_false hr
      have hE1 : appE n S.k S.h S.h' S.L S.L' r = 1 := by unfold appE; rw [if_pos hr]
      rw [hrt] at hRI
      rw [hE1]
      have HRI := Lib.hid hRI
      generalize r.length = N1 at *
      clear hRI hr hrt hE1 hE HRM
      go_enter Tryz.func37, Tryz.ntmps37
      go_wp2_with fail
      refine HRI.out.mono ?_
      rintro e w' ⟨rfl, rfl⟩
      go_wp2_with fail
      go_ret
      exact ⟨rfl, HT, (Chg.refl _ _)⟩
end
end Go.Proofs.YtdiemejdbakffaaGreat
