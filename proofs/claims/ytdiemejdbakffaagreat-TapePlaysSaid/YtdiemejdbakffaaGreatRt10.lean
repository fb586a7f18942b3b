/-
  Contracts of the document's tape: Step, behind the first one. No claim of their own.
-/
import Derived.Test.YtdiemejdbakffaaGreatRt9
namespace Go.Proofs.YtdiemejdbakffaaGreat
open Go.RowKit Go.Deep Go.Shelf Go.Maps
set_option linter.unusedVariables false
set_option linter.unusedSimpArgs false

section
variable {w : World} {N : List Nat} {u q gn go gd n : Nat} {S : TS}
set_option maxHeartbeats 8000000 in
set_option maxRecDepth 100000 in
theorem rstep_1 (t : Rt w N u q gn go gd n S) (ti : TI n S) (hN : ∀ x ∈ N, x < w.heap.size) (hi : ¬ S.idle) (hk : S.k = 1) :
    Calls Tryz.prog 41 #[.pointer (some ⟨u, 0, none⟩)] w fun e w' => e = .returned (.bool false) ∧ Hid (Rt w' N u q gn go gd n (stepS n S)) ∧ Chg [u, gn, go, gd] w w' := by
  have HTG := Lib.hid (rtarget_any t ti)
  obtain ⟨aL, cL, xs, aW, cW, ys, tc, eL, eW⟩ := t
  obtain ⟨c0, c1, c2, c3, c4, c5⟩ := tc.cells
  have hbusy : S.h = S.h' → 0 < ys.length := fun hh => by rw [← recs_len, eW]; exact wait_busy ti hi hh
  have HNN := Lib.hid hN
  have HST := Lib.hid (show stepS n S = { S with F := now S.F S.m, m := fun _ => none, k := 2 } from by unfold stepS; rw [if_neg hi]; simp [hk])
  rw [hk] at tc c5
  have HTC := Lib.hid tc
  have HTI := Lib.hid ti
  have HEE := Lib.hid (And.intro eL eW)
  obtain ⟨B, HB⟩ : ∃ B, Hid (frs S.L' = B) := ⟨_, Lib.hid rfl⟩
  obtain ⟨fr, HFR⟩ : ∃ x, Hid (fromS S = x) := ⟨_, Lib.hid rfl⟩
  obtain ⟨nB, HNB⟩ : ∃ x, Hid (B.length = x) := ⟨_, Lib.hid rfl⟩
  have hnB : nB ≤ 100000 := by rw [← HNB.out, ← HB.out]; exact ti.lens.2.1
  rw [HB.out, HFR.out] at HTG
  have hu := tc.own.lt
  clear tc eL eW ti hi hk hN
  go_enter Tryz.func41, Tryz.ntmps41
  go_upto_region 1 with fail
  go_cut [20] from 8 to 20 (fun v wx => v = .bool false ∧ w = wx)
  case first =>
    by_cases hh : S.h = S.h'
    · have hd : decide (S.h ≠ S.h') = false := decide_eq_false (fun x => x hh)
      rw [hd] at c4
      have hl := hbusy hh
      have hl0 : ((ys.length : Int) == 0) = false := beq_eq_false_iff_ne.2 (by omega)
      clear hd hl hbusy hh
      go_wp2_with fail
      go_meet
      case rel => exact ⟨rfl, rfl⟩
    · have hd : decide (S.h ≠ S.h') = true := decide_eq_true hh
      rw [hd] at c4
      clear hd hbusy hh
      go_wp2_with fail
      go_meet
      case rel => exact ⟨rfl, rfl⟩
  case rest =>
    obtain ⟨rfl, rfl⟩ := hcut
    clear hbusy
    go_wp2_with fail
    refine HTG.out.mono ?_
    rintro e w1 ⟨vB, rfl, h1⟩
    obtain ⟨aB, cB, rfl⟩ := h1.lst.sl8
    have hx1 := HTC.out.kept h1.chg
    have k5 := hx1.own.cell 5
    have f5 := hx1.own.frozen 5
    simp at k5
    rw [HNB.out]
    dsimp only
    obtain ⟨w2, HW2⟩ : ∃ W, Hid (w1.setCell ⟨u, 5, none⟩ (.int .i64 2) = W) := ⟨_, Lib.hid rfl⟩
    have hos : Own w2 u 81 [.pointer (some ⟨q, 0, none⟩), .int .i64 (S.h : Int), .slice aL xs.length cL, .slice aW ys.length cW, .bool (decide (S.h ≠ S.h')), .int .i64 ((2 : Nat) : Int)] := by rw [← HW2.out]; exact hx1.own.set 5 _
    have hc2 : Chg [u] w1 w2 := by rw [← HW2.out]; exact (Chg.refl [u] w1).setCell (by simp) _
    obtain ⟨d1, d2, d3, d4⟩ := HTC.out.uD
    have hds := hx1.dk.keep hc2 (by simpa using d1.symm) (by simpa using d2.symm) (by simpa using d3.symm) (by simpa using d4.symm)
    have hcs : Chg [u, gn, go, gd] w w2 := (h1.chg.mono (by simp)).trans (hc2.mono (by simp))
    have HR2 := Lib.hid (And.intro hos (And.intro hds hcs))
    have k0 : w2.cell? ⟨u, 0, none⟩ = some (.pointer (some ⟨q, 0, none⟩)) := hos.cell 0
    have k5b : w2.cell? ⟨u, 5, none⟩ = some (.int .i64 (2 : Int)) := hos.cell 5
    have hug := HTC.out.uD
    clear hos hds hcs hx1 HTG c0 c1 c2 c3 c4 c5 h1 hc2 d1 d2 d3 d4
    have HFL := Lib.hid (rflush_ok w2 HR2.out.2.1)
    go_upto_region 5 with fail
    simp only [HW2.out]
    go_wp2_with fail
    refine HFL.out.mono ?_
    rintro e w3 ⟨⟨v, rfl⟩, hr3, hc3⟩
    have hugd : u ∉ [go, gd] := by obtain ⟨d1, d2, d3, d4⟩ := hug; simp; exact ⟨d3, d4⟩
    have ho3 := HR2.out.1.chg hc3 hugd
    have hcm : Chg [u, gn, go, gd] w w3 := HR2.out.2.2.then hc3 (fun y hy => .inl (by simp only [List.mem_cons, List.mem_nil_iff, or_false] at hy ⊢; rcases hy with h | h <;> simp [h]))
    have HFIN := Lib.hid (And.intro (HTC.out.remake (F' := now S.F S.m) (m' := fun _ => none) hcm ho3 hr3) hcm)
    clear hr3 hc3 ho3 hcm hugd HFL
    go_wp2_with fail
    go_ret
    rw [HST.out]
    exact ⟨rfl, Lib.hid ⟨aL, cL, xs, aW, cW, ys, HFIN.out.1, HEE.out.1, HEE.out.2⟩, HFIN.out.2⟩
set_option maxHeartbeats 8000000 in
set_option maxRecDepth 100000 in
theorem rstep_2 (t : Rt w N u q gn go gd n S) (ti : TI n S) (hN : ∀ x ∈ N, x < w.heap.size) (hi : ¬ S.idle) (hk : S.k = 2) :
    Calls Tryz.prog 41 #[.pointer (some ⟨u, 0, none⟩)] w fun e w' => e = .returned (.bool false) ∧ Hid (Rt w' N u q gn go gd n (stepS n S)) ∧ Chg [u, gn, go, gd] w w' := by
  have HTG := Lib.hid (rtarget_any t ti)
  obtain ⟨aL, cL, xs, aW, cW, ys, tc, eL, eW⟩ := t
  obtain ⟨c0, c1, c2, c3, c4, c5⟩ := tc.cells
  have hbusy : S.h = S.h' → 0 < ys.length := fun hh => by rw [← recs_len, eW]; exact wait_busy ti hi hh
  have HNN := Lib.hid hN
  have HST := Lib.hid (show stepS n S = { S with m := upd S.m 0 (supS S.h' S.L'.length (frs S.L').length), k := 3 } from by unfold stepS; rw [if_neg hi]; simp [hk])
  rw [hk] at tc c5
  have HTC := Lib.hid tc
  have HTI := Lib.hid ti
  have HEE := Lib.hid (And.intro eL eW)
  obtain ⟨B, HB⟩ : ∃ B, Hid (frs S.L' = B) := ⟨_, Lib.hid rfl⟩
  obtain ⟨fr, HFR⟩ : ∃ x, Hid (fromS S = x) := ⟨_, Lib.hid rfl⟩
  obtain ⟨nB, HNB⟩ : ∃ x, Hid (B.length = x) := ⟨_, Lib.hid rfl⟩
  have hnB : nB ≤ 100000 := by rw [← HNB.out, ← HB.out]; exact ti.lens.2.1
  rw [HB.out, HFR.out] at HTG
  have hu := tc.own.lt
  clear tc eL eW ti hi hk hN
  go_enter Tryz.func41, Tryz.ntmps41
  go_upto_region 1 with fail
  go_cut [20] from 8 to 20 (fun v wx => v = .bool false ∧ w = wx)
  case first =>
    by_cases hh : S.h = S.h'
    · have hd : decide (S.h ≠ S.h') = false := decide_eq_false (fun x => x hh)
      rw [hd] at c4
      have hl := hbusy hh
      have hl0 : ((ys.length : Int) == 0) = false := beq_eq_false_iff_ne.2 (by omega)
      clear hd hl hbusy hh
      go_wp2_with fail
      go_meet
      case rel => exact ⟨rfl, rfl⟩
    · have hd : decide (S.h ≠ S.h') = true := decide_eq_true hh
      rw [hd] at c4
      clear hd hbusy hh
      go_wp2_with fail
      go_meet
      case rel => exact ⟨rfl, rfl⟩
  case rest =>
    obtain ⟨rfl, rfl⟩ := hcut
    clear hbusy
    go_wp2_with fail
    refine HTG.out.mono ?_
    rintro e w1 ⟨vB, rfl, h1⟩
    obtain ⟨aB, cB, rfl⟩ := h1.lst.sl8
    have hx1 := HTC.out.kept h1.chg
    have k5 := hx1.own.cell 5
    have f5 := hx1.own.frozen 5
    simp at k5
    rw [HNB.out]
    dsimp only
    obtain ⟨w2, HW2⟩ : ∃ W, Hid (w1.setCell ⟨u, 5, none⟩ (.int .i64 3) = W) := ⟨_, Lib.hid rfl⟩
    have hos : Own w2 u 81 [.pointer (some ⟨q, 0, none⟩), .int .i64 (S.h : Int), .slice aL xs.length cL, .slice aW ys.length cW, .bool (decide (S.h ≠ S.h')), .int .i64 ((3 : Nat) : Int)] := by rw [← HW2.out]; exact hx1.own.set 5 _
    have hc2 : Chg [u] w1 w2 := by rw [← HW2.out]; exact (Chg.refl [u] w1).setCell (by simp) _
    obtain ⟨d1, d2, d3, d4⟩ := HTC.out.uD
    have hds := hx1.dk.keep hc2 (by simpa using d1.symm) (by simpa using d2.symm) (by simpa using d3.symm) (by simpa using d4.symm)
    have hcs : Chg [u, gn, go, gd] w w2 := (h1.chg.mono (by simp)).trans (hc2.mono (by simp))
    have HR2 := Lib.hid (And.intro hos (And.intro hds hcs))
    have k0 : w2.cell? ⟨u, 0, none⟩ = some (.pointer (some ⟨q, 0, none⟩)) := hos.cell 0
    have k5b : w2.cell? ⟨u, 5, none⟩ = some (.int .i64 (3 : Int)) := hos.cell 5
    have hug := HTC.out.uD
    clear hos hds hcs hx1 HTG c0 c1 c2 c3 c4 c5 h1 hc2 d1 d2 d3 d4
    go_upto_region 5 with fail
    simp only [HW2.out]
    have k2 : w2.cell? ⟨u, 2, none⟩ = some (.slice aL xs.length cL) := HR2.out.1.cell 2
    have k3 : w2.cell? ⟨u, 3, none⟩ = some (.slice aW ys.length cW) := HR2.out.1.cell 3
    obtain ⟨fl, HFG⟩ : ∃ x, Hid (decide (S.h ≠ S.h') = x) := ⟨_, Lib.hid rfl⟩
    have k4 : w2.cell? ⟨u, 4, none⟩ = some (.bool fl) := by rw [← HFG.out]; exact HR2.out.1.cell 4
    obtain ⟨ll, HLL⟩ : ∃ x, Hid (xs.length = x) := ⟨_, Lib.hid rfl⟩
    obtain ⟨lw, HLW⟩ : ∃ x, Hid (ys.length = x) := ⟨_, Lib.hid rfl⟩
    obtain ⟨nr, HNR⟩ : ∃ x, Hid (S.L'.length = x) := ⟨_, Lib.hid rfl⟩
    have hnr : nr ≤ 100000 := by rw [← HNR.out]; exact HTI.out.lens.2.2.2
    have hsum : nr = if S.h = S.h' then ll + lw else lw := by
      rw [← HNR.out, ← HLL.out, ← HLW.out, ← recs_len, ← recs_len, HEE.out.1, HEE.out.2]
      have h1 := waitL_eq HTI.out
      by_cases h : S.h = S.h'
      · rw [if_pos h] at h1 ⊢
        conv => lhs; rw [h1]
        rw [List.length_append]
      · rw [if_neg h] at h1 ⊢
        conv => lhs; rw [h1]
    rw [HLL.out] at k2
    rw [HLW.out] at k3
    have HSUM := Lib.hid hsum
    have HSU := Lib.hid (rsuper_any w2.drew S.h' nr nB (by have := HTI.out.half'; omega) (by omega) (by omega))
    have hst : (fun W : World => W.cell? ⟨u, 0, none⟩ = some (.pointer (some ⟨q, 0, none⟩))) w2.drew := k0
    obtain ⟨SX, HSX⟩ : ∃ x, Hid (supS S.h' nr nB = x) := ⟨_, Lib.hid rfl⟩
    have hSX : SX.length = 64 := by rw [← HSX.out]; exact supS_len _ _ _
    rw [HSX.out] at HSU
    have HWR := Lib.hid (fun W (hW : Chg [] w2 W) => rwr W (HR2.out.2.1.kept hW) 0 (by have := HTI.out.three; omega) SX hSX)
    have hugd : u ∉ [gn, gd] := by obtain ⟨d1, d2, d3, d4⟩ := hug; simp; exact ⟨d2, d4⟩
    have HUG := Lib.hid hugd
    clear hsum hugd
    go_upto_region 15 with fail
    have w00 : IntKind.i64.wrap ((lw : Int) + (ll : Int)) = ((lw + ll : Nat) : Int) ∨ nr = lw := by
      by_cases h : S.h = S.h'
      · left
        have h1 := HSUM.out
        rw [if_pos h] at h1
        rw [IntKind.wrap_i64]; omega
      · right
        have h1 := HSUM.out
        rw [if_neg h] at h1
        exact h1
    have HW00 := Lib.hid w00
    clear w00
    go_upto_if 89 with fail
    go_cut [7] from 90 to 96 (fun v wx => v = .int .i64 (nr : Int) ∧ w2 = wx)
    case first =>
      by_cases hh : S.h = S.h'
      · obtain rfl : fl = false := by rw [← HFG.out]; exact decide_eq_false (fun x => x hh)
        have hs := HSUM.out
        rw [if_pos hh] at hs
        have m1 : IntKind.i64.wrap ((lw : Int) + (ll : Int)) = (nr : Int) := by rw [IntKind.wrap_i64]; omega
        clear hh hs
        go_wp2_with fail
        go_meet
        case rel => exact ⟨rfl, rfl⟩
      · obtain rfl : fl = true := by rw [← HFG.out]; exact decide_eq_true hh
        have hs := HSUM.out
        rw [if_neg hh] at hs
        clear hh
        subst hs
        go_wp2_with fail
        go_meet
        case rel => exact ⟨rfl, rfl⟩
    case rest =>
      obtain ⟨rfl, rfl⟩ := hcut
      go_upto_region 17 with fail
      refine wp_region_held_drew (S := (fun W : World => W.cell? ⟨u, 0, none⟩ = some (.pointer (some ⟨q, 0, none⟩)))) (by kernel_rfl) hst (fun hHeld => ?_)
      refine wpAnyH_take (i := 0) (v := ?_) rfl (by kernel_rfl) (by kernel_rfl) (by kernel_rfl) (fun _ _ _ h => h) (Or.inl ⟨by kernel_rfl, ?_⟩) hHeld ?_
      rotate_left
      · (intro w hSw; first | (go_simp; done) | (go_simp; with_reducible rfl))
      (try simp only [Act.put, List.getElem_toArray, List.getElem_cons_succ, List.getElem_cons_zero, List.setIfInBounds_toArray, List.set_cons_zero, List.set_cons_succ])
      refine wpAnyH_take (i := 1) (v := ?_) rfl (by kernel_rfl) (by kernel_rfl) (by kernel_rfl) (fun _ _ _ h => h) (Or.inl ⟨by kernel_rfl, ?_⟩) hHeld ?_
      rotate_left
      · (intro w hSw; first | (go_simp; done) | (go_simp; with_reducible rfl))
      (try simp only [Act.put, List.getElem_toArray, List.getElem_cons_succ, List.getElem_cons_zero, List.setIfInBounds_toArray, List.set_cons_zero, List.set_cons_succ])
      refine wpAnyH_take (i := 2) (v := ?_) rfl (by kernel_rfl) (by kernel_rfl) (by kernel_rfl) (fun _ _ _ h => h) (Or.inl ⟨by kernel_rfl, ?_⟩) hHeld ?_
      rotate_left
      · (intro w hSw; first | (go_simp; done) | (go_simp; with_reducible rfl))
      (try simp only [Act.put, List.getElem_toArray, List.getElem_cons_succ, List.getElem_cons_zero, List.setIfInBounds_toArray, List.set_cons_zero, List.set_cons_succ])
      refine wpAnyH_take (i := 3) (v := ?_) rfl (by kernel_rfl) (by kernel_rfl) (by kernel_rfl) (fun _ _ _ h => h) (Or.inl ⟨by kernel_rfl, ?_⟩) hHeld ?_
      rotate_left
      · (intro w hSw; first | (go_simp; done) | (go_simp; with_reducible rfl))
      (try simp only [Act.put, List.getElem_toArray, List.getElem_cons_succ, List.getElem_cons_zero, List.setIfInBounds_toArray, List.set_cons_zero, List.set_cons_succ])
      refine wpAnyH_take (i := 4) (v := ?_) rfl (by kernel_rfl) (by kernel_rfl) (by kernel_rfl) (fun _ _ _ h => h) (Or.inl ⟨by kernel_rfl, ?_⟩) hHeld ?_
      rotate_left
      · (intro w hSw; first | (go_simp; done) | (go_simp; with_reducible rfl))
      (try simp only [Act.put, List.getElem_toArray, List.getElem_cons_succ, List.getElem_cons_zero, List.setIfInBounds_toArray, List.set_cons_zero, List.set_cons_succ])
      refine wpAnyH_take (i := 5) (v := ?_) rfl (by kernel_rfl) (by kernel_rfl) (by kernel_rfl) (fun _ _ _ h => h) (Or.inl ⟨by kernel_rfl, ?_⟩) hHeld ?_
      rotate_left
      · (intro w hSw; first | (go_simp; done) | (go_simp; with_reducible rfl))
      (try simp only [Act.put, List.getElem_toArray, List.getElem_cons_succ, List.getElem_cons_zero, List.setIfInBounds_toArray, List.set_cons_zero, List.set_cons_succ])
      refine wpAnyH_take (i := 6) (v := ?_) rfl (by kernel_rfl) (by kernel_rfl) (by kernel_rfl) (fun _ _ _ h => h) (Or.inl ⟨by kernel_rfl, ?_⟩) hHeld ?_
      rotate_left
      · (intro w hSw; first | (go_simp; done) | (go_simp; with_reducible rfl))
      (try simp only [Act.put, List.getElem_toArray, List.getElem_cons_succ, List.getElem_cons_zero, List.setIfInBounds_toArray, List.set_cons_zero, List.set_cons_succ])
      refine wpAnyH_take (i := 7) (v := ?_) rfl (by kernel_rfl) (by kernel_rfl) (by kernel_rfl) (fun _ _ _ h => h) (Or.inl ⟨by kernel_rfl, ?_⟩) hHeld ?_
      rotate_left
      · (intro w hSw; first | (go_simp; done) | (go_simp; with_reducible rfl))
      (try simp only [Act.put, List.getElem_toArray, List.getElem_cons_succ, List.getElem_cons_zero, List.setIfInBounds_toArray, List.set_cons_zero, List.set_cons_succ])
      refine wpAnyH_ready (rs := [8]) (by kernel_rfl) (by simp) (AllReadyH.cons rfl (fun K hK => ?_) AllReadyH.nil)
      have hH := hHeld
      (go_simp; go_at_call 33; refine HSU.out.mono ?_; rintro e w8 ⟨rfl, hc8⟩)
      refine hK.out _ _ (by exact hc8.cell hH (by simp)) (fun hHq1 => ?_)
      clear hK K hH 
      (try simp only [Act.put, List.getElem_toArray, List.getElem_cons_succ, List.getElem_cons_zero, List.setIfInBounds_toArray, List.set_cons_zero, List.set_cons_succ])
      refine wpAnyH_ready (rs := [9]) (by kernel_rfl) (by simp) (AllReadyH.cons rfl (fun K hK => ?_) AllReadyH.nil)
      have hH := hHq1
      (go_simp; go_at_call 15; refine (HWR.out _ ((Chg.refl [] w2).drew.trans hc8)).mono ?_; rintro e w9 ⟨rfl, hr9, hc9⟩)
      refine hK.out _ _ (by exact hc9.cell hH HUG.out) (fun hHq2 => ?_)
      clear hK K hH hHq1
      (try simp only [Act.put, List.getElem_toArray, List.getElem_cons_succ, List.getElem_cons_zero, List.setIfInBounds_toArray, List.set_cons_zero, List.set_cons_succ])
      refine wpAnyH_done (by kernel_rfl) ?_ _
      have hEnd := hHq2
      have hcm : Chg [u, gn, go, gd] w2 w9 := ((Chg.refl [] w2).drew.trans hc8).mono (by simp) |>.then hc9 (fun y hy => .inl (by simp only [List.mem_cons, List.mem_nil_iff, or_false] at hy ⊢; rcases hy with h | h <;> simp [h]))
      have ho9 := (HR2.out.1.chg ((Chg.refl [] w2).drew.trans hc8) (by simp)).chg hc9 HUG.out
      have HFIN := Lib.hid (And.intro (HTC.out.remake (F' := S.F) (m' := upd S.m 0 SX) (HR2.out.2.2.trans hcm) ho9 hr9.out) (HR2.out.2.2.trans hcm))
      clear hEnd hst hr9 hc8 hc9 hcm ho9 k0 k2 k3 k4
      go_wp2_with fail
      go_ret
      have hst2 : stepS n S = { S with m := upd S.m 0 SX, k := 3 } := by rw [HST.out, HNR.out, HB.out, HNB.out, HSX.out]
      rw [hst2]
      exact ⟨rfl, Lib.hid ⟨aL, cL, xs, aW, cW, ys, HFIN.out.1, HEE.out.1, HEE.out.2⟩, HFIN.out.2⟩
end
end Go.Proofs.YtdiemejdbakffaaGreat
