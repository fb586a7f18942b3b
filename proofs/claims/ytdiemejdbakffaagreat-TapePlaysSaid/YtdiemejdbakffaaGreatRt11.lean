/-
  Contracts of the document's tape: Step, behind the first one. No claim of their own.
-/
import Derived.Test.YtdiemejdbakffaaGreatRt10
namespace Go.Proofs.YtdiemejdbakffaaGreat
open Go.RowKit Go.Deep Go.Shelf Go.Maps
set_option linter.unusedVariables false
set_option linter.unusedSimpArgs false

section
variable {w : World} {N : List Nat} {u q gn go gd n : Nat} {S : TS}
set_option maxHeartbeats 8000000 in
set_option maxRecDepth 100000 in
theorem rstep_3 (t : Rt w N u q gn go gd n S) (ti : TI n S) (hN : ∀ x ∈ N, x < w.heap.size) (hi : ¬ S.idle) (hk : S.k = 3) :
    Calls Tryz.prog 41 #[.pointer (some ⟨u, 0, none⟩)] w fun e w' => e = .returned (.bool true) ∧ Hid (Rt w' N u q gn go gd n (stepS n S)) ∧ Chg [u, gn, go, gd] w w' := by
  have HTG := Lib.hid (rtarget_any t ti)
  obtain ⟨aL, cL, xs, aW, cW, ys, tc, eL, eW⟩ := t
  obtain ⟨c0, c1, c2, c3, c4, c5⟩ := tc.cells
  have hbusy : S.h = S.h' → 0 < ys.length := fun hh => by rw [← recs_len, eW]; exact wait_busy ti hi hh
  have HNN := Lib.hid hN
  have HST := Lib.hid (show stepS n S = { S with F := now S.F S.m, m := fun _ => none, h := S.h', L := S.L', k := 0 } from by unfold stepS; rw [if_neg hi]; simp [hk])
  rw [hk] at tc c5
  have HTC := Lib.hid tc
  have HTI := Lib.hid ti
  have HEE := Lib.hid (And.intro eL eW)
  obtain ⟨B, HB⟩ : ∃ B, Hid (frs S.L' = B) := ⟨_, Lib.hid rfl⟩
  obtain ⟨fr, HFR⟩ : ∃ x, Hid (fromS S = x) := ⟨_, Lib.hid rfl⟩
  obtain ⟨nB, HNB⟩ : ∃ x, Hid (B.length = x) := ⟨_, Lib.hid rfl⟩
  have hnB : nB ≤ 100000 := by rw [← HNB.out, ← HB.out]; exact ti.lens.2.1
  rw [HB.out, HFR.out] at HTG
  have hu := tc.own.lt
  clear tc eL eW ti hi hk hN
  go_enter Tryz.func41, Tryz.ntmps41
  go_upto_region 1 with fail
  go_cut [20] from 8 to 20 (fun v wx => v = .bool false ∧ w = wx)
  case first =>
    by_cases hh : S.h = S.h'
    · have hd : decide (S.h ≠ S.h') = false := decide_eq_false (fun x => x hh)
      rw [hd] at c4
      have hl := hbusy hh
      have hl0 : ((ys.length : Int) == 0) = false := beq_eq_false_iff_ne.2 (by omega)
      clear hd hl hbusy hh
      go_wp2_with fail
      go_meet
      case rel => exact ⟨rfl, rfl⟩
    · have hd : decide (S.h ≠ S.h') = true := decide_eq_true hh
      rw [hd] at c4
      clear hd hbusy hh
      go_wp2_with fail
      go_meet
      case rel => exact ⟨rfl, rfl⟩
  case rest =>
    obtain ⟨rfl, rfl⟩ := hcut
    clear hbusy
    go_wp2_with fail
    refine HTG.out.mono ?_
    rintro e w1 ⟨vB, rfl, h1⟩
    obtain ⟨aB, cB, rfl⟩ := h1.lst.sl8
    have hx1 := HTC.out.kept h1.chg
    have k5 := hx1.own.cell 5
    have f5 := hx1.own.frozen 5
    simp at k5
    rw [HNB.out]
    dsimp only
    obtain ⟨w2, HW2⟩ : ∃ W, Hid (w1.setCell ⟨u, 5, none⟩ (.int .i64 4) = W) := ⟨_, Lib.hid rfl⟩
    have hos : Own w2 u 81 [.pointer (some ⟨q, 0, none⟩), .int .i64 (S.h : Int), .slice aL xs.length cL, .slice aW ys.length cW, .bool (decide (S.h ≠ S.h')), .int .i64 ((4 : Nat) : Int)] := by rw [← HW2.out]; exact hx1.own.set 5 _
    have hc2 : Chg [u] w1 w2 := by rw [← HW2.out]; exact (Chg.refl [u] w1).setCell (by simp) _
    obtain ⟨d1, d2, d3, d4⟩ := HTC.out.uD
    have hds := hx1.dk.keep hc2 (by simpa using d1.symm) (by simpa using d2.symm) (by simpa using d3.symm) (by simpa using d4.symm)
    have hcs : Chg [u, gn, go, gd] w w2 := (h1.chg.mono (by simp)).trans (hc2.mono (by simp))
    have HR2 := Lib.hid (And.intro hos (And.intro hds hcs))
    have k0 : w2.cell? ⟨u, 0, none⟩ = some (.pointer (some ⟨q, 0, none⟩)) := hos.cell 0
    have k5b : w2.cell? ⟨u, 5, none⟩ = some (.int .i64 (4 : Int)) := hos.cell 5
    have hug := HTC.out.uD
    clear hos hds hcs hx1 HTG c0 c1 c2 c3 c4 c5 h1 hc2 d1 d2 d3 d4
    have HFL := Lib.hid (rflush_ok w2 HR2.out.2.1)
    go_upto_region 5 with fail
    simp only [HW2.out]
    go_wp2_with fail
    refine HFL.out.mono ?_
    rintro e w3 ⟨⟨v, rfl⟩, hr3, hc3⟩
    have hugd : u ∉ [go, gd] := by obtain ⟨d1, d2, d3, d4⟩ := hug; simp; exact ⟨d3, d4⟩
    have ho3 := HR2.out.1.chg hc3 hugd
    have hcm : Chg [u, gn, go, gd] w w3 := HR2.out.2.2.then hc3 (fun y hy => .inl (by simp only [List.mem_cons, List.mem_nil_iff, or_false] at hy ⊢; rcases hy with h | h <;> simp [h]))
    obtain ⟨fl, HFG⟩ : ∃ x, Hid (decide (S.h ≠ S.h') = x) := ⟨_, Lib.hid rfl⟩
    have hz3 := HTC.out.remake (F' := now S.F S.m) (m' := fun _ => none) hcm ho3 hr3
    rw [HFG.out] at hz3
    have HZ3 := Lib.hid (And.intro hz3 hcm)
    have k4 := hz3.cells.2.2.2.2.1
    have f2 := hz3.frz.2.1
    have k2 := hz3.cells.2.2.1
    clear hr3 hc3 ho3 hcm hugd HFL hz3 k0 k5 f5 k5b
    go_upto_if 117 with fail
    go_cut [2] from 118 to 120 (fun v wx => v = .bool false ∧ ∃ aL' cL' zs, RtC wx N u q gn go gd n (now S.F S.m) (fun _ => none) S.h fl 4 aL' cL' zs aW cW ys ∧ recs zs ++ recs ys = S.L' ∧ zs.length ≤ 100000 ∧ Chg [u, gn, go, gd] w wx)
    case first =>
      by_cases hh : S.h = S.h'
      · obtain rfl : fl = false := by rw [← HFG.out]; exact decide_eq_false (fun x => x hh)
        have HH := Lib.hid hh
        clear hh
        go_wp2_with fail
        go_meet
        case rel => exact ⟨rfl, aL, cL, xs, HZ3.out.1, by rw [HEE.out.1, HEE.out.2]; exact (waitL_same HTI.out HH.out).symm, by rw [← recs_len, HEE.out.1]; exact HTI.out.lens.2.2.1, HZ3.out.2⟩
      · obtain rfl : fl = true := by rw [← HFG.out]; exact decide_eq_true hh
        have HH := Lib.hid hh
        clear hh
        go_wp2_with fail
        go_meet
        case rel =>
          have hs := HZ3.out.1.setu (.slice none 0 0) 2 (h' := S.h) (k' := 4) (fl' := true) (aL' := none) (cL' := 0) (xs' := []) (aW' := aW) (cW' := cW) (ys' := ys) rfl ⟨RoM.nil _ _, ⟨fun h => absurd rfl h, fun _ hy => by cases hy⟩⟩ HZ3.out.1.lW
          exact ⟨rfl, none, 0, [], hs, by rw [HEE.out.2, waitL_new HH.out]; rfl, by simp, HZ3.out.2.setCell (by simp) _⟩
    case rest =>
      obtain ⟨rfl, aZ, cZ, zs, hz4, he4, hl4, hc4⟩ := hcut
      rename World => w4
      have HZ4 := Lib.hid (And.intro hz4 hc4)
      have HE4 := Lib.hid he4
      obtain ⟨lz, HLZ⟩ : ∃ x, Hid (zs.length = x) := ⟨_, Lib.hid rfl⟩
      obtain ⟨lw, HLW⟩ : ∃ x, Hid (ys.length = x) := ⟨_, Lib.hid rfl⟩
      have hlw : lw ≤ 100000 := by rw [← HLW.out, ← recs_len, HEE.out.2]; exact HTI.out.waitOk.2
      have j2 := hz4.cells.2.2.1
      have j3 := hz4.cells.2.2.2.1
      rw [HLZ.out] at hl4 j2
      rw [HLW.out] at j3
      have hu4 : u < w4.heap.size := hz4.own.lt
      have hlows : w.heap.size ≤ w4.heap.size := hc4.size
      have HE := Lib.hid (show Lst (w4.drew.alloc (.cells #[] 37)) 0 37 (.slice (some ⟨w4.heap.size, 0, none⟩) 0 0) [] from Lst.lit w4.drew 0 37 #[] (Nat.zero_le _) (by decide))
      have HRZ := Lib.hid (show Ro (w4.drew.alloc (.cells #[] 37)) w4.heap.size aZ (zs.map SB.val) from hz4.lL.rom.row.chgs ((Chg.refl [] w4).drew.alloc _) (by simp))
      have HC6 := Lib.hid (show ∀ v6 w6, AppK (w4.drew.alloc (.cells #[] 37)) w6 37 (.slice (some ⟨w4.heap.size, 0, none⟩) 0 0) v6 [] (zs.map SB.val) → Chg [] w4 w6 ∧ (∀ x ∈ bl v6, w4.heap.size ≤ x) ∧ Ro w6 w4.heap.size aW (ys.map SB.val) from fun v6 w6 K => by
        have h1 : Chg [] w4 w6 := ((Chg.refl [] w4).drew.alloc _).then K.chg (fun x hx => .inr (by have := bl_some _ _ _ x hx; omega))
        refine ⟨h1, fun x hx => ?_, hz4.lW.rom.row.chgs h1 (by simp)⟩
        rcases K.bl x hx with h | h
        · have := bl_some _ _ _ x h; omega
        · rw [World.size_alloc] at h; have h7 : w4.drew.heap.size = w4.heap.size := rfl; omega)
      have HFIN := Lib.hid (show ∀ v6 w6 a11 n11 c11 w11, AppK (w4.drew.alloc (.cells #[] 37)) w6 37 (.slice (some ⟨w4.heap.size, 0, none⟩) 0 0) v6 [] (zs.map SB.val) → AppK w6 w11 37 v6 (.slice a11 n11 c11) (zs.map SB.val) (ys.map SB.val) →
          RtC w11 N u q gn go gd n (now S.F S.m) (fun _ => none) S.h fl 4 aZ cZ zs aW cW ys ∧ n11 = (zs ++ ys).length ∧ RS w11 (N ++ [u, gn, go, gd]) a11 (zs ++ ys) ∧ Chg [u, gn, go, gd] w w11 from fun v6 w6 a11 n11 c11 w11 K6 K11 => by
        obtain ⟨h6, hb6, _⟩ := HC6.out v6 w6 K6
        have h11 : Chg [] w4 w11 := h6.then K11.chg (fun x hx => .inr (hb6 x hx))
        have hl11 : Lst w11 0 37 (.slice a11 n11 c11) ((zs ++ ys).map SB.val) := by rw [List.map_append]; exact K11.lst
        have hM : ∀ y ∈ N ++ [u, gn, go, gd], y < w4.heap.size := fun y hy => Nat.lt_of_lt_of_le (HTC.out.ltM HNN.out y hy) hlows
        obtain ⟨_, _, h5, _⟩ := hl11.form
        injection h5 with _ h5 _
        rw [List.length_map] at h5
        refine ⟨HZ4.out.1.kept h11, h5, RS.fresh hM hl11 (fun y hy => ?_) (fun z hz => ?_) ?_, HZ4.out.2.trans (h11.mono (by simp))⟩
        · rcases K11.bl y hy with h | h
          · exact hb6 y h
          · exact Nat.le_trans h6.size h
        · rcases List.mem_append.1 hz with h | h
          · exact HZ4.out.1.lL.elems h11 z h
          · exact HZ4.out.1.lW.elems h11 z h
        · rw [List.length_append, HLZ.out, HLW.out]; omega)
      have HEND := Lib.hid (show ∀ a11 n11 c11 w11, RtC w11 N u q gn go gd n (now S.F S.m) (fun _ => none) S.h fl 4 aZ cZ zs aW cW ys ∧ n11 = (zs ++ ys).length ∧ RS w11 (N ++ [u, gn, go, gd]) a11 (zs ++ ys) ∧ Chg [u, gn, go, gd] w w11 →
          Rt (((((w11.setCell ⟨u, 2, none⟩ (.slice a11 n11 c11)).setCell ⟨u, 1, none⟩ (.int .i64 (S.h' : Int))).setCell ⟨u, 3, none⟩ (.slice none 0 0)).setCell ⟨u, 4, none⟩ (.bool false)).setCell ⟨u, 5, none⟩ (.int .i64 0)) N u q gn go gd n (stepS n S) ∧ Chg [u, gn, go, gd] w (((((w11.setCell ⟨u, 2, none⟩ (.slice a11 n11 c11)).setCell ⟨u, 1, none⟩ (.int .i64 (S.h' : Int))).setCell ⟨u, 3, none⟩ (.slice none 0 0)).setCell ⟨u, 4, none⟩ (.bool false)).setCell ⟨u, 5, none⟩ (.int .i64 0)) from fun a11 n11 c11 w11 hm => by
        obtain ⟨t0, hn, hrs, hc⟩ := hm
        subst hn
        have t1 := t0.setu (.slice a11 (zs ++ ys).length c11) 2 (h' := S.h) (k' := 4) (fl' := fl) (aL' := a11) (cL' := c11) (xs' := zs ++ ys) (aW' := aW) (cW' := cW) (ys' := ys) rfl hrs t0.lW
        have t2 := t1.setu (.int .i64 (S.h' : Int)) 1 (h' := S.h') (k' := 4) (fl' := fl) (aL' := a11) (cL' := c11) (xs' := zs ++ ys) (aW' := aW) (cW' := cW) (ys' := ys) rfl t1.lL t1.lW
        have t3 := t2.setu (.slice none 0 0) 3 (h' := S.h') (k' := 4) (fl' := fl) (aL' := a11) (cL' := c11) (xs' := zs ++ ys) (aW' := none) (cW' := 0) (ys' := []) rfl t2.lL ⟨RoM.nil _ _, ⟨fun h => absurd rfl h, fun _ hy => by cases hy⟩⟩
        have t4 := t3.setu (.bool false) 4 (h' := S.h') (k' := 4) (fl' := false) (aL' := a11) (cL' := c11) (xs' := zs ++ ys) (aW' := none) (cW' := 0) (ys' := []) rfl t3.lL t3.lW
        have t5 := t4.setu (.int .i64 0) 5 (h' := S.h') (k' := 0) (fl' := false) (aL' := a11) (cL' := c11) (xs' := zs ++ ys) (aW' := none) (cW' := 0) (ys' := []) rfl t4.lL t4.lW
        refine ⟨?_, ((((hc.setCell (by simp) _).setCell (by simp) _).setCell (by simp) _).setCell (by simp) _).setCell (by simp) _⟩
        have e1 : decide ((stepS n S).h ≠ (stepS n S).h') = false := by rw [HST.out]; exact decide_eq_false (fun x => x rfl)
        have e2 : waitL (stepS n S) = [] := by rw [HST.out]; unfold waitL; rw [if_pos rfl]; simp
        have hfin : RtC (((((w11.setCell ⟨u, 2, none⟩ (.slice a11 (zs ++ ys).length c11)).setCell ⟨u, 1, none⟩ (.int .i64 (S.h' : Int))).setCell ⟨u, 3, none⟩ (.slice none 0 0)).setCell ⟨u, 4, none⟩ (.bool false)).setCell ⟨u, 5, none⟩ (.int .i64 0)) N u q gn go gd n (stepS n S).F (stepS n S).m (stepS n S).h (decide ((stepS n S).h ≠ (stepS n S).h')) (stepS n S).k a11 c11 (zs ++ ys) none 0 [] := by
          rw [e1, HST.out]
          exact t5
        exact ⟨a11, c11, zs ++ ys, none, 0, [], hfin, by rw [HST.out]; show recs (zs ++ ys) = S.L'; rw [← HE4.out]; simp [recs], by rw [e2]; rfl⟩)
      have hst : (fun W : World => W.cell? ⟨u, 3, none⟩ = some (.slice aW lw cW)) w4.drew := j3
      clear hz4 he4 hc4 HZ3 k4 f2 k2 j3
      go_upto_region 22 with fail
      refine wp_region_held_drew (S := (fun W : World => W.cell? ⟨u, 3, none⟩ = some (.slice aW lw cW))) (by kernel_rfl) hst (fun hHeld => ?_)
      refine wpAnyH_take (i := 0) (v := ?_) rfl (by kernel_rfl) (by kernel_rfl) (by kernel_rfl) (fun _ _ _ h => h) (Or.inl ⟨by kernel_rfl, ?_⟩) hHeld ?_
      rotate_left
      · (intro w hSw; first | (go_simp; done) | (go_simp; with_reducible rfl))
      (try simp only [Act.put, List.getElem_toArray, List.getElem_cons_succ, List.getElem_cons_zero, List.setIfInBounds_toArray, List.set_cons_zero, List.set_cons_succ])
      refine wpAnyH_take (i := 2) (v := ?_) rfl (by kernel_rfl) (by kernel_rfl) (by kernel_rfl) (fun _ _ _ h => h) (Or.inl ⟨by kernel_rfl, ?_⟩) hHeld ?_
      rotate_left
      · (intro w hSw; first | (go_simp; done) | (go_simp; with_reducible rfl))
      (try simp only [Act.put, List.getElem_toArray, List.getElem_cons_succ, List.getElem_cons_zero, List.setIfInBounds_toArray, List.set_cons_zero, List.set_cons_succ])
      refine wpAnyH_take (i := 3) (v := ?_) rfl (by kernel_rfl) (by kernel_rfl) (by kernel_rfl) (fun _ _ _ h => h) (Or.inl ⟨by kernel_rfl, ?_⟩) hHeld ?_
      rotate_left
      · (intro w hSw; first | (go_simp; done) | (go_simp; with_reducible rfl))
      (try simp only [Act.put, List.getElem_toArray, List.getElem_cons_succ, List.getElem_cons_zero, List.setIfInBounds_toArray, List.set_cons_zero, List.set_cons_succ])
      refine wpAnyH_take (i := 4) (v := ?_) rfl (by kernel_rfl) (by kernel_rfl) (by kernel_rfl) (fun _ _ _ h => h) (Or.inl ⟨by kernel_rfl, ?_⟩) hHeld ?_
      rotate_left
      · (intro w hSw; first | (go_simp; done) | (go_simp; with_reducible rfl))
      (try simp only [Act.put, List.getElem_toArray, List.getElem_cons_succ, List.getElem_cons_zero, List.setIfInBounds_toArray, List.set_cons_zero, List.set_cons_succ])
      refine wpAnyH_take (i := 7) (v := ?_) rfl (by kernel_rfl) (by kernel_rfl) (by kernel_rfl) (fun _ _ _ h => h) (Or.inl ⟨by kernel_rfl, ?_⟩) hHeld ?_
      rotate_left
      · (intro w hSw; first | (go_simp; done) | (go_simp; with_reducible rfl))
      (try simp only [Act.put, List.getElem_toArray, List.getElem_cons_succ, List.getElem_cons_zero, List.setIfInBounds_toArray, List.set_cons_zero, List.set_cons_succ])
      refine wpAnyH_take (i := 8) (v := ?_) rfl (by kernel_rfl) (by kernel_rfl) (by kernel_rfl) (fun _ _ _ h => h) (Or.inl ⟨by kernel_rfl, ?_⟩) hHeld ?_
      rotate_left
      · (intro w hSw; first | (go_simp; done) | (go_simp; with_reducible rfl))
      (try simp only [Act.put, List.getElem_toArray, List.getElem_cons_succ, List.getElem_cons_zero, List.setIfInBounds_toArray, List.set_cons_zero, List.set_cons_succ])
      refine wpAnyH_take (i := 9) (v := ?_) rfl (by kernel_rfl) (by kernel_rfl) (by kernel_rfl) (fun _ _ _ h => h) (Or.inl ⟨by kernel_rfl, ?_⟩) hHeld ?_
      rotate_left
      · (intro w hSw; first | (go_simp; done) | (go_simp; with_reducible rfl))
      (try simp only [Act.put, List.getElem_toArray, List.getElem_cons_succ, List.getElem_cons_zero, List.setIfInBounds_toArray, List.set_cons_zero, List.set_cons_succ])
      refine wpAnyH_take (i := 10) (v := ?_) rfl (by kernel_rfl) (by kernel_rfl) (by kernel_rfl) (fun _ _ _ h => h) (Or.inl ⟨by kernel_rfl, ?_⟩) hHeld ?_
      rotate_left
      · (intro w hSw; first | (go_simp; done) | (go_simp; with_reducible rfl))
      (try simp only [Act.put, List.getElem_toArray, List.getElem_cons_succ, List.getElem_cons_zero, List.setIfInBounds_toArray, List.set_cons_zero, List.set_cons_succ])
      refine wpAnyH_ready (rs := [1,5]) (by kernel_rfl) (by simp) (AllReadyH.cons rfl (fun K hK => ?_) (AllReadyH.cons rfl (fun K hK => ?_) AllReadyH.nil))
      · have hH := hHeld
        (go_simp; skip)
        refine hK.out _ _ (by exact ((Chg.refl [] _).alloc _).cell hH (by simp)) (fun hHq1 => ?_)
        clear hK K hH 
        (try simp only [Act.put, List.getElem_toArray, List.getElem_cons_succ, List.getElem_cons_zero, List.setIfInBounds_toArray, List.set_cons_zero, List.set_cons_succ])
        refine wpAnyH_ready (rs := [5]) (by kernel_rfl) (by simp) (AllReadyH.cons rfl (fun K hK => ?_) AllReadyH.nil)
        have hH := hHq1
        (have g5 : World.cell? (w4.drew.alloc (.cells #[] 37)) ⟨u, 2, none⟩ = some (.slice aZ lz cZ) := ((Chg.refl [] w4).drew.alloc _).cell j2 (by simp); go_simp)
        refine hK.out _ _ (by exact hH) (fun hHq2 => ?_)
        clear hK K hH hHq1
        clear g5
        (try simp only [Act.put, List.getElem_toArray, List.getElem_cons_succ, List.getElem_cons_zero, List.setIfInBounds_toArray, List.set_cons_zero, List.set_cons_succ])
        refine wpAnyH_ready (rs := [6]) (by kernel_rfl) (by simp) (AllReadyH.cons rfl (fun K hK => ?_) AllReadyH.nil)
        have hH := hHq2
        (refine step_appK (by rfl) (.tmp 122) (.tmp 126) 38 (by rfl) 37 (.slice none 0 0) 24 Tryz.underlying38 infoSl rfl (.slice (some ⟨w4.heap.size, 0, none⟩) 0 0) [] (by rfl) HE.out aZ w4.heap.size lz cZ (zs.map SB.val) (by rfl) (by rw [List.length_map, HLZ.out]) HRZ.out (sb_one zs) (by simp; omega) (by simp; omega) ?_; intro v6 w6 K6)
        refine hK.out _ _ (by exact K6.out.chg.cell hH (fun hm => by have := bl_some _ _ _ _ hm; omega)) (fun hHq3 => ?_)
        clear hK K hH hHq2
        (try simp only [Act.put, List.getElem_toArray, List.getElem_cons_succ, List.getElem_cons_zero, List.setIfInBounds_toArray, List.set_cons_zero, List.set_cons_succ])
        refine wpAnyH_ready (rs := [11]) (by kernel_rfl) (by simp) (AllReadyH.cons rfl (fun K hK => ?_) AllReadyH.nil)
        have hH := hHq3
        (refine step_appK (by rfl) (.tmp 127) (.tmp 131) 38 (by rfl) 37 (.slice none 0 0) 24 Tryz.underlying38 infoSl rfl v6 (zs.map SB.val) (by rfl) K6.out.lst aW w4.heap.size lw cW (ys.map SB.val) (by rfl) (by rw [List.length_map, HLW.out]) (HC6.out _ _ K6.out).2.2 (sb_one ys) (by rw [List.length_map, HLZ.out]; omega) (by rw [List.length_map, HLZ.out]; omega) ?_; intro v11 w11 K11; obtain ⟨a11, n11, c11, rfl⟩ := K11.out.lst.shape)
        refine hK.out _ _ (by exact K11.out.chg.cell hH (fun hm => by have := (HC6.out _ _ K6.out).2.1 _ hm; omega)) (fun hHq4 => ?_)
        clear hK K hH hHq3
        have hm := HFIN.out _ _ _ _ _ _ K6.out K11.out; have g2 := hm.1.cells.2.2.1; have e2 := hm.1.frz.2.1; have HM := Lib.hid hm; clear hm
        (try simp only [Act.put, List.getElem_toArray, List.getElem_cons_succ, List.getElem_cons_zero, List.setIfInBounds_toArray, List.set_cons_zero, List.set_cons_succ])
        refine wpAnyH_take (i := 12) (v := ?_) rfl (by kernel_rfl) (by kernel_rfl) (by kernel_rfl) (fun _ _ _ h => h) (Or.inl ⟨by kernel_rfl, ?_⟩) hHq4 ?_
        rotate_left
        · (intro w hSw; first | (go_simp; done) | (go_simp; with_reducible rfl))
        (try simp only [Act.put, List.getElem_toArray, List.getElem_cons_succ, List.getElem_cons_zero, List.setIfInBounds_toArray, List.set_cons_zero, List.set_cons_succ])
        refine wpAnyH_take (i := 13) (v := ?_) rfl (by kernel_rfl) (by kernel_rfl) (by kernel_rfl) (fun _ _ _ h => h) (Or.inl ⟨by kernel_rfl, ?_⟩) hHq4 ?_
        rotate_left
        · (intro w hSw; first | (go_simp; done) | (go_simp; with_reducible rfl))
        (try simp only [Act.put, List.getElem_toArray, List.getElem_cons_succ, List.getElem_cons_zero, List.setIfInBounds_toArray, List.set_cons_zero, List.set_cons_succ])
        refine wpAnyH_ready (rs := [14]) (by kernel_rfl) (by simp) (AllReadyH.cons rfl (fun K hK => ?_) AllReadyH.nil)
        have hH := hHq4
        (go_simp; skip)
        refine hK.out _ _ (by have h := (HM.out.1.own.set 2 (.slice a11 n11 c11)).cell 3; rw [HLW.out] at h; exact h) (fun hHq5 => ?_)
        clear hK K hH hHq4
        (try simp only [Act.put, List.getElem_toArray, List.getElem_cons_succ, List.getElem_cons_zero, List.setIfInBounds_toArray, List.set_cons_zero, List.set_cons_succ])
        refine wpAnyH_done (by kernel_rfl) ?_ _
        have hEnd := hHq5
        (obtain ⟨w5, HW5⟩ : ∃ W, Hid (w11.setCell ⟨u, 2, none⟩ (.slice a11 n11 c11) = W) := ⟨_, Lib.hid rfl⟩; have hend := HEND.out a11 n11 c11 w11 HM.out; have ho5 := HM.out.1.own.set 2 (.slice a11 n11 c11); simp only [HW5.out] at hend ho5 ⊢; have i1 := ho5.cell 1; have i3 := ho5.cell 3; have i4 := ho5.cell 4; have i5 := ho5.cell 5; have x1 := ho5.frozen 1; have x3 := ho5.frozen 3; have x4 := ho5.frozen 4; have x5 := ho5.frozen 5; simp at i1 i3 i4 i5; have HED := Lib.hid hend; clear hend ho5 hEnd hHeld g2 e2; go_wp2_with fail; go_ret; exact ⟨rfl, Lib.hid HED.out.1, HED.out.2⟩)
      · have hH := hHeld
        (have g5 : World.cell? w4.drew ⟨u, 2, none⟩ = some (.slice aZ lz cZ) := j2; go_simp)
        refine hK.out _ _ (by exact hH) (fun hHq6 => ?_)
        clear hK K hH 
        clear g5
        (try simp only [Act.put, List.getElem_toArray, List.getElem_cons_succ, List.getElem_cons_zero, List.setIfInBounds_toArray, List.set_cons_zero, List.set_cons_succ])
        refine wpAnyH_ready (rs := [1]) (by kernel_rfl) (by simp) (AllReadyH.cons rfl (fun K hK => ?_) AllReadyH.nil)
        have hH := hHq6
        (go_simp; skip)
        refine hK.out _ _ (by exact ((Chg.refl [] _).alloc _).cell hH (by simp)) (fun hHq7 => ?_)
        clear hK K hH hHq6
        (try simp only [Act.put, List.getElem_toArray, List.getElem_cons_succ, List.getElem_cons_zero, List.setIfInBounds_toArray, List.set_cons_zero, List.set_cons_succ])
        refine wpAnyH_ready (rs := [6]) (by kernel_rfl) (by simp) (AllReadyH.cons rfl (fun K hK => ?_) AllReadyH.nil)
        have hH := hHq7
        (refine step_appK (by rfl) (.tmp 122) (.tmp 126) 38 (by rfl) 37 (.slice none 0 0) 24 Tryz.underlying38 infoSl rfl (.slice (some ⟨w4.heap.size, 0, none⟩) 0 0) [] (by rfl) HE.out aZ w4.heap.size lz cZ (zs.map SB.val) (by rfl) (by rw [List.length_map, HLZ.out]) HRZ.out (sb_one zs) (by simp; omega) (by simp; omega) ?_; intro v6 w6 K6)
        refine hK.out _ _ (by exact K6.out.chg.cell hH (fun hm => by have := bl_some _ _ _ _ hm; omega)) (fun hHq8 => ?_)
        clear hK K hH hHq7
        (try simp only [Act.put, List.getElem_toArray, List.getElem_cons_succ, List.getElem_cons_zero, List.setIfInBounds_toArray, List.set_cons_zero, List.set_cons_succ])
        refine wpAnyH_ready (rs := [11]) (by kernel_rfl) (by simp) (AllReadyH.cons rfl (fun K hK => ?_) AllReadyH.nil)
        have hH := hHq8
        (refine step_appK (by rfl) (.tmp 127) (.tmp 131) 38 (by rfl) 37 (.slice none 0 0) 24 Tryz.underlying38 infoSl rfl v6 (zs.map SB.val) (by rfl) K6.out.lst aW w4.heap.size lw cW (ys.map SB.val) (by rfl) (by rw [List.length_map, HLW.out]) (HC6.out _ _ K6.out).2.2 (sb_one ys) (by rw [List.length_map, HLZ.out]; omega) (by rw [List.length_map, HLZ.out]; omega) ?_; intro v11 w11 K11; obtain ⟨a11, n11, c11, rfl⟩ := K11.out.lst.shape)
        refine hK.out _ _ (by exact K11.out.chg.cell hH (fun hm => by have := (HC6.out _ _ K6.out).2.1 _ hm; omega)) (fun hHq9 => ?_)
        clear hK K hH hHq8
        have hm := HFIN.out _ _ _ _ _ _ K6.out K11.out; have g2 := hm.1.cells.2.2.1; have e2 := hm.1.frz.2.1; have HM := Lib.hid hm; clear hm
        (try simp only [Act.put, List.getElem_toArray, List.getElem_cons_succ, List.getElem_cons_zero, List.setIfInBounds_toArray, List.set_cons_zero, List.set_cons_succ])
        refine wpAnyH_take (i := 12) (v := ?_) rfl (by kernel_rfl) (by kernel_rfl) (by kernel_rfl) (fun _ _ _ h => h) (Or.inl ⟨by kernel_rfl, ?_⟩) hHq9 ?_
        rotate_left
        · (intro w hSw; first | (go_simp; done) | (go_simp; with_reducible rfl))
        (try simp only [Act.put, List.getElem_toArray, List.getElem_cons_succ, List.getElem_cons_zero, List.setIfInBounds_toArray, List.set_cons_zero, List.set_cons_succ])
        refine wpAnyH_take (i := 13) (v := ?_) rfl (by kernel_rfl) (by kernel_rfl) (by kernel_rfl) (fun _ _ _ h => h) (Or.inl ⟨by kernel_rfl, ?_⟩) hHq9 ?_
        rotate_left
        · (intro w hSw; first | (go_simp; done) | (go_simp; with_reducible rfl))
        (try simp only [Act.put, List.getElem_toArray, List.getElem_cons_succ, List.getElem_cons_zero, List.setIfInBounds_toArray, List.set_cons_zero, List.set_cons_succ])
        refine wpAnyH_ready (rs := [14]) (by kernel_rfl) (by simp) (AllReadyH.cons rfl (fun K hK => ?_) AllReadyH.nil)
        have hH := hHq9
        (go_simp; skip)
        refine hK.out _ _ (by have h := (HM.out.1.own.set 2 (.slice a11 n11 c11)).cell 3; rw [HLW.out] at h; exact h) (fun hHq10 => ?_)
        clear hK K hH hHq9
        (try simp only [Act.put, List.getElem_toArray, List.getElem_cons_succ, List.getElem_cons_zero, List.setIfInBounds_toArray, List.set_cons_zero, List.set_cons_succ])
        refine wpAnyH_done (by kernel_rfl) ?_ _
        have hEnd := hHq10
        (obtain ⟨w5, HW5⟩ : ∃ W, Hid (w11.setCell ⟨u, 2, none⟩ (.slice a11 n11 c11) = W) := ⟨_, Lib.hid rfl⟩; have hend := HEND.out a11 n11 c11 w11 HM.out; have ho5 := HM.out.1.own.set 2 (.slice a11 n11 c11); simp only [HW5.out] at hend ho5 ⊢; have i1 := ho5.cell 1; have i3 := ho5.cell 3; have i4 := ho5.cell 4; have i5 := ho5.cell 5; have x1 := ho5.frozen 1; have x3 := ho5.frozen 3; have x4 := ho5.frozen 4; have x5 := ho5.frozen 5; simp at i1 i3 i4 i5; have HED := Lib.hid hend; clear hend ho5 hEnd hHeld g2 e2; go_wp2_with fail; go_ret; exact ⟨rfl, Lib.hid HED.out.1, HED.out.2⟩)
end
end Go.Proofs.YtdiemejdbakffaaGreat
