/-
  Contract of the document's tape: Replace. No claim of its own.
-/
import Derived.Test.YtdiemejdbakffaaGreatRt6
namespace Go.Proofs.YtdiemejdbakffaaGreat
open Go.RowKit Go.Deep Go.Shelf Go.Maps
set_option linter.unusedVariables false
set_option linter.unusedSimpArgs false

section
variable {w : World} {N : List Nat} {u q gn go gd n : Nat} {S : TS}
set_option maxHeartbeats 4000000 in
set_option maxRecDepth 100000 in
theorem rreplace_any (t : Rt w N u q gn go gd n S) (ti : TI n S) (hN : ∀ x ∈ N, x < w.heap.size) (a : Option Addr) (zs : List SB) (c : Nat) (hx : RoM w a zs) (hsep : Sep [u] a zs) (hzl : zs.length ≤ 1000000) :
    Calls Tryz.prog 39 #[.pointer (some ⟨u, 0, none⟩), .slice a zs.length c] w fun e w' => e = .returned (.int .i64 ((replE n S.k zs : Nat) : Int)) ∧ Hid (Rt w' N u q gn go gd n (replS n S zs)) ∧ Chg [u] w w' := by
  have HT := Lib.hid t
  obtain ⟨aL, cL, xs, aW, cW, ys, tc, eL, eW⟩ := t
  obtain ⟨c0, c1, c2, c3, c4, c5⟩ := tc.cells
  have HTC := Lib.hid tc
  have HX := Lib.hid hx
  have HSP := Lib.hid hsep
  have HNN := Lib.hid hN
  obtain ⟨l, HLL⟩ : ∃ x, Hid (zs.length = x) := ⟨_, Lib.hid rfl⟩
  rw [HLL.out] at hzl ⊢
  have HEE := Lib.hid eL
  have HTI := Lib.hid ti
  clear tc eW hx hsep hN eL
  go_enter Tryz.func39, Tryz.ntmps39
  go_wp2
  go_loopw [5] (fun i wr => ∃ k : Nat, k ≤ l ∧ i = .int .i64 k ∧ Hid (∀ x ∈ zs.take k, okR x.bs) ∧ Hid (Chg [] w wr)) (fun i _ => l - (intOf i).toNat)
  case atStart => exact ⟨0, Nat.zero_le _, rfl, Lib.hid (by simp), Lib.hid (Chg.refl _ _)⟩
  case round =>
    obtain ⟨k, hk, rfl, HP, HC⟩ := hrel
    by_cases hlt : k < l
    · have hkx : k < zs.length := by rw [HLL.out]; exact hlt
      obtain ⟨b, off, rfl, hb, hc⟩ := HX.out.at_ hkx
      have hcell := HC.out.cell (hc k hkx) (by simp)
      unfold SB.val at hcell
      have HT1 := Lib.hid (take_snoc zs k hkx)
      have HM := Lib.hid (List.getElem_mem hkx)
      clear hc
      generalize zs[k] = x at *
      clear hkx
      have hd : decide (k < l) = true := by simpa using hlt
      have hk1 : (k : Int) < (l : Int) := by omega
      have hri := right_any wr x.a x.bs.length x.c
      by_cases hr : okR x.bs
      · rw [decide_eq_true (show 1 ≤ x.bs.length ∧ x.bs.length ≤ 300 from hr)] at hri
        have HRI := Lib.hid hri
        have HRR := Lib.hid hr
        clear hri hr
        generalize x.bs.length = N1 at *
        go_wp2_with fail
        refine HRI.out.mono ?_
        rintro e w' ⟨rfl, rfl⟩
        go_wp2_with fail
        go_roundw
        case rel => exact ⟨k + 1, by omega, by go_num, Lib.hid (by
          rw [HT1.out]
          intro y hy
          rcases List.mem_append.1 hy with hy | hy
          · exact HP.out y hy
          · simp only [List.mem_cons, List.mem_nil_iff, or_false] at hy
            subst hy
            exact HRR.out), HC⟩
        case measure => simp [intOf]; omega
      · rw [decide_eq_false (show ¬ (1 ≤ x.bs.length ∧ x.bs.length ≤ 300) from hr)] at hri
        have HRI := Lib.hid hri
        have HE := Lib.hid (show replE n S.k zs = 1 from by unfold replE; rw [if_pos (fun h => hr (h x HM.out))])
        clear hri hr
        generalize x.bs.length = N1 at *
        go_wp2_with fail
        refine HRI.out.mono ?_
        rintro e w' ⟨rfl, rfl⟩
        go_wp2_with fail
        go_ret
        refine ⟨by rw [HE.out]; rfl, Lib.hid ?_, HC.out.mono (by simp)⟩
        have hs : replS n S zs = S := by unfold replS replH replL; rw [HE.out]; rfl
        rw [hs]
        exact HT.out.kept HC.out
    · have hd : decide (k < l) = false := by simpa using hlt
      have hkn : k = l := by omega
      have HP2 := Lib.hid (show allR zs from fun x hx => HP.out x (by rw [hkn, ← HLL.out, List.take_length]; exact hx))
      have hk1 : ¬ ((k : Int) < (l : Int)) := by omega
      clear HP hlt hkn
      have k5 := HC.out.cell c5 (by simp)
      by_cases hk0 : 0 < S.k
      · have HE := Lib.hid (show replE n S.k zs = 131 from by unfold replE; rw [if_neg (not_not_intro HP2.out), if_pos hk0])
        have d0 : decide (0 < S.k) = true := decide_eq_true hk0
        have d1 : (0 : Int) < (S.k : Int) := by omega
        have hs : replS n S zs = S := by unfold replS replH replL; rw [HE.out]; rfl
        have HS := Lib.hid hs
        clear hs hk0
        go_wp2_with fail
        go_ret
        exact ⟨by rw [HE.out]; rfl, Lib.hid (by rw [HS.out]; exact HT.out.kept HC.out), HC.out.mono (by simp)⟩
      · have hk2 : S.k = 0 := by omega
        have HK0 := Lib.hid hk2
        rw [hk2] at k5
        clear c5 hk0 hk2
        have hfr := frames_any wr a zs c ⟨HX.out.row.chgs HC.out (by simp) |>.mono HC.out.size, fun y hy => ((HX.out.el y hy).chgs HC.out (by simp)).mono HC.out.size, HX.out.len, HX.out.lens⟩ (allR.okL HP2.out) (by rw [HLL.out]; exact hzl)
        rw [HLL.out] at hfr
        obtain ⟨fl, HFL⟩ : ∃ x, Hid ((frs (recs zs)).length = x) := ⟨_, Lib.hid rfl⟩
        rw [HFL.out] at hfr
        have hfl : fl ≤ 302 * 1000000 := by
          have h1 := frs_le (recs zs) (allR.okL HP2.out)
          rw [recs_len, HLL.out, HFL.out] at h1
          have h2 : 302 * l ≤ 302 * 1000000 := Nat.mul_le_mul_left _ hzl
          omega
        obtain ⟨s, HS⟩ : ∃ s, Hid (hsec n = s) := ⟨_, Lib.hid rfl⟩
        have hs : s ≤ 1024 := by rw [← HS.out]; have := HTI.out.top; unfold hsec; omega
        obtain ⟨s64, hs64⟩ : ∃ x, x = s * 64 := ⟨_, rfl⟩
        have m0 : IntKind.i64.wrap (64 * (s : Int)) = (s64 : Int) := by rw [IntKind.wrap_i64]; omega
        have hse := fun w1 (h1 : Chg [] wr w1) => rsectors_any w1 ((HC.out.trans h1).cell c0 (by simp)) (HTC.out.dk.kept (HC.out.trans h1))
        rw [HS.out] at hse
        have HSE := Lib.hid hse
        have HFR := Lib.hid hfr
        have H64 := Lib.hid hs64
        clear hse hfr
        by_cases hfull : s64 < fl
        · have HE := Lib.hid (show replE n S.k zs = 61 from by unfold replE; rw [if_neg (not_not_intro HP2.out), if_neg (by have := HK0.out; omega), if_pos (by rw [HS.out, HFL.out]; omega)])
          have hst : replS n S zs = S := by unfold replS replH replL; rw [HE.out]; rfl
          have HST := Lib.hid hst
          have d0 : decide (s64 < fl) = true := decide_eq_true hfull
          have d1 : (s64 : Int) < (fl : Int) := by omega
          clear hst hfull hs64
          go_wp2_with fail
          refine HFR.out.mono ?_
          rintro e w1 ⟨a1, c1', rfl, h1⟩
          have HSE1 := Lib.hid (HSE.out w1 h1.chg)
          have HC1 := Lib.hid (HC.out.trans h1.chg)
          clear h1
          go_wp2_with fail
          refine HSE1.out.mono ?_
          rintro e w' ⟨rfl, rfl⟩
          go_wp2_with fail
          go_ret
          exact ⟨by rw [HE.out]; rfl, Lib.hid (by rw [HST.out]; exact HT.out.kept HC1.out), HC1.out.mono (by simp)⟩
        · have HE := Lib.hid (show replE n S.k zs = 0 from by unfold replE; rw [if_neg (not_not_intro HP2.out), if_neg (by have := HK0.out; omega), if_neg (by rw [HS.out, HFL.out]; omega)])
          have d0 : decide (s64 < fl) = false := decide_eq_false hfull
          have d1 : ¬ ((s64 : Int) < (fl : Int)) := by omega
          clear hfull hs64
          go_wp2_with fail
          refine HFR.out.mono ?_
          rintro e w1 ⟨a1, c1', rfl, h1⟩
          have HSE1 := Lib.hid (HSE.out w1 h1.chg)
          have HC1 := Lib.hid (HC.out.trans h1.chg)
          clear h1
          go_wp2_with fail
          refine HSE1.out.mono ?_
          rintro e w' ⟨rfl, rfl⟩
          have HT1 := Lib.hid (HTC.out.kept HC1.out)
          have g4 := HT1.out.cells.2.2.2.2.1
          have g3 := HT1.out.cells.2.2.2.1
          have f4 := HT1.out.frz.2.2.2.1
          have f3 := HT1.out.frz.2.2.1
          clear k5 HC HSE HFR HSE1 c0 c1 c2 c3 c4
          go_wp2_with fail
          have hs1 := HT1.out.setu (.bool true) 4 (h' := S.h) (k' := S.k) (fl' := true) (aL' := aL) (cL' := cL) (xs' := xs) (aW' := aW) (cW' := cW) (ys' := ys) rfl HT1.out.lL HT1.out.lW
          have hs2 := hs1.setu (.slice none 0 0) 3 (h' := S.h) (k' := S.k) (fl' := true) (aL' := aL) (cL' := cL) (xs' := xs) (aW' := none) (cW' := 0) (ys' := []) rfl hs1.lL ⟨RoM.nil _ _, ⟨fun h => absurd rfl h, fun _ hy => by cases hy⟩⟩
          have hcs : Chg [u] w ((w1.setCell ⟨u, 4, none⟩ (.bool true)).setCell ⟨u, 3, none⟩ (.slice none 0 0)) := ((HC1.out.mono (by simp)).setCell (by simp) _).setCell (by simp) _
          have HS2 := Lib.hid (And.intro hs2.own hcs)
          clear hs1 hs2 hcs g4 g3 f4 f3 HT1 HC1
          go_loopw [7] (fun i wr => ∃ k : Nat, k ≤ l ∧ i = .int .i64 k ∧ ∃ aW cW zz lz, Hid (zz.length = lz) ∧ Hid (Own wr u 81 [.pointer (some ⟨q, 0, none⟩), .int .i64 (S.h : Int), .slice aL xs.length cL, .slice aW lz cW, .bool true, .int .i64 (S.k : Int)]) ∧ Hid (RL wr w.heap.size (.slice aW lz cW) zz ∧ recs zz = recs (zs.take k)) ∧ Hid (Chg [u] w wr)) (fun i _ => l - (intOf i).toNat)
          case atStart => exact ⟨0, Nat.zero_le _, rfl, none, 0, [], 0, Lib.hid rfl, Lib.hid HS2.out.1, Lib.hid ⟨RL.nil _ _, by simp [recs]⟩, Lib.hid HS2.out.2⟩
          case round =>
            clear HS2
            obtain ⟨k, hk, rfl, aW, cW, zz, lz, HLZ, HOW, HRL, HC⟩ := hrel
            by_cases hlt : k < l
            · have hkx : k < zs.length := by rw [HLL.out]; exact hlt
              obtain ⟨b, off, rfl, hb, hc⟩ := HX.out.at_ hkx
              have hbu : b ≠ u := fun e => HSP.out.1 (fun e2 => by rw [e2] at hkx; simp at hkx) _ rfl (by simpa using e)
              have hcell := HC.out.cell (hc k hkx) (by simpa using hbu)
              unfold SB.val at hcell
              have HTK := Lib.hid (take_snoc zs k hkx)
              have hm := List.getElem_mem hkx
              have HOKX := Lib.hid (HP2.out _ hm)
              have HEL := Lib.hid (Ro.chgs2 (HX.out.el _ hm) HC.out (fun h0 => HSP.out.2 _ hm (u8s_ne h0)))
              clear hc hm
              generalize zs[k] = x at *
              clear hkx
              obtain ⟨N1, HN1⟩ : ∃ M, Hid (x.bs.length = M) := ⟨_, Lib.hid rfl⟩
              rw [HN1.out] at hcell
              have hN1 : N1 ≤ 300 := by rw [← HN1.out]; exact HOKX.out.2
              have hlz : lz ≤ 1000000 := by
                have h1 := congrArg List.length HRL.out.2
                rw [recs_len, recs_len, HLZ.out, List.length_take, HLL.out] at h1
                omega
              have hd : decide (k < l) = true := by simpa using hlt
              have hk1 : (k : Int) < (l : Int) := by omega
              have c3 : wr.cell? ⟨u, 3, none⟩ = some (.slice aW lz cW) := by
                have := HOW.out.cell 3
                simpa using this
              have hwz := HC.out.size
              have hult := HOW.out.lt
              have HE := Lib.hid (show Lst (wr.drew.alloc (.cells #[] 5)) 0 5 (.slice (some ⟨wr.heap.size, 0, none⟩) 0 0) [] from Lst.lit wr.drew 0 5 #[] (Nat.zero_le _) (by decide))
              have HRX := Lib.hid (show Ro (wr.drew.alloc (.cells #[] 5)) w.heap.size x.a (u8s x.bs) from HEL.out.chgs ((Chg.refl [] wr).drew.alloc _) (by simp))
              have HCH := Lib.hid (show ∀ (v3 : Value) (w2 : World), AppK (wr.drew.alloc (.cells #[] 5)) w2 5 (.slice (some ⟨wr.heap.size, 0, none⟩) 0 0) v3 [] (u8s x.bs) → Chg [] wr w2 from fun v3 w2 K => ((Chg.refl [] wr).drew.alloc _).then K.chg (fun y hy => .inr (by have := bl_some _ _ _ y hy; omega)))
              have HCB := Lib.hid (show ∀ (v3 : Value) (w2 : World), AppK (wr.drew.alloc (.cells #[] 5)) w2 5 (.slice (some ⟨wr.heap.size, 0, none⟩) 0 0) v3 [] (u8s x.bs) → ∀ y ∈ bl v3, w.heap.size ≤ y from fun v3 w2 K y hy => by
                rcases K.bl y hy with h5 | h5
                · have := bl_some _ _ _ y h5; omega
                · rw [World.size_alloc] at h5; have h6 : wr.drew.heap.size = wr.heap.size := rfl; omega)
              have hcd : (fun W : World => W.cell? ⟨b, off + k, none⟩ = some (.slice x.a N1 x.c)) wr.drew := hcell
              have hbw : b < wr.heap.size := by omega
              have hub : ∀ y ∈ bl (.slice aW lz cW), y ≠ u := fun y hy e => by
                have h1 := HRL.out.1.low y hy
                have h2 := HTC.out.own.lt
                omega
              have HUB := Lib.hid hub
              clear hub
              have HNEXT := Lib.hid (show ∀ (a3 : Option Addr) (c3' : Nat) (w2 w4 : World) (a4 : Option Addr) (n4 c4 : Nat), AppK (wr.drew.alloc (.cells #[] 5)) w2 5 (.slice (some ⟨wr.heap.size, 0, none⟩) 0 0) (.slice a3 x.bs.length c3') [] (u8s x.bs) → AppK (w2.alloc (.cells #[.slice a3 x.bs.length c3'] 37)) w4 37 (.slice aW lz cW) (.slice a4 n4 c4) (zz.map SB.val) [.slice a3 x.bs.length c3'] →
                  n4 = lz + 1 ∧ (zz ++ [(⟨a3, x.bs, c3'⟩ : SB)]).length = lz + 1 ∧ Own (w4.setCell ⟨u, 3, none⟩ (.slice a4 n4 c4)) u 81 [.pointer (some ⟨q, 0, none⟩), .int .i64 (S.h : Int), .slice aL xs.length cL, .slice a4 n4 c4, .bool true, .int .i64 (S.k : Int)] ∧ (RL (w4.setCell ⟨u, 3, none⟩ (.slice a4 n4 c4)) w.heap.size (.slice a4 n4 c4) (zz ++ [⟨a3, x.bs, c3'⟩]) ∧ recs (zz ++ [(⟨a3, x.bs, c3'⟩ : SB)]) = recs (zs.take (k + 1))) ∧ Chg [u] w (w4.setCell ⟨u, 3, none⟩ (.slice a4 n4 c4)) from fun a3 c3' w2 w4 a4 n4 c4 K2 K4 => by
                have h2 := HCH.out _ _ K2
                have hx3 : Lst w2 w.heap.size 5 (SB.val ⟨a3, x.bs, c3'⟩) (u8s x.bs) := Lst.up K2.lst (HCB.out _ _ K2)
                have K4' : AppK w2 w4 37 (.slice aW lz cW) (.slice a4 n4 c4) (zz.map SB.val) [SB.val ⟨a3, x.bs, c3'⟩] := AppK.pre ((Chg.refl [] w2).alloc _) K4
                have hm := (HRL.out.1.kept h2).more hx3 (Nat.le_trans hwz h2.size) K4'
                have hz : (zz ++ [(⟨a3, x.bs, c3'⟩ : SB)]).length = lz + 1 := by rw [List.length_append, HLZ.out]; rfl
                obtain ⟨a5, c5', h5⟩ := hm.1.form
                injection h5 with _ h6 _
                have hn4 : n4 = lz + 1 := by rw [h6, hz]
                have ho4 := (HOW.out.chg (h2.alloc (.cells #[.slice a3 x.bs.length c3'] 37)) (by simp)).chg K4.chg (fun hm => HUB.out u hm rfl)
                have hu : u < w.heap.size := HTC.out.own.lt
                refine ⟨hn4, hz, ho4.set 3 (.slice a4 n4 c4), ⟨hm.1.chg (l := [u]) ((Chg.refl [u] w4).setCell (by simp) _) (by simpa using hu), by rw [recs_snoc, HRL.out.2, HTK.out, recs_snoc]⟩, ?_⟩
                exact ((HC.out.trans (h2.mono (by simp))).then hm.2 (fun y hy => .inr (HRL.out.1.low y hy))).setCell (by simp) _)
              go_upto_region 16 with fail
              refine wp_region_held_drew (S := (fun W : World => W.cell? ⟨b, off + k, none⟩ = some (.slice x.a N1 x.c))) (by kernel_rfl) hcd (fun hHeld => ?_)
              refine wpAnyH_take (i := 0) (v := ?_) rfl (by kernel_rfl) (by kernel_rfl) (by kernel_rfl) (fun _ _ _ h => h) (Or.inl ⟨by kernel_rfl, ?_⟩) hHeld ?_
              rotate_left
              · (intro w hSw; first | (go_simp; done) | (go_simp; with_reducible rfl))
              (try simp only [Act.put, List.getElem_toArray, List.getElem_cons_succ, List.getElem_cons_zero, List.setIfInBounds_toArray, List.set_cons_zero, List.set_cons_succ])
              refine wpAnyH_take (i := 1) (v := ?_) rfl (by kernel_rfl) (by kernel_rfl) (by kernel_rfl) (fun _ _ _ h => h) (Or.inl ⟨by kernel_rfl, ?_⟩) hHeld ?_
              rotate_left
              · (intro w hSw; first | (go_simp; done) | (go_simp; with_reducible rfl))
              (try simp only [Act.put, List.getElem_toArray, List.getElem_cons_succ, List.getElem_cons_zero, List.setIfInBounds_toArray, List.set_cons_zero, List.set_cons_succ])
              refine wpAnyH_take (i := 2) (v := ?_) rfl (by kernel_rfl) (by kernel_rfl) (by kernel_rfl) (fun _ _ _ h => h) (Or.inl ⟨by kernel_rfl, ?_⟩) hHeld ?_
              rotate_left
              · (intro w hSw; first | (go_simp; done) | (go_simp; with_reducible rfl))
              (try simp only [Act.put, List.getElem_toArray, List.getElem_cons_succ, List.getElem_cons_zero, List.setIfInBounds_toArray, List.set_cons_zero, List.set_cons_succ])
              refine wpAnyH_take (i := 3) (v := ?_) rfl (by kernel_rfl) (by kernel_rfl) (by kernel_rfl) (fun _ _ _ h => h) (Or.inl ⟨by kernel_rfl, ?_⟩) hHeld ?_
              rotate_left
              · (intro w hSw; first | (go_simp; done) | (go_simp; with_reducible rfl))
              (try simp only [Act.put, List.getElem_toArray, List.getElem_cons_succ, List.getElem_cons_zero, List.setIfInBounds_toArray, List.set_cons_zero, List.set_cons_succ])
              refine wpAnyH_take (i := 6) (v := ?_) rfl (by kernel_rfl) (by kernel_rfl) (by kernel_rfl) (fun _ _ _ h => h) (Or.inl ⟨by kernel_rfl, ?_⟩) hHeld ?_
              rotate_left
              · (intro w hSw; first | (go_simp; done) | (go_simp; with_reducible rfl))
              (try simp only [Act.put, List.getElem_toArray, List.getElem_cons_succ, List.getElem_cons_zero, List.setIfInBounds_toArray, List.set_cons_zero, List.set_cons_succ])
              refine wpAnyH_take (i := 7) (v := ?_) rfl (by kernel_rfl) (by kernel_rfl) (by kernel_rfl) (fun _ _ _ h => h) (Or.inl ⟨by kernel_rfl, ?_⟩) hHeld ?_
              rotate_left
              · (intro w hSw; first | (go_simp; done) | (go_simp; with_reducible rfl))
              (try simp only [Act.put, List.getElem_toArray, List.getElem_cons_succ, List.getElem_cons_zero, List.setIfInBounds_toArray, List.set_cons_zero, List.set_cons_succ])
              refine wpAnyH_take (i := 8) (v := ?_) rfl (by kernel_rfl) (by kernel_rfl) (by kernel_rfl) (fun _ _ _ h => h) (Or.inl ⟨by kernel_rfl, ?_⟩) hHeld ?_
              rotate_left
              · (intro w hSw; first | (go_simp; done) | (go_simp; with_reducible rfl))
              (try simp only [Act.put, List.getElem_toArray, List.getElem_cons_succ, List.getElem_cons_zero, List.setIfInBounds_toArray, List.set_cons_zero, List.set_cons_succ])
              refine wpAnyH_take (i := 9) (v := ?_) rfl (by kernel_rfl) (by kernel_rfl) (by kernel_rfl) (fun _ _ _ h => h) (Or.inl ⟨by kernel_rfl, ?_⟩) hHeld ?_
              rotate_left
              · (intro w hSw; first | (go_simp; done) | (go_simp; with_reducible rfl))
              (try simp only [Act.put, List.getElem_toArray, List.getElem_cons_succ, List.getElem_cons_zero, List.setIfInBounds_toArray, List.set_cons_zero, List.set_cons_succ])
              refine wpAnyH_ready (rs := [4,5]) (by kernel_rfl) (by simp) (AllReadyH.cons rfl (fun K hK => ?_) (AllReadyH.cons rfl (fun K hK => ?_) AllReadyH.nil))
              · have hH := hHeld
                (have g4 : World.cell? wr.drew ⟨u, 3, none⟩ = some (.slice aW lz cW) := c3; go_simp)
                refine hK.out _ _ (by exact hH) (fun hHq1 => ?_)
                clear hK K hH 
                clear g4
                (try simp only [Act.put, List.getElem_toArray, List.getElem_cons_succ, List.getElem_cons_zero, List.setIfInBounds_toArray, List.set_cons_zero, List.set_cons_succ])
                refine wpAnyH_ready (rs := [5]) (by kernel_rfl) (by simp) (AllReadyH.cons rfl (fun K hK => ?_) AllReadyH.nil)
                have hH := hHq1
                (go_simp; skip)
                refine hK.out _ _ (by exact ((Chg.refl [] _).alloc _).cell hH (by simp)) (fun hHq2 => ?_)
                clear hK K hH hHq1
                (try simp only [Act.put, List.getElem_toArray, List.getElem_cons_succ, List.getElem_cons_zero, List.setIfInBounds_toArray, List.set_cons_zero, List.set_cons_succ])
                refine wpAnyH_ready (rs := [10]) (by kernel_rfl) (by simp) (AllReadyH.cons rfl (fun K hK => ?_) AllReadyH.nil)
                have hH := hHq2
                (refine step_appK (by rfl) (.tmp 50) (.tmp 54) 37 (by rfl) 5 (.int .u8 0) 1 Tryz.underlying37 infoU8 rfl (.slice (some ⟨wr.heap.size, 0, none⟩) 0 0) [] (by rfl) HE.out x.a w.heap.size N1 x.c (u8s x.bs) (by rfl) (by rw [u8s_length, HN1.out]) HRX.out (u8s_one _) (by simp; omega) (by simp; omega) ?_; intro v3 w2 K2; obtain ⟨a3, c3', rfl⟩ := (show Lst w2 0 5 v3 (u8s x.bs) from K2.out.lst).sl8)
                refine hK.out _ _ (by exact K2.out.chg.cell hH (fun hm => by have := bl_some _ _ _ _ hm; omega)) (fun hHq3 => ?_)
                clear hK K hH hHq2
                (try simp only [Act.put, List.getElem_toArray, List.getElem_cons_succ, List.getElem_cons_zero, List.setIfInBounds_toArray, List.set_cons_zero, List.set_cons_succ])
                refine wpAnyH_ready (rs := [11]) (by kernel_rfl) (by simp) (AllReadyH.cons rfl (fun K hK => ?_) AllReadyH.nil)
                have hH := hHq3
                (go_simp; skip)
                refine hK.out _ _ (by exact ((Chg.refl [] _).alloc _).cell hH (by simp)) (fun hHq4 => ?_)
                clear hK K hH hHq3
                (try simp only [Act.put, List.getElem_toArray, List.getElem_cons_succ, List.getElem_cons_zero, List.setIfInBounds_toArray, List.set_cons_zero, List.set_cons_succ])
                refine wpAnyH_ready (rs := [12]) (by kernel_rfl) (by simp) (AllReadyH.cons rfl (fun K hK => ?_) AllReadyH.nil)
                have hH := hHq4
                (refine step_appK (by rfl) (.tmp 49) (.tmp 56) 38 (by rfl) 37 (.slice none 0 0) 24 Tryz.underlying38 infoSl rfl (.slice aW lz cW) (zz.map SB.val) (by rfl) ((HRL.out.1.lst.kept0 (HCH.out _ _ K2.out)).alloc _) (some ⟨w2.heap.size, 0, none⟩) (w2.heap.size + 1) 1 1 [.slice a3 x.bs.length c3'] (by rfl) rfl (ro_one w2 _ _) (by simp [Value.oneCell']) (by rw [List.length_map, HLZ.out]; omega) (by rw [List.length_map, HLZ.out]; omega) ?_; intro v4 w4 K4; obtain ⟨a4, n4, c4, rfl⟩ := K4.out.lst.shape)
                refine hK.out _ _ (by exact K4.out.chg.cell hH (fun hm => by have := HRL.out.1.low _ hm; omega)) (fun hHq5 => ?_)
                clear hK K hH hHq4
                have ho4 := (HOW.out.chg ((HCH.out _ _ K2.out).alloc _) (by simp)).chg K4.out.chg (fun hm => HUB.out u hm rfl); have g15 := ho4.cell 3; have f15 := ho4.frozen 3; simp at g15
                (try simp only [Act.put, List.getElem_toArray, List.getElem_cons_succ, List.getElem_cons_zero, List.setIfInBounds_toArray, List.set_cons_zero, List.set_cons_succ])
                refine wpAnyH_take (i := 13) (v := ?_) rfl (by kernel_rfl) (by kernel_rfl) (by kernel_rfl) (fun _ _ _ h => h) (Or.inl ⟨by kernel_rfl, ?_⟩) hHq5 ?_
                rotate_left
                · (intro w hSw; first | (go_simp; done) | (go_simp; with_reducible rfl))
                (try simp only [Act.put, List.getElem_toArray, List.getElem_cons_succ, List.getElem_cons_zero, List.setIfInBounds_toArray, List.set_cons_zero, List.set_cons_succ])
                refine wpAnyH_take (i := 14) (v := ?_) rfl (by kernel_rfl) (by kernel_rfl) (by kernel_rfl) (fun _ _ _ h => h) (Or.inl ⟨by kernel_rfl, ?_⟩) hHq5 ?_
                rotate_left
                · (intro w hSw; first | (go_simp; done) | (go_simp; with_reducible rfl))
                (try simp only [Act.put, List.getElem_toArray, List.getElem_cons_succ, List.getElem_cons_zero, List.setIfInBounds_toArray, List.set_cons_zero, List.set_cons_succ])
                refine wpAnyH_ready (rs := [15]) (by kernel_rfl) (by simp) (AllReadyH.cons rfl (fun K hK => ?_) AllReadyH.nil)
                have hH := hHq5
                (go_simp; skip)
                refine hK.out _ _ (by exact ((Chg.refl [u] _).setCell (by simp) _).cell hH (by simpa using hbu)) (fun hHq6 => ?_)
                clear hK K hH hHq5
                (try simp only [Act.put, List.getElem_toArray, List.getElem_cons_succ, List.getElem_cons_zero, List.setIfInBounds_toArray, List.set_cons_zero, List.set_cons_succ])
                refine wpAnyH_done (by kernel_rfl) ?_ _
                have hEnd := hHq6
                (obtain ⟨hn4, hz4, ho9, hr9, hc9⟩ := HNEXT.out a3 c3' w2 w4 a4 n4 c4 K2.out K4.out; subst hn4; have HO9 := Lib.hid ho9; have HR9 := Lib.hid hr9; have HC9 := Lib.hid hc9; have HZ9 := Lib.hid hz4; clear ho9 hr9 hc9 hz4 g15 f15 ho4 hEnd hHeld; go_wp2_with fail; go_roundw; (case rel => exact ⟨k + 1, by omega, by go_num, a4, c4, zz ++ [⟨a3, x.bs, c3'⟩], lz + 1, HZ9, HO9, HR9, HC9⟩); (case measure => simp [intOf]; omega))
              · have hH := hHeld
                (go_simp; skip)
                refine hK.out _ _ (by exact ((Chg.refl [] _).alloc _).cell hH (by simp)) (fun hHq7 => ?_)
                clear hK K hH 
                (try simp only [Act.put, List.getElem_toArray, List.getElem_cons_succ, List.getElem_cons_zero, List.setIfInBounds_toArray, List.set_cons_zero, List.set_cons_succ])
                refine wpAnyH_ready (rs := [4,10]) (by kernel_rfl) (by simp) (AllReadyH.cons rfl (fun K hK => ?_) (AllReadyH.cons rfl (fun K hK => ?_) AllReadyH.nil))
                · have hH := hHq7
                  (have g4 : World.cell? (wr.drew.alloc (.cells #[] 5)) ⟨u, 3, none⟩ = some (.slice aW lz cW) := ((Chg.refl [] wr).drew.alloc _).cell c3 (by simp); go_simp)
                  refine hK.out _ _ (by exact hH) (fun hHq8 => ?_)
                  clear hK K hH hHq7
                  clear g4
                  (try simp only [Act.put, List.getElem_toArray, List.getElem_cons_succ, List.getElem_cons_zero, List.setIfInBounds_toArray, List.set_cons_zero, List.set_cons_succ])
                  refine wpAnyH_ready (rs := [10]) (by kernel_rfl) (by simp) (AllReadyH.cons rfl (fun K hK => ?_) AllReadyH.nil)
                  have hH := hHq8
                  (refine step_appK (by rfl) (.tmp 50) (.tmp 54) 37 (by rfl) 5 (.int .u8 0) 1 Tryz.underlying37 infoU8 rfl (.slice (some ⟨wr.heap.size, 0, none⟩) 0 0) [] (by rfl) HE.out x.a w.heap.size N1 x.c (u8s x.bs) (by rfl) (by rw [u8s_length, HN1.out]) HRX.out (u8s_one _) (by simp; omega) (by simp; omega) ?_; intro v3 w2 K2; obtain ⟨a3, c3', rfl⟩ := (show Lst w2 0 5 v3 (u8s x.bs) from K2.out.lst).sl8)
                  refine hK.out _ _ (by exact K2.out.chg.cell hH (fun hm => by have := bl_some _ _ _ _ hm; omega)) (fun hHq9 => ?_)
                  clear hK K hH hHq8
                  (try simp only [Act.put, List.getElem_toArray, List.getElem_cons_succ, List.getElem_cons_zero, List.setIfInBounds_toArray, List.set_cons_zero, List.set_cons_succ])
                  refine wpAnyH_ready (rs := [11]) (by kernel_rfl) (by simp) (AllReadyH.cons rfl (fun K hK => ?_) AllReadyH.nil)
                  have hH := hHq9
                  (go_simp; skip)
                  refine hK.out _ _ (by exact ((Chg.refl [] _).alloc _).cell hH (by simp)) (fun hHq10 => ?_)
                  clear hK K hH hHq9
                  (try simp only [Act.put, List.getElem_toArray, List.getElem_cons_succ, List.getElem_cons_zero, List.setIfInBounds_toArray, List.set_cons_zero, List.set_cons_succ])
                  refine wpAnyH_ready (rs := [12]) (by kernel_rfl) (by simp) (AllReadyH.cons rfl (fun K hK => ?_) AllReadyH.nil)
                  have hH := hHq10
                  (refine step_appK (by rfl) (.tmp 49) (.tmp 56) 38 (by rfl) 37 (.slice none 0 0) 24 Tryz.underlying38 infoSl rfl (.slice aW lz cW) (zz.map SB.val) (by rfl) ((HRL.out.1.lst.kept0 (HCH.out _ _ K2.out)).alloc _) (some ⟨w2.heap.size, 0, none⟩) (w2.heap.size + 1) 1 1 [.slice a3 x.bs.length c3'] (by rfl) rfl (ro_one w2 _ _) (by simp [Value.oneCell']) (by rw [List.length_map, HLZ.out]; omega) (by rw [List.length_map, HLZ.out]; omega) ?_; intro v4 w4 K4; obtain ⟨a4, n4, c4, rfl⟩ := K4.out.lst.shape)
                  refine hK.out _ _ (by exact K4.out.chg.cell hH (fun hm => by have := HRL.out.1.low _ hm; omega)) (fun hHq11 => ?_)
                  clear hK K hH hHq10
                  have ho4 := (HOW.out.chg ((HCH.out _ _ K2.out).alloc _) (by simp)).chg K4.out.chg (fun hm => HUB.out u hm rfl); have g15 := ho4.cell 3; have f15 := ho4.frozen 3; simp at g15
                  (try simp only [Act.put, List.getElem_toArray, List.getElem_cons_succ, List.getElem_cons_zero, List.setIfInBounds_toArray, List.set_cons_zero, List.set_cons_succ])
                  refine wpAnyH_take (i := 13) (v := ?_) rfl (by kernel_rfl) (by kernel_rfl) (by kernel_rfl) (fun _ _ _ h => h) (Or.inl ⟨by kernel_rfl, ?_⟩) hHq11 ?_
                  rotate_left
                  · (intro w hSw; first | (go_simp; done) | (go_simp; with_reducible rfl))
                  (try simp only [Act.put, List.getElem_toArray, List.getElem_cons_succ, List.getElem_cons_zero, List.setIfInBounds_toArray, List.set_cons_zero, List.set_cons_succ])
                  refine wpAnyH_take (i := 14) (v := ?_) rfl (by kernel_rfl) (by kernel_rfl) (by kernel_rfl) (fun _ _ _ h => h) (Or.inl ⟨by kernel_rfl, ?_⟩) hHq11 ?_
                  rotate_left
                  · (intro w hSw; first | (go_simp; done) | (go_simp; with_reducible rfl))
                  (try simp only [Act.put, List.getElem_toArray, List.getElem_cons_succ, List.getElem_cons_zero, List.setIfInBounds_toArray, List.set_cons_zero, List.set_cons_succ])
                  refine wpAnyH_ready (rs := [15]) (by kernel_rfl) (by simp) (AllReadyH.cons rfl (fun K hK => ?_) AllReadyH.nil)
                  have hH := hHq11
                  (go_simp; skip)
                  refine hK.out _ _ (by exact ((Chg.refl [u] _).setCell (by simp) _).cell hH (by simpa using hbu)) (fun hHq12 => ?_)
                  clear hK K hH hHq11
                  (try simp only [Act.put, List.getElem_toArray, List.getElem_cons_succ, List.getElem_cons_zero, List.setIfInBounds_toArray, List.set_cons_zero, List.set_cons_succ])
                  refine wpAnyH_done (by kernel_rfl) ?_ _
                  have hEnd := hHq12
                  (obtain ⟨hn4, hz4, ho9, hr9, hc9⟩ := HNEXT.out a3 c3' w2 w4 a4 n4 c4 K2.out K4.out; subst hn4; have HO9 := Lib.hid ho9; have HR9 := Lib.hid hr9; have HC9 := Lib.hid hc9; have HZ9 := Lib.hid hz4; clear ho9 hr9 hc9 hz4 g15 f15 ho4 hEnd hHeld; go_wp2_with fail; go_roundw; (case rel => exact ⟨k + 1, by omega, by go_num, a4, c4, zz ++ [⟨a3, x.bs, c3'⟩], lz + 1, HZ9, HO9, HR9, HC9⟩); (case measure => simp [intOf]; omega))
                · have hH := hHq7
                  (refine step_appK (by rfl) (.tmp 50) (.tmp 54) 37 (by rfl) 5 (.int .u8 0) 1 Tryz.underlying37 infoU8 rfl (.slice (some ⟨wr.heap.size, 0, none⟩) 0 0) [] (by rfl) HE.out x.a w.heap.size N1 x.c (u8s x.bs) (by rfl) (by rw [u8s_length, HN1.out]) HRX.out (u8s_one _) (by simp; omega) (by simp; omega) ?_; intro v3 w2 K2; obtain ⟨a3, c3', rfl⟩ := (show Lst w2 0 5 v3 (u8s x.bs) from K2.out.lst).sl8)
                  refine hK.out _ _ (by exact K2.out.chg.cell hH (fun hm => by have := bl_some _ _ _ _ hm; omega)) (fun hHq13 => ?_)
                  clear hK K hH hHq7
                  (try simp only [Act.put, List.getElem_toArray, List.getElem_cons_succ, List.getElem_cons_zero, List.setIfInBounds_toArray, List.set_cons_zero, List.set_cons_succ])
                  refine wpAnyH_ready (rs := [4,11]) (by kernel_rfl) (by simp) (AllReadyH.cons rfl (fun K hK => ?_) (AllReadyH.cons rfl (fun K hK => ?_) AllReadyH.nil))
                  · have hH := hHq13
                    (have g4 : World.cell? w2 ⟨u, 3, none⟩ = some (.slice aW lz cW) := (HCH.out _ _ K2.out).cell c3 (by simp); go_simp)
                    refine hK.out _ _ (by exact hH) (fun hHq14 => ?_)
                    clear hK K hH hHq13
                    clear g4
                    (try simp only [Act.put, List.getElem_toArray, List.getElem_cons_succ, List.getElem_cons_zero, List.setIfInBounds_toArray, List.set_cons_zero, List.set_cons_succ])
                    refine wpAnyH_ready (rs := [11]) (by kernel_rfl) (by simp) (AllReadyH.cons rfl (fun K hK => ?_) AllReadyH.nil)
                    have hH := hHq14
                    (go_simp; skip)
                    refine hK.out _ _ (by exact ((Chg.refl [] _).alloc _).cell hH (by simp)) (fun hHq15 => ?_)
                    clear hK K hH hHq14
                    (try simp only [Act.put, List.getElem_toArray, List.getElem_cons_succ, List.getElem_cons_zero, List.setIfInBounds_toArray, List.set_cons_zero, List.set_cons_succ])
                    refine wpAnyH_ready (rs := [12]) (by kernel_rfl) (by simp) (AllReadyH.cons rfl (fun K hK => ?_) AllReadyH.nil)
                    have hH := hHq15
                    (refine step_appK (by rfl) (.tmp 49) (.tmp 56) 38 (by rfl) 37 (.slice none 0 0) 24 Tryz.underlying38 infoSl rfl (.slice aW lz cW) (zz.map SB.val) (by rfl) ((HRL.out.1.lst.kept0 (HCH.out _ _ K2.out)).alloc _) (some ⟨w2.heap.size, 0, none⟩) (w2.heap.size + 1) 1 1 [.slice a3 x.bs.length c3'] (by rfl) rfl (ro_one w2 _ _) (by simp [Value.oneCell']) (by rw [List.length_map, HLZ.out]; omega) (by rw [List.length_map, HLZ.out]; omega) ?_; intro v4 w4 K4; obtain ⟨a4, n4, c4, rfl⟩ := K4.out.lst.shape)
                    refine hK.out _ _ (by exact K4.out.chg.cell hH (fun hm => by have := HRL.out.1.low _ hm; omega)) (fun hHq16 => ?_)
                    clear hK K hH hHq15
                    have ho4 := (HOW.out.chg ((HCH.out _ _ K2.out).alloc _) (by simp)).chg K4.out.chg (fun hm => HUB.out u hm rfl); have g15 := ho4.cell 3; have f15 := ho4.frozen 3; simp at g15
                    (try simp only [Act.put, List.getElem_toArray, List.getElem_cons_succ, List.getElem_cons_zero, List.setIfInBounds_toArray, List.set_cons_zero, List.set_cons_succ])
                    refine wpAnyH_take (i := 13) (v := ?_) rfl (by kernel_rfl) (by kernel_rfl) (by kernel_rfl) (fun _ _ _ h => h) (Or.inl ⟨by kernel_rfl, ?_⟩) hHq16 ?_
                    rotate_left
                    · (intro w hSw; first | (go_simp; done) | (go_simp; with_reducible rfl))
                    (try simp only [Act.put, List.getElem_toArray, List.getElem_cons_succ, List.getElem_cons_zero, List.setIfInBounds_toArray, List.set_cons_zero, List.set_cons_succ])
                    refine wpAnyH_take (i := 14) (v := ?_) rfl (by kernel_rfl) (by kernel_rfl) (by kernel_rfl) (fun _ _ _ h => h) (Or.inl ⟨by kernel_rfl, ?_⟩) hHq16 ?_
                    rotate_left
                    · (intro w hSw; first | (go_simp; done) | (go_simp; with_reducible rfl))
                    (try simp only [Act.put, List.getElem_toArray, List.getElem_cons_succ, List.getElem_cons_zero, List.setIfInBounds_toArray, List.set_cons_zero, List.set_cons_succ])
                    refine wpAnyH_ready (rs := [15]) (by kernel_rfl) (by simp) (AllReadyH.cons rfl (fun K hK => ?_) AllReadyH.nil)
                    have hH := hHq16
                    (go_simp; skip)
                    refine hK.out _ _ (by exact ((Chg.refl [u] _).setCell (by simp) _).cell hH (by simpa using hbu)) (fun hHq17 => ?_)
                    clear hK K hH hHq16
                    (try simp only [Act.put, List.getElem_toArray, List.getElem_cons_succ, List.getElem_cons_zero, List.setIfInBounds_toArray, List.set_cons_zero, List.set_cons_succ])
                    refine wpAnyH_done (by kernel_rfl) ?_ _
                    have hEnd := hHq17
                    (obtain ⟨hn4, hz4, ho9, hr9, hc9⟩ := HNEXT.out a3 c3' w2 w4 a4 n4 c4 K2.out K4.out; subst hn4; have HO9 := Lib.hid ho9; have HR9 := Lib.hid hr9; have HC9 := Lib.hid hc9; have HZ9 := Lib.hid hz4; clear ho9 hr9 hc9 hz4 g15 f15 ho4 hEnd hHeld; go_wp2_with fail; go_roundw; (case rel => exact ⟨k + 1, by omega, by go_num, a4, c4, zz ++ [⟨a3, x.bs, c3'⟩], lz + 1, HZ9, HO9, HR9, HC9⟩); (case measure => simp [intOf]; omega))
                  · have hH := hHq13
                    (go_simp; skip)
                    refine hK.out _ _ (by exact ((Chg.refl [] _).alloc _).cell hH (by simp)) (fun hHq18 => ?_)
                    clear hK K hH hHq13
                    (try simp only [Act.put, List.getElem_toArray, List.getElem_cons_succ, List.getElem_cons_zero, List.setIfInBounds_toArray, List.set_cons_zero, List.set_cons_succ])
                    refine wpAnyH_ready (rs := [4]) (by kernel_rfl) (by simp) (AllReadyH.cons rfl (fun K hK => ?_) AllReadyH.nil)
                    have hH := hHq18
                    (have g4 : World.cell? (w2.alloc (.cells #[.slice a3 x.bs.length c3'] 37)) ⟨u, 3, none⟩ = some (.slice aW lz cW) := ((HCH.out _ _ K2.out).alloc _).cell c3 (by simp); go_simp)
                    refine hK.out _ _ (by exact hH) (fun hHq19 => ?_)
                    clear hK K hH hHq18
                    clear g4
                    (try simp only [Act.put, List.getElem_toArray, List.getElem_cons_succ, List.getElem_cons_zero, List.setIfInBounds_toArray, List.set_cons_zero, List.set_cons_succ])
                    refine wpAnyH_ready (rs := [12]) (by kernel_rfl) (by simp) (AllReadyH.cons rfl (fun K hK => ?_) AllReadyH.nil)
                    have hH := hHq19
                    (refine step_appK (by rfl) (.tmp 49) (.tmp 56) 38 (by rfl) 37 (.slice none 0 0) 24 Tryz.underlying38 infoSl rfl (.slice aW lz cW) (zz.map SB.val) (by rfl) ((HRL.out.1.lst.kept0 (HCH.out _ _ K2.out)).alloc _) (some ⟨w2.heap.size, 0, none⟩) (w2.heap.size + 1) 1 1 [.slice a3 x.bs.length c3'] (by rfl) rfl (ro_one w2 _ _) (by simp [Value.oneCell']) (by rw [List.length_map, HLZ.out]; omega) (by rw [List.length_map, HLZ.out]; omega) ?_; intro v4 w4 K4; obtain ⟨a4, n4, c4, rfl⟩ := K4.out.lst.shape)
                    refine hK.out _ _ (by exact K4.out.chg.cell hH (fun hm => by have := HRL.out.1.low _ hm; omega)) (fun hHq20 => ?_)
                    clear hK K hH hHq19
                    have ho4 := (HOW.out.chg ((HCH.out _ _ K2.out).alloc _) (by simp)).chg K4.out.chg (fun hm => HUB.out u hm rfl); have g15 := ho4.cell 3; have f15 := ho4.frozen 3; simp at g15
                    (try simp only [Act.put, List.getElem_toArray, List.getElem_cons_succ, List.getElem_cons_zero, List.setIfInBounds_toArray, List.set_cons_zero, List.set_cons_succ])
                    refine wpAnyH_take (i := 13) (v := ?_) rfl (by kernel_rfl) (by kernel_rfl) (by kernel_rfl) (fun _ _ _ h => h) (Or.inl ⟨by kernel_rfl, ?_⟩) hHq20 ?_
                    rotate_left
                    · (intro w hSw; first | (go_simp; done) | (go_simp; with_reducible rfl))
                    (try simp only [Act.put, List.getElem_toArray, List.getElem_cons_succ, List.getElem_cons_zero, List.setIfInBounds_toArray, List.set_cons_zero, List.set_cons_succ])
                    refine wpAnyH_take (i := 14) (v := ?_) rfl (by kernel_rfl) (by kernel_rfl) (by kernel_rfl) (fun _ _ _ h => h) (Or.inl ⟨by kernel_rfl, ?_⟩) hHq20 ?_
                    rotate_left
                    · (intro w hSw; first | (go_simp; done) | (go_simp; with_reducible rfl))
                    (try simp only [Act.put, List.getElem_toArray, List.getElem_cons_succ, List.getElem_cons_zero, List.setIfInBounds_toArray, List.set_cons_zero, List.set_cons_succ])
                    refine wpAnyH_ready (rs := [15]) (by kernel_rfl) (by simp) (AllReadyH.cons rfl (fun K hK => ?_) AllReadyH.nil)
                    have hH := hHq20
                    (go_simp; skip)
                    refine hK.out _ _ (by exact ((Chg.refl [u] _).setCell (by simp) _).cell hH (by simpa using hbu)) (fun hHq21 => ?_)
                    clear hK K hH hHq20
                    (try simp only [Act.put, List.getElem_toArray, List.getElem_cons_succ, List.getElem_cons_zero, List.setIfInBounds_toArray, List.set_cons_zero, List.set_cons_succ])
                    refine wpAnyH_done (by kernel_rfl) ?_ _
                    have hEnd := hHq21
                    (obtain ⟨hn4, hz4, ho9, hr9, hc9⟩ := HNEXT.out a3 c3' w2 w4 a4 n4 c4 K2.out K4.out; subst hn4; have HO9 := Lib.hid ho9; have HR9 := Lib.hid hr9; have HC9 := Lib.hid hc9; have HZ9 := Lib.hid hz4; clear ho9 hr9 hc9 hz4 g15 f15 ho4 hEnd hHeld; go_wp2_with fail; go_roundw; (case rel => exact ⟨k + 1, by omega, by go_num, a4, c4, zz ++ [⟨a3, x.bs, c3'⟩], lz + 1, HZ9, HO9, HR9, HC9⟩); (case measure => simp [intOf]; omega))
            · have hd : decide (k < l) = false := by simpa using hlt
              have hkn : k = l := by omega
              have HR := Lib.hid (show recs zz = recs zs from by rw [HRL.out.2, hkn, ← HLL.out, List.take_length])
              have hk1 : ¬ ((k : Int) < (l : Int)) := by omega
              clear hlt hkn
              go_wp2_with fail
              go_ret
              have e1 : S.h ≠ 1 - S.h := by have := HTI.out.half; omega
              have es : replS n S zs = { S with h' := 1 - S.h, L' := recs zs } := by unfold replS replH replL; rw [HE.out]; rfl
              have hw : waitL (replS n S zs) = recs zs := by rw [waitL_new (by rw [es]; exact e1), es]
              have hM : ∀ x ∈ N ++ [u, gn, go, gd], x < w.heap.size := HTC.out.ltM HNN.out
              obtain ⟨d1, d2, d3, d4⟩ := HTC.out.uD
              have hfin : RtC wr N u q gn go gd n S.F S.m S.h true S.k aL cL xs aW cW zz := ⟨by rw [HLZ.out]; exact HOW.out, HTC.out.dk.keep HC.out (by simpa using d1.symm) (by simpa using d2.symm) (by simpa using d3.symm) (by simpa using d4.symm),
                HTC.out.lL.call (HC.out.mono (by simp)) (fun x hx => .inl hx), RS.own HRL.out.1 hM (by have := congrArg List.length HR.out; rw [recs_len, recs_len, HLL.out] at this; omega) (fun y hy => by
                  have h1 : y.bs ∈ recs zs := by rw [← HR.out]; exact List.mem_map.2 ⟨y, hy, rfl⟩
                  have h2 := (allR.okL HP2.out) _ h1
                  have := h2.2
                  omega), HTC.out.uN, HTC.out.uD⟩
              have e2 : decide ((replS n S zs).h ≠ (replS n S zs).h') = true := by rw [es]; exact decide_eq_true e1
              have hfin2 : RtC wr N u q gn go gd n (replS n S zs).F (replS n S zs).m (replS n S zs).h (decide ((replS n S zs).h ≠ (replS n S zs).h')) (replS n S zs).k aL cL xs aW cW zz := by
                rw [e2, es]
                exact hfin
              exact ⟨by rw [HE.out]; rfl, Lib.hid ⟨aL, cL, xs, aW, cW, zz, hfin2, by rw [es]; exact HEE.out, by rw [hw]; exact HR.out⟩, HC.out⟩
end
end Go.Proofs.YtdiemejdbakffaaGreat
