/-
  Contracts of the statement's questions: are the sectors alike, do the tapes tell alike? No claim of their own.
-/
import Derived.Test.YtdiemejdbakffaaGreatRt13
import Derived.Test.YtdiemejdbakffaaGreatJ7
namespace Go.Proofs.YtdiemejdbakffaaGreat
open Go.RowKit Go.Deep Go.Shelf Go.Maps
set_option linter.unusedVariables false
set_option linter.unusedSimpArgs false

set_option maxHeartbeats 4000000 in
set_option maxRecDepth 100000 in
theorem sectors_ok (w : World) {p g b n q gn go gd : Nat} {F : Nat → Sec} {m : Nat → Option Sec} (hd : Dsk w p g b n F m) (hr : Rdk w q gn go gd n (now F m) F (fun i => (m i).isSome)) :
    Calls Tryz.prog 17 #[.pointer (some ⟨p, 0, none⟩), .pointer (some ⟨q, 0, none⟩)] w fun e w' => e = .returned (.bool true) ∧ Chg [] w w' := by
  have HD := Lib.hid hd
  have HR := Lib.hid hr
  have htop := hd.top
  have hle := dirtyL_le n m
  clear hd hr
  go_enter Tryz.func17, Tryz.ntmps17
  go_wp2_with fail
  go_loopw [5] (fun i wr => ∃ k : Nat, k ≤ n ∧ i = .int .i64 k ∧ Chg [] w wr) (fun i _ => n - (intOf i).toNat)
  case atStart => exact ⟨0, Nat.zero_le _, rfl, Chg.refl _ _⟩
  case round =>
    obtain ⟨k2, hk2, rfl, hc⟩ := hrel
    have hr3 := HR.out.kept hc
    have hq1 := hr3.c0
    by_cases hlt2 : k2 < n
    · have hdt2 : decide (k2 < n) = true := by simpa using hlt2
      have hj0 : (0 : Int) ≤ (k2 : Int) := by omega
      have hj1 : (k2 : Int) < (n : Int) := by omega
      obtain ⟨S, HS⟩ : ∃ S, Hid (now F m k2 = S) := ⟨_, Lib.hid rfl⟩
      have HRd := Lib.hid (read_at HD.out hlt2 HS.out)
      have hrow := hr3.rn.rng k2 hlt2
      have hSl := hr3.lenN k2
      rw [HS.out] at hrow hSl
      have hsame := same40 S hSl
      have hmeas : n - (k2 + 1) < n - k2 := by omega
      clear hr3
      go_wp2_with (first
        | (go_at_call 23; (with_reducible refine (HRd.out _ hc).mono ?_); rintro e wa ⟨rfl, hca⟩)
        | (refine wpList_alloc37 rfl rfl ?_)
        | (refine wpList_laid rfl _ _ rfl S rfl rfl rfl hSl ?_; intro wb hrb hcb)
        | fail)
      have hcab := hca.trans hcb
      have hrowb := hcab.range hrow (by simp)
      have hqb := hcab.cell hq1 (by simp)
      have hcF := hc.trans hcab
      clear hrow hq1 hca hcb hcab
      refine wp_region_quiet_lit (by kernel_rfl) (by kernel_rfl) ?_
      repeat (first
        | go_big_quiet_skip
        | ((first
            | refine wpQuiet_load37 _ rfl _ _ rfl S hrb hSl rfl ?_
            | refine wpQuiet_load40 _ rfl _ _ rfl S hrowb hSl rfl ?_); simp only [Act.put, List.setIfInBounds_toArray, List.set_cons_zero, List.set_cons_succ])
        | go_big_quiet_step (fail))
      refine wpQuiet_nil ?_
      intro _ hw'
      obtain ⟨nq, hw''⟩ := hw'
      subst hw''
      go_wp2
      go_roundw
      case rel => exact ⟨k2 + 1, by omega, by go_num, hcF.drewN nq⟩
      case measure => simp [intOf]; omega
    · have hdt2 : decide (k2 < n) = false := by simpa using hlt2
      obtain ⟨L, HL⟩ : ∃ L, Hid ((dirtyL n m).length = L) := ⟨_, Lib.hid rfl⟩
      have HC := Lib.hid hc
      have H1 := Lib.hid (dirty_dl _ (HD.out.kept hc))
      rw [HL.out] at H1
      clear hr3 hc
      go_wp2_with fail
      refine H1.out.mono ?_
      rintro e w1 ⟨a1, c1, rfl, _, hc1⟩
      have H2 := Lib.hid (rdirty_dl w1 (HR.out.kept (HC.out.trans hc1)))
      rw [HL.out] at H2
      have HC1 := Lib.hid (HC.out.trans hc1)
      clear hc1 H1
      go_wp2_with fail
      refine H2.out.mono ?_
      rintro e w2 ⟨a2, c2, rfl, _, hc2⟩
      have HC2 := Lib.hid (HC1.out.trans hc2)
      clear hc2 H2
      go_wp2_with fail
      go_ret
      exact ⟨rfl, HC2.out⟩
section
variable {w : World} {N : List Nat} {u q gn go gd n : Nat} {S : TS}
theorem wait_len (ti : TI n S) : (waitL S).length = waitN S.h S.h' S.L S.L' := by
  unfold waitL waitN
  by_cases h : S.h = S.h'
  · rw [if_pos h, if_pos h, List.length_drop]
  · rw [if_neg h, if_neg h]
set_option maxHeartbeats 4000000 in
set_option maxRecDepth 100000 in
theorem alike_ok {t p g b : Nat} (tz : Tz w w N t p g b n S) (rt : Rt w N u q gn go gd n S) :
    Calls Tryz.prog 18 #[.pointer (some ⟨t, 0, none⟩), .pointer (some ⟨u, 0, none⟩)] w fun e w' => e = .returned (.bool true) ∧ Chg [] w w' := by
  have ti := tz.ti
  have HT := Lib.hid (fun W (hW : Chg [] w W) => tz.kept hW)
  have HRT := Lib.hid (fun W (hW : Chg [] w W) => rroom_any (rt.kept hW) ti)
  obtain ⟨aL, cL, xs, aW, cW, ys, tc, eL, eW⟩ := rt
  obtain ⟨c0, c1, c2, c3, c4, c5⟩ := tc.cells
  obtain ⟨ll, HLL⟩ : ∃ x, Hid (xs.length = x) := ⟨_, Lib.hid rfl⟩
  obtain ⟨lw, HLW⟩ : ∃ x, Hid (ys.length = x) := ⟨_, Lib.hid rfl⟩
  have hll : S.L.length = ll := by rw [← HLL.out, ← recs_len, eL]
  have hlw : waitN S.h S.h' S.L S.L' = lw := by rw [← wait_len ti, ← HLW.out, ← recs_len, eW]
  have hll2 : ll ≤ 100000 := by rw [← hll]; exact ti.lens.2.2.1
  obtain ⟨R, HRO⟩ : ∃ R, Hid (roomN n S.h S.h' S.L S.L' = R) := ⟨_, Lib.hid rfl⟩
  have HL1 := Lib.hid (show ∀ W, Chg [] w W → Calls Tryz.prog 20 #[.pointer (some ⟨t, 0, none⟩)] W fun e w' => e = .returned (.int .i64 (ll : Int)) ∧ Chg [] W w' from fun W hW => by have h := len_Z (HT.out W hW); rw [hll] at h; exact h)
  have HL2 := Lib.hid (show ∀ W, Chg [] w W → Calls Tryz.prog 48 #[.pointer (some ⟨t, 0, none⟩)] W fun e w' => e = .returned (.int .i64 (lw : Int)) ∧ Chg [] W w' from fun W hW => by have h := waiting_Z (HT.out W hW); rw [hlw] at h; exact h)
  have HL3 := Lib.hid (show ∀ W, Chg [] w W → Calls Tryz.prog 24 #[.pointer (some ⟨t, 0, none⟩)] W fun e w' => e = .returned (.int .i64 (R : Int)) ∧ Chg [] W w' from fun W hW => by have h := room_Z (HT.out W hW); rw [HRO.out] at h; exact h.mono fun e w' h => ⟨h.1, (Chg.refl [] W).qt h.2⟩)
  have HL4 := Lib.hid (show ∀ W, Chg [] w W → Calls Tryz.prog 49 #[.pointer (some ⟨u, 0, none⟩)] W fun e w' => e = .returned (.int .i64 (R : Int)) ∧ Chg [] W w' from fun W hW => by have h := HRT.out W hW; rw [HRO.out] at h; exact h)
  have b1 : ((ll : Int) != (ll : Int)) = false := by simp
  have b2 : ((lw : Int) != (lw : Int)) = false := by simp
  have b3 : ((R : Int) != (R : Int)) = false := by simp
  rw [HLL.out] at c2
  rw [HLW.out] at c3
  have hst : (fun W : World => W.cell? ⟨u, 2, none⟩ = some (.slice aL ll cL) ∧ W.cell? ⟨u, 3, none⟩ = some (.slice aW lw cW)) w.drew := ⟨c2, c3⟩
  have HD := Lib.hid (show Chg [] w w.drew from (Chg.refl [] w).drew)
  have HTC := Lib.hid tc
  have HEL := Lib.hid eL
  have HLL2 := Lib.hid hll
  clear tc eL eW c0 c1 c3 c4 c5 hlw HRT
  go_enter Tryz.func18, Tryz.ntmps18
  go_upto_region 1 with fail
  refine wp_region_held_drew (S := (fun W : World => W.cell? ⟨u, 2, none⟩ = some (.slice aL ll cL) ∧ W.cell? ⟨u, 3, none⟩ = some (.slice aW lw cW))) (by kernel_rfl) hst (fun hHeld => ?_)
  refine wpAnyH_take (i := 0) (v := ?_) rfl (by kernel_rfl) (by kernel_rfl) (by kernel_rfl) (fun _ _ _ h => h) (Or.inl ⟨by kernel_rfl, ?_⟩) hHeld ?_
  rotate_left
  · (intro w hSw; first | (go_simp; done) | (go_simp; with_reducible rfl))
  (try simp only [Act.put, List.getElem_toArray, List.getElem_cons_succ, List.getElem_cons_zero, List.setIfInBounds_toArray, List.set_cons_zero, List.set_cons_succ])
  refine wpAnyH_take (i := 2) (v := ?_) rfl (by kernel_rfl) (by kernel_rfl) (by kernel_rfl) (fun _ _ _ h => h) (Or.inl ⟨by kernel_rfl, ?_⟩) hHeld ?_
  rotate_left
  · (intro w hSw; first | (go_simp; done) | (go_simp; with_reducible rfl))
  (try simp only [Act.put, List.getElem_toArray, List.getElem_cons_succ, List.getElem_cons_zero, List.setIfInBounds_toArray, List.set_cons_zero, List.set_cons_succ])
  refine wpAnyH_take (i := 3) (v := ?_) rfl (by kernel_rfl) (by kernel_rfl) (by kernel_rfl) (fun _ _ _ h => h) (Or.inl ⟨by kernel_rfl, ?_⟩) hHeld ?_
  rotate_left
  · (intro w hSw; first | (go_simp; done) | (go_simp; with_reducible rfl))
  (try simp only [Act.put, List.getElem_toArray, List.getElem_cons_succ, List.getElem_cons_zero, List.setIfInBounds_toArray, List.set_cons_zero, List.set_cons_succ])
  refine wpAnyH_take (i := 4) (v := ?_) rfl (by kernel_rfl) (by kernel_rfl) (by kernel_rfl) (fun _ _ _ h => h) (Or.inl ⟨by kernel_rfl, ?_⟩) hHeld ?_
  rotate_left
  · (intro w hSw; first | (go_simp; done) | (go_simp; with_reducible rfl))
  (try simp only [Act.put, List.getElem_toArray, List.getElem_cons_succ, List.getElem_cons_zero, List.setIfInBounds_toArray, List.set_cons_zero, List.set_cons_succ])
  refine wpAnyH_take (i := 5) (v := ?_) rfl (by kernel_rfl) (by kernel_rfl) (by kernel_rfl) (fun _ _ _ h => h) (Or.inl ⟨by kernel_rfl, ?_⟩) hHeld ?_
  rotate_left
  · (intro w hSw; first | (go_simp; done) | (go_simp; with_reducible rfl))
  (try simp only [Act.put, List.getElem_toArray, List.getElem_cons_succ, List.getElem_cons_zero, List.setIfInBounds_toArray, List.set_cons_zero, List.set_cons_succ])
  refine wpAnyH_take (i := 6) (v := ?_) rfl (by kernel_rfl) (by kernel_rfl) (by kernel_rfl) (fun _ _ _ h => h) (Or.inl ⟨by kernel_rfl, ?_⟩) hHeld ?_
  rotate_left
  · (intro w hSw; first | (go_simp; done) | (go_simp; with_reducible rfl))
  (try simp only [Act.put, List.getElem_toArray, List.getElem_cons_succ, List.getElem_cons_zero, List.setIfInBounds_toArray, List.set_cons_zero, List.set_cons_succ])
  refine wpAnyH_ready (rs := [1]) (by kernel_rfl) (by simp) (AllReadyH.cons rfl (fun K hK => ?_) AllReadyH.nil)
  have hH := hHeld
  (go_simp; go_at_call 20; refine (HL1.out _ HD.out).mono ?_; rintro e w1 ⟨rfl, hc1⟩)
  refine hK.out _ _ (by exact ⟨hc1.cell hH.1 (by simp), hc1.cell hH.2 (by simp)⟩) (fun hHq1 => ?_)
  clear hK K hH 
  (try simp only [Act.put, List.getElem_toArray, List.getElem_cons_succ, List.getElem_cons_zero, List.setIfInBounds_toArray, List.set_cons_zero, List.set_cons_succ])
  refine wpAnyH_take (i := 7) (v := ?_) rfl (by kernel_rfl) (by kernel_rfl) (by kernel_rfl) (fun _ _ _ h => h) (Or.inl ⟨by kernel_rfl, ?_⟩) hHq1 ?_
  rotate_left
  · (intro w hSw; first | (go_simp; done) | (go_simp; with_reducible rfl))
  (try simp only [Act.put, List.getElem_toArray, List.getElem_cons_succ, List.getElem_cons_zero, List.setIfInBounds_toArray, List.set_cons_zero, List.set_cons_succ])
  refine wpAnyH_take (i := 8) (v := ?_) rfl (by kernel_rfl) (by kernel_rfl) (by kernel_rfl) (fun _ _ _ h => h) (Or.inl ⟨by kernel_rfl, ?_⟩) hHq1 ?_
  rotate_left
  · (intro w hSw; first | (go_simp; done) | (go_simp; with_reducible rfl))
  (try simp only [Act.put, List.getElem_toArray, List.getElem_cons_succ, List.getElem_cons_zero, List.setIfInBounds_toArray, List.set_cons_zero, List.set_cons_succ])
  refine wpAnyH_take (i := 9) (v := ?_) rfl (by kernel_rfl) (by kernel_rfl) (by kernel_rfl) (fun _ _ _ h => h) (Or.inl ⟨by kernel_rfl, ?_⟩) hHq1 ?_
  rotate_left
  · (intro w hSw; first | (go_simp; done) | (go_simp; with_reducible rfl))
  (try simp only [Act.put, List.getElem_toArray, List.getElem_cons_succ, List.getElem_cons_zero, List.setIfInBounds_toArray, List.set_cons_zero, List.set_cons_succ])
  refine wpAnyH_take (i := 11) (v := ?_) rfl (by kernel_rfl) (by kernel_rfl) (by kernel_rfl) (fun _ _ _ h => h) (Or.inl ⟨by kernel_rfl, ?_⟩) hHq1 ?_
  rotate_left
  · (intro w hSw; first | (go_simp; done) | (go_simp; with_reducible rfl))
  (try simp only [Act.put, List.getElem_toArray, List.getElem_cons_succ, List.getElem_cons_zero, List.setIfInBounds_toArray, List.set_cons_zero, List.set_cons_succ])
  refine wpAnyH_take (i := 12) (v := ?_) rfl (by kernel_rfl) (by kernel_rfl) (by kernel_rfl) (fun _ _ _ h => h) (Or.inl ⟨by kernel_rfl, ?_⟩) hHq1 ?_
  rotate_left
  · (intro w hSw; first | (go_simp; done) | (go_simp; with_reducible rfl))
  (try simp only [Act.put, List.getElem_toArray, List.getElem_cons_succ, List.getElem_cons_zero, List.setIfInBounds_toArray, List.set_cons_zero, List.set_cons_succ])
  refine wpAnyH_take (i := 13) (v := ?_) rfl (by kernel_rfl) (by kernel_rfl) (by kernel_rfl) (fun _ _ _ h => h) (Or.inl ⟨by kernel_rfl, ?_⟩) hHq1 ?_
  rotate_left
  · (intro w hSw; first | (go_simp; done) | (go_simp; with_reducible rfl))
  (try simp only [Act.put, List.getElem_toArray, List.getElem_cons_succ, List.getElem_cons_zero, List.setIfInBounds_toArray, List.set_cons_zero, List.set_cons_succ])
  refine wpAnyH_take (i := 14) (v := ?_) rfl (by kernel_rfl) (by kernel_rfl) (by kernel_rfl) (fun _ _ _ h => h) (Or.inl ⟨by kernel_rfl, ?_⟩) hHq1 ?_
  rotate_left
  · (intro w hSw; first | (go_simp; done) | (go_simp; with_reducible rfl))
  (try simp only [Act.put, List.getElem_toArray, List.getElem_cons_succ, List.getElem_cons_zero, List.setIfInBounds_toArray, List.set_cons_zero, List.set_cons_succ])
  refine wpAnyH_take (i := 15) (v := ?_) rfl (by kernel_rfl) (by kernel_rfl) (by kernel_rfl) (fun _ _ _ h => h) (Or.inl ⟨by kernel_rfl, ?_⟩) hHq1 ?_
  rotate_left
  · (intro w hSw; first | (go_simp; done) | (go_simp; with_reducible rfl))
  (try simp only [Act.put, List.getElem_toArray, List.getElem_cons_succ, List.getElem_cons_zero, List.setIfInBounds_toArray, List.set_cons_zero, List.set_cons_succ])
  refine wpAnyH_ready (rs := [10]) (by kernel_rfl) (by simp) (AllReadyH.cons rfl (fun K hK => ?_) AllReadyH.nil)
  have hH := hHq1
  (go_simp; go_at_call 48; refine (HL2.out _ (HD.out.trans hc1)).mono ?_; rintro e w2 ⟨rfl, hc2⟩)
  refine hK.out _ _ (by exact ⟨hc2.cell hH.1 (by simp), hc2.cell hH.2 (by simp)⟩) (fun hHq2 => ?_)
  clear hK K hH hHq1
  (try simp only [Act.put, List.getElem_toArray, List.getElem_cons_succ, List.getElem_cons_zero, List.setIfInBounds_toArray, List.set_cons_zero, List.set_cons_succ])
  refine wpAnyH_take (i := 16) (v := ?_) rfl (by kernel_rfl) (by kernel_rfl) (by kernel_rfl) (fun _ _ _ h => h) (Or.inl ⟨by kernel_rfl, ?_⟩) hHq2 ?_
  rotate_left
  · (intro w hSw; first | (go_simp; done) | (go_simp; with_reducible rfl))
  (try simp only [Act.put, List.getElem_toArray, List.getElem_cons_succ, List.getElem_cons_zero, List.setIfInBounds_toArray, List.set_cons_zero, List.set_cons_succ])
  refine wpAnyH_take (i := 17) (v := ?_) rfl (by kernel_rfl) (by kernel_rfl) (by kernel_rfl) (fun _ _ _ h => h) (Or.inl ⟨by kernel_rfl, ?_⟩) hHq2 ?_
  rotate_left
  · (intro w hSw; first | (go_simp; done) | (go_simp; with_reducible rfl))
  (try simp only [Act.put, List.getElem_toArray, List.getElem_cons_succ, List.getElem_cons_zero, List.setIfInBounds_toArray, List.set_cons_zero, List.set_cons_succ])
  refine wpAnyH_take (i := 18) (v := ?_) rfl (by kernel_rfl) (by kernel_rfl) (by kernel_rfl) (fun _ _ _ h => h) (Or.inl ⟨by kernel_rfl, ?_⟩) hHq2 ?_
  rotate_left
  · (intro w hSw; first | (go_simp; done) | (go_simp; with_reducible rfl))
  (try simp only [Act.put, List.getElem_toArray, List.getElem_cons_succ, List.getElem_cons_zero, List.setIfInBounds_toArray, List.set_cons_zero, List.set_cons_succ])
  refine wpAnyH_take (i := 19) (v := ?_) rfl (by kernel_rfl) (by kernel_rfl) (by kernel_rfl) (fun _ _ _ h => h) (Or.inl ⟨by kernel_rfl, ?_⟩) hHq2 ?_
  rotate_left
  · (intro w hSw; first | (go_simp; done) | (go_simp; with_reducible rfl))
  (try simp only [Act.put, List.getElem_toArray, List.getElem_cons_succ, List.getElem_cons_zero, List.setIfInBounds_toArray, List.set_cons_zero, List.set_cons_succ])
  refine wpAnyH_take (i := 21) (v := ?_) rfl (by kernel_rfl) (by kernel_rfl) (by kernel_rfl) (fun _ _ _ h => h) (Or.inl ⟨by kernel_rfl, ?_⟩) hHq2 ?_
  rotate_left
  · (intro w hSw; first | (go_simp; done) | (go_simp; with_reducible rfl))
  (try simp only [Act.put, List.getElem_toArray, List.getElem_cons_succ, List.getElem_cons_zero, List.setIfInBounds_toArray, List.set_cons_zero, List.set_cons_succ])
  refine wpAnyH_ready (rs := [20]) (by kernel_rfl) (by simp) (AllReadyH.cons rfl (fun K hK => ?_) AllReadyH.nil)
  have hH := hHq2
  (go_simp; go_at_call 24; refine (HL3.out _ ((HD.out.trans hc1).trans hc2)).mono ?_; rintro e w3 ⟨rfl, hc3⟩)
  refine hK.out _ _ (by exact ⟨hc3.cell hH.1 (by simp), hc3.cell hH.2 (by simp)⟩) (fun hHq3 => ?_)
  clear hK K hH hHq2
  (try simp only [Act.put, List.getElem_toArray, List.getElem_cons_succ, List.getElem_cons_zero, List.setIfInBounds_toArray, List.set_cons_zero, List.set_cons_succ])
  refine wpAnyH_ready (rs := [22]) (by kernel_rfl) (by simp) (AllReadyH.cons rfl (fun K hK => ?_) AllReadyH.nil)
  have hH := hHq3
  (go_simp; go_at_call 49; refine (HL4.out _ (((HD.out.trans hc1).trans hc2).trans hc3)).mono ?_; rintro e w4 ⟨rfl, hc4⟩)
  refine hK.out _ _ (by exact ⟨hc4.cell hH.1 (by simp), hc4.cell hH.2 (by simp)⟩) (fun hHq4 => ?_)
  clear hK K hH hHq3
  (try simp only [Act.put, List.getElem_toArray, List.getElem_cons_succ, List.getElem_cons_zero, List.setIfInBounds_toArray, List.set_cons_zero, List.set_cons_succ])
  refine wpAnyH_take (i := 23) (v := ?_) rfl (by kernel_rfl) (by kernel_rfl) (by kernel_rfl) (fun _ _ _ h => h) (Or.inl ⟨by kernel_rfl, ?_⟩) hHq4 ?_
  rotate_left
  · (intro w hSw; first | (go_simp; done) | (go_simp; with_reducible rfl))
  (try simp only [Act.put, List.getElem_toArray, List.getElem_cons_succ, List.getElem_cons_zero, List.setIfInBounds_toArray, List.set_cons_zero, List.set_cons_succ])
  refine wpAnyH_take (i := 24) (v := ?_) rfl (by kernel_rfl) (by kernel_rfl) (by kernel_rfl) (fun _ _ _ h => h) (Or.inl ⟨by kernel_rfl, ?_⟩) hHq4 ?_
  rotate_left
  · (intro w hSw; first | (go_simp; done) | (go_simp; with_reducible rfl))
  (try simp only [Act.put, List.getElem_toArray, List.getElem_cons_succ, List.getElem_cons_zero, List.setIfInBounds_toArray, List.set_cons_zero, List.set_cons_succ])
  refine wpAnyH_done (by kernel_rfl) ?_ _
  have hEnd := hHq4
  have HC4 := Lib.hid ((((HD.out.trans hc1).trans hc2).trans hc3).trans hc4)
  clear hEnd hst hc1 hc2 hc3 hc4 b1 b2 b3 c2 hll
  go_wp2_with fail
  go_loopw [5] (fun i wr => ∃ k : Nat, k ≤ ll ∧ i = .int .i64 k ∧ Hid (Chg [] w wr)) (fun i _ => ll - (intOf i).toNat)
  case atStart => exact ⟨0, Nat.zero_le _, rfl, HC4⟩
  case round =>
    obtain ⟨k, hk, rfl, HC⟩ := hrel
    have htr := HTC.out.kept HC.out
    have k2 := htr.cells.2.2.1
    rw [HLL.out] at k2
    by_cases hlt : k < ll
    · have hd : decide (k < ll) = true := by simpa using hlt
      have hk1 : (k : Int) < (ll : Int) := by omega
      have hkx : k < xs.length := by rw [HLL.out]; exact hlt
      have hkL : k < S.L.length := by rw [HLL2.out]; exact hlt
      have hxr : (xs[k]).bs = S.L[k] := by
        have h1 := HEL.out
        have h2 : (recs xs)[k]'(by rw [recs_len]; exact hkx) = S.L[k] := by simp only [h1]
        rw [← h2]
        simp [recs]
      have HRD := Lib.hid (read_Z (HT.out _ HC.out) k hkL)
      obtain ⟨b', off, hab, hb', hcx⟩ := htr.lL.rom.at_ hkx
      have hcell := hcx k hkx
      unfold SB.val at hcell
      have hel := htr.lL.rom.el _ (List.getElem_mem hkx)
      rw [hxr] at hcell hel
      have hN1 : (S.L[k]).length ≤ 300 := (ti.ok _ (List.getElem_mem hkL)).2
      generalize S.L[k] = r at *
      generalize xs[k] = x at *
      obtain ⟨N1, HN1⟩ : ∃ M, Hid (r.length = M) := ⟨_, Lib.hid rfl⟩
      rw [HN1.out] at hcell hN1
      have HEL2 := Lib.hid hel
      clear hcx hel hxr htr hlt
      subst hab
      go_wp2_with fail
      refine HRD.out.mono ?_
      rintro e w5 ⟨v, rfl, hv, hc5⟩
      obtain ⟨a3, c3, rfl⟩ := hv.out.sl8
      obtain ⟨a4, c4, e4, hro, _⟩ := hv.out.form
      injection e4 with e5
      subst e5
      rw [HN1.out]
      have HC5 := Lib.hid (HC.out.trans hc5)
      have hst : (fun W : World => W.cell? ⟨u, 2, none⟩ = some (.slice (some ⟨b', off, none⟩) ll cL) ∧ W.cell? ⟨b', off + k, none⟩ = some (.slice x.a N1 x.c) ∧ Ro W w5.heap.size a3 (u8s r) ∧ Ro W wr.heap.size x.a (u8s r)) w5.drew :=
        ⟨hc5.cell k2 (by simp), hc5.cell hcell (by simp), hro.chgs (Chg.refl [] w5).drew (by simp), HEL2.out.chgs (hc5.drew) (by simp)⟩
      dsimp only
      clear HRD hv hro hc5 k2 hcell
      go_wp2_with fail
      refine wp_region_held_drew (S := (fun W : World => W.cell? ⟨u, 2, none⟩ = some (.slice (some ⟨b', off, none⟩) ll cL) ∧ W.cell? ⟨b', off + k, none⟩ = some (.slice x.a N1 x.c) ∧ Ro W w5.heap.size a3 (u8s r) ∧ Ro W wr.heap.size x.a (u8s r))) (by kernel_rfl) hst (fun hHeld => ?_)
      refine wpAnyH_take (i := 0) (v := ?_) rfl (by kernel_rfl) (by kernel_rfl) (by kernel_rfl) (fun _ _ _ h => h) (Or.inl ⟨by kernel_rfl, ?_⟩) hHeld ?_
      rotate_left
      · (intro w hSw; first | (go_simp; done) | (go_simp; with_reducible rfl))
      (try simp only [Act.put, List.getElem_toArray, List.getElem_cons_succ, List.getElem_cons_zero, List.setIfInBounds_toArray, List.set_cons_zero, List.set_cons_succ])
      refine wpAnyH_take (i := 1) (v := ?_) rfl (by kernel_rfl) (by kernel_rfl) (by kernel_rfl) (fun _ _ _ h => h) (Or.inl ⟨by kernel_rfl, ?_⟩) hHeld ?_
      rotate_left
      · (intro w hSw; first | (go_simp; done) | (go_simp; with_reducible rfl))
      (try simp only [Act.put, List.getElem_toArray, List.getElem_cons_succ, List.getElem_cons_zero, List.setIfInBounds_toArray, List.set_cons_zero, List.set_cons_succ])
      refine wpAnyH_take (i := 2) (v := ?_) rfl (by kernel_rfl) (by kernel_rfl) (by kernel_rfl) (fun _ _ _ h => h) (Or.inl ⟨by kernel_rfl, ?_⟩) hHeld ?_
      rotate_left
      · (intro w hSw; first | (go_simp; done) | (go_simp; with_reducible rfl))
      (try simp only [Act.put, List.getElem_toArray, List.getElem_cons_succ, List.getElem_cons_zero, List.setIfInBounds_toArray, List.set_cons_zero, List.set_cons_succ])
      refine wpAnyH_take (i := 3) (v := ?_) rfl (by kernel_rfl) (by kernel_rfl) (by kernel_rfl) (fun _ _ _ h => h) (Or.inl ⟨by kernel_rfl, ?_⟩) hHeld ?_
      rotate_left
      · (intro w hSw; first | (go_simp; done) | (go_simp; with_reducible rfl))
      (try simp only [Act.put, List.getElem_toArray, List.getElem_cons_succ, List.getElem_cons_zero, List.setIfInBounds_toArray, List.set_cons_zero, List.set_cons_succ])
      refine wpAnyH_take (i := 4) (v := .string ⟨r.toArray⟩) rfl (by kernel_rfl) (by kernel_rfl) (by kernel_rfl) (fun _ _ _ h => h) (Or.inl ⟨by kernel_rfl, ?_⟩) hHeld ?_
      · (intro w hSw; have hcv := conv_ro (c := c4) hSw.2.2.1 HN1.out; go_simp)
      (try simp only [Act.put, List.getElem_toArray, List.getElem_cons_succ, List.getElem_cons_zero, List.setIfInBounds_toArray, List.set_cons_zero, List.set_cons_succ])
      refine wpAnyH_take (i := 5) (v := ?_) rfl (by kernel_rfl) (by kernel_rfl) (by kernel_rfl) (fun _ _ _ h => h) (Or.inl ⟨by kernel_rfl, ?_⟩) hHeld ?_
      rotate_left
      · (intro w hSw; first | (go_simp; done) | (go_simp; with_reducible rfl))
      (try simp only [Act.put, List.getElem_toArray, List.getElem_cons_succ, List.getElem_cons_zero, List.setIfInBounds_toArray, List.set_cons_zero, List.set_cons_succ])
      refine wpAnyH_take (i := 6) (v := ?_) rfl (by kernel_rfl) (by kernel_rfl) (by kernel_rfl) (fun _ _ _ h => h) (Or.inl ⟨by kernel_rfl, ?_⟩) hHeld ?_
      rotate_left
      · (intro w hSw; first | (go_simp; done) | (go_simp; with_reducible rfl))
      (try simp only [Act.put, List.getElem_toArray, List.getElem_cons_succ, List.getElem_cons_zero, List.setIfInBounds_toArray, List.set_cons_zero, List.set_cons_succ])
      refine wpAnyH_take (i := 7) (v := ?_) rfl (by kernel_rfl) (by kernel_rfl) (by kernel_rfl) (fun _ _ _ h => h) (Or.inl ⟨by kernel_rfl, ?_⟩) hHeld ?_
      rotate_left
      · (intro w hSw; first | (go_simp; done) | (go_simp; with_reducible rfl))
      (try simp only [Act.put, List.getElem_toArray, List.getElem_cons_succ, List.getElem_cons_zero, List.setIfInBounds_toArray, List.set_cons_zero, List.set_cons_succ])
      refine wpAnyH_take (i := 8) (v := ?_) rfl (by kernel_rfl) (by kernel_rfl) (by kernel_rfl) (fun _ _ _ h => h) (Or.inl ⟨by kernel_rfl, ?_⟩) hHeld ?_
      rotate_left
      · (intro w hSw; first | (go_simp; done) | (go_simp; with_reducible rfl))
      (try simp only [Act.put, List.getElem_toArray, List.getElem_cons_succ, List.getElem_cons_zero, List.setIfInBounds_toArray, List.set_cons_zero, List.set_cons_succ])
      refine wpAnyH_take (i := 9) (v := ?_) rfl (by kernel_rfl) (by kernel_rfl) (by kernel_rfl) (fun _ _ _ h => h) (Or.inl ⟨by kernel_rfl, ?_⟩) hHeld ?_
      rotate_left
      · (intro w hSw; first | (go_simp; done) | (go_simp; with_reducible rfl))
      (try simp only [Act.put, List.getElem_toArray, List.getElem_cons_succ, List.getElem_cons_zero, List.setIfInBounds_toArray, List.set_cons_zero, List.set_cons_succ])
      refine wpAnyH_take (i := 10) (v := ?_) rfl (by kernel_rfl) (by kernel_rfl) (by kernel_rfl) (fun _ _ _ h => h) (Or.inl ⟨by kernel_rfl, ?_⟩) hHeld ?_
      rotate_left
      · (intro w hSw; first | (go_simp; done) | (go_simp; with_reducible rfl))
      (try simp only [Act.put, List.getElem_toArray, List.getElem_cons_succ, List.getElem_cons_zero, List.setIfInBounds_toArray, List.set_cons_zero, List.set_cons_succ])
      refine wpAnyH_take (i := 11) (v := ?_) rfl (by kernel_rfl) (by kernel_rfl) (by kernel_rfl) (fun _ _ _ h => h) (Or.inl ⟨by kernel_rfl, ?_⟩) hHeld ?_
      rotate_left
      · (intro w hSw; first | (go_simp; done) | (go_simp; with_reducible rfl))
      (try simp only [Act.put, List.getElem_toArray, List.getElem_cons_succ, List.getElem_cons_zero, List.setIfInBounds_toArray, List.set_cons_zero, List.set_cons_succ])
      refine wpAnyH_take (i := 12) (v := .string ⟨r.toArray⟩) rfl (by kernel_rfl) (by kernel_rfl) (by kernel_rfl) (fun _ _ _ h => h) (Or.inl ⟨by kernel_rfl, ?_⟩) hHeld ?_
      · (intro w hSw; have hcv := conv_ro (c := x.c) hSw.2.2.2 HN1.out; go_simp)
      (try simp only [Act.put, List.getElem_toArray, List.getElem_cons_succ, List.getElem_cons_zero, List.setIfInBounds_toArray, List.set_cons_zero, List.set_cons_succ])
      refine wpAnyH_take (i := 13) (v := ?_) rfl (by kernel_rfl) (by kernel_rfl) (by kernel_rfl) (fun _ _ _ h => h) (Or.inl ⟨by kernel_rfl, ?_⟩) hHeld ?_
      rotate_left
      · (intro w hSw; first | (go_simp; done) | (go_simp; with_reducible rfl))
      (try simp only [Act.put, List.getElem_toArray, List.getElem_cons_succ, List.getElem_cons_zero, List.setIfInBounds_toArray, List.set_cons_zero, List.set_cons_succ])
      refine wpAnyH_take (i := 14) (v := ?_) rfl (by kernel_rfl) (by kernel_rfl) (by kernel_rfl) (fun _ _ _ h => h) (Or.inl ⟨by kernel_rfl, ?_⟩) hHeld ?_
      rotate_left
      · (intro w hSw; first | (go_simp; done) | (go_simp; with_reducible rfl))
      (try simp only [Act.put, List.getElem_toArray, List.getElem_cons_succ, List.getElem_cons_zero, List.setIfInBounds_toArray, List.set_cons_zero, List.set_cons_succ])
      refine wpAnyH_done (by kernel_rfl) ?_ _
      have hEnd := hHeld
      have HC6 := Lib.hid HC5.out.drew
      clear hEnd hHeld hst
      go_wp2_with fail
      go_roundw
      case rel => exact ⟨k + 1, by omega, by go_num, HC6⟩
      case measure => simp [intOf]; omega
    · have hd : decide (k < ll) = false := by simpa using hlt
      have hk1 : ¬ ((k : Int) < (ll : Int)) := by omega
      clear htr
      go_wp2_with fail
      go_ret
      exact ⟨rfl, HC.out⟩
end
end Go.Proofs.YtdiemejdbakffaaGreat
