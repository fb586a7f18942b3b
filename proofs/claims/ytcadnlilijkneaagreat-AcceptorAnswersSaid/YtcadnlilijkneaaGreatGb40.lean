/-
  Accept of an acceptor: refused, or done as change does. No claim of its own.
-/
import Derived.Test.YtcadnlilijkneaaGreatGb39
namespace Go.Proofs.YtcadnlilijkneaaGreat
open Go.RowKit Go.Maps Go.Shelf Go.Deep
set_option linter.unusedVariables false
set_option linter.unusedSimpArgs false

theorem Acs.wide {w : World} {B B' : Nat → Prop} {u mp q : Nat} {l : List Nat} {p g b n : Nat} {X : TS} {S : AS} (A : Acs w B u mp q l p g b n X S) (h : ∀ x, B x → B' x) : Acs w B' u mp q l p g b n X S := by
  obtain ⟨V, h1, h2⟩ := A.map
  exact ⟨A.own, A.td, ⟨V, h1, h2.mono fun x _ hx => ⟨h x hx.1, hx.2⟩⟩, A.gd, A.um, A.ul, A.ml⟩
def AcO (w : World) (B : Nat → Prop) (u mp q : Nat) (l : List Nat) (p g b n : Nat) (code : Int) (s : Es) (T2 : AT) (e : Ending) (w' : World) : Prop :=
  ∃ B' : Nat → Prop, (∀ x, B x → B' x) ∧ (∀ x, B' x → B x ∨ w.heap.size ≤ x) ∧ (∀ x, B' x → x < w'.heap.size) ∧ ChO w B' u mp q l p g b n code s T2 e w'
def AbS (g0 : Nat) (b1 b2 : Int) (ye : Nat) (ya : Option Addr) (yn yc : Nat) (yq : Int) (W : World) : Prop :=
  W.cell? ⟨g0, 0, none⟩ = some (.int .i64 b1) ∧ W.cell? ⟨g0, 1, none⟩ = some (.int .i64 b2) ∧ W.cell? ⟨g0 + 1, 0, none⟩ = some (.int .u64 (ye : Int)) ∧ W.cell? ⟨g0 + 1, 1, none⟩ = some (.slice ya yn yc) ∧ W.cell? ⟨g0 + 1, 2, none⟩ = some (.int .i64 yq)
theorem AbS.step {g0 : Nat} {b1 b2 : Int} {ye : Nat} {ya : Option Addr} {yn yc : Nat} {yq : Int} {m : List Nat} {W W' : World} (h : AbS g0 b1 b2 ye ya yn yc yq W) (hc : Chg m W W') (h1 : g0 ∉ m) (h2 : g0 + 1 ∉ m) : AbS g0 b1 b2 ye ya yn yc yq W' := by
  obtain ⟨k0, k1, k2, k3, k4⟩ := h
  exact ⟨hc.cell k0 h1, hc.cell k1 h1, hc.cell k2 h2, hc.cell k3 h2, hc.cell k4 h2⟩
set_option maxHeartbeats 4000000 in
set_option maxRecDepth 100000 in
theorem Accept_go (w : World) {B : Nat → Prop} {u mp q : Nat} {l : List Nat} {p g b n : Nat} {T0 : AT} (A : Acs w B u mp q l p g b n (atS T0) T0.S) (hB : ∀ x, B x → x < w.heap.size) (e : Nat) (bt : Bt) (Y : LyT) (h1 : ep0 e = true) (h2 : btOk bt = true) (h3 : Y.e = e) (h4 : lright Y.x = true) (hy : LyIn w w.heap.size Y) (code : Int) (s : Es) (T2 : AT)
    (hno : bt.less (T0.S.at e).p = true → code = 121 ∧ s = T0.S.at e ∧ T2 = T0)
    (hgo : bt.less (T0.S.at e).p = false → ∀ W B' Y', Chg [] w W → (∀ x, B x → B' x) → (∀ x, B' x → x < W.heap.size) → Acs W B' u mp q l p g b n (atS T0) T0.S → LyP W (fun x => B' x ∧ x ∉ acM u mp p g b l) Y' → LyS Y' → Y'.x = Y.x → Calls Tryz.prog 97 #[.pointer (some ⟨u, 0, none⟩), RcT.val ⟨true, e, bt, Y'⟩] W (ChO W B' u mp q l p g b n code s T2)) :
    Calls Tryz.prog 50 #[.pointer (some ⟨u, 0, none⟩), .int .u64 (e : Int), btv bt, Y.val] w (AcO w B u mp q l p g b n code s T2) := by
  have he : e < 18446744073709551616 := by have : ep0 e = true := h1; unfold ep0 at this; have := of_decide_eq_true this; omega
  obtain ⟨V, hV, hV2⟩ := A.map
  obtain ⟨T, hT1, hT2, hT3, hT4⟩ := hV2.get e
  obtain ⟨b1, b2⟩ := bt
  have hsm := LySm.of h4
  obtain ⟨W, HW⟩ : ∃ W, Hid (((w.alloc (.cells #[.int .i64 b1, .int .i64 b2] 48)).alloc (.cells #[.int .u64 (Y.e : Int), .slice Y.a Y.sg.length Y.c, .int .i64 Y.q] 26)).alloc (.cells #[.int .i64 0, .int .i64 0, .int .i64 0, .int .i64 0, .int .u64 0, .slice none 0 0, .int .i64 0] 116) = W) := ⟨_, Lib.hid rfl⟩
  have hc : Chg [] w W := by rw [← HW.out]; exact (((Chg.refl [] w).alloc _).alloc _).alloc _
  have hsz : W.heap.size = w.heap.size + 3 := by rw [← HW.out]; simp
  have hb : Own W w.heap.size 48 [.int .i64 b1, .int .i64 b2] := by rw [← HW.out]; exact ((Own.new w _ _).alloc _).alloc _
  have hl : Own W (w.heap.size + 1) 26 [.int .u64 (Y.e : Int), .slice Y.a Y.sg.length Y.c, .int .i64 Y.q] := by
    rw [← HW.out]
    have := (Own.new (w.alloc (.cells #[.int .i64 b1, .int .i64 b2] 48)) 26 [.int .u64 (Y.e : Int), .slice Y.a Y.sg.length Y.c, .int .i64 Y.q]).alloc (.cells zEc.toArray 116)
    simpa using this
  have hr : Own W (w.heap.size + 1 + 1) 116 zEc := by
    rw [← HW.out]
    have := Own.new ((w.alloc (.cells #[.int .i64 b1, .int .i64 b2] 48)).alloc (.cells #[.int .u64 (Y.e : Int), .slice Y.a Y.sg.length Y.c, .int .i64 Y.q] 26)) 116 zEc
    simpa using this
  have HE := isEpoch_any e W he
  have HBB := fun W' => isBallot_any (b1, b2) W'
  have HIL := fun W' (h9 : Chg [] w W') => isLayout_any e Y w.heap.size W' (hy.below h9.low (Nat.le_refl _)) h9.size hsm.fit
  rw [h1] at HE
  rw [h2] at HBB
  rw [decide_eq_true h3, h4] at HIL
  have HE := Lib.hid HE
  have HBB := Lib.hid HBB
  have HIL := Lib.hid HIL
  have HLT := Lib.hid (fun W' => aLess_any (b1, b2) T.p W')
  have hTp : (T0.S.at e).p = T.p := by rw [hT1]; rfl
  rw [hTp] at hno hgo
  have HLK : Hid (∀ W', Chg [] W W' → (Instr.lookup 152 (.map (some mp)) (.int .u64 (e : Int)) false).run Tryz.prog W' = .ok T.val W') := Lib.hid (fun W' hW => by
    have h9 := (hV.kept (hc.trans hW)).look1 (t := 152) (e := 116) Tryz.underlying152 (z := zEs.val) (by kernel_rfl) he
    rw [hT2] at h9
    exact h9)
  have HST : Hid (∀ W', Chg [] w W' → Calls Tryz.prog 96 #[.pointer (some ⟨u, 0, none⟩), .int .u64 (e : Int)] W' fun r w' => ∃ T' : EsT, r = .returned T'.val ∧ T'.x = T.x ∧ LyP w' (fun x => W'.heap.size ≤ x) T'.y ∧ LyS T'.y ∧ Chg [] W' w') := Lib.hid (fun W' h9 => state_any W' (A.own.chg h9 (by simp)) (hV.kept h9) e he T _ hT2 (hT3.chg h9 (by simp)) hT4)
  have HCP : Hid (∀ W', Chg [] w W' → Calls Tryz.prog 59 #[Y.val] W' fun e w' => ∃ A' : LyT, e = .returned A'.val ∧ A'.x = Y.x ∧ LyP w' (fun x => W'.heap.size ≤ x) A' ∧ LyS A' ∧ Chg [] W' w') := Lib.hid (fun W' h9 => copyA_any Y (fun x => x < w.heap.size) W' ((hy.lyP (Nat.le_refl _)).chg h9 (by simp)) (.inr hsm))
  obtain ⟨_, d1⟩ := (A.own.chg hc (by simp)).two
  have HS0 : Hid (PrS u mp w.heap.size e b1 b2 T.val W W) := Lib.hid ⟨d1, by rw [hb.cell]; rfl, by rw [hb.cell]; rfl, HLK.out W (Chg.refl _ _), Chg.refl _ _⟩
  have HAB : Hid (AbS w.heap.size b1 b2 Y.e Y.a Y.sg.length Y.c Y.q W) := Lib.hid ⟨by rw [hb.cell]; rfl, by rw [hb.cell]; rfl, by rw [hl.cell]; rfl, by rw [hl.cell]; rfl, by rw [hl.cell]; rfl⟩
  have c0 := hb.cell 0
  have c1 := hb.cell 1
  have HLO := Lib.hid hl
  simp at c0 c1
  have HR := Lib.hid (And.intro hr hsz)
  have HC := Lib.hid hc
  have HA := Lib.hid (And.intro A hB)
  have HTX := Lib.hid hT1
  have HNO := Lib.hid hno
  have HGO := Lib.hid hgo
  clear A hB hV hV2 hT1 hT2 hT3 hT4 hc hb hl hr hsz hno hgo h1 h2 h3 h4 hy hsm he hTp d1
  obtain ⟨t, ht⟩ : ∃ t, Hid (Bt.less (b1, b2) T.p = t) := ⟨_, Lib.hid rfl⟩
  rw [ht.out] at HLT HNO HGO
  obtain ⟨⟨t1, t2⟩, ⟨t3, t4⟩, ⟨te, ta, tc, ts, tq⟩⟩ := T
  obtain ⟨ye, ya, yc, ys, yq⟩ := Y
  simp only [EsT.val, LyT.val] at HLK HS0 HLT HIL HCP HW HLO HAB ⊢
  obtain ⟨tn, htn⟩ : ∃ n, Hid (ts.length = n) := ⟨_, Lib.hid rfl⟩
  obtain ⟨yn, hyn⟩ : ∃ n, Hid (ys.length = n) := ⟨_, Lib.hid rfl⟩
  rw [htn.out] at HLK HS0
  rw [hyn.out] at HIL HCP HW HLO HAB ⊢
  go_enter Tryz.func50, Tryz.ntmps50
  go_upto_region 1 with fail
  rw [HW.out]
  go_upto_region 3 with (first | (go_at_call 94; refine HE.out.mono ?_; rintro r w2 ⟨rfl, hw⟩; have hw2 := hw.symm; subst hw2) | (go_at_call 95; refine (HBB.out _).mono ?_; rintro r w3 ⟨rfl, hc3⟩; have HC3 := Lib.hid hc3; have hl3 := HLO.out.chg hc3 (by simp); have e0 := hl3.cell 0; have e1 := hl3.cell 1; have e2 := hl3.cell 2; simp at e0 e1 e2; clear hc3 hl3) | (go_at_call 98; refine (HIL.out _ (HC.out.trans HC3.out)).mono ?_; rintro r w5 ⟨rfl, hc5⟩; have HC5 := Lib.hid (HC3.out.trans hc5); clear hc5 e0 e1 e2) | fail)
  have HS3 := Lib.hid (HS0.out.step HLK HC5.out)
  clear c0 c1
  refine wp_region_held_drew (S := (fun W' : World => W'.cell? ⟨u, 1, none⟩ = some (.map (some mp)) ∧ W'.cell? ⟨w.heap.size, 0, none⟩ = some (.int .i64 b1) ∧ W'.cell? ⟨w.heap.size, 1, none⟩ = some (.int .i64 b2) ∧ (Instr.lookup 152 (.map (some mp)) (.int .u64 (e : Int)) false).run Tryz.prog W' = .ok (.agg #[.int .i64 t1, .int .i64 t2, .int .i64 t3, .int .i64 t4, .int .u64 (te : Int), .slice ta tn tc, .int .i64 tq]) W' ∧ Chg [] W W')) (by kernel_rfl) (by have h9 := HS3.out.step HLK (Chg.refl [] w5).drew; exact h9) (fun hHeld => ?_)
  refine wpAnyH_take (i := 0) (v := ?_) rfl (by kernel_rfl) (by kernel_rfl) (by kernel_rfl) (fun _ _ _ h => h) (Or.inl ⟨by kernel_rfl, ?_⟩) hHeld ?_
  rotate_left
  · (intro w hSw; first | (go_simp; done) | (go_simp; with_reducible rfl))
  (try simp only [Act.put, List.getElem_toArray, List.getElem_cons_succ, List.getElem_cons_zero, List.setIfInBounds_toArray, List.set_cons_zero, List.set_cons_succ])
  refine wpAnyH_take (i := 1) (v := ?_) rfl (by kernel_rfl) (by kernel_rfl) (by kernel_rfl) (fun _ _ _ h => h) (Or.inl ⟨by kernel_rfl, ?_⟩) hHeld ?_
  rotate_left
  · (intro w hSw; first | (go_simp; done) | (go_simp; with_reducible rfl))
  (try simp only [Act.put, List.getElem_toArray, List.getElem_cons_succ, List.getElem_cons_zero, List.setIfInBounds_toArray, List.set_cons_zero, List.set_cons_succ])
  refine wpAnyH_take (i := 2) (v := ?_) rfl (by kernel_rfl) (by kernel_rfl) (by kernel_rfl) (fun _ _ _ h => h) (Or.inl ⟨by kernel_rfl, ?_⟩) hHeld ?_
  rotate_left
  · (intro w hSw; first | (go_simp; done) | (go_simp; with_reducible rfl))
  (try simp only [Act.put, List.getElem_toArray, List.getElem_cons_succ, List.getElem_cons_zero, List.setIfInBounds_toArray, List.set_cons_zero, List.set_cons_succ])
  refine wpAnyH_take (i := 3) (v := ?_) rfl (by kernel_rfl) (by kernel_rfl) (by kernel_rfl) (fun _ _ _ h => h) (Or.inl ⟨by kernel_rfl, ?_⟩) hHeld ?_
  rotate_left
  · (intro w hSw; first | (go_simp; done) | (go_simp; with_reducible rfl))
  (try simp only [Act.put, List.getElem_toArray, List.getElem_cons_succ, List.getElem_cons_zero, List.setIfInBounds_toArray, List.set_cons_zero, List.set_cons_succ])
  refine wpAnyH_take (i := 4) (v := ?_) rfl (by kernel_rfl) (by kernel_rfl) (by kernel_rfl) (fun _ _ _ h => h) (Or.inl ⟨by kernel_rfl, ?_⟩) hHeld ?_
  rotate_left
  · (intro w hSw; first | (go_simp; done) | (go_simp; with_reducible rfl))
  (try simp only [Act.put, List.getElem_toArray, List.getElem_cons_succ, List.getElem_cons_zero, List.setIfInBounds_toArray, List.set_cons_zero, List.set_cons_succ])
  refine wpAnyH_take (i := 5) (v := ?_) rfl (by kernel_rfl) (by kernel_rfl) (by kernel_rfl) (fun _ _ _ h => h) (Or.inl ⟨by kernel_rfl, ?_⟩) hHeld ?_
  rotate_left
  · (intro w hSw; first | (go_simp; done) | (go_simp; with_reducible rfl))
  (try simp only [Act.put, List.getElem_toArray, List.getElem_cons_succ, List.getElem_cons_zero, List.setIfInBounds_toArray, List.set_cons_zero, List.set_cons_succ])
  refine wpAnyH_take (i := 6) (v := ?_) rfl (by kernel_rfl) (by kernel_rfl) (by kernel_rfl) (fun _ _ _ h => h) (Or.inl ⟨by kernel_rfl, ?_⟩) hHeld ?_
  rotate_left
  · (intro w hSw; first | (go_simp; done) | (go_simp; with_reducible rfl))
  (try simp only [Act.put, List.getElem_toArray, List.getElem_cons_succ, List.getElem_cons_zero, List.setIfInBounds_toArray, List.set_cons_zero, List.set_cons_succ])
  refine wpAnyH_take (i := 7) (v := (.agg #[.int .i64 t1, .int .i64 t2])) rfl (by kernel_rfl) (by kernel_rfl) (by kernel_rfl) (fun _ _ _ h => h) (Or.inl ⟨by kernel_rfl, ?_⟩) hHeld ?_
  · (intro w hSw; go_simp; rw [run_fieldP]; rfl)
  (try simp only [Act.put, List.getElem_toArray, List.getElem_cons_succ, List.getElem_cons_zero, List.setIfInBounds_toArray, List.set_cons_zero, List.set_cons_succ])
  refine wpAnyH_ready (rs := [8]) (by kernel_rfl) (by simp) (AllReadyH.cons rfl (fun K hK => ?_) AllReadyH.nil)
  have hH := hHeld
  (go_simp; go_at_call 46; refine (HLT.out _).mono ?_; rintro r w4 ⟨rfl, hc4⟩)
  refine hK.out _ _ (by exact PrS.step HLK hH hc4) (fun hHq1 => ?_)
  clear hK K hH 
  (try simp only [Act.put, List.getElem_toArray, List.getElem_cons_succ, List.getElem_cons_zero, List.setIfInBounds_toArray, List.set_cons_zero, List.set_cons_succ])
  refine wpAnyH_take (i := 9) (v := ?_) rfl (by kernel_rfl) (by kernel_rfl) (by kernel_rfl) (fun _ _ _ h => h) (Or.inl ⟨by kernel_rfl, ?_⟩) hHq1 ?_
  rotate_left
  · (intro w hSw; first | (go_simp; done) | (go_simp; with_reducible rfl))
  (try simp only [Act.put, List.getElem_toArray, List.getElem_cons_succ, List.getElem_cons_zero, List.setIfInBounds_toArray, List.set_cons_zero, List.set_cons_succ])
  refine wpAnyH_done (by kernel_rfl) ?_ _
  have hEnd := hHq1
  have HS4 := Lib.hid hEnd
  have HC4 : Hid (Chg [] W w4) := Lib.hid hEnd.2.2.2.2
  have hr4 := HR.out.1.chg HC4.out (by simp)
  have HR4 := Lib.hid hr4
  have HAB4 := Lib.hid (HAB.out.step (m := []) HC4.out (by simp) (by simp))
  clear hHeld hEnd hc4
  cases t with
  | true =>
    obtain ⟨rfl, rfl, rfl⟩ := HNO.out rfl
    clear HGO HNO
    go_wp2_with (first
      | (go_at_call 96; refine (HST.out _ (HC.out.trans HC4.out)).mono ?_; rintro r w7 ⟨⟨⟨y1, y2⟩, ⟨y3, y4⟩, ⟨ze, za, zc, zs, zq⟩⟩, rfl, hx7, hl7, hs7, hc7⟩
         obtain ⟨zn, hzn⟩ : ∃ n, Hid (zs.length = n) := ⟨_, Lib.hid rfl⟩
         simp only [EsT.val, hzn.out]
         have ho7 := hr4.chg hc7 (by simp)
         have H7 := Lib.hid (And.intro hx7 (And.intro hl7 (And.intro hs7 hc7)))
         have HO7 := Lib.hid ho7
         have d0 := ho7.cell 0
         have f0 := ho7.frozen 0
         have d1 := ho7.cell 1
         have f1 := ho7.frozen 1
         have d2 := ho7.cell 2
         have f2 := ho7.frozen 2
         have d3 := ho7.cell 3
         have f3 := ho7.frozen 3
         have d4 := ho7.cell 4
         have f4 := ho7.frozen 4
         have d5 := ho7.cell 5
         have f5 := ho7.frozen 5
         have d6 := ho7.cell 6
         have f6 := ho7.frozen 6
         simp at d0 d1 d2 d3 d4 d5 d6
         clear ho7 hx7 hl7 hs7 hc7)
      | fail)
    have H9 := Lib.hid (Own.put7 HO7.out (.int .i64 y1) (.int .i64 y2) (.int .i64 y3) (.int .i64 y4) (.int .u64 (ze : Int)) (.slice za zn zc) (.int .i64 zq))
    have hc9 := (Chg.refl [w.heap.size + 1 + 1] w7).put7 (g := w.heap.size + 1 + 1) (by simp) (.int .i64 y1) (.int .i64 y2) (.int .i64 y3) (.int .i64 y4) (.int .u64 (ze : Int)) (.slice za zn zc) (.int .i64 zq)
    refine bodyPost_ret (results_row_tmp Tryz.results50 _ _ (w.heap.size + 1 + 1) 116 _ (0, 0) _ rfl H9.out Tryz.underlying116 rfl (by kernel_rfl)) rfl ?_
    have hcw4 := HC.out.trans HC4.out
    have hmw := HA.out.1.mlt
    have hsz := HR.out.2
    have hs4 := HC4.out.size
    have hs9 := hc9.size
    have hs7 := H7.out.2.2.2.size
    refine ⟨B, fun x hx => hx, fun x hx => .inl hx, fun x hx => by have := HA.out.2 x hx; omega, ⟨(y1, y2), (y3, y4), ⟨ze, za, zc, zs, zq⟩⟩, by simp only [EsT.val, hzn.out]; rfl, l, Lib.hid ?_⟩
    exact ChO.poke (W := w4) hcw4 hmw ⟨by rw [H7.out.1, HTX.out], H7.out.2.1.mono (fun x _ hx => ⟨hx, fun hm => by have := hmw x hm; have := hcw4.size; omega, fun hm => by have := HA.out.2 x hm; have := hcw4.size; omega⟩), H7.out.2.2.1, HA.out.1.kept (hcw4.trans H7.out.2.2.2), fun x hx => .inl hx, H7.out.2.2.2.mono (by simp)⟩ (fun x hx => by have := HA.out.2 x hx; omega) (by omega) (by omega) hc9
  | false =>
    have HGOF := Lib.hid (HGO.out rfl)
    have HNM : Hid (∀ y, w.heap.size ≤ y → y ∉ mp :: l ++ [g, b]) := Lib.hid (fun y hy hx => by have := HA.out.1.mlt y (by unfold acM; simp only [List.mem_append, List.mem_cons, List.not_mem_nil, or_false] at hx ⊢; rcases hx with (hx | hx) | hx | hx <;> simp [hx]); omega)
    clear HGO HNO
    go_upto_region 5 with fail
    refine wp_region_held_drew (S := (fun W' : World => W'.cell? ⟨w.heap.size, 0, none⟩ = some (.int .i64 b1) ∧ W'.cell? ⟨w.heap.size, 1, none⟩ = some (.int .i64 b2) ∧ W'.cell? ⟨w.heap.size + 1, 0, none⟩ = some (.int .u64 (ye : Int)) ∧ W'.cell? ⟨w.heap.size + 1, 1, none⟩ = some (.slice ya yn yc) ∧ W'.cell? ⟨w.heap.size + 1, 2, none⟩ = some (.int .i64 yq))) (by kernel_rfl) (by have h9 := HAB4.out.step (m := []) (Chg.refl [] w4).drew (by simp) (by simp); exact h9) (fun hHeld => ?_)
    refine wpAnyH_take (i := 0) (v := ?_) rfl (by kernel_rfl) (by kernel_rfl) (by kernel_rfl) (fun _ _ _ h => h) (Or.inl ⟨by kernel_rfl, ?_⟩) hHeld ?_
    rotate_left
    · (intro w hSw; first | (go_simp; done) | (go_simp; with_reducible rfl))
    (try simp only [Act.put, List.getElem_toArray, List.getElem_cons_succ, List.getElem_cons_zero, List.setIfInBounds_toArray, List.set_cons_zero, List.set_cons_succ])
    refine wpAnyH_take (i := 1) (v := ?_) rfl (by kernel_rfl) (by kernel_rfl) (by kernel_rfl) (fun _ _ _ h => h) (Or.inl ⟨by kernel_rfl, ?_⟩) hHeld ?_
    rotate_left
    · (intro w hSw; first | (go_simp; done) | (go_simp; with_reducible rfl))
    (try simp only [Act.put, List.getElem_toArray, List.getElem_cons_succ, List.getElem_cons_zero, List.setIfInBounds_toArray, List.set_cons_zero, List.set_cons_succ])
    refine wpAnyH_take (i := 2) (v := ?_) rfl (by kernel_rfl) (by kernel_rfl) (by kernel_rfl) (fun _ _ _ h => h) (Or.inl ⟨by kernel_rfl, ?_⟩) hHeld ?_
    rotate_left
    · (intro w hSw; first | (go_simp; done) | (go_simp; with_reducible rfl))
    (try simp only [Act.put, List.getElem_toArray, List.getElem_cons_succ, List.getElem_cons_zero, List.setIfInBounds_toArray, List.set_cons_zero, List.set_cons_succ])
    refine wpAnyH_take (i := 3) (v := ?_) rfl (by kernel_rfl) (by kernel_rfl) (by kernel_rfl) (fun _ _ _ h => h) (Or.inl ⟨by kernel_rfl, ?_⟩) hHeld ?_
    rotate_left
    · (intro w hSw; first | (go_simp; done) | (go_simp; with_reducible rfl))
    (try simp only [Act.put, List.getElem_toArray, List.getElem_cons_succ, List.getElem_cons_zero, List.setIfInBounds_toArray, List.set_cons_zero, List.set_cons_succ])
    refine wpAnyH_ready (rs := [4]) (by kernel_rfl) (by simp) (AllReadyH.cons rfl (fun K hK => ?_) AllReadyH.nil)
    have hH := hHeld
    (go_simp; go_at_call 59; refine (HCP.out _ (HC.out.trans HC4.out).drew).mono ?_; rintro r w6 ⟨⟨xe, xa, xc, xs, xq⟩, rfl, hx6, hl6, hs6, hc6⟩; obtain ⟨xn, hxn⟩ : ∃ n, Hid (xs.length = n) := ⟨_, Lib.hid rfl⟩; simp only [LyT.val, hxn.out])
    refine hK.out _ _ (by exact AbS.step hH hc6 (by simp) (by simp)) (fun hHq1 => ?_)
    clear hK K hH 
    have HC6 := Lib.hid (HC4.out.drew.trans hc6); have HCW := Lib.hid (HC.out.trans HC6.out); have HCH := Lib.hid (HGOF.out w6 (fun x => B x ∨ (w4.heap.size ≤ x ∧ x < w6.heap.size)) ⟨xe, xa, xc, xs, xq⟩ HCW.out (fun x hx => .inl hx) (fun x hx => by rcases hx with hx | hx; exact Nat.lt_of_lt_of_le (HA.out.2 x hx) HCW.out.size; exact hx.2) ((HA.out.1.kept HCW.out).wide (fun x hx => .inl hx)) (hl6.mono (fun x hx hp => ⟨.inr ⟨hp, hx⟩, fun hm => by have h8 := HA.out.1.mlt x hm; have h7 := (HC.out.trans HC4.out).size; have h6 : w4.heap.size ≤ x := hp; omega⟩)) hs6 hx6); have HR6 := Lib.hid (HR.out.1.chg HC6.out (by simp))
    (try simp only [Act.put, List.getElem_toArray, List.getElem_cons_succ, List.getElem_cons_zero, List.setIfInBounds_toArray, List.set_cons_zero, List.set_cons_succ])
    refine wpAnyH_take (i := 5) (v := ?_) rfl (by kernel_rfl) (by kernel_rfl) (by kernel_rfl) (fun _ _ _ h => h) (Or.inl ⟨by kernel_rfl, ?_⟩) hHq1 ?_
    rotate_left
    · (intro w hSw; first | (go_simp; done) | (go_simp; with_reducible rfl))
    (try simp only [Act.put, List.getElem_toArray, List.getElem_cons_succ, List.getElem_cons_zero, List.setIfInBounds_toArray, List.set_cons_zero, List.set_cons_succ])
    refine wpAnyH_ready (rs := [6]) (by kernel_rfl) (by simp) (AllReadyH.cons rfl (fun K hK => ?_) AllReadyH.nil)
    have hH := hHq1
    (go_simp; (simp only [RcT.val, kn, if_true, hxn.out] at HCH); go_at_call 97; refine HCH.out.mono ?_; rintro r w7 ⟨⟨⟨y1, y2⟩, ⟨y3, y4⟩, ⟨ze, za, zc, zs, zq⟩⟩, rfl, l', H7⟩; obtain ⟨zn, hzn⟩ : ∃ n, Hid (zs.length = n) := ⟨_, Lib.hid rfl⟩; simp only [EsT.val, hzn.out])
    refine hK.out _ _ (by exact AbS.step hH H7.out.2.2.2.2.2 (HNM.out _ (Nat.le_refl _)) (HNM.out _ (Nat.le_succ _))) (fun hHq2 => ?_)
    clear hK K hH hHq1
    have ho7 := HR6.out.chg H7.out.2.2.2.2.2 (HNM.out _ (by omega)); have HO7 := Lib.hid ho7; have d0 := ho7.cell 0; have f0 := ho7.frozen 0; have d1 := ho7.cell 1; have f1 := ho7.frozen 1; have d2 := ho7.cell 2; have f2 := ho7.frozen 2; have d3 := ho7.cell 3; have f3 := ho7.frozen 3; have d4 := ho7.cell 4; have f4 := ho7.frozen 4; have d5 := ho7.cell 5; have f5 := ho7.frozen 5; have d6 := ho7.cell 6; have f6 := ho7.frozen 6; simp at d0 d1 d2 d3 d4 d5 d6; clear ho7
    (try simp only [Act.put, List.getElem_toArray, List.getElem_cons_succ, List.getElem_cons_zero, List.setIfInBounds_toArray, List.set_cons_zero, List.set_cons_succ])
    refine wpAnyH_take (i := 7) (v := ?_) rfl (by kernel_rfl) (by kernel_rfl) (by kernel_rfl) (fun _ _ _ h => h) (Or.inl ⟨by kernel_rfl, ?_⟩) hHq2 ?_
    rotate_left
    · (intro w hSw; first | (go_simp; done) | (go_simp; with_reducible rfl))
    (try simp only [Act.put, List.getElem_toArray, List.getElem_cons_succ, List.getElem_cons_zero, List.setIfInBounds_toArray, List.set_cons_zero, List.set_cons_succ])
    refine wpAnyH_take (i := 8) (v := ?_) rfl (by kernel_rfl) (by kernel_rfl) (by kernel_rfl) (fun _ _ _ h => h) (Or.inl ⟨by kernel_rfl, ?_⟩) hHq2 ?_
    rotate_left
    · (intro w hSw; first | (go_simp; done) | (go_simp; with_reducible rfl))
    (try simp only [Act.put, List.getElem_toArray, List.getElem_cons_succ, List.getElem_cons_zero, List.setIfInBounds_toArray, List.set_cons_zero, List.set_cons_succ])
    refine wpAnyH_ready (rs := [9]) (by kernel_rfl) (by simp) (AllReadyH.cons rfl (fun K hK => ?_) AllReadyH.nil)
    have hH := hHq2
    (go_simp; skip)
    refine hK.out _ _ (by exact AbS.step hH ((Chg.refl [w.heap.size + 1 + 1] w7).put7 (g := w.heap.size + 1 + 1) (by simp) (.int .i64 y1) (.int .i64 y2) (.int .i64 y3) (.int .i64 y4) (.int .u64 (ze : Int)) (.slice za zn zc) (.int .i64 zq)) (fun hx => by simp only [List.mem_singleton] at hx; omega) (fun hx => by simp only [List.mem_singleton] at hx; omega)) (fun hHq3 => ?_)
    clear hK K hH hHq2
    (try simp only [Act.put, List.getElem_toArray, List.getElem_cons_succ, List.getElem_cons_zero, List.setIfInBounds_toArray, List.set_cons_zero, List.set_cons_succ])
    refine wpAnyH_take (i := 10) (v := ?_) rfl (by kernel_rfl) (by kernel_rfl) (by kernel_rfl) (fun _ _ _ h => h) (Or.inl ⟨by kernel_rfl, ?_⟩) hHq3 ?_
    rotate_left
    · (intro w hSw; first | (go_simp; done) | (go_simp; with_reducible rfl))
    (try simp only [Act.put, List.getElem_toArray, List.getElem_cons_succ, List.getElem_cons_zero, List.setIfInBounds_toArray, List.set_cons_zero, List.set_cons_succ])
    refine wpAnyH_done (by kernel_rfl) ?_ _
    have hEnd := hHq3
    clear hEnd hHeld
    go_wp2_with fail
    have H9 := Lib.hid (Own.put7 HO7.out (.int .i64 y1) (.int .i64 y2) (.int .i64 y3) (.int .i64 y4) (.int .u64 (ze : Int)) (.slice za zn zc) (.int .i64 zq))
    have hc9 := (Chg.refl [w.heap.size + 1 + 1] w7).put7 (g := w.heap.size + 1 + 1) (by simp) (.int .i64 y1) (.int .i64 y2) (.int .i64 y3) (.int .i64 y4) (.int .u64 (ze : Int)) (.slice za zn zc) (.int .i64 zq)
    refine bodyPost_ret (results_row_tmp Tryz.results50 _ _ (w.heap.size + 1 + 1) 116 _ (0, 0) _ rfl H9.out Tryz.underlying116 rfl (by kernel_rfl)) rfl ?_
    have hsz := HR.out.2
    have hs4 := HC4.out.size
    have hs6 := HC6.out.size
    have hs7 := H7.out.2.2.2.2.2.size
    have hs9 := hc9.size
    refine ⟨fun x => B x ∨ (w4.heap.size ≤ x ∧ x < w6.heap.size), fun x hx => .inl hx, fun x hx => hx.imp id (fun h9 => by omega), fun x hx => ?_, ⟨(y1, y2), (y3, y4), ⟨ze, za, zc, zs, zq⟩⟩, by simp only [EsT.val, hzn.out]; rfl, l', Lib.hid (ChO.poke HCW.out HA.out.1.mlt H7.out (fun x hx => ?_) (by omega) (by omega) hc9)⟩
    · rcases hx with hx | hx
      · have := HA.out.2 x hx; omega
      · omega
    · rcases hx with hx | hx
      · have := HA.out.2 x hx; omega
      · omega
end Go.Proofs.YtcadnlilijkneaaGreat
namespace Go.Proofs.YtcadnlilijkneaaGreat
open Go.RowKit Go.Maps Go.Shelf Go.Deep
set_option linter.unusedVariables false
set_option linter.unusedSimpArgs false

theorem change_roomO (w : World) {B : Nat → Prop} {u mp q : Nat} {l : List Nat} {p g b n : Nat} {T0 : AT} (A : Acs w B u mp q l p g b n (atS T0) T0.S) (hB : ∀ x, B x → x < w.heap.size)
    (r : RcT) (ho : okA r.x) (ha : allow T0.S r.x = true) (hl : LyP w (fun x => B x ∧ x ∉ acM u mp p g b l) r.y) (hs : LyS r.y) (hfit : (frs T0.L).length + 2 + (encA r.x).length ≤ hsec n * 64) :
    Calls Tryz.prog 97 #[.pointer (some ⟨u, 0, none⟩), r.val] w (ChO w B u mp q l p g b n 0 (behind (T0.S.at r.e) r.x) ⟨cmF n T0.F T0.h T0.h T0.L (T0.L ++ [encA r.x]), T0.h, T0.L ++ [encA r.x], exec T0.S r.x⟩) := by
  refine Calls.mono (R' := _) (change_room w A r ho ha hl hs hfit) ?_
  rintro e w' ⟨T', h1, l', h2⟩
  obtain ⟨g1, g2, g3, g4, g5, g6⟩ := h2.out
  exact ⟨T', h1, l', Lib.hid ⟨g1, g2.mono (fun x _ hx => ⟨hx.1, hx.2, fun hb => by have := hB x hb; omega⟩), g3, g4, g5, g6⟩⟩

def EpsOf (V : Nat → Option Value) (ys : List Nat) : Prop := ys.Pairwise (· < ·) ∧ ∀ x, x ∈ ys ↔ (V x).isSome = true
theorem maps_keys (w : World) (b : Nat) : Calls Tryz.prog 155 #[.map (some b)] w fun e w' => e = .returned (.func (.func 212) #[] #[.pointer (some ⟨w.heap.size, 0, none⟩)]) ∧ w' = w.alloc (.cells #[.map (some b)] 152) := by
  go_enter Tryz.func155, Tryz.ntmps155
  go_wp2_with fail
  go_ret
  exact ⟨rfl, rfl⟩
theorem collect_any (w : World) (Bm b : Nat) (V : Nat → Option Value) (hm : Own w Bm 152 [.map (some b)]) (hv : MapV w b V) :
    Calls Tryz.prog 210 #[.func (.func 212) #[] #[.pointer (some ⟨Bm, 0, none⟩)]] w fun e w' => ∃ (v : Value) (xs : List Nat), e = .returned v ∧ Hid (AllK V xs ∧ Lst w' w.heap.size 23 v (u64s xs)) ∧ Chg [] w w' := by
  have HA := Lib.hid (appendSeq_any w Bm b V hm hv)
  clear hm hv
  go_enter Tryz.func210, Tryz.ntmps210
  go_wp2_with fail
  refine HA.out.mono ?_
  rintro e w2 ⟨v, xs, rfl, h1, h2, h3⟩
  have H := Lib.hid (And.intro h1 h2)
  have H3 := Lib.hid h3
  clear h1 h2 h3
  go_wp2_with fail
  go_ret
  exact ⟨v, xs, rfl, H, H3.out⟩
theorem sortedK_any (w : World) (Bm b : Nat) (V : Nat → Option Value) (hm : Own w Bm 152 [.map (some b)]) (hv : MapV w b V) :
    Calls Tryz.prog 154 #[.func (.func 212) #[] #[.pointer (some ⟨Bm, 0, none⟩)]] w fun e w' => ∃ (v : Value) (ys : List Nat), e = .returned v ∧ Hid (EpsOf V ys ∧ Lst w' w.heap.size 23 v (u64s ys)) ∧ Chg [] w w' := by
  have HA := Lib.hid (collect_any w Bm b V hm hv)
  have HD := Lib.hid hv.dom
  clear hm hv
  go_enter Tryz.func154, Tryz.ntmps154
  go_wp2_with fail
  refine HA.out.mono ?_
  rintro e w2 ⟨v, xs, rfl, H, h3⟩
  have H3 := Lib.hid h3
  have hxl : xs.length ≤ 1048577 := nodup_le H.out.1.1 (fun x hx => by
    obtain ⟨y, hy⟩ := Option.isSome_iff_exists.1 ((H.out.1.2 x).1 hx)
    exact HD.out x y hy)
  have HS := Lib.hid (sort_any w2 w.heap.size v xs H.out.2 hxl)
  clear h3 hxl
  go_wp2_with fail
  refine HS.out.mono ?_
  rintro e w3 ⟨rfl, ys, hp, hs, hl, hc⟩
  have HY := Lib.hid (And.intro hp (And.intro hs (And.intro hl hc)))
  clear hp hs hl hc
  go_wp2_with fail
  go_ret
  obtain ⟨hp, hs, hl, hc⟩ := HY.out
  refine ⟨v, ys, rfl, Lib.hid ⟨⟨?_, fun x => (hp.mem_iff).trans (H.out.1.2 x)⟩, hl⟩, H3.out.then hc (fun x hx => .inr ((H.out.2.lt x (mem_bl.1 hx)).1))⟩
  have hnd : ys.Nodup := (hp.nodup_iff).2 H.out.1.1
  exact (hs.and hnd).imp (fun ⟨h1, h2⟩ => by omega)
theorem epochsOf_any (w : World) (b : Nat) (V : Nat → Option Value) (hv : MapV w b V) :
    Calls Tryz.prog 99 #[.map (some b)] w fun e w' => ∃ (v : Value) (ys : List Nat), e = .returned v ∧ Hid (EpsOf V ys ∧ Lst w' w.heap.size 23 v (u64s ys)) ∧ Chg [] w w' := by
  have hc1 : Chg [] w (w.alloc (.cells #[.map (some b)] 152)) := (Chg.refl [] w).alloc _
  have HS := Lib.hid (sortedK_any (w.alloc (.cells #[.map (some b)] 152)) w.heap.size b V (Own.new w _ _) (hv.kept hc1))
  have HC1 := Lib.hid hc1
  clear hv hc1
  go_enter Tryz.func99, Tryz.ntmps99
  go_wp2_with (first
    | (go_at_call 155; refine (maps_keys _ _).mono ?_; rintro e w2 ⟨rfl, rfl⟩)
    | (go_at_call 154; refine HS.out.mono ?_; rintro e w3 ⟨v, ys, rfl, H, h3⟩; have H3 := Lib.hid h3; clear h3)
    | fail)
  go_ret
  exact ⟨v, ys, rfl, Lib.hid ⟨H.out.1, H.out.2.base HC1.out.size⟩, HC1.out.trans H3.out⟩
theorem Epochs_any (w : World) {B : Nat → Prop} {u mp q : Nat} {l : List Nat} {p g b n : Nat} {X : TS} {S : AS} (A : Acs w B u mp q l p g b n X S) :
    Calls Tryz.prog 55 #[.pointer (some ⟨u, 0, none⟩)] w fun e w' => ∃ (a : Option Addr) (ys : List Nat) (c : Nat), e = .returned (.slice a ys.length c) ∧ Hid (ys.Pairwise (· < ·) ∧ (∀ x, x ∈ ys ↔ (S x).isSome = true) ∧ Lst w' w.heap.size 23 (.slice a ys.length c) (u64s ys)) ∧ Chg [] w w' := by
  obtain ⟨V, hV, hV2⟩ := A.map
  have HE := Lib.hid (epochsOf_any w mp V hV)
  have HV := Lib.hid hV2
  obtain ⟨_, d1⟩ := A.own.two
  clear hV hV2 A
  go_enter Tryz.func55, Tryz.ntmps55
  go_wp2_with (first
    | (go_at_call 99; refine HE.out.mono ?_; rintro e w3 ⟨v, ys, rfl, H, h3⟩; have H3 := Lib.hid h3; clear h3)
    | fail)
  go_ret
  obtain ⟨a, c, e1, _⟩ := H.out.2.form
  rw [u64s_length] at e1
  subst e1
  exact ⟨a, ys, c, rfl, Lib.hid ⟨H.out.1.1, fun x => by rw [H.out.1.2 x, HV.out.isS], H.out.2⟩, H3.out⟩
theorem Epochs_nil (w : World) : Calls Tryz.prog 55 #[.pointer none] w fun e w' => e = .returned (.slice none 0 0) ∧ w' = w := by
  go_enter Tryz.func55, Tryz.ntmps55
  go_wp2_with fail
  go_ret
  exact ⟨rfl, rfl⟩
theorem AOpen_nil (w : World) : Calls Tryz.prog 38 #[.pointer none] w fun e w' => e = .returned (.tuple #[.pointer none, .int .i64 1]) ∧ w' = w := by
  go_enter Tryz.func38, Tryz.ntmps38
  go_wp2_with (first
    | (go_at_call 74; refine (open_nil _).mono ?_; rintro e w2 ⟨rfl, rfl⟩)
    | fail)
  go_ret2
  exact ⟨rfl, rfl⟩
end Go.Proofs.YtcadnlilijkneaaGreat
namespace Go.Proofs.YtcadnlilijkneaaGreat
open Go.RowKit Go.Maps Go.Shelf Go.Deep
set_option linter.unusedVariables false
set_option linter.unusedSimpArgs false

set_option maxHeartbeats 1000000 in
theorem Learn_arg (w : World) (xv : Option Addr) (e : Nat) (he : e < 18446744073709551616) (h : xv = none ∨ ep0 e = false) :
    Calls Tryz.prog 52 #[.pointer xv, .int .u64 (e : Int)] w fun r w' => r = .returned (.tuple #[zEs.val, .int .i64 1]) ∧ Chg [] w w' := by
  obtain ⟨W, HW⟩ : ∃ W, Hid (w.alloc (.cells #[.int .i64 0, .int .i64 0, .int .i64 0, .int .i64 0, .int .u64 0, .slice none 0 0, .int .i64 0] 116) = W) := ⟨_, Lib.hid rfl⟩
  have hc : Chg [] w W := by rw [← HW.out]; exact (Chg.refl [] w).alloc _
  have hr : Own W w.heap.size 116 zEc := by rw [← HW.out]; exact Own.new w _ _
  have HE := Lib.hid (isEpoch_any e W he)
  have HQ := Lib.hid hr
  have HD := Lib.hid hc
  clear hc hr he
  obtain ⟨x1, hx1⟩ : ∃ x, ep0 e = x := ⟨_, rfl⟩
  rw [hx1] at HE h
  clear hx1
  have h' : xv = none ∨ (∃ A, xv = some A) ∧ x1 = false := by
    cases xv with
    | none => exact .inl rfl
    | some A =>
      rcases h with h | h
      · cases h
      · exact .inr ⟨⟨A, rfl⟩, h⟩
  clear h
  have hq := HQ.out
  have d0 := hq.cell 0
  have f0 := hq.frozen 0
  have d1 := hq.cell 1
  have f1 := hq.frozen 1
  have d2 := hq.cell 2
  have f2 := hq.frozen 2
  have d3 := hq.cell 3
  have f3 := hq.frozen 3
  have d4 := hq.cell 4
  have f4 := hq.frozen 4
  have d5 := hq.cell 5
  have f5 := hq.frozen 5
  have d6 := hq.cell 6
  have f6 := hq.frozen 6
  simp at d0 d1 d2 d3 d4 d5 d6
  clear hq
  rcases h' with h | ⟨⟨A, h⟩, h1⟩
  · subst h
    clear HE
    go_enter Tryz.func52, Tryz.ntmps52
    go_upto_region 1 with fail
    rw [HW.out]
    go_wp2_with fail
    have H9 := Lib.hid (Own.put7 HQ.out (.int .i64 0) (.int .i64 0) (.int .i64 0) (.int .i64 0) (.int .u64 0) (.slice none 0 0) (.int .i64 0))
    refine bodyPost_ret (results_row_tmp Tryz.results52 _ _ (w.heap.size) 116 _ (0, 0) _ rfl H9.out Tryz.underlying116 rfl (by kernel_rfl)) rfl ?_
    exact ⟨rfl, HD.out.put7 (.inr (by omega)) _ _ _ _ _ _ _⟩
  · subst h h1
    go_enter Tryz.func52, Tryz.ntmps52
    go_upto_region 1 with fail
    rw [HW.out]
    go_upto_region 2 with (first | (go_at_call 94; refine HE.out.mono ?_; rintro r w2 ⟨rfl, hw⟩; have hw2 := hw.symm; subst hw2) | fail)
    go_wp2_with fail
    have H9 := Lib.hid (Own.put7 HQ.out (.int .i64 0) (.int .i64 0) (.int .i64 0) (.int .i64 0) (.int .u64 0) (.slice none 0 0) (.int .i64 0))
    refine bodyPost_ret (results_row_tmp Tryz.results52 _ _ (w.heap.size) 116 _ (0, 0) _ rfl H9.out Tryz.underlying116 rfl (by kernel_rfl)) rfl ?_
    exact ⟨rfl, HD.out.put7 (.inr (by omega)) _ _ _ _ _ _ _⟩
set_option maxHeartbeats 1000000 in
theorem Learn_any (w : World) {B : Nat → Prop} {u mp q : Nat} {l : List Nat} {p g b n : Nat} {X : TS} {S : AS} (A : Acs w B u mp q l p g b n X S) (e : Nat) (h1 : ep0 e = true) :
    Calls Tryz.prog 52 #[.pointer (some ⟨u, 0, none⟩), .int .u64 (e : Int)] w fun r w' => ∃ T' : EsT, r = .returned (.tuple #[T'.val, .int .i64 0]) ∧ Hid (T'.x = S.at e ∧ LyP w' (fun x => w.heap.size ≤ x) T'.y ∧ LyS T'.y) ∧ Chg [] w w' := by
  have he : e < 18446744073709551616 := by have : ep0 e = true := h1; unfold ep0 at this; have := of_decide_eq_true this; omega
  obtain ⟨V, hV, hV2⟩ := A.map
  obtain ⟨T, hT1, hT2, hT3, hT4⟩ := hV2.get e
  obtain ⟨W, HW⟩ : ∃ W, Hid (w.alloc (.cells #[.int .i64 0, .int .i64 0, .int .i64 0, .int .i64 0, .int .u64 0, .slice none 0 0, .int .i64 0] 116) = W) := ⟨_, Lib.hid rfl⟩
  have hc : Chg [] w W := by rw [← HW.out]; exact (Chg.refl [] w).alloc _
  have hr : Own W w.heap.size 116 zEc := by rw [← HW.out]; exact Own.new w _ _
  have hsz : W.heap.size = w.heap.size + 1 := by rw [← HW.out]; simp
  have HE := isEpoch_any e W he
  rw [h1] at HE
  have HE := Lib.hid HE
  have HST := Lib.hid (state_any W (A.own.chg hc (by simp)) (hV.kept hc) e he T _ hT2 (hT3.chg hc (by simp)) hT4)
  have HR := Lib.hid (And.intro hr hsz)
  have HC := Lib.hid hc
  have HTX := Lib.hid hT1
  clear A hV hV2 hT1 hT2 hT3 hT4 hc hr hsz h1 he
  go_enter Tryz.func52, Tryz.ntmps52
  go_upto_region 1 with fail
  rw [HW.out]
  go_wp2_with (first
    | (go_at_call 94; refine HE.out.mono ?_; rintro r w2 ⟨rfl, hw⟩; have hw2 := hw.symm; subst hw2)
    | (go_at_call 96; refine HST.out.mono ?_; rintro r w7 ⟨⟨⟨y1, y2⟩, ⟨y3, y4⟩, ⟨ze, za, zc, zs, zq⟩⟩, rfl, hx7, hl7, hs7, hc7⟩
       obtain ⟨zn, hzn⟩ : ∃ n, Hid (zs.length = n) := ⟨_, Lib.hid rfl⟩
       simp only [EsT.val, hzn.out]
       have ho7 := HR.out.1.chg hc7 (by simp)
       have H7 := Lib.hid (And.intro hx7 (And.intro hl7 (And.intro hs7 hc7)))
       have HO7 := Lib.hid ho7
       have d0 := ho7.cell 0
       have f0 := ho7.frozen 0
       have d1 := ho7.cell 1
       have f1 := ho7.frozen 1
       have d2 := ho7.cell 2
       have f2 := ho7.frozen 2
       have d3 := ho7.cell 3
       have f3 := ho7.frozen 3
       have d4 := ho7.cell 4
       have f4 := ho7.frozen 4
       have d5 := ho7.cell 5
       have f5 := ho7.frozen 5
       have d6 := ho7.cell 6
       have f6 := ho7.frozen 6
       simp at d0 d1 d2 d3 d4 d5 d6
       clear ho7 hx7 hl7 hs7 hc7)
    | fail)
  have H9 := Lib.hid (Own.put7 HO7.out (.int .i64 y1) (.int .i64 y2) (.int .i64 y3) (.int .i64 y4) (.int .u64 (ze : Int)) (.slice za zn zc) (.int .i64 zq))
  have hc9 := (Chg.refl [w.heap.size] w7).put7 (g := w.heap.size) (by simp) (.int .i64 y1) (.int .i64 y2) (.int .i64 y3) (.int .i64 y4) (.int .u64 (ze : Int)) (.slice za zn zc) (.int .i64 zq)
  refine bodyPost_ret (results_row_tmp Tryz.results52 _ _ w.heap.size 116 _ (0, 0) _ rfl H9.out Tryz.underlying116 rfl (by kernel_rfl)) rfl ?_
  have hsz := HR.out.2
  refine ⟨⟨(y1, y2), (y3, y4), ⟨ze, za, zc, zs, zq⟩⟩, by simp only [EsT.val, hzn.out]; rfl, Lib.hid ⟨by rw [H7.out.1, HTX.out], (H7.out.2.1.chg hc9 (fun x hx hm => by simp only [List.mem_singleton] at hm; omega)).mono (fun x _ hx => by omega), H7.out.2.2.1⟩, ?_⟩
  exact (HC.out.trans H7.out.2.2.2).then hc9 (fun x hx => .inr (by simp only [List.mem_singleton] at hx; omega))
set_option maxHeartbeats 2000000 in
theorem Accept_arg (w : World) (xv : Option Addr) (e : Nat) (he : e < 18446744073709551616) (b : Bt) (Y : LyT) (hy : LyIn w w.heap.size Y) (hf : SgFit Y.sg) (h : xv = none ∨ ep0 e = false ∨ btOk b = false ∨ (decide (Y.e = e) && lright Y.x) = false) :
    Calls Tryz.prog 50 #[.pointer xv, .int .u64 (e : Int), btv b, Y.val] w fun r w' => r = .returned (.tuple #[zEs.val, .int .i64 1]) ∧ Chg [] w w' := by
  obtain ⟨b1, b2⟩ := b
  obtain ⟨W, HW⟩ : ∃ W, Hid (((w.alloc (.cells #[.int .i64 b1, .int .i64 b2] 48)).alloc (.cells #[.int .u64 (Y.e : Int), .slice Y.a Y.sg.length Y.c, .int .i64 Y.q] 26)).alloc (.cells #[.int .i64 0, .int .i64 0, .int .i64 0, .int .i64 0, .int .u64 0, .slice none 0 0, .int .i64 0] 116) = W) := ⟨_, Lib.hid rfl⟩
  have hc : Chg [] w W := by rw [← HW.out]; exact (((Chg.refl [] w).alloc _).alloc _).alloc _
  have hb : Own W w.heap.size 48 [.int .i64 b1, .int .i64 b2] := by rw [← HW.out]; exact ((Own.new w _ _).alloc _).alloc _
  have hl : Own W (w.heap.size + 1) 26 [.int .u64 (Y.e : Int), .slice Y.a Y.sg.length Y.c, .int .i64 Y.q] := by
    rw [← HW.out]
    have := (Own.new (w.alloc (.cells #[.int .i64 b1, .int .i64 b2] 48)) 26 [.int .u64 (Y.e : Int), .slice Y.a Y.sg.length Y.c, .int .i64 Y.q]).alloc (.cells zEc.toArray 116)
    simpa using this
  have hr : Own W (w.heap.size + 1 + 1) 116 zEc := by
    rw [← HW.out]
    have := Own.new ((w.alloc (.cells #[.int .i64 b1, .int .i64 b2] 48)).alloc (.cells #[.int .u64 (Y.e : Int), .slice Y.a Y.sg.length Y.c, .int .i64 Y.q] 26)) 116 zEc
    simpa using this
  have HE := Lib.hid (isEpoch_any e W he)
  have HBB := Lib.hid (fun W' => isBallot_any (b1, b2) W')
  have HIL := Lib.hid (fun W' (h9 : Chg [] w W') => isLayout_any e Y w.heap.size W' (hy.below h9.low (Nat.le_refl _)) h9.size hf)
  have c0 := hb.cell 0
  have c1 := hb.cell 1
  have e0 := hl.cell 0
  have e1 := hl.cell 1
  have e2 := hl.cell 2
  simp at c0 c1 e0 e1 e2
  have HR := Lib.hid hr
  have HC := Lib.hid hc
  have HLO := Lib.hid hl
  clear hc hb hl hr he hy hf
  obtain ⟨x1, hx1⟩ : ∃ x, ep0 e = x := ⟨_, rfl⟩
  obtain ⟨x2, hx2⟩ : ∃ x, btOk (b1, b2) = x := ⟨_, rfl⟩
  obtain ⟨x3, hx3⟩ : ∃ x, (decide (Y.e = e) && lright Y.x) = x := ⟨_, rfl⟩
  rw [hx1] at HE h
  rw [hx2] at HBB h
  rw [hx3] at HIL h
  clear hx1 hx2 hx3
  obtain ⟨ye, ya, yc, ys, yq⟩ := Y
  simp only [LyT.val] at *
  obtain ⟨yn, hyn⟩ : ∃ n, Hid (ys.length = n) := ⟨_, Lib.hid rfl⟩
  rw [hyn.out] at HIL HW HLO e1 ⊢
  have HFIN : Hid (∀ W', Chg [] W W' → Own W' (w.heap.size + 1 + 1) 116 zEc) := Lib.hid (fun W' h9 => HR.out.chg h9 (by simp))
  have h' : xv = none ∨ (∃ A, xv = some A) ∧ x1 = false ∨ (∃ A, xv = some A) ∧ x1 = true ∧ x2 = false ∨ (∃ A, xv = some A) ∧ x1 = true ∧ x2 = true ∧ x3 = false := by
    cases xv with
    | none => exact .inl rfl
    | some A =>
      cases x1
      · exact .inr (.inl ⟨⟨A, rfl⟩, rfl⟩)
      · cases x2
        · exact .inr (.inr (.inl ⟨⟨A, rfl⟩, rfl, rfl⟩))
        · rcases h with h | h | h | h
          · cases h
          · cases h
          · cases h
          · exact .inr (.inr (.inr ⟨⟨A, rfl⟩, rfl, rfl, h⟩))
  clear h
  rcases h' with h | ⟨⟨A, h⟩, h1⟩ | ⟨⟨A, h⟩, h1, h2⟩ | ⟨⟨A, h⟩, h1, h2, h3⟩
  · subst h
    clear HE HBB HIL
    go_enter Tryz.func50, Tryz.ntmps50
    go_upto_region 1 with fail
    rw [HW.out]
    go_upto_region 2 with fail
    have HQ := Lib.hid (HFIN.out _ (Chg.refl _ _))
    have HD := Lib.hid (HC.out.trans (Chg.refl _ _))
    have hq := HQ.out
    have d0 := hq.cell 0
    have f0 := hq.frozen 0
    have d1 := hq.cell 1
    have f1 := hq.frozen 1
    have d2 := hq.cell 2
    have f2 := hq.frozen 2
    have d3 := hq.cell 3
    have f3 := hq.frozen 3
    have d4 := hq.cell 4
    have f4 := hq.frozen 4
    have d5 := hq.cell 5
    have f5 := hq.frozen 5
    have d6 := hq.cell 6
    have f6 := hq.frozen 6
    simp at d0 d1 d2 d3 d4 d5 d6
    clear hq
    go_wp2_with fail
    have H9 := Lib.hid (Own.put7 HQ.out (.int .i64 0) (.int .i64 0) (.int .i64 0) (.int .i64 0) (.int .u64 0) (.slice none 0 0) (.int .i64 0))
    refine bodyPost_ret (results_row_tmp Tryz.results50 _ _ (w.heap.size + 1 + 1) 116 _ (0, 0) _ rfl H9.out Tryz.underlying116 rfl (by kernel_rfl)) rfl ?_
    exact ⟨rfl, HD.out.put7 (.inr (by omega)) _ _ _ _ _ _ _⟩
  · subst h h1
    clear HBB HIL
    go_enter Tryz.func50, Tryz.ntmps50
    go_upto_region 1 with fail
    rw [HW.out]
    go_upto_region 2 with (first | (go_at_call 94; refine HE.out.mono ?_; rintro r w2 ⟨rfl, hw⟩; have hw2 := hw.symm; subst hw2) | fail)
    have HQ := Lib.hid (HFIN.out _ (Chg.refl _ _))
    have HD := Lib.hid (HC.out.trans (Chg.refl _ _))
    have hq := HQ.out
    have d0 := hq.cell 0
    have f0 := hq.frozen 0
    have d1 := hq.cell 1
    have f1 := hq.frozen 1
    have d2 := hq.cell 2
    have f2 := hq.frozen 2
    have d3 := hq.cell 3
    have f3 := hq.frozen 3
    have d4 := hq.cell 4
    have f4 := hq.frozen 4
    have d5 := hq.cell 5
    have f5 := hq.frozen 5
    have d6 := hq.cell 6
    have f6 := hq.frozen 6
    simp at d0 d1 d2 d3 d4 d5 d6
    clear hq
    go_wp2_with fail
    have H9 := Lib.hid (Own.put7 HQ.out (.int .i64 0) (.int .i64 0) (.int .i64 0) (.int .i64 0) (.int .u64 0) (.slice none 0 0) (.int .i64 0))
    refine bodyPost_ret (results_row_tmp Tryz.results50 _ _ (w.heap.size + 1 + 1) 116 _ (0, 0) _ rfl H9.out Tryz.underlying116 rfl (by kernel_rfl)) rfl ?_
    exact ⟨rfl, HD.out.put7 (.inr (by omega)) _ _ _ _ _ _ _⟩
  · subst h h1 h2
    clear HIL
    go_enter Tryz.func50, Tryz.ntmps50
    go_upto_region 1 with fail
    rw [HW.out]
    go_upto_region 2 with (first | (go_at_call 94; refine HE.out.mono ?_; rintro r w2 ⟨rfl, hw⟩; have hw2 := hw.symm; subst hw2) | (go_at_call 95; refine (HBB.out _).mono ?_; rintro r w3 ⟨rfl, hc3⟩; have HC3 := Lib.hid hc3; have hl3 := HLO.out.chg hc3 (by simp); clear e0 e1 e2; have e0 := hl3.cell 0; have e1 := hl3.cell 1; have e2 := hl3.cell 2; simp at e0 e1 e2; clear hc3 hl3) | fail)
    have HQ := Lib.hid (HFIN.out _ HC3.out)
    have HD := Lib.hid (HC.out.trans HC3.out)
    have hq := HQ.out
    have d0 := hq.cell 0
    have f0 := hq.frozen 0
    have d1 := hq.cell 1
    have f1 := hq.frozen 1
    have d2 := hq.cell 2
    have f2 := hq.frozen 2
    have d3 := hq.cell 3
    have f3 := hq.frozen 3
    have d4 := hq.cell 4
    have f4 := hq.frozen 4
    have d5 := hq.cell 5
    have f5 := hq.frozen 5
    have d6 := hq.cell 6
    have f6 := hq.frozen 6
    simp at d0 d1 d2 d3 d4 d5 d6
    clear hq
    go_wp2_with fail
    have H9 := Lib.hid (Own.put7 HQ.out (.int .i64 0) (.int .i64 0) (.int .i64 0) (.int .i64 0) (.int .u64 0) (.slice none 0 0) (.int .i64 0))
    refine bodyPost_ret (results_row_tmp Tryz.results50 _ _ (w.heap.size + 1 + 1) 116 _ (0, 0) _ rfl H9.out Tryz.underlying116 rfl (by kernel_rfl)) rfl ?_
    exact ⟨rfl, HD.out.put7 (.inr (by omega)) _ _ _ _ _ _ _⟩
  · subst h h1 h2 h3
    go_enter Tryz.func50, Tryz.ntmps50
    go_upto_region 1 with fail
    rw [HW.out]
    go_upto_region 2 with (first | (go_at_call 94; refine HE.out.mono ?_; rintro r w2 ⟨rfl, hw⟩; have hw2 := hw.symm; subst hw2) | (go_at_call 95; refine (HBB.out _).mono ?_; rintro r w3 ⟨rfl, hc3⟩; have HC3 := Lib.hid hc3; have hl3 := HLO.out.chg hc3 (by simp); clear e0 e1 e2; have e0 := hl3.cell 0; have e1 := hl3.cell 1; have e2 := hl3.cell 2; simp at e0 e1 e2; clear hc3 hl3) | (go_at_call 98; refine (HIL.out _ (HC.out.trans HC3.out)).mono ?_; rintro r w5 ⟨rfl, hc5⟩; have HC5 := Lib.hid (HC3.out.trans hc5); clear hc5 e0 e1 e2) | fail)
    have HQ := Lib.hid (HFIN.out _ HC5.out)
    have HD := Lib.hid (HC.out.trans HC5.out)
    have hq := HQ.out
    have d0 := hq.cell 0
    have f0 := hq.frozen 0
    have d1 := hq.cell 1
    have f1 := hq.frozen 1
    have d2 := hq.cell 2
    have f2 := hq.frozen 2
    have d3 := hq.cell 3
    have f3 := hq.frozen 3
    have d4 := hq.cell 4
    have f4 := hq.frozen 4
    have d5 := hq.cell 5
    have f5 := hq.frozen 5
    have d6 := hq.cell 6
    have f6 := hq.frozen 6
    simp at d0 d1 d2 d3 d4 d5 d6
    clear hq
    go_wp2_with fail
    have H9 := Lib.hid (Own.put7 HQ.out (.int .i64 0) (.int .i64 0) (.int .i64 0) (.int .i64 0) (.int .u64 0) (.slice none 0 0) (.int .i64 0))
    refine bodyPost_ret (results_row_tmp Tryz.results50 _ _ (w.heap.size + 1 + 1) 116 _ (0, 0) _ rfl H9.out Tryz.underlying116 rfl (by kernel_rfl)) rfl ?_
    exact ⟨rfl, HD.out.put7 (.inr (by omega)) _ _ _ _ _ _ _⟩
end Go.Proofs.YtcadnlilijkneaaGreat
