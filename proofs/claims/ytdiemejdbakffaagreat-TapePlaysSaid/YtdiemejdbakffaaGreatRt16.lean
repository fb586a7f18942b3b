/-
  The statement's both: replace, step, commit, and else. No claim of their own.
-/
import Derived.Test.YtdiemejdbakffaaGreatRt15
namespace Go.Proofs.YtdiemejdbakffaaGreat
open Go.RowKit Go.Deep Go.Shelf Go.Maps
set_option linter.unusedVariables false
set_option linter.unusedSimpArgs false

section
variable {w0 w w1 : World} {N : List Nat} {t p g b u q gn go gd n : Nat} {S S2 S' : TS}
set_option maxHeartbeats 4000000 in
set_option maxRecDepth 100000 in
theorem both_repl (h : Pw w0 w N t p g b u q gn go gd n S S) (i : Int) (ab : Option Addr) (lb cb : Nat) (al : Option Addr) (xs : List SB) (cl : Nat) (ak : Option Addr) (lk ck : Nat) (hx : RoM w0 al xs) (hfit : xs.length ≤ 20 ∧ ∀ x ∈ xs, x.bs.length ≤ 400) :
    Calls Tryz.prog 10 #[actV 2 i ab lb cb al xs.length cl ak lk ck, .pointer (some ⟨t, 0, none⟩), .pointer (some ⟨u, 0, none⟩)] w (BothT w0 w N t p g b u q gn go gd n) := by
  obtain ⟨ll, HLL⟩ : ∃ x, Hid (xs.length = x) := ⟨_, Lib.hid rfl⟩
  obtain ⟨wB, HWB⟩ : ∃ W, Hid (w.alloc (.cells #[.int .i64 2, .int .i64 i, .slice ab lb cb, .slice al ll cl, .slice ak lk ck] 41) = W) := ⟨_, Lib.hid rfl⟩
  have hcB : Chg [] w wB := by rw [← HWB.out]; exact (Chg.refl [] w).alloc _
  have hoB : Own wB w.heap.size 41 [.int .i64 2, .int .i64 i, .slice ab lb cb, .slice al ll cl, .slice ak lk ck] := by rw [← HWB.out]; exact Own.new w 41 _
  have c0 := hoB.cell 0
  simp at c0
  have hwN : w.heap.size ∉ N := fun hm => by have := (h.low _ hm).2; omega
  have hwu : w.heap.size ∉ [u] := fun hm => by
    obtain ⟨_, _, _, _, _, _, tc, _⟩ := h.rt
    have := tc.own.lt
    simp at hm
    omega
  have HUU := Lib.hid (And.intro hwN hwu)
  have HCB := Lib.hid hcB.drew
  clear hwN hwu
  have hB := h.kept (hcB.drew)
  have ti := hB.tz.ti
  have hrom : ∀ W, Chg [] w0 W → RoM W al xs := fun W hW => ⟨(hx.row.chgs hW (by simp)).mono hW.size, fun x hm => ((hx.el x hm).chgs hW (by simp)).mono hW.size, hx.len, hx.lens⟩
  have hsep : ∀ M : List Nat, (∀ x ∈ M, w0.heap.size ≤ x) → Sep M al xs := fun M hM => ⟨fun h0 x hxx hn => by
    have h1 := ro_off hx.row (fun e => h0 (List.map_eq_nil_iff.1 e)) x hxx
    have h2 := hM _ hn
    omega, fun y hy h0 x hxx hn => by
    have h1 := ro_off (hx.el y hy) (ne_u8s h0) x hxx
    have h2 := hM _ hn
    omega⟩
  have hA := replace_Z hB.tz al xs cl ((hrom _ hB.chg).rol (fun x hm => by have := hfit.2 x hm; omega)) (hsep N (fun x hm => (h.low x hm).1)) (by have := hfit.1; omega)
  obtain ⟨E, HE⟩ : ∃ E, Hid (replE n S.k xs = E) := ⟨_, Lib.hid rfl⟩
  rw [HE.out] at hA
  have HR := Lib.hid (show ∀ W N', Pw w0 W N' t p g b u q gn go gd n (replS n S xs) S → Calls Tryz.prog 39 #[.pointer (some ⟨u, 0, none⟩), .slice al xs.length cl] W fun e w' => e = .returned (.int .i64 (E : Int)) ∧ Pw w0 w' N' t p g b u q gn go gd n (replS n S xs) (replS n S xs) ∧ Chg [u] W w' from fun W N' hW => by
    have h1 := rreplace_any hW.rt ti hW.lt al xs cl (hrom W hW.chg) (hsep [u] (fun x hm => (hW.lowu x (by simp only [List.mem_cons, List.mem_nil_iff, or_false] at hm ⊢; simp [hm])).1)) (by have := hfit.1; omega)
    rw [HE.out] at h1
    exact h1.mono fun e w' ⟨a1, a2, a3⟩ => ⟨a1, hW.ref a2.out (a3.mono (by simp)), a3⟩)
  have c2 : (fun W : World => W.cell? ⟨w.heap.size, 3, none⟩ = some (.slice al ll cl) ∧ w.heap.size < W.heap.size) wB.drew := ⟨hoB.cell 3, hoB.lt⟩
  have HPB := Lib.hid hB
  have b1 : ((E : Int) == (E : Int)) = true := by simp
  have HA := Lib.hid hA
  rw [HLL.out] at HA ⊢
  simp only [HLL.out] at HR
  clear h hcB hoB hB ti hsep hA hrom hx hfit
  go_enter Tryz.func10, Tryz.ntmps10
  go_upto_region 1 with fail
  simp only [HWB.out]
  go_upto_region 5 with fail
  refine wp_region_held_drew (S := (fun W : World => W.cell? ⟨w.heap.size, 3, none⟩ = some (.slice al ll cl) ∧ w.heap.size < W.heap.size)) (by kernel_rfl) c2 (fun hHeld => ?_)
  refine wpAnyH_take (i := 0) (v := ?_) rfl (by kernel_rfl) (by kernel_rfl) (by kernel_rfl) (fun _ _ _ h => h) (Or.inl ⟨by kernel_rfl, ?_⟩) hHeld ?_
  rotate_left
  · (intro w hSw; first | (go_simp; done) | (go_simp; with_reducible rfl))
  (try simp only [Act.put, List.getElem_toArray, List.getElem_cons_succ, List.getElem_cons_zero, List.setIfInBounds_toArray, List.set_cons_zero, List.set_cons_succ])
  refine wpAnyH_take (i := 1) (v := ?_) rfl (by kernel_rfl) (by kernel_rfl) (by kernel_rfl) (fun _ _ _ h => h) (Or.inl ⟨by kernel_rfl, ?_⟩) hHeld ?_
  rotate_left
  · (intro w hSw; first | (go_simp; done) | (go_simp; with_reducible rfl))
  (try simp only [Act.put, List.getElem_toArray, List.getElem_cons_succ, List.getElem_cons_zero, List.setIfInBounds_toArray, List.set_cons_zero, List.set_cons_succ])
  refine wpAnyH_take (i := 2) (v := ?_) rfl (by kernel_rfl) (by kernel_rfl) (by kernel_rfl) (fun _ _ _ h => h) (Or.inl ⟨by kernel_rfl, ?_⟩) hHeld ?_
  rotate_left
  · (intro w hSw; first | (go_simp; done) | (go_simp; with_reducible rfl))
  (try simp only [Act.put, List.getElem_toArray, List.getElem_cons_succ, List.getElem_cons_zero, List.setIfInBounds_toArray, List.set_cons_zero, List.set_cons_succ])
  refine wpAnyH_take (i := 4) (v := ?_) rfl (by kernel_rfl) (by kernel_rfl) (by kernel_rfl) (fun _ _ _ h => h) (Or.inl ⟨by kernel_rfl, ?_⟩) hHeld ?_
  rotate_left
  · (intro w hSw; first | (go_simp; done) | (go_simp; with_reducible rfl))
  (try simp only [Act.put, List.getElem_toArray, List.getElem_cons_succ, List.getElem_cons_zero, List.setIfInBounds_toArray, List.set_cons_zero, List.set_cons_succ])
  refine wpAnyH_take (i := 5) (v := ?_) rfl (by kernel_rfl) (by kernel_rfl) (by kernel_rfl) (fun _ _ _ h => h) (Or.inl ⟨by kernel_rfl, ?_⟩) hHeld ?_
  rotate_left
  · (intro w hSw; first | (go_simp; done) | (go_simp; with_reducible rfl))
  (try simp only [Act.put, List.getElem_toArray, List.getElem_cons_succ, List.getElem_cons_zero, List.setIfInBounds_toArray, List.set_cons_zero, List.set_cons_succ])
  refine wpAnyH_take (i := 6) (v := ?_) rfl (by kernel_rfl) (by kernel_rfl) (by kernel_rfl) (fun _ _ _ h => h) (Or.inl ⟨by kernel_rfl, ?_⟩) hHeld ?_
  rotate_left
  · (intro w hSw; first | (go_simp; done) | (go_simp; with_reducible rfl))
  (try simp only [Act.put, List.getElem_toArray, List.getElem_cons_succ, List.getElem_cons_zero, List.setIfInBounds_toArray, List.set_cons_zero, List.set_cons_succ])
  refine wpAnyH_ready (rs := [3]) (by kernel_rfl) (by simp) (AllReadyH.cons rfl (fun K hK => ?_) AllReadyH.nil)
  have hH := hHeld
  (go_simp; go_at_call 38; refine HA.out.mono ?_; rintro e w5 ⟨rfl, HT5⟩; obtain ⟨N5, h5⟩ := HPB.out.tape HT5.out)
  refine hK.out _ _ (by exact ⟨HT5.out.chg.cell hH.1 HUU.out.1, Nat.lt_of_lt_of_le hH.2 HT5.out.chg.size⟩) (fun hHq1 => ?_)
  clear hK K hH 
  (try simp only [Act.put, List.getElem_toArray, List.getElem_cons_succ, List.getElem_cons_zero, List.setIfInBounds_toArray, List.set_cons_zero, List.set_cons_succ])
  refine wpAnyH_ready (rs := [7]) (by kernel_rfl) (by simp) (AllReadyH.cons rfl (fun K hK => ?_) AllReadyH.nil)
  have hH := hHq1
  (go_simp; go_at_call 39; refine (HR.out _ _ h5).mono ?_; rintro e w6 ⟨rfl, h6, hc6⟩)
  refine hK.out _ _ (by exact ⟨hc6.cell hH.1 HUU.out.2, Nat.lt_of_lt_of_le hH.2 hc6.size⟩) (fun hHq2 => ?_)
  clear hK K hH hHq1
  (try simp only [Act.put, List.getElem_toArray, List.getElem_cons_succ, List.getElem_cons_zero, List.setIfInBounds_toArray, List.set_cons_zero, List.set_cons_succ])
  refine wpAnyH_take (i := 8) (v := ?_) rfl (by kernel_rfl) (by kernel_rfl) (by kernel_rfl) (fun _ _ _ h => h) (Or.inl ⟨by kernel_rfl, ?_⟩) hHq2 ?_
  rotate_left
  · (intro w hSw; first | (go_simp; done) | (go_simp; with_reducible rfl))
  (try simp only [Act.put, List.getElem_toArray, List.getElem_cons_succ, List.getElem_cons_zero, List.setIfInBounds_toArray, List.set_cons_zero, List.set_cons_succ])
  refine wpAnyH_take (i := 9) (v := ?_) rfl (by kernel_rfl) (by kernel_rfl) (by kernel_rfl) (fun _ _ _ h => h) (Or.inl ⟨by kernel_rfl, ?_⟩) hHq2 ?_
  rotate_left
  · (intro w hSw; first | (go_simp; done) | (go_simp; with_reducible rfl))
  (try simp only [Act.put, List.getElem_toArray, List.getElem_cons_succ, List.getElem_cons_zero, List.setIfInBounds_toArray, List.set_cons_zero, List.set_cons_succ])
  refine wpAnyH_done (by kernel_rfl) ?_ _
  have hEnd := hHq2
  have H6 := Lib.hid h6
  have HCC := Lib.hid (chg2 (u := u) (gn := gn) (go := go) (gd := gd) HCB.out HT5.out.chg hc6 (by simp))
  clear hEnd h5 h6 hc6 HT5
  go_wp2_with fail
  go_ret
  exact ⟨rfl, ⟨_, _, H6⟩, HCC⟩
set_option maxHeartbeats 4000000 in
set_option maxRecDepth 100000 in
theorem both_step (h : Pw w0 w N t p g b u q gn go gd n S S) (i : Int) (ab : Option Addr) (lb cb : Nat) (al : Option Addr) (xs : List SB) (cl : Nat) (ak : Option Addr) (lk ck : Nat) :
    Calls Tryz.prog 10 #[actV 3 i ab lb cb al xs.length cl ak lk ck, .pointer (some ⟨t, 0, none⟩), .pointer (some ⟨u, 0, none⟩)] w (BothT w0 w N t p g b u q gn go gd n) := by
  obtain ⟨ll, HLL⟩ : ∃ x, Hid (xs.length = x) := ⟨_, Lib.hid rfl⟩
  obtain ⟨wB, HWB⟩ : ∃ W, Hid (w.alloc (.cells #[.int .i64 3, .int .i64 i, .slice ab lb cb, .slice al ll cl, .slice ak lk ck] 41) = W) := ⟨_, Lib.hid rfl⟩
  have hcB : Chg [] w wB := by rw [← HWB.out]; exact (Chg.refl [] w).alloc _
  have hoB : Own wB w.heap.size 41 [.int .i64 3, .int .i64 i, .slice ab lb cb, .slice al ll cl, .slice ak lk ck] := by rw [← HWB.out]; exact Own.new w 41 _
  have c0 := hoB.cell 0
  simp at c0
  have hwN : w.heap.size ∉ N := fun hm => by have := (h.low _ hm).2; omega
  have hwu : w.heap.size ∉ [u] := fun hm => by
    obtain ⟨_, _, _, _, _, _, tc, _⟩ := h.rt
    have := tc.own.lt
    simp at hm
    omega
  have HUU := Lib.hid (And.intro hwN hwu)
  have HCB := Lib.hid hcB
  clear hwN hwu
  have hB := h.kept hcB
  have ti := hB.tz.ti
  have HA := Lib.hid (step_Z hB.tz)
  obtain ⟨D, HD⟩ : ∃ D, Hid (doneS S = D) := ⟨_, Lib.hid rfl⟩
  rw [HD.out] at HA
  have HPB := Lib.hid hB
  have HTI := Lib.hid ti
  have b1 : (D == D) = true := by simp
  rw [HLL.out]
  clear h hcB hoB hB ti
  go_enter Tryz.func10, Tryz.ntmps10
  go_upto_region 1 with fail
  simp only [HWB.out]
  go_wp2_with fail
  refine HA.out.mono ?_
  rintro e w5 ⟨rfl, HT5⟩
  obtain ⟨N5, h5⟩ := HPB.out.tape HT5.out
  have H5 := Lib.hid h5
  have HC5 := Lib.hid HT5.out.chg
  have HR := Lib.hid (rstep_any h5.rt HTI.out h5.lt)
  rw [HD.out] at HR
  clear h5 HT5 HA c0
  dsimp only
  go_wp2_with fail
  refine HR.out.mono ?_
  rintro e w6 ⟨rfl, hr6, hc6⟩
  have H6 := Lib.hid (H5.out.ref hr6.out hc6)
  have HCC := Lib.hid (chg2 (u := u) (gn := gn) (go := go) (gd := gd) HCB.out HC5.out hc6 (fun x hx => hx))
  clear hr6 hc6
  go_wp2_with fail
  go_ret
  exact ⟨rfl, ⟨_, _, H6⟩, HCC⟩
set_option maxHeartbeats 4000000 in
set_option maxRecDepth 100000 in
theorem both_commit (h : Pw w0 w N t p g b u q gn go gd n S S) (i : Int) (ab : Option Addr) (lb cb : Nat) (al : Option Addr) (xs : List SB) (cl : Nat) (ak : Option Addr) (lk ck : Nat) :
    Calls Tryz.prog 10 #[actV 4 i ab lb cb al xs.length cl ak lk ck, .pointer (some ⟨t, 0, none⟩), .pointer (some ⟨u, 0, none⟩)] w (BothT w0 w N t p g b u q gn go gd n) := by
  obtain ⟨ll, HLL⟩ : ∃ x, Hid (xs.length = x) := ⟨_, Lib.hid rfl⟩
  obtain ⟨wB, HWB⟩ : ∃ W, Hid (w.alloc (.cells #[.int .i64 4, .int .i64 i, .slice ab lb cb, .slice al ll cl, .slice ak lk ck] 41) = W) := ⟨_, Lib.hid rfl⟩
  have hcB : Chg [] w wB := by rw [← HWB.out]; exact (Chg.refl [] w).alloc _
  have hoB : Own wB w.heap.size 41 [.int .i64 4, .int .i64 i, .slice ab lb cb, .slice al ll cl, .slice ak lk ck] := by rw [← HWB.out]; exact Own.new w 41 _
  have c0 := hoB.cell 0
  simp at c0
  have hwN : w.heap.size ∉ N := fun hm => by have := (h.low _ hm).2; omega
  have hwu : w.heap.size ∉ [u] := fun hm => by
    obtain ⟨_, _, _, _, _, _, tc, _⟩ := h.rt
    have := tc.own.lt
    simp at hm
    omega
  have HUU := Lib.hid (And.intro hwN hwu)
  have HCB := Lib.hid hcB
  clear hwN hwu
  have hB := h.kept hcB
  have ti := hB.tz.ti
  have HR := Lib.hid (rcommit_any hB.rt ti hB.lt)
  have HPB := Lib.hid hB
  rw [HLL.out]
  clear h hcB hoB hB ti
  go_enter Tryz.func10, Tryz.ntmps10
  go_upto_region 1 with fail
  simp only [HWB.out]
  go_wp2_with fail
  refine HR.out.mono ?_
  rintro e w5 ⟨⟨v, rfl⟩, hr5, hc5⟩
  have H5 := Lib.hid (HPB.out.ref hr5.out hc5)
  have HA := Lib.hid (commit_Z H5.out.tz)
  have HC5 := Lib.hid hc5
  clear hr5 hc5 HR c0
  go_wp2_with fail
  refine HA.out.mono ?_
  rintro e w6 ⟨rfl, HT6⟩
  obtain ⟨N6, h6⟩ := H5.out.tape HT6.out
  have H6 := Lib.hid h6
  have HCC := Lib.hid (chg2' (u := u) (gn := gn) (go := go) (gd := gd) HCB.out HC5.out HT6.out.chg (fun x hx => hx))
  clear h6 HT6
  go_wp2_with fail
  go_ret
  exact ⟨rfl, ⟨_, _, H6⟩, HCC⟩
set_option maxHeartbeats 4000000 in
set_option maxRecDepth 100000 in
theorem both_else (h : Pw w0 w N t p g b u q gn go gd n S S) (kd : Int) (i : Int) (ab : Option Addr) (lb cb : Nat) (al : Option Addr) (xs : List SB) (cl : Nat) (ak : Option Addr) (lk ck : Nat) (hk : kd ≠ 1 ∧ kd ≠ 2 ∧ kd ≠ 3 ∧ kd ≠ 4) :
    Calls Tryz.prog 10 #[actV kd i ab lb cb al xs.length cl ak lk ck, .pointer (some ⟨t, 0, none⟩), .pointer (some ⟨u, 0, none⟩)] w (BothT w0 w N t p g b u q gn go gd n) := by
  obtain ⟨ll, HLL⟩ : ∃ x, Hid (xs.length = x) := ⟨_, Lib.hid rfl⟩
  obtain ⟨wB, HWB⟩ : ∃ W, Hid (w.alloc (.cells #[.int .i64 kd, .int .i64 i, .slice ab lb cb, .slice al ll cl, .slice ak lk ck] 41) = W) := ⟨_, Lib.hid rfl⟩
  have hcB : Chg [] w wB := by rw [← HWB.out]; exact (Chg.refl [] w).alloc _
  have hoB : Own wB w.heap.size 41 [.int .i64 kd, .int .i64 i, .slice ab lb cb, .slice al ll cl, .slice ak lk ck] := by rw [← HWB.out]; exact Own.new w 41 _
  have c0 := hoB.cell 0
  simp at c0
  have hwN : w.heap.size ∉ N := fun hm => by have := (h.low _ hm).2; omega
  have hwu : w.heap.size ∉ [u] := fun hm => by
    obtain ⟨_, _, _, _, _, _, tc, _⟩ := h.rt
    have := tc.own.lt
    simp at hm
    omega
  have HUU := Lib.hid (And.intro hwN hwu)
  have HCB := Lib.hid hcB
  clear hwN hwu
  have HPB := Lib.hid (h.kept hcB)
  have b1 : (kd == 1) = false := beq_eq_false_iff_ne.2 hk.1
  have b2 : (kd == 2) = false := beq_eq_false_iff_ne.2 hk.2.1
  have b3 : (kd == 3) = false := beq_eq_false_iff_ne.2 hk.2.2.1
  have b4 : (kd == 4) = false := beq_eq_false_iff_ne.2 hk.2.2.2
  rw [HLL.out]
  clear h hcB hoB hk
  go_enter Tryz.func10, Tryz.ntmps10
  go_upto_region 1 with fail
  simp only [HWB.out]
  go_wp2_with fail
  go_ret
  exact ⟨rfl, ⟨_, _, HPB⟩, Lib.hid (HCB.out.mono (by simp))⟩
end
end Go.Proofs.YtdiemejdbakffaaGreat
