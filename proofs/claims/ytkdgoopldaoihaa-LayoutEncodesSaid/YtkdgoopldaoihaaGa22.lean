/-
  The statement LayoutEncodes: the walk of its Go text, by the contracts of what it calls.
-/
import Derived.Test.YtkdgoopldaoihaaGa20
import Derived.Test.YtkdgoopldaoihaaGa2
import Derived.Test.YtkdgoopldaoihaaGa21
import Derived.Test.YtkdgoopldaoihaaGa3
import Derived.Test.YtkdgoopldaoihaaGa1
import Derived.Deep.Cut
import Derived.Deep.RegionHeld3
namespace Go.Proofs.Ytkdgoopldaoihaa
open Go.RowKit Go.Deep Go.Shelf
set_option linter.unusedVariables false
set_option linter.unusedSimpArgs false

set_option maxHeartbeats 8000000 in
set_option maxRecDepth 100000 in
theorem layoutEncodes_any (w : World) {A : LyT} (hA : LyOk w A) {ab : Option Addr} {nb cb : Nat} {zs : List Int} (hrow : IsRow .u8 w ab nb cb zs) {a : Int} (ha : (Lit.int .u64 a).wf = true) :
    Calls Try.prog 3 #[A.val, .slice ab nb cb, .int .u64 a] w fun e w' => e = .returned (.bool true) ∧ Below w.heap.size w w' := by
  have hab := bounds_u64 ha
  obtain ⟨a, rfl⟩ := Int.eq_ofNat_of_zero_le hab.1
  obtain ⟨bs, hbl, hbc, _, hbr⟩ := hrow.u8s
  have hnb := hrow.len_le
  clear hrow hab ha
  obtain ⟨W, HWW⟩ : ∃ W, Hid (w.alloc (.cells #[.int .u64 (A.e : Int), .slice A.a A.sg.length A.c, .int .i64 A.q] 25) = W) := ⟨_, Lib.hid rfl⟩
  have hWb : Below w.heap.size w W := by rw [← HWW.out]; exact (Below.refl _ _).alloc (Nat.le_refl _) _
  have o1 : Own W w.heap.size 25 [.int .u64 (A.e : Int), .slice A.a A.sg.length A.c, .int .i64 A.q] := by rw [← HWW.out]; exact Own.new w _ _
  have HAL := Lib.hid alive9_any
  have hLA := fun (W' : World) (hb : Below W.heap.size W W') => (hA.inn.below (hWb.trans (hb.mono hWb.size)) (Nat.le_refl _))
  have hsz := fun (W' : World) (hb : Below W.heap.size W W') => Nat.le_trans hWb.size hb.size
  have HF1 := Lib.hid (fun (W' : World) (hb : Below W.heap.size W W') => fitsL_any A w.heap.size W' (hLA W' hb) (hsz W' hb) hA.fit)
  have HE1 := Lib.hid (fun (W' : World) (hb : Below W.heap.size W W') => lenc_w A w.heap.size W' (hLA W' hb) (hsz W' hb) hA.fit)
  have HE2 := Lib.hid (fun (W' : World) (hb : Below W.heap.size W W') => dlenc_w A w.heap.size W' (hLA W' hb) (hsz W' hb) hA.fit)
  have HR1 := Lib.hid (fun (W' : World) (hb : Below W.heap.size W W') => lright_any A w.heap.size W' (hLA W' hb) (hsz W' hb) hA.fit)
  have HR2 := Lib.hid (fun (W' : World) (hb : Below W.heap.size W W') => dlright_any A w.heap.size W' (hLA W' hb) (hsz W' hb) hA.fit)
  have HU1 := Lib.hid (fun (W' : World) (hb : Below W.heap.size W W') => units_any A w.heap.size W' (hLA W' hb) (hsz W' hb) hA.fit)
  have HU2 := Lib.hid (fun (W' : World) (hb : Below W.heap.size W W') => dunits_any A w.heap.size W' (hLA W' hb) (hsz W' hb) hA.fit)
  have HC1 := Lib.hid (fun (W' : World) (hb : Below W.heap.size W W') => chain_any A w.heap.size a W' (hLA W' hb) (hsz W' hb) hA.fit)
  have HC2 := Lib.hid (fun (W' : World) (hb : Below W.heap.size W W') => dchain_any A w.heap.size a W' (hLA W' hb) (hsz W' hb) hA.fit)
  have HS1 := Lib.hid (fun (W' : World) (hb : Below W.heap.size W W') => segment_any A w.heap.size a W' (hLA W' hb) (hsz W' hb) hA.fit)
  have HS2 := Lib.hid (fun (W' : World) (hb : Below W.heap.size W W') => dsegment_any A w.heap.size a W' (hLA W' hb) (hsz W' hb) hA.fit)
  have HD1 := Lib.hid (fun (W' : World) (hb : Below W.heap.size W W') (hl : nb ≤ 1000000) => ldec_w bs nb ab cb w.heap.size W' hbl (hbr.below (hWb.trans (hb.mono hWb.size)) (Nat.le_refl _)) (hsz W' hb) hl)
  have HD2 := Lib.hid (fun (W' : World) (hb : Below W.heap.size W W') (hl : nb ≤ 1000000) => dldec_w bs nb ab cb w.heap.size W' hbl (hbr.below (hWb.trans (hb.mono hWb.size)) (Nat.le_refl _)) (hsz W' hb) hl)
  have HEND : Hid (∀ W', Below W.heap.size W W' → Below w.heap.size w W') := Lib.hid (fun W' h => hWb.trans (h.mono hWb.size))
  have HCL := Lib.hid (chainOf_len A.x a)
  have HUL := Lib.hid (unitsOf_len A.x)
  have HLB := Lib.hid (fun (p q : List UInt8) (h1 : LB A.x p) (h2 : LB A.x q) => h1.unique h2)
  clear hWb hA hbr hbl hbc hLA hsz
  generalize chainOf A.x a = ch at *
  generalize unitsOf A.x = un at *
  generalize segI A.x a = sI at *
  generalize lcode A.x = lc at *
  generalize lright A.x = rr at *
  generalize lcode (decL bs) = ld at *
  obtain ⟨X, hX⟩ : ∃ X, A.x = X := ⟨_, rfl⟩
  rw [hX] at HE1 HE2 HLB
  obtain ⟨ep, sa, c, L, q⟩ := A
  clear hX
  simp only [LyT.val] at *
  generalize L.length = n at *
  have HO1 := Lib.hid o1
  have k0 := o1.cell 0
  have k1 := o1.cell 1
  have k2 := o1.cell 2
  have hz0 := o1.lt
  simp at k0 k1 k2
  have HKA : Hid (∀ W', Below W.heap.size W W' → W'.cell? ⟨w.heap.size, 0, none⟩ = some (.int .u64 (ep : Int)) ∧ W'.cell? ⟨w.heap.size, 1, none⟩ = some (.slice sa n c) ∧ W'.cell? ⟨w.heap.size, 2, none⟩ = some (.int .i64 q)) := Lib.hid (fun W' h => ⟨cell_at h k0 rfl, cell_at h k1 rfl, cell_at h k2 rfl⟩)
  clear o1
  go_enter Try.func3, Try.ntmps3
  go_upto_region 1 with fail
  rw [HWW.out]
  go_wp2_with fail
  refine (HF1.out W (Below.refl _ _)).mono ?_
  rintro e w1 ⟨⟨t1, rfl⟩, hb1⟩
  have HB1 := Lib.hid hb1
  clear hb1 k0 k1 k2 hz0
  cases t1 with
  | false =>
    go_wp2_with fail
    refine (HAL.out w1).mono ?_
    rintro e w3 ⟨rfl, hb3⟩
    have HE := Lib.hid (HEND.out _ (HB1.out.trans (hb3.mono HB1.out.size)))
    clear hb3
    go_wp2_with fail
    go_ret
    exact ⟨rfl, HE.out⟩
  | true =>
  by_cases hl : 200 < nb
  · go_wp2_with fail
    refine (HAL.out w1).mono ?_
    rintro e w3 ⟨rfl, hb3⟩
    have HE := Lib.hid (HEND.out _ (HB1.out.trans (hb3.mono HB1.out.size)))
    clear hb3
    go_wp2_with fail
    go_ret
    exact ⟨rfl, HE.out⟩
  have HNB : Hid (nb ≤ 1000000) := Lib.hid (by omega)
  obtain ⟨k0, k1, k2⟩ := HKA.out w1 HB1.out
  go_wp2_with fail
  clear hl k0 k1 k2
  refine (HE1.out w1 HB1.out).mono ?_
  rintro e w2 ⟨xa, xc, xs, rfl, hlb, hro, hb2⟩
  have HB2 := Lib.hid (HB1.out.trans (hb2.mono HB1.out.size))
  have HX := Lib.hid (fun V (hV : Below w2.heap.size w2 V) => hro.below hV (Nat.le_refl _))
  have HXB := Lib.hid hlb
  clear hlb hro hb2
  obtain ⟨nx, hnx⟩ : ∃ nx, xs.length = nx := ⟨_, rfl⟩
  rw [hnx]
  have HNX := Lib.hid hnx
  clear hnx
  obtain ⟨k0, k1, k2⟩ := HKA.out w2 HB2.out
  go_wp2_with fail
  clear k0 k1 k2
  refine (HE2.out w2 HB2.out).mono ?_
  rintro e w3 ⟨ya, yc, ys, rfl, hlb, hro, hb3⟩
  obtain rfl := HLB.out _ _ HXB.out hlb
  have HB3 := Lib.hid (HB2.out.trans (hb3.mono HB2.out.size))
  have HXY := Lib.hid (fun V (hV : Below w3.heap.size w3 V) => And.intro (HX.out V (hb3.trans (hV.mono hb3.size))) (hro.below hV (Nat.le_refl _)))
  clear hlb hro hb3
  rw [HNX.out]
  go_wp2_with fail
  refine (HD1.out w3 HB3.out HNB.out).mono ?_
  rintro e w4 ⟨T, rfl, hD⟩
  have HB4 := Lib.hid (HB3.out.trans (hD.below.mono HB3.out.size))
  have HB34 := Lib.hid hD.below
  have HDT := Lib.hid hD
  clear hD
  obtain ⟨te, ta, tc, TL, tq⟩ := T
  simp only [LyT.val]
  obtain ⟨tn, htn⟩ : ∃ tn, TL.length = tn := ⟨_, rfl⟩
  have HTN := Lib.hid htn
  rw [htn]
  clear htn
  go_upto_region 7 with fail
  obtain ⟨p, hp⟩ : ∃ p, w4.heap.size = p := ⟨_, rfl⟩
  obtain ⟨W4, hW4⟩ : ∃ W4, w4.alloc (.cells #[.int .u64 (te : Int), .slice ta tn tc, .int .i64 tq] 25) = W4 := ⟨_, rfl⟩
  have HA4 : Hid (Below w4.heap.size w4 W4) := Lib.hid (by rw [← hW4]; exact (Below.refl _ _).alloc (Nat.le_refl _) _)
  have HW4 : Hid (Below W.heap.size W W4) := Lib.hid (HB4.out.trans (HA4.out.mono HB4.out.size))
  have HP4 : Hid (Own W4 p 25 [.int .u64 (te : Int), .slice ta tn tc, .int .i64 tq]) := Lib.hid (by rw [← hW4, ← hp]; exact Own.new w4 _ _)
  rw [hW4, hp]
  clear hW4 hp
  go_wp2_with fail
  refine (HD2.out W4 HW4.out HNB.out).mono ?_
  rintro e w5 ⟨U, rfl, hD⟩
  have HB5 := Lib.hid (HW4.out.trans (hD.below.mono HW4.out.size))
  have HB45 : Hid (Below w4.heap.size w4 w5) := Lib.hid (HA4.out.trans (hD.below.mono HA4.out.size))
  have HP5 := Lib.hid (HP4.out.below hD.below HP4.out.lt)
  have HDU := Lib.hid hD
  clear hD
  obtain ⟨ue, ua, uc, UL, uq⟩ := U
  simp only [LyT.val]
  obtain ⟨un', hun⟩ : ∃ tn, UL.length = tn := ⟨_, rfl⟩
  have HUN := Lib.hid hun
  rw [hun]
  clear hun
  go_upto_region 8 with fail
  obtain ⟨p2, hp⟩ : ∃ p, w5.heap.size = p := ⟨_, rfl⟩
  obtain ⟨W5, hW5⟩ : ∃ W4, w5.alloc (.cells #[.int .u64 (ue : Int), .slice ua un' uc, .int .i64 uq] 25) = W4 := ⟨_, rfl⟩
  have HA5 : Hid (Below w5.heap.size w5 W5) := Lib.hid (by rw [← hW5]; exact (Below.refl _ _).alloc (Nat.le_refl _) _)
  have HW5 : Hid (Below W.heap.size W W5) := Lib.hid (HB5.out.trans (HA5.out.mono HB5.out.size))
  have HP6 : Hid (Own W5 p2 25 [.int .u64 (ue : Int), .slice ua un' uc, .int .i64 uq]) := Lib.hid (by rw [← hW5, ← hp]; exact Own.new w5 _ _)
  have HP7 : Hid (Own W5 p 25 [.int .u64 (te : Int), .slice ta tn tc, .int .i64 tq]) := Lib.hid (by rw [← hW5]; exact HP5.out.alloc _)
  have HSM := Lib.hid (rlsame_any ⟨te, ta, tc, TL, tq⟩ ⟨ue, ua, uc, UL, uq⟩ w5.heap.size W5 ((HDT.out.inn.below (HB45.out.trans (HA5.out.mono HB45.out.size)) (Nat.le_refl _)).mono HB45.out.size) (HDU.out.inn.below HA5.out (Nat.le_refl _)) HDT.out.fit HDU.out.fit HA5.out.size)
  rw [HDT.out.x, HDU.out.x, show lalike (decL bs) (decL bs) = true from lalike_iff.2 rfl] at HSM
  simp only [LyT.val, HTN.out, HUN.out] at HSM
  have HXY5 := Lib.hid (fun V (hV : Below W5.heap.size W5 V) => HXY.out V (HB34.out.trans ((HB45.out.trans (HA5.out.mono HB45.out.size)).trans (hV.mono (Nat.le_trans HB45.out.size HA5.out.size)) |>.mono HB34.out.size)))
  rw [hW5, hp]
  clear hW5 hp
  have z0 := HP7.out.cell 0
  have z1 := HP7.out.cell 1
  have z2 := HP7.out.cell 2
  have y0 := HP6.out.cell 0
  have y1 := HP6.out.cell 1
  have y2 := HP6.out.cell 2
  have hz1 := HP6.out.lt
  have hz2 := HP7.out.lt
  simp at z0 z1 z2 y0 y1 y2
  go_wp2_with fail
  refine HSM.out.mono ?_
  rintro e w6 ⟨rfl, hb6⟩
  have HB6 := Lib.hid (HW5.out.trans (hb6.mono HW5.out.size))
  have HXY6 := Lib.hid (fun V (hV : Below w6.heap.size w6 V) => HXY5.out V (hb6.trans (hV.mono hb6.size)))
  clear hb6 z0 z1 z2 y0 y1 y2 hz1 hz2
  go_upto_region 9 with fail
  have HS0 : Hid (∀ V, Below W.heap.size W V → Below W.heap.size W V) := Lib.hid (fun V h => h)
  refine wp_region_held_drew (S := (fun V => Below W.heap.size W V ∧ Below w6.heap.size w6 V)) (by kernel_rfl) ⟨HB6.out.drew, (Below.refl _ _).drew⟩ (fun hHeld => ?_)
  refine wpAnyH_take (i := 0) (v := .agg #[.int .u64 (ep : Int), .slice sa n c, .int .i64 q]) rfl (by kernel_rfl) (by kernel_rfl) (by kernel_rfl) (fun _ _ _ h => h) (Or.inl ⟨by kernel_rfl, ?_⟩) hHeld ?_
  · (intro w hSw; have hk := HKA.out w (HS0.out w hSw.1); obtain ⟨k0, k1, k2⟩ := hk; go_simp)
  (try simp only [Act.put, List.getElem_toArray, List.getElem_cons_succ, List.getElem_cons_zero, List.setIfInBounds_toArray, List.set_cons_zero, List.set_cons_succ])
  refine wpAnyH_take (i := 1) (v := ?_) rfl (by kernel_rfl) (by kernel_rfl) (by kernel_rfl) (fun _ _ _ h => h) (Or.inl ⟨by kernel_rfl, ?_⟩) hHeld ?_
  rotate_left
  · (intro w hSw; first | (go_simp; done) | (go_simp; with_reducible rfl))
  (try simp only [Act.put, List.getElem_toArray, List.getElem_cons_succ, List.getElem_cons_zero, List.setIfInBounds_toArray, List.set_cons_zero, List.set_cons_succ])
  refine wpAnyH_take (i := 3) (v := .agg #[.int .u64 (ep : Int), .slice sa n c, .int .i64 q]) rfl (by kernel_rfl) (by kernel_rfl) (by kernel_rfl) (fun _ _ _ h => h) (Or.inl ⟨by kernel_rfl, ?_⟩) hHeld ?_
  · (intro w hSw; have hk := HKA.out w (HS0.out w hSw.1); obtain ⟨k0, k1, k2⟩ := hk; go_simp)
  (try simp only [Act.put, List.getElem_toArray, List.getElem_cons_succ, List.getElem_cons_zero, List.setIfInBounds_toArray, List.set_cons_zero, List.set_cons_succ])
  refine wpAnyH_take (i := 4) (v := ?_) rfl (by kernel_rfl) (by kernel_rfl) (by kernel_rfl) (fun _ _ _ h => h) (Or.inl ⟨by kernel_rfl, ?_⟩) hHeld ?_
  rotate_left
  · (intro w hSw; first | (go_simp; done) | (go_simp; with_reducible rfl))
  (try simp only [Act.put, List.getElem_toArray, List.getElem_cons_succ, List.getElem_cons_zero, List.setIfInBounds_toArray, List.set_cons_zero, List.set_cons_succ])
  refine wpAnyH_ready (rs := [2]) (by kernel_rfl) (by simp) (AllReadyH.cons rfl (fun K hK => ?_) AllReadyH.nil)
  have hH := hHeld
  (go_simp; go_at_call 13; refine (HC1.out _ hH.1).mono ?_; rintro e wa ⟨va, rfl, hla, hba⟩; obtain ⟨pa, pc, rfl, hra, _, _⟩ := hla.form)
  refine hK.out _ _ (by exact ⟨hH.1.trans (hba.mono hH.1.size), hH.2.trans (hba.mono hH.2.size)⟩) (fun hHq1 => ?_)
  clear hK K hH 
  have HRA := Lib.hid hra; have HLA := Lib.hid hla; have HCA := Lib.hid (i64s_length ch); rw [HCA.out]; clear hla hra hba
  (try simp only [Act.put, List.getElem_toArray, List.getElem_cons_succ, List.getElem_cons_zero, List.setIfInBounds_toArray, List.set_cons_zero, List.set_cons_succ])
  refine wpAnyH_ready (rs := [5]) (by kernel_rfl) (by simp) (AllReadyH.cons rfl (fun K hK => ?_) AllReadyH.nil)
  have hH := hHq1
  (go_simp; go_at_call 14; refine (HC2.out _ hH.1).mono ?_; rintro e wb ⟨qa, qc, rfl, hrb, hbb⟩)
  refine hK.out _ _ (by exact ⟨hH.1.trans (hbb.mono hH.1.size), hH.2.trans (hbb.mono hH.2.size)⟩) (fun hHq2 => ?_)
  clear hK K hH hHq1
  have HRB := Lib.hid hrb; have HRA2 := Lib.hid ((HRA.out.mono (Nat.le_refl _)).below hbb (Nat.le_refl _) |>.mono hbb.size); clear hrb hbb
  (try simp only [Act.put, List.getElem_toArray, List.getElem_cons_succ, List.getElem_cons_zero, List.setIfInBounds_toArray, List.set_cons_zero, List.set_cons_succ])
  refine wpAnyH_ready (rs := [6]) (by kernel_rfl) (by simp) (AllReadyH.cons rfl (fun K hK => ?_) AllReadyH.nil)
  have hH := hHq2
  (go_simp; go_at_call 12; refine (sameChain_any ch ch pa qa pc qc wb.heap.size wb HRA2.out HRB.out (Nat.le_refl _) (by have := HCL.out; omega) (by have := HCL.out; omega)).mono ?_; rintro e wc ⟨rfl, hbc⟩)
  refine hK.out _ _ (by exact ⟨hH.1.trans (hbc.mono hH.1.size), hH.2.trans (hbc.mono hH.2.size)⟩) (fun hHq3 => ?_)
  clear hK K hH hHq2
  (try simp only [Act.put, List.getElem_toArray, List.getElem_cons_succ, List.getElem_cons_zero, List.setIfInBounds_toArray, List.set_cons_zero, List.set_cons_succ])
  refine wpAnyH_take (i := 7) (v := ?_) rfl (by kernel_rfl) (by kernel_rfl) (by kernel_rfl) (fun _ _ _ h => h) (Or.inl ⟨by kernel_rfl, ?_⟩) hHq3 ?_
  rotate_left
  · (intro w hSw; first | (go_simp; done) | (go_simp; with_reducible rfl))
  (try simp only [Act.put, List.getElem_toArray, List.getElem_cons_succ, List.getElem_cons_zero, List.setIfInBounds_toArray, List.set_cons_zero, List.set_cons_succ])
  refine wpAnyH_done (by kernel_rfl) ?_ _
  have hEnd := hHq3
  have HB7 : Hid (Below W.heap.size W wc) := Lib.hid hEnd.1
  have HR67 : Hid (Below w6.heap.size w6 wc) := Lib.hid hEnd.2
  clear hHeld hEnd
  go_upto_region 10 with fail
  refine wp_region_held_drew (S := (fun V => Below W.heap.size W V ∧ Below wc.heap.size wc V)) (by kernel_rfl) ⟨HB7.out.drew, (Below.refl _ _).drew⟩ (fun hHeld => ?_)
  refine wpAnyH_take (i := 0) (v := .agg #[.int .u64 (ep : Int), .slice sa n c, .int .i64 q]) rfl (by kernel_rfl) (by kernel_rfl) (by kernel_rfl) (fun _ _ _ h => h) (Or.inl ⟨by kernel_rfl, ?_⟩) hHeld ?_
  · (intro w hSw; have hk := HKA.out w (HS0.out w hSw.1); obtain ⟨k0, k1, k2⟩ := hk; go_simp)
  (try simp only [Act.put, List.getElem_toArray, List.getElem_cons_succ, List.getElem_cons_zero, List.setIfInBounds_toArray, List.set_cons_zero, List.set_cons_succ])
  refine wpAnyH_take (i := 2) (v := .agg #[.int .u64 (ep : Int), .slice sa n c, .int .i64 q]) rfl (by kernel_rfl) (by kernel_rfl) (by kernel_rfl) (fun _ _ _ h => h) (Or.inl ⟨by kernel_rfl, ?_⟩) hHeld ?_
  · (intro w hSw; have hk := HKA.out w (HS0.out w hSw.1); obtain ⟨k0, k1, k2⟩ := hk; go_simp)
  (try simp only [Act.put, List.getElem_toArray, List.getElem_cons_succ, List.getElem_cons_zero, List.setIfInBounds_toArray, List.set_cons_zero, List.set_cons_succ])
  refine wpAnyH_ready (rs := [1]) (by kernel_rfl) (by simp) (AllReadyH.cons rfl (fun K hK => ?_) AllReadyH.nil)
  have hH := hHeld
  (go_simp; go_at_call 15; refine (HU1.out _ hH.1).mono ?_; rintro e wa2 ⟨va, rfl, hla, hba⟩; obtain ⟨pa2, pc2, rfl, hra, _, _⟩ := hla.form)
  refine hK.out _ _ (by exact ⟨hH.1.trans (hba.mono hH.1.size), hH.2.trans (hba.mono hH.2.size)⟩) (fun hHq1 => ?_)
  clear hK K hH 
  have HRC := Lib.hid hra; have HCB := Lib.hid (i64s_length un); rw [HCB.out]; clear hla hra hba
  (try simp only [Act.put, List.getElem_toArray, List.getElem_cons_succ, List.getElem_cons_zero, List.setIfInBounds_toArray, List.set_cons_zero, List.set_cons_succ])
  refine wpAnyH_ready (rs := [3]) (by kernel_rfl) (by simp) (AllReadyH.cons rfl (fun K hK => ?_) AllReadyH.nil)
  have hH := hHq1
  (go_simp; go_at_call 16; refine (HU2.out _ hH.1).mono ?_; rintro e wb2 ⟨vb, rfl, hlb, hbb⟩; obtain ⟨qa2, qc2, rfl, hrb, _, _⟩ := hlb.form)
  refine hK.out _ _ (by exact ⟨hH.1.trans (hbb.mono hH.1.size), hH.2.trans (hbb.mono hH.2.size)⟩) (fun hHq2 => ?_)
  clear hK K hH hHq1
  have HRD := Lib.hid hrb; have HRC2 := Lib.hid ((HRC.out.below hbb (Nat.le_refl _)).mono hbb.size); rw [HCB.out]; clear hlb hrb hbb
  (try simp only [Act.put, List.getElem_toArray, List.getElem_cons_succ, List.getElem_cons_zero, List.setIfInBounds_toArray, List.set_cons_zero, List.set_cons_succ])
  refine wpAnyH_ready (rs := [4]) (by kernel_rfl) (by simp) (AllReadyH.cons rfl (fun K hK => ?_) AllReadyH.nil)
  have hH := hHq2
  (go_simp; go_at_call 12; refine (sameChain_any un un pa2 qa2 pc2 qc2 wb2.heap.size wb2 HRC2.out HRD.out (Nat.le_refl _) (by have := HUL.out; omega) (by have := HUL.out; omega)).mono ?_; rintro e wd ⟨rfl, hbc⟩)
  refine hK.out _ _ (by exact ⟨hH.1.trans (hbc.mono hH.1.size), hH.2.trans (hbc.mono hH.2.size)⟩) (fun hHq3 => ?_)
  clear hK K hH hHq2
  (try simp only [Act.put, List.getElem_toArray, List.getElem_cons_succ, List.getElem_cons_zero, List.setIfInBounds_toArray, List.set_cons_zero, List.set_cons_succ])
  refine wpAnyH_take (i := 5) (v := ?_) rfl (by kernel_rfl) (by kernel_rfl) (by kernel_rfl) (fun _ _ _ h => h) (Or.inl ⟨by kernel_rfl, ?_⟩) hHq3 ?_
  rotate_left
  · (intro w hSw; first | (go_simp; done) | (go_simp; with_reducible rfl))
  (try simp only [Act.put, List.getElem_toArray, List.getElem_cons_succ, List.getElem_cons_zero, List.setIfInBounds_toArray, List.set_cons_zero, List.set_cons_succ])
  refine wpAnyH_done (by kernel_rfl) ?_ _
  have hEnd := hHq3
  have HB8 : Hid (Below W.heap.size W wd) := Lib.hid hEnd.1
  have HXY10 := Lib.hid (fun V (hV : Below wd.heap.size wd V) => HXY6.out V (HR67.out.trans ((hEnd.2.trans (hV.mono hEnd.2.size)).mono HR67.out.size)))
  clear hHeld hEnd
  go_upto_region 11 with fail
  have hrr : (rr == rr) = true := by cases rr <;> rfl
  have hlc : (lc == lc) = true := by simp
  have hld : (ld == ld) = true := by simp
  have hsI : (sI == sI) = true := by simp
  refine wp_region_held_drew (S := (fun V => Below W.heap.size W V ∧ Below wd.heap.size wd V)) (by kernel_rfl) ⟨HB8.out.drew, (Below.refl _ _).drew⟩ (fun hHeld => ?_)
  refine wpAnyH_ready (rs := [0]) (by kernel_rfl) (by simp) (AllReadyH.cons rfl (fun K hK => ?_) AllReadyH.nil)
  have hH := hHeld
  (go_simp; go_at_call 6; refine (HAL.out _).mono ?_; rintro e we ⟨rfl, hbe⟩)
  refine hK.out _ _ (by exact ⟨hH.1.trans (hbe.mono hH.1.size), hH.2.trans (hbe.mono hH.2.size)⟩) (fun hHq1 => ?_)
  clear hK K hH 
  clear hbe
  (try simp only [Act.put, List.getElem_toArray, List.getElem_cons_succ, List.getElem_cons_zero, List.setIfInBounds_toArray, List.set_cons_zero, List.set_cons_succ])
  refine wpAnyH_take (i := 1) (v := ?_) rfl (by kernel_rfl) (by kernel_rfl) (by kernel_rfl) (fun _ _ _ h => h) (Or.inl ⟨by kernel_rfl, ?_⟩) hHq1 ?_
  rotate_left
  · (intro w hSw; first | (go_simp; done) | (go_simp; with_reducible rfl))
  (try simp only [Act.put, List.getElem_toArray, List.getElem_cons_succ, List.getElem_cons_zero, List.setIfInBounds_toArray, List.set_cons_zero, List.set_cons_succ])
  refine wpAnyH_take (i := 2) (v := .agg #[.int .u64 (ep : Int), .slice sa n c, .int .i64 q]) rfl (by kernel_rfl) (by kernel_rfl) (by kernel_rfl) (fun _ _ _ h => h) (Or.inl ⟨by kernel_rfl, ?_⟩) hHq1 ?_
  · (intro w hSw; have hk := HKA.out w (HS0.out w hSw.1); obtain ⟨k0, k1, k2⟩ := hk; go_simp)
  (try simp only [Act.put, List.getElem_toArray, List.getElem_cons_succ, List.getElem_cons_zero, List.setIfInBounds_toArray, List.set_cons_zero, List.set_cons_succ])
  refine wpAnyH_take (i := 4) (v := .agg #[.int .u64 (ep : Int), .slice sa n c, .int .i64 q]) rfl (by kernel_rfl) (by kernel_rfl) (by kernel_rfl) (fun _ _ _ h => h) (Or.inl ⟨by kernel_rfl, ?_⟩) hHq1 ?_
  · (intro w hSw; have hk := HKA.out w (HS0.out w hSw.1); obtain ⟨k0, k1, k2⟩ := hk; go_simp)
  (try simp only [Act.put, List.getElem_toArray, List.getElem_cons_succ, List.getElem_cons_zero, List.setIfInBounds_toArray, List.set_cons_zero, List.set_cons_succ])
  refine wpAnyH_ready (rs := [3]) (by kernel_rfl) (by simp) (AllReadyH.cons rfl (fun K hK => ?_) AllReadyH.nil)
  have hH := hHq1
  (go_simp; go_at_call 17; refine (HR1.out _ hH.1).mono ?_; rintro e wf ⟨rfl, hbf⟩)
  refine hK.out _ _ (by exact ⟨hH.1.trans (hbf.mono hH.1.size), hH.2.trans (hbf.mono hH.2.size)⟩) (fun hHq2 => ?_)
  clear hK K hH hHq1
  clear hbf
  (try simp only [Act.put, List.getElem_toArray, List.getElem_cons_succ, List.getElem_cons_zero, List.setIfInBounds_toArray, List.set_cons_zero, List.set_cons_succ])
  refine wpAnyH_ready (rs := [5]) (by kernel_rfl) (by simp) (AllReadyH.cons rfl (fun K hK => ?_) AllReadyH.nil)
  have hH := hHq2
  (go_simp; go_at_call 18; refine (HR2.out _ hH.1).mono ?_; rintro e wg ⟨rfl, hcg⟩; have hbg := hcg.low)
  refine hK.out _ _ (by exact ⟨hH.1.trans (hbg.mono hH.1.size), hH.2.trans (hbg.mono hH.2.size)⟩) (fun hHq3 => ?_)
  clear hK K hH hHq2
  clear hbg hcg
  (try simp only [Act.put, List.getElem_toArray, List.getElem_cons_succ, List.getElem_cons_zero, List.setIfInBounds_toArray, List.set_cons_zero, List.set_cons_succ])
  refine wpAnyH_take (i := 6) (v := ?_) rfl (by kernel_rfl) (by kernel_rfl) (by kernel_rfl) (fun _ _ _ h => h) (Or.inl ⟨by kernel_rfl, ?_⟩) hHq3 ?_
  rotate_left
  · (intro w hSw; first | (go_simp; done) | (go_simp; with_reducible rfl))
  (try simp only [Act.put, List.getElem_toArray, List.getElem_cons_succ, List.getElem_cons_zero, List.setIfInBounds_toArray, List.set_cons_zero, List.set_cons_succ])
  refine wpAnyH_take (i := 7) (v := ?_) rfl (by kernel_rfl) (by kernel_rfl) (by kernel_rfl) (fun _ _ _ h => h) (Or.inl ⟨by kernel_rfl, ?_⟩) hHq3 ?_
  rotate_left
  · (intro w hSw; first | (go_simp; done) | (go_simp; with_reducible rfl))
  (try simp only [Act.put, List.getElem_toArray, List.getElem_cons_succ, List.getElem_cons_zero, List.setIfInBounds_toArray, List.set_cons_zero, List.set_cons_succ])
  refine wpAnyH_take (i := 8) (v := ?_) rfl (by kernel_rfl) (by kernel_rfl) (by kernel_rfl) (fun _ _ _ h => h) (Or.inl ⟨by kernel_rfl, ?_⟩) hHq3 ?_
  rotate_left
  · (intro w hSw; first | (go_simp; done) | (go_simp; with_reducible rfl))
  (try simp only [Act.put, List.getElem_toArray, List.getElem_cons_succ, List.getElem_cons_zero, List.setIfInBounds_toArray, List.set_cons_zero, List.set_cons_succ])
  refine wpAnyH_take (i := 9) (v := ?_) rfl (by kernel_rfl) (by kernel_rfl) (by kernel_rfl) (fun _ _ _ h => h) (Or.inl ⟨by kernel_rfl, ?_⟩) hHq3 ?_
  rotate_left
  · (intro w hSw; first | (go_simp; done) | (go_simp; with_reducible rfl))
  (try simp only [Act.put, List.getElem_toArray, List.getElem_cons_succ, List.getElem_cons_zero, List.setIfInBounds_toArray, List.set_cons_zero, List.set_cons_succ])
  refine wpAnyH_take (i := 10) (v := .string ⟨xs.toArray⟩) rfl (by kernel_rfl) (by kernel_rfl) (by kernel_rfl) (fun _ _ _ h => h) (Or.inl ⟨by kernel_rfl, ?_⟩) hHq3 ?_
  · (intro w hSw; have hcv := conv_ro (c := xc) ((HXY10.out w hSw.2).1.mono (Nat.le_refl _)) HNX.out; go_simp)
  (try simp only [Act.put, List.getElem_toArray, List.getElem_cons_succ, List.getElem_cons_zero, List.setIfInBounds_toArray, List.set_cons_zero, List.set_cons_succ])
  refine wpAnyH_take (i := 11) (v := ?_) rfl (by kernel_rfl) (by kernel_rfl) (by kernel_rfl) (fun _ _ _ h => h) (Or.inl ⟨by kernel_rfl, ?_⟩) hHq3 ?_
  rotate_left
  · (intro w hSw; first | (go_simp; done) | (go_simp; with_reducible rfl))
  (try simp only [Act.put, List.getElem_toArray, List.getElem_cons_succ, List.getElem_cons_zero, List.setIfInBounds_toArray, List.set_cons_zero, List.set_cons_succ])
  refine wpAnyH_take (i := 12) (v := .string ⟨xs.toArray⟩) rfl (by kernel_rfl) (by kernel_rfl) (by kernel_rfl) (fun _ _ _ h => h) (Or.inl ⟨by kernel_rfl, ?_⟩) hHq3 ?_
  · (intro w hSw; have hcv := conv_ro (c := yc) ((HXY10.out w hSw.2).2.mono (Nat.le_refl _)) HNX.out; go_simp)
  (try simp only [Act.put, List.getElem_toArray, List.getElem_cons_succ, List.getElem_cons_zero, List.setIfInBounds_toArray, List.set_cons_zero, List.set_cons_succ])
  refine wpAnyH_take (i := 13) (v := ?_) rfl (by kernel_rfl) (by kernel_rfl) (by kernel_rfl) (fun _ _ _ h => h) (Or.inl ⟨by kernel_rfl, ?_⟩) hHq3 ?_
  rotate_left
  · (intro w hSw; first | (go_simp; done) | (go_simp; with_reducible rfl))
  (try simp only [Act.put, List.getElem_toArray, List.getElem_cons_succ, List.getElem_cons_zero, List.setIfInBounds_toArray, List.set_cons_zero, List.set_cons_succ])
  refine wpAnyH_take (i := 14) (v := ?_) rfl (by kernel_rfl) (by kernel_rfl) (by kernel_rfl) (fun _ _ _ h => h) (Or.inl ⟨by kernel_rfl, ?_⟩) hHq3 ?_
  rotate_left
  · (intro w hSw; first | (go_simp; done) | (go_simp; with_reducible rfl))
  (try simp only [Act.put, List.getElem_toArray, List.getElem_cons_succ, List.getElem_cons_zero, List.setIfInBounds_toArray, List.set_cons_zero, List.set_cons_succ])
  refine wpAnyH_take (i := 15) (v := ?_) rfl (by kernel_rfl) (by kernel_rfl) (by kernel_rfl) (fun _ _ _ h => h) (Or.inl ⟨by kernel_rfl, ?_⟩) hHq3 ?_
  rotate_left
  · (intro w hSw; first | (go_simp; done) | (go_simp; with_reducible rfl))
  (try simp only [Act.put, List.getElem_toArray, List.getElem_cons_succ, List.getElem_cons_zero, List.setIfInBounds_toArray, List.set_cons_zero, List.set_cons_succ])
  refine wpAnyH_take (i := 16) (v := ?_) rfl (by kernel_rfl) (by kernel_rfl) (by kernel_rfl) (fun _ _ _ h => h) (Or.inl ⟨by kernel_rfl, ?_⟩) hHq3 ?_
  rotate_left
  · (intro w hSw; first | (go_simp; done) | (go_simp; with_reducible rfl))
  (try simp only [Act.put, List.getElem_toArray, List.getElem_cons_succ, List.getElem_cons_zero, List.setIfInBounds_toArray, List.set_cons_zero, List.set_cons_succ])
  refine wpAnyH_take (i := 17) (v := ?_) rfl (by kernel_rfl) (by kernel_rfl) (by kernel_rfl) (fun _ _ _ h => h) (Or.inl ⟨by kernel_rfl, ?_⟩) hHq3 ?_
  rotate_left
  · (intro w hSw; first | (go_simp; done) | (go_simp; with_reducible rfl))
  (try simp only [Act.put, List.getElem_toArray, List.getElem_cons_succ, List.getElem_cons_zero, List.setIfInBounds_toArray, List.set_cons_zero, List.set_cons_succ])
  refine wpAnyH_take (i := 18) (v := ?_) rfl (by kernel_rfl) (by kernel_rfl) (by kernel_rfl) (fun _ _ _ h => h) (Or.inl ⟨by kernel_rfl, ?_⟩) hHq3 ?_
  rotate_left
  · (intro w hSw; first | (go_simp; done) | (go_simp; with_reducible rfl))
  (try simp only [Act.put, List.getElem_toArray, List.getElem_cons_succ, List.getElem_cons_zero, List.setIfInBounds_toArray, List.set_cons_zero, List.set_cons_succ])
  refine wpAnyH_take (i := 19) (v := ?_) rfl (by kernel_rfl) (by kernel_rfl) (by kernel_rfl) (fun _ _ _ h => h) (Or.inl ⟨by kernel_rfl, ?_⟩) hHq3 ?_
  rotate_left
  · (intro w hSw; first | (go_simp; done) | (go_simp; with_reducible rfl))
  (try simp only [Act.put, List.getElem_toArray, List.getElem_cons_succ, List.getElem_cons_zero, List.setIfInBounds_toArray, List.set_cons_zero, List.set_cons_succ])
  refine wpAnyH_take (i := 20) (v := ?_) rfl (by kernel_rfl) (by kernel_rfl) (by kernel_rfl) (fun _ _ _ h => h) (Or.inl ⟨by kernel_rfl, ?_⟩) hHq3 ?_
  rotate_left
  · (intro w hSw; first | (go_simp; done) | (go_simp; with_reducible rfl))
  (try simp only [Act.put, List.getElem_toArray, List.getElem_cons_succ, List.getElem_cons_zero, List.setIfInBounds_toArray, List.set_cons_zero, List.set_cons_succ])
  refine wpAnyH_take (i := 21) (v := ?_) rfl (by kernel_rfl) (by kernel_rfl) (by kernel_rfl) (fun _ _ _ h => h) (Or.inl ⟨by kernel_rfl, ?_⟩) hHq3 ?_
  rotate_left
  · (intro w hSw; first | (go_simp; done) | (go_simp; with_reducible rfl))
  (try simp only [Act.put, List.getElem_toArray, List.getElem_cons_succ, List.getElem_cons_zero, List.setIfInBounds_toArray, List.set_cons_zero, List.set_cons_succ])
  refine wpAnyH_take (i := 22) (v := ?_) rfl (by kernel_rfl) (by kernel_rfl) (by kernel_rfl) (fun _ _ _ h => h) (Or.inl ⟨by kernel_rfl, ?_⟩) hHq3 ?_
  rotate_left
  · (intro w hSw; first | (go_simp; done) | (go_simp; with_reducible rfl))
  (try simp only [Act.put, List.getElem_toArray, List.getElem_cons_succ, List.getElem_cons_zero, List.setIfInBounds_toArray, List.set_cons_zero, List.set_cons_succ])
  refine wpAnyH_take (i := 23) (v := ?_) rfl (by kernel_rfl) (by kernel_rfl) (by kernel_rfl) (fun _ _ _ h => h) (Or.inl ⟨by kernel_rfl, ?_⟩) hHq3 ?_
  rotate_left
  · (intro w hSw; first | (go_simp; done) | (go_simp; with_reducible rfl))
  (try simp only [Act.put, List.getElem_toArray, List.getElem_cons_succ, List.getElem_cons_zero, List.setIfInBounds_toArray, List.set_cons_zero, List.set_cons_succ])
  refine wpAnyH_take (i := 24) (v := ?_) rfl (by kernel_rfl) (by kernel_rfl) (by kernel_rfl) (fun _ _ _ h => h) (Or.inl ⟨by kernel_rfl, ?_⟩) hHq3 ?_
  rotate_left
  · (intro w hSw; first | (go_simp; done) | (go_simp; with_reducible rfl))
  (try simp only [Act.put, List.getElem_toArray, List.getElem_cons_succ, List.getElem_cons_zero, List.setIfInBounds_toArray, List.set_cons_zero, List.set_cons_succ])
  refine wpAnyH_take (i := 25) (v := ?_) rfl (by kernel_rfl) (by kernel_rfl) (by kernel_rfl) (fun _ _ _ h => h) (Or.inl ⟨by kernel_rfl, ?_⟩) hHq3 ?_
  rotate_left
  · (intro w hSw; first | (go_simp; done) | (go_simp; with_reducible rfl))
  (try simp only [Act.put, List.getElem_toArray, List.getElem_cons_succ, List.getElem_cons_zero, List.setIfInBounds_toArray, List.set_cons_zero, List.set_cons_succ])
  refine wpAnyH_take (i := 26) (v := ?_) rfl (by kernel_rfl) (by kernel_rfl) (by kernel_rfl) (fun _ _ _ h => h) (Or.inl ⟨by kernel_rfl, ?_⟩) hHq3 ?_
  rotate_left
  · (intro w hSw; first | (go_simp; done) | (go_simp; with_reducible rfl))
  (try simp only [Act.put, List.getElem_toArray, List.getElem_cons_succ, List.getElem_cons_zero, List.setIfInBounds_toArray, List.set_cons_zero, List.set_cons_succ])
  refine wpAnyH_take (i := 27) (v := ?_) rfl (by kernel_rfl) (by kernel_rfl) (by kernel_rfl) (fun _ _ _ h => h) (Or.inl ⟨by kernel_rfl, ?_⟩) hHq3 ?_
  rotate_left
  · (intro w hSw; first | (go_simp; done) | (go_simp; with_reducible rfl))
  (try simp only [Act.put, List.getElem_toArray, List.getElem_cons_succ, List.getElem_cons_zero, List.setIfInBounds_toArray, List.set_cons_zero, List.set_cons_succ])
  refine wpAnyH_take (i := 28) (v := ?_) rfl (by kernel_rfl) (by kernel_rfl) (by kernel_rfl) (fun _ _ _ h => h) (Or.inl ⟨by kernel_rfl, ?_⟩) hHq3 ?_
  rotate_left
  · (intro w hSw; first | (go_simp; done) | (go_simp; with_reducible rfl))
  (try simp only [Act.put, List.getElem_toArray, List.getElem_cons_succ, List.getElem_cons_zero, List.setIfInBounds_toArray, List.set_cons_zero, List.set_cons_succ])
  refine wpAnyH_take (i := 29) (v := ?_) rfl (by kernel_rfl) (by kernel_rfl) (by kernel_rfl) (fun _ _ _ h => h) (Or.inl ⟨by kernel_rfl, ?_⟩) hHq3 ?_
  rotate_left
  · (intro w hSw; first | (go_simp; done) | (go_simp; with_reducible rfl))
  (try simp only [Act.put, List.getElem_toArray, List.getElem_cons_succ, List.getElem_cons_zero, List.setIfInBounds_toArray, List.set_cons_zero, List.set_cons_succ])
  refine wpAnyH_take (i := 30) (v := ?_) rfl (by kernel_rfl) (by kernel_rfl) (by kernel_rfl) (fun _ _ _ h => h) (Or.inl ⟨by kernel_rfl, ?_⟩) hHq3 ?_
  rotate_left
  · (intro w hSw; first | (go_simp; done) | (go_simp; with_reducible rfl))
  (try simp only [Act.put, List.getElem_toArray, List.getElem_cons_succ, List.getElem_cons_zero, List.setIfInBounds_toArray, List.set_cons_zero, List.set_cons_succ])
  refine wpAnyH_take (i := 31) (v := ?_) rfl (by kernel_rfl) (by kernel_rfl) (by kernel_rfl) (fun _ _ _ h => h) (Or.inl ⟨by kernel_rfl, ?_⟩) hHq3 ?_
  rotate_left
  · (intro w hSw; first | (go_simp; done) | (go_simp; with_reducible rfl))
  (try simp only [Act.put, List.getElem_toArray, List.getElem_cons_succ, List.getElem_cons_zero, List.setIfInBounds_toArray, List.set_cons_zero, List.set_cons_succ])
  refine wpAnyH_take (i := 32) (v := ?_) rfl (by kernel_rfl) (by kernel_rfl) (by kernel_rfl) (fun _ _ _ h => h) (Or.inl ⟨by kernel_rfl, ?_⟩) hHq3 ?_
  rotate_left
  · (intro w hSw; first | (go_simp; done) | (go_simp; with_reducible rfl))
  (try simp only [Act.put, List.getElem_toArray, List.getElem_cons_succ, List.getElem_cons_zero, List.setIfInBounds_toArray, List.set_cons_zero, List.set_cons_succ])
  refine wpAnyH_take (i := 33) (v := ?_) rfl (by kernel_rfl) (by kernel_rfl) (by kernel_rfl) (fun _ _ _ h => h) (Or.inl ⟨by kernel_rfl, ?_⟩) hHq3 ?_
  rotate_left
  · (intro w hSw; first | (go_simp; done) | (go_simp; with_reducible rfl))
  (try simp only [Act.put, List.getElem_toArray, List.getElem_cons_succ, List.getElem_cons_zero, List.setIfInBounds_toArray, List.set_cons_zero, List.set_cons_succ])
  refine wpAnyH_take (i := 34) (v := ?_) rfl (by kernel_rfl) (by kernel_rfl) (by kernel_rfl) (fun _ _ _ h => h) (Or.inl ⟨by kernel_rfl, ?_⟩) hHq3 ?_
  rotate_left
  · (intro w hSw; first | (go_simp; done) | (go_simp; with_reducible rfl))
  (try simp only [Act.put, List.getElem_toArray, List.getElem_cons_succ, List.getElem_cons_zero, List.setIfInBounds_toArray, List.set_cons_zero, List.set_cons_succ])
  refine wpAnyH_take (i := 35) (v := .agg #[.int .u64 (ep : Int), .slice sa n c, .int .i64 q]) rfl (by kernel_rfl) (by kernel_rfl) (by kernel_rfl) (fun _ _ _ h => h) (Or.inl ⟨by kernel_rfl, ?_⟩) hHq3 ?_
  · (intro w hSw; have hk := HKA.out w (HS0.out w hSw.1); obtain ⟨k0, k1, k2⟩ := hk; go_simp)
  (try simp only [Act.put, List.getElem_toArray, List.getElem_cons_succ, List.getElem_cons_zero, List.setIfInBounds_toArray, List.set_cons_zero, List.set_cons_succ])
  refine wpAnyH_take (i := 36) (v := ?_) rfl (by kernel_rfl) (by kernel_rfl) (by kernel_rfl) (fun _ _ _ h => h) (Or.inl ⟨by kernel_rfl, ?_⟩) hHq3 ?_
  rotate_left
  · (intro w hSw; first | (go_simp; done) | (go_simp; with_reducible rfl))
  (try simp only [Act.put, List.getElem_toArray, List.getElem_cons_succ, List.getElem_cons_zero, List.setIfInBounds_toArray, List.set_cons_zero, List.set_cons_succ])
  refine wpAnyH_take (i := 38) (v := .agg #[.int .u64 (ep : Int), .slice sa n c, .int .i64 q]) rfl (by kernel_rfl) (by kernel_rfl) (by kernel_rfl) (fun _ _ _ h => h) (Or.inl ⟨by kernel_rfl, ?_⟩) hHq3 ?_
  · (intro w hSw; have hk := HKA.out w (HS0.out w hSw.1); obtain ⟨k0, k1, k2⟩ := hk; go_simp)
  (try simp only [Act.put, List.getElem_toArray, List.getElem_cons_succ, List.getElem_cons_zero, List.setIfInBounds_toArray, List.set_cons_zero, List.set_cons_succ])
  refine wpAnyH_take (i := 39) (v := ?_) rfl (by kernel_rfl) (by kernel_rfl) (by kernel_rfl) (fun _ _ _ h => h) (Or.inl ⟨by kernel_rfl, ?_⟩) hHq3 ?_
  rotate_left
  · (intro w hSw; first | (go_simp; done) | (go_simp; with_reducible rfl))
  (try simp only [Act.put, List.getElem_toArray, List.getElem_cons_succ, List.getElem_cons_zero, List.setIfInBounds_toArray, List.set_cons_zero, List.set_cons_succ])
  refine wpAnyH_ready (rs := [37]) (by kernel_rfl) (by simp) (AllReadyH.cons rfl (fun K hK => ?_) AllReadyH.nil)
  have hH := hHq3
  (go_simp; go_at_call 19; refine (HS1.out _ hH.1).mono ?_; rintro e wh ⟨rfl, hbh⟩)
  refine hK.out _ _ (by exact ⟨hH.1.trans (hbh.mono hH.1.size), hH.2.trans (hbh.mono hH.2.size)⟩) (fun hHq4 => ?_)
  clear hK K hH hHq3
  clear hbh
  (try simp only [Act.put, List.getElem_toArray, List.getElem_cons_succ, List.getElem_cons_zero, List.setIfInBounds_toArray, List.set_cons_zero, List.set_cons_succ])
  refine wpAnyH_ready (rs := [40]) (by kernel_rfl) (by simp) (AllReadyH.cons rfl (fun K hK => ?_) AllReadyH.nil)
  have hH := hHq4
  (go_simp; go_at_call 20; refine (HS2.out _ hH.1).mono ?_; rintro e wi ⟨rfl, hbi⟩)
  refine hK.out _ _ (by exact ⟨hH.1.trans (hbi.mono hH.1.size), hH.2.trans (hbi.mono hH.2.size)⟩) (fun hHq5 => ?_)
  clear hK K hH hHq4
  clear hbi
  (try simp only [Act.put, List.getElem_toArray, List.getElem_cons_succ, List.getElem_cons_zero, List.setIfInBounds_toArray, List.set_cons_zero, List.set_cons_succ])
  refine wpAnyH_take (i := 41) (v := ?_) rfl (by kernel_rfl) (by kernel_rfl) (by kernel_rfl) (fun _ _ _ h => h) (Or.inl ⟨by kernel_rfl, ?_⟩) hHq5 ?_
  rotate_left
  · (intro w hSw; first | (go_simp; done) | (go_simp; with_reducible rfl))
  (try simp only [Act.put, List.getElem_toArray, List.getElem_cons_succ, List.getElem_cons_zero, List.setIfInBounds_toArray, List.set_cons_zero, List.set_cons_succ])
  refine wpAnyH_take (i := 42) (v := ?_) rfl (by kernel_rfl) (by kernel_rfl) (by kernel_rfl) (fun _ _ _ h => h) (Or.inl ⟨by kernel_rfl, ?_⟩) hHq5 ?_
  rotate_left
  · (intro w hSw; first | (go_simp; done) | (go_simp; with_reducible rfl))
  (try simp only [Act.put, List.getElem_toArray, List.getElem_cons_succ, List.getElem_cons_zero, List.setIfInBounds_toArray, List.set_cons_zero, List.set_cons_succ])
  refine wpAnyH_take (i := 43) (v := ?_) rfl (by kernel_rfl) (by kernel_rfl) (by kernel_rfl) (fun _ _ _ h => h) (Or.inl ⟨by kernel_rfl, ?_⟩) hHq5 ?_
  rotate_left
  · (intro w hSw; first | (go_simp; done) | (go_simp; with_reducible rfl))
  (try simp only [Act.put, List.getElem_toArray, List.getElem_cons_succ, List.getElem_cons_zero, List.setIfInBounds_toArray, List.set_cons_zero, List.set_cons_succ])
  refine wpAnyH_done (by kernel_rfl) ?_ _
  have hEnd := hHq5
  have HE := Lib.hid (HEND.out _ hEnd.1)
  clear hHeld hEnd
  go_wp2_with fail
  go_ret
  exact ⟨rfl, HE.out⟩
end Go.Proofs.Ytkdgoopldaoihaa
