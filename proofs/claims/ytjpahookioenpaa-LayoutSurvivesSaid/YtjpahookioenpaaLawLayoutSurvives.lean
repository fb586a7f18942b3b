/-
  The law LayoutSurvives, walked. No claim of its own.
-/
import Derived.Test.YtjpahookioenpaaOp9
import Derived.Test.YtjpahookioenpaaAlv9
import Derived.Test.YtjpahookioenpaaLyV
import Derived.Test.YtjpahookioenpaaLyW
import Derived.Deep.RegionHeld3
namespace Go.Proofs.Ytjpahookioenpaa
open Go.RowKit Go.Deep Go.Shelf
set_option linter.unusedVariables false
set_option linter.unusedSimpArgs false

set_option maxHeartbeats 8000000 in
set_option maxRecDepth 100000 in
theorem layoutSurvives_any (w : World) {A : LyT} (hA : LyOk w A) {F : FoT} (hF : FoOk w F) {a : Int} (ha : (Lit.int .u64 a).wf = true) :
    Calls Try.prog 6 #[A.val, F.val, .int .u64 a] w fun e w' => e = .returned (.bool true) ∧ Below w.heap.size w w' := by
  have hab := bounds_u64 ha
  obtain ⟨a, rfl⟩ := Int.eq_ofNat_of_zero_le hab.1
  clear ha
  obtain ⟨W, HWW⟩ : ∃ W, Hid ((w.alloc (.cells #[.int .u64 (A.e : Int), .slice A.a A.sg.length A.c, .int .i64 A.q] 25)).alloc (.cells #[.slice F.a1 F.dr.length F.c1, .slice F.a2 F.fr.length F.c2, .int .i64 F.q, .int .u64 (F.f : Int), .slice F.a3 F.ch.length F.c3] 43) = W) := ⟨_, Lib.hid rfl⟩
  have hWb : Below w.heap.size w W := by rw [← HWW.out]; exact ((Below.refl _ _).alloc (Nat.le_refl _) _).alloc (by simp) _
  have o1 : Own W w.heap.size 25 [.int .u64 (A.e : Int), .slice A.a A.sg.length A.c, .int .i64 A.q] := by rw [← HWW.out]; exact (Own.new w _ _).alloc _
  have o2 : Own W (w.heap.size + 1) 43 [.slice F.a1 F.dr.length F.c1, .slice F.a2 F.fr.length F.c2, .int .i64 F.q, .int .u64 (F.f : Int), .slice F.a3 F.ch.length F.c3] := by
    rw [← HWW.out]
    have := Own.new (w.alloc (.cells #[.int .u64 (A.e : Int), .slice A.a A.sg.length A.c, .int .i64 A.q] 25)) 43 [.slice F.a1 F.dr.length F.c1, .slice F.a2 F.fr.length F.c2, .int .i64 F.q, .int .u64 (F.f : Int), .slice F.a3 F.ch.length F.c3]
    simpa using this
  have HWB := Lib.hid hWb
  have HAO := Lib.hid hA
  have HFO := Lib.hid hF
  have HO1 := Lib.hid o1
  have HO2 := Lib.hid o2
  have HAL := Lib.hid alive_any
  have HKL := Lib.hid (fun (W' : World) (hb : Below W.heap.size W W') => (hA.inn.below (hWb.trans (hb.mono hWb.size)) (Nat.le_refl _)))
  have HF1 := Lib.hid (fun (W' : World) (hb : Below W.heap.size W W') => fitsL_any A w.heap.size W' (hA.inn.below (hWb.trans (hb.mono hWb.size)) (Nat.le_refl _)) (Nat.le_trans hWb.size hb.size) hA.fit)
  have HF2 := Lib.hid (fun (W' : World) (hb : Below W.heap.size W W') => fitsF_any F.a1 F.dr.length F.c1 F.a2 F.fr.length F.c2 F.q F.f F.a3 F.ch F.c3 w.heap.size W' (hF.ch.below (hWb.trans (hb.mono hWb.size)) (Nat.le_refl _)) (Nat.le_trans hWb.size hb.size) hF.chf.1)
  have HEX := Lib.hid (fun (W' : World) (hb : Below W.heap.size W W') (hdl : F.dr.length ≤ 1000000) => next_any A w.heap.size F.dr F.fr F.a1 F.a2 F.c1 F.c2 F.q W' (hA.inn.below (hWb.trans (hb.mono hWb.size)) (Nat.le_refl _)) (Nat.le_trans hWb.size hb.size) hA.fit (hF.dr.below (hWb.trans (hb.mono hWb.size)) (Nat.le_refl _)) hdl (hF.fr.below (hWb.trans (hb.mono hWb.size)) (Nat.le_refl _)) hF.fc.1 hF.fc.2.1 hF.fc.2.2)
  have HSL := Lib.hid (fun (W' : World) (hb : Below W.heap.size W W') => segment_any A w.heap.size a W' (hA.inn.below (hWb.trans (hb.mono hWb.size)) (Nat.le_refl _)) (Nat.le_trans hWb.size hb.size) hA.fit)
  have HCL := Lib.hid (fun (W' : World) (hb : Below W.heap.size W W') => chain_any A w.heap.size a W' (hA.inn.below (hWb.trans (hb.mono hWb.size)) (Nat.le_refl _)) (Nat.le_trans hWb.size hb.size) hA.fit)
  clear hWb o1 o2 hA hF
  obtain ⟨r, HRR⟩ : ∃ r, Hid (nextOf A.x F.dr F.fr F.q = r) := ⟨_, Lib.hid rfl⟩
  have HRYES : Hid (r.1 = 0 → right A.x = true ∧ (fillS F.dr ([], F.fr) A.x.s).1 = 0 ∧ right (nextRaw A.x F.dr F.fr F.q) = true ∧ r.2 = nextRaw A.x F.dr F.fr F.q) := Lib.hid (by rw [← HRR.out]; exact nextOf_yes)
  rw [HRR.out] at HEX
  have HEP : Hid (right A.x = true → A.e ≤ 1048576) := Lib.hid (fun h => (right_iff.1 h).1.2)
  obtain ⟨X, HX⟩ : ∃ X, Hid (A.x = X) := ⟨_, Lib.hid rfl⟩
  have HXE : Hid (X.e = A.e ∧ X.q = A.q) := Lib.hid (by rw [← HX.out]; exact ⟨rfl, rfl⟩)
  rw [HX.out] at HRYES HCL HEP HSL
  obtain ⟨ep, sa, c, L, q⟩ := A
  obtain ⟨a1, c1, dr, a2, c2, fr, fq, ff, a3, c3, M⟩ := F
  simp only [LyT.val, FoT.val] at *
  generalize L.length = n at *
  obtain ⟨dn, hdn⟩ : ∃ dn, dr.length = dn := ⟨_, rfl⟩
  have HDN := Lib.hid hdn
  obtain ⟨fn, hfn⟩ : ∃ fn, fr.length = fn := ⟨_, rfl⟩
  have HFN := Lib.hid hfn
  rw [hdn] at HWW HO2 HF2 HEX ⊢
  rw [hfn] at HWW HO2 HF2 HEX ⊢
  clear hdn hfn
  obtain ⟨mn, hmn⟩ : ∃ mn, M.length = mn := ⟨_, rfl⟩
  have HMN := Lib.hid hmn
  rw [hmn] at HWW HO2 HF2 ⊢
  clear hmn
  go_enter Try.func6, Try.ntmps6
  go_upto_region 1 with fail
  rw [HWW.out]
  have hz0 := HO1.out.lt
  have hz1 := HO2.out.lt
  have k0 := HO1.out.cell 0
  have k1 := HO1.out.cell 1
  have k2 := HO1.out.cell 2
  have m0 := HO2.out.cell 0
  have m1 := HO2.out.cell 1
  have m2 := HO2.out.cell 2
  have m3 := HO2.out.cell 3
  have m4 := HO2.out.cell 4
  simp at k0 k1 k2 m0 m1 m2 m3 m4
  have HK := Lib.hid (And.intro k0 (And.intro k1 (And.intro k2 (And.intro m0 (And.intro m1 (And.intro m2 (And.intro m3 m4)))))))
  go_wp2_with fail
  refine (HF1.out W (Below.refl _ _)).mono ?_
  rintro e w1 ⟨⟨t1, rfl⟩, hb1⟩
  have HB1 := Lib.hid hb1
  clear hb1 k0 k1 k2 m0 m1 m2 m3 m4
  have m0 := cell_at HB1.out HK.out.2.2.2.1 rfl
  have m1 := cell_at HB1.out HK.out.2.2.2.2.1 rfl
  have m2 := cell_at HB1.out HK.out.2.2.2.2.2.1 rfl
  have m3 := cell_at HB1.out HK.out.2.2.2.2.2.2.1 rfl
  have m4 := cell_at HB1.out HK.out.2.2.2.2.2.2.2 rfl
  have hz2 : w.heap.size + 1 < w1.heap.size := World.block_lt_of_cell? _ _ m0
  go_wp2_with fail
  refine (HF2.out w1 HB1.out).mono ?_
  rintro e w2 ⟨⟨t2, rfl, hfits⟩, hb2⟩
  have HFITS := Lib.hid hfits
  clear hfits
  have HB2 := Lib.hid (HB1.out.trans (hb2.mono HB1.out.size))
  clear hb2 m0 m1 m2 m3 m4 hz2
  have HEND : Hid (∀ W', Below W.heap.size W W' → Below w.heap.size w W') := Lib.hid (fun W' h => HWB.out.trans (h.mono HWB.out.size))
  clear hab
  cases t1 with
  | false =>
    go_wp2_with fail
    refine (HAL.out _).mono ?_
    rintro e w3 ⟨rfl, hb3⟩
    have HB3 := Lib.hid (HB2.out.trans (hb3.mono HB2.out.size))
    clear hb3
    go_wp2_with fail
    go_ret
    exact ⟨rfl, HEND.out _ HB3.out⟩
  | true =>
  cases t2 with
  | false =>
    go_wp2_with fail
    refine (HAL.out _).mono ?_
    rintro e w3 ⟨rfl, hb3⟩
    have HB3 := Lib.hid (HB2.out.trans (hb3.mono HB2.out.size))
    clear hb3
    go_wp2_with fail
    go_ret
    exact ⟨rfl, HEND.out _ HB3.out⟩
  | true =>
  have HD2 : Hid (dn ≤ 200 ∧ fn ≤ 200) := Lib.hid (HFITS.out rfl)
  have k0 := cell_at HB2.out HK.out.1 rfl
  have k1 := cell_at HB2.out HK.out.2.1 rfl
  have k2 := cell_at HB2.out HK.out.2.2.1 rfl
  have m0 := cell_at HB2.out HK.out.2.2.2.1 rfl
  have m1 := cell_at HB2.out HK.out.2.2.2.2.1 rfl
  have m2 := cell_at HB2.out HK.out.2.2.2.2.2.1 rfl
  have hz2 : w.heap.size + 1 < w2.heap.size := World.block_lt_of_cell? _ _ m0
  have hz3 : w.heap.size < w2.heap.size := World.block_lt_of_cell? _ _ k0
  go_wp2_with fail
  refine (HEX.out w2 HB2.out (by have := HD2.out.1; omega)).mono ?_
  intro e w3 hR4
  obtain ⟨HBB3, hcs⟩ := hR4.cases
  clear hR4 k0 k1 k2 m0 m1 m2 hz2 hz3
  have HB3 := Lib.hid (HB2.out.trans (HBB3.out.mono HB2.out.size))
  rcases hcs with ⟨h0, T, rfl, HTX, HRT, HTIN⟩ | ⟨h0, rfl⟩
  rotate_left
  · have hne : (r.1 != 0) = true := by rw [bne_iff_ne]; exact h0
    clear h0
    generalize r.1 = rc at *
    go_wp2_with fail
    refine (HAL.out _).mono ?_
    rintro e w4 ⟨rfl, hb4⟩
    have o9 := (Own.new w3 25 [.int .u64 0, .slice none 0 0, .int .i64 0]).below hb4 (by simp)
    have p1 := o9.cell 1
    have hz4 := o9.lt
    simp at p1
    have HB4 := Lib.hid ((HB3.out.alloc HB3.out.size (.cells #[.int .u64 0, .slice none 0 0, .int .i64 0] 25)).trans (hb4.mono (by have := HB3.out.size; simp; omega)))
    clear hb4 o9
    go_wp2_with fail
    go_ret
    exact ⟨rfl, HEND.out _ HB4.out⟩
  obtain ⟨hrx, hfl, hrn, hr2⟩ := HRYES.out h0
  rw [hr2] at HTX HRT
  obtain ⟨hsg, hfil⟩ := next_chain hrx hfl hrn a
  have HFIL := Lib.hid hfil
  have hxe := HXE.out
  have hTe : T.e = ep + 1 := by have h2 : T.e = X.e + 1 := congrArg Ly.e HTX.out; rw [h2, hxe.1]
  have hep := HEP.out hrx
  have HTF := Lib.hid (right_fit (A := T) (by rw [HTX.out]; exact HRT.out))
  have HCN := Lib.hid (fun (W' : World) (hb : Below w3.heap.size w3 W') => chain_any T w3.heap.size a W' (HTIN.out.below hb (Nat.le_refl _)) hb.size HTF.out)
  have HSN := Lib.hid (fun (W' : World) (hb : Below w3.heap.size w3 W') => segment_any T w3.heap.size a W' (HTIN.out.below hb (Nat.le_refl _)) hb.size HTF.out)
  rw [HTX.out] at HCN HSN
  rw [hsg] at HSN
  clear h0 hrx hfl hrn hr2 hxe hsg hfil
  obtain ⟨sg, hsgE⟩ : ∃ sg, segI X a = sg := ⟨_, rfl⟩
  rw [hsgE] at HSN HSL
  clear hsgE
  obtain ⟨cl, hcl⟩ : ∃ cl, chainOf X a = cl := ⟨_, rfl⟩
  have hcl4 := chainOf_len X a
  rw [hcl] at HFIL HCL hcl4
  clear hcl
  obtain ⟨dl, hdl⟩ : ∃ dl, chainOf (nextRaw X dr fr fq) a = dl := ⟨_, rfl⟩
  have hdl4 := chainOf_len (nextRaw X dr fr fq) a
  rw [hdl] at HFIL HCN hdl4
  clear hdl
  obtain ⟨te, ta, tc, tg, tq⟩ := T
  simp only at hTe
  simp only [LyT.val] at HCN HSN ⊢
  generalize tg.length = tn at *
  have e5 : (ep : Int) + 1 = (te : Int) := by omega
  have e6 : IntKind.u64.wrap (te : Int) = (te : Int) := wrap_u64_nat _ (by omega)
  have HE56 := Lib.hid (And.intro e5 e6)
  clear hTe hep e5 e6
  obtain ⟨cn, hcn⟩ : ∃ cn, cl.length = cn := ⟨_, rfl⟩
  obtain ⟨dn2, hdn2⟩ : ∃ dn2, dl.length = dn2 := ⟨_, rfl⟩
  have HCNL := Lib.hid hcn
  have HDNL := Lib.hid hdn2
  rw [hcn] at hcl4
  rw [hdn2] at hdl4
  have hcn4 : (cn : Int) ≤ 4 := by omega
  have hdn4 : (dn2 : Int) ≤ 4 := by omega
  have HL4 := Lib.hid (And.intro hcl4 hdl4)
  clear hcl4 hdl4 hcn hdn2
  obtain ⟨W4, hW4⟩ : ∃ W4, w3.alloc (.cells #[.int .u64 (te : Int), .slice ta tn tc, .int .i64 tq] 25) = W4 := ⟨_, rfl⟩
  have hb4 : Below w3.heap.size w3 W4 := by rw [← hW4]; exact (Below.refl _ _).alloc (Nat.le_refl _) _
  have HO4 : Hid (Own W4 w3.heap.size 25 [.int .u64 (te : Int), .slice ta tn tc, .int .i64 tq]) := Lib.hid (by rw [← hW4]; exact Own.new w3 _ _)
  have HB4 := Lib.hid hb4
  have HBW4 := Lib.hid (HB3.out.trans (hb4.mono HB3.out.size))
  have HW4 := Lib.hid hW4
  clear hb4 hW4
  go_upto_region 8 with fail
  rw [HW4.out]
  have k0 := cell_at HBW4.out HK.out.1 rfl
  have k1 := cell_at HBW4.out HK.out.2.1 rfl
  have k2 := cell_at HBW4.out HK.out.2.2.1 rfl
  have hz4 : w.heap.size < W4.heap.size := World.block_lt_of_cell? _ _ k0
  go_wp2_with fail
  refine (HCL.out W4 HBW4.out).mono ?_
  rintro e w5 ⟨v5, rfl, hl5, hb5⟩
  have HB5 := Lib.hid (HB4.out.trans (hb5.mono HB4.out.size))
  have HBW5 := Lib.hid (HBW4.out.trans (hb5.mono HBW4.out.size))
  have HO5 := Lib.hid (HO4.out.below hb5 HO4.out.lt)
  obtain ⟨a5, c5, rfl, hr5, _, _⟩ := hl5.form
  have HR5 := Lib.hid hr5
  rw [i64s_length, HCNL.out]
  clear hl5 hb5 hr5 k0 k1 k2 hz4
  have n0 := HO5.out.cell 0
  have n1 := HO5.out.cell 1
  have n2 := HO5.out.cell 2
  have hz5 := HO5.out.lt
  simp at n0 n1 n2
  go_wp2_with fail
  refine (HCN.out w5 HB5.out).mono ?_
  rintro e w6 ⟨v6, rfl, hl6, hb6⟩
  have HB6 := Lib.hid (HB5.out.trans (hb6.mono HB5.out.size))
  have HBW6 := Lib.hid (HBW5.out.trans (hb6.mono HBW5.out.size))
  have HO6 := Lib.hid (HO5.out.below hb6 hz5)
  have HRC := Lib.hid ((HR5.out.below hb6 (Nat.le_refl _)).mono hb6.size)
  obtain ⟨a6, c6, rfl, hr6, _, _⟩ := hl6.form
  have HRD := Lib.hid hr6
  rw [i64s_length, HDNL.out]
  clear hl6 hb6 hr6 n0 n1 n2 hz5
  have HM0 := Lib.hid (cell_at HBW6.out HK.out.2.2.2.1 rfl)
  have HM1 := Lib.hid (cell_at HBW6.out HK.out.2.2.2.2.1 rfl)
  have HHD := Lib.hid (fun (x : Int) (W' : World) (hb : Below w6.heap.size w6 W') => has_any dr x a1 c1 w.heap.size W' (HFO.out.dr.below ((HEND.out _ HBW6.out).trans (hb.mono (HEND.out _ HBW6.out).size)) (Nat.le_refl _)) (Nat.le_trans (HEND.out _ HBW6.out).size hb.size) (by have h1 := HD2.out.1; have h2 := HDN.out; omega))
  have HHF := Lib.hid (fun (x : Int) (W' : World) (hb : Below w6.heap.size w6 W') => has_any fr x a2 c2 w.heap.size W' (HFO.out.fr.below ((HEND.out _ HBW6.out).trans (hb.mono (HEND.out _ HBW6.out).size)) (Nat.le_refl _)) (Nat.le_trans (HEND.out _ HBW6.out).size hb.size) (by have h1 := HD2.out.2; have h2 := HFN.out; omega))
  rw [HDN.out] at HHD
  rw [HFN.out] at HHF
  go_wp2_with fail
  go_loopw [13, 14] (fun x i wr => ∃ k : Nat, k ≤ cn ∧ i = .int .i64 (k : Int) ∧ x = .int .i64 ((leftOf dr (cl.take k)).length : Nat) ∧ Hid (Below w6.heap.size w6 wr)) (fun _ i _ => cn - (intOf i).toNat)
  case atStart => exact ⟨0, Nat.zero_le _, rfl, by simp [leftOf], Lib.hid (Below.refl _ _)⟩
  case round =>
    obtain ⟨k, hk, rfl, rfl, HBk⟩ := hrel
    by_cases hlt : k < cn
    · have hkL : k < cl.length := by rw [HCNL.out]; exact hlt
      obtain ⟨b5, off5, rfl, hb5, hc5⟩ := (HRC.out.below HBk.out (Nat.le_refl _)).i64 (show 0 < cl.length by omega)
      have q1 := hc5 k hkL
      clear hc5
      have hk0 : (0 : Int) ≤ (k : Int) := by omega
      have hk1 : (k : Int) < (cn : Int) := by omega
      have hst := leftOf_take (dr := dr) hkL
      have hat := fil_at HFIL.out hkL
      have HST := Lib.hid hst
      have HAT := Lib.hid hat
      clear hst hat
      generalize cl.getD k 0 = x at *
      obtain ⟨t, HT⟩ : ∃ t, Hid (decide (x ∈ dr) = t) := ⟨_, Lib.hid rfl⟩
      have HHX := Lib.hid (HHD.out x)
      rw [HT.out] at HHX
      have m0 := cell_at HBk.out HM0.out rfl
      have HSS : Hid (Below w6.heap.size w6 wr.drew ∧ wr.drew.cell? ⟨w.heap.size + 1, 0, none⟩ = some (.slice a1 dn c1) ∧ wr.drew.cell? ⟨b5, off5 + k, none⟩ = some (.int .i64 x)) := Lib.hid ⟨HBk.out.drew, m0, q1⟩
      clear m0 q1
      go_wp2_with fail
      refine wp_region_held_drew (S := (fun W => Below w6.heap.size w6 W ∧ W.cell? ⟨w.heap.size + 1, 0, none⟩ = some (.slice a1 dn c1) ∧ W.cell? ⟨b5, off5 + k, none⟩ = some (.int .i64 x))) (by kernel_rfl) HSS.out (fun hHeld => ?_)
      refine wpAnyH_take (i := 0) (v := ?_) rfl (by kernel_rfl) (by kernel_rfl) (by kernel_rfl) (fun _ _ _ h => h) (Or.inl ⟨by kernel_rfl, ?_⟩) hHeld ?_
      rotate_left
      · (intro w hSw; first | (go_simp; done) | (go_simp; with_reducible rfl))
      (try simp only [Act.put, List.getElem_toArray, List.getElem_cons_succ, List.getElem_cons_zero, List.setIfInBounds_toArray, List.set_cons_zero, List.set_cons_succ])
      refine wpAnyH_take (i := 1) (v := ?_) rfl (by kernel_rfl) (by kernel_rfl) (by kernel_rfl) (fun _ _ _ h => h) (Or.inl ⟨by kernel_rfl, ?_⟩) hHeld ?_
      rotate_left
      · (intro w hSw; first | (go_simp; done) | (go_simp; with_reducible rfl))
      (try simp only [Act.put, List.getElem_toArray, List.getElem_cons_succ, List.getElem_cons_zero, List.setIfInBounds_toArray, List.set_cons_zero, List.set_cons_succ])
      refine wpAnyH_take (i := 2) (v := ?_) rfl (by kernel_rfl) (by kernel_rfl) (by kernel_rfl) (fun _ _ _ h => h) (Or.inl ⟨by kernel_rfl, ?_⟩) hHeld ?_
      rotate_left
      · (intro w hSw; first | (go_simp; done) | (go_simp; with_reducible rfl))
      (try simp only [Act.put, List.getElem_toArray, List.getElem_cons_succ, List.getElem_cons_zero, List.setIfInBounds_toArray, List.set_cons_zero, List.set_cons_succ])
      refine wpAnyH_take (i := 3) (v := ?_) rfl (by kernel_rfl) (by kernel_rfl) (by kernel_rfl) (fun _ _ _ h => h) (Or.inl ⟨by kernel_rfl, ?_⟩) hHeld ?_
      rotate_left
      · (intro w hSw; first | (go_simp; done) | (go_simp; with_reducible rfl))
      (try simp only [Act.put, List.getElem_toArray, List.getElem_cons_succ, List.getElem_cons_zero, List.setIfInBounds_toArray, List.set_cons_zero, List.set_cons_succ])
      refine wpAnyH_take (i := 4) (v := ?_) rfl (by kernel_rfl) (by kernel_rfl) (by kernel_rfl) (fun _ _ _ h => h) (Or.inl ⟨by kernel_rfl, ?_⟩) hHeld ?_
      rotate_left
      · (intro w hSw; first | (go_simp; done) | (go_simp; with_reducible rfl))
      (try simp only [Act.put, List.getElem_toArray, List.getElem_cons_succ, List.getElem_cons_zero, List.setIfInBounds_toArray, List.set_cons_zero, List.set_cons_succ])
      refine wpAnyH_take (i := 5) (v := ?_) rfl (by kernel_rfl) (by kernel_rfl) (by kernel_rfl) (fun _ _ _ h => h) (Or.inl ⟨by kernel_rfl, ?_⟩) hHeld ?_
      rotate_left
      · (intro w hSw; first | (go_simp; done) | (go_simp; with_reducible rfl))
      (try simp only [Act.put, List.getElem_toArray, List.getElem_cons_succ, List.getElem_cons_zero, List.setIfInBounds_toArray, List.set_cons_zero, List.set_cons_succ])
      refine wpAnyH_ready (rs := [6]) (by kernel_rfl) (by simp) (AllReadyH.cons rfl (fun K hK => ?_) AllReadyH.nil)
      have hH := hHeld
      (go_simp; go_at_call 32; refine (HHX.out _ hH.1).mono ?_; rintro e w7 ⟨rfl, hb7⟩)
      refine hK.out _ _ (by exact ⟨hH.1.trans (hb7.mono hH.1.size), cell_at hb7 hH.2.1 rfl, cell_at hb7 hH.2.2 rfl⟩) (fun hHq1 => ?_)
      clear hK K hH 
      (try simp only [Act.put, List.getElem_toArray, List.getElem_cons_succ, List.getElem_cons_zero, List.setIfInBounds_toArray, List.set_cons_zero, List.set_cons_succ])
      refine wpAnyH_done (by kernel_rfl) ?_ _
      have hEnd := hHq1
      have HE7 := Lib.hid hEnd
      clear hHeld hEnd hb7
      cases t with
      | true =>
        have hmem : x ∈ dr := by have := HT.out; simpa using this
        have HLE : Hid (leftOf dr (cl.take (k + 1)) = leftOf dr (cl.take k)) := Lib.hid (by rw [HST.out, if_pos hmem, List.append_nil])
        clear hmem
        go_wp2_with fail
        go_roundw
        case rel => exact ⟨k + 1, by omega, by go_num, by rw [HLE.out], Lib.hid HE7.out.1⟩
        case measure => simp [intOf]; omega
      | false =>
        have hmem : x ∉ dr := by have := HT.out; simpa using this
        have HLE : Hid (leftOf dr (cl.take (k + 1)) = leftOf dr (cl.take k) ++ [x]) := Lib.hid (by rw [HST.out, if_neg hmem])
        obtain ⟨hkd, hdk⟩ := HAT.out hmem
        clear hmem
        obtain ⟨kk, hkk⟩ : ∃ kk, (leftOf dr (cl.take k)).length = kk := ⟨_, rfl⟩
        rw [hkk] at hkd hdk ⊢
        have HKK := Lib.hid hkk
        clear hkk
        obtain ⟨b6, off6, rfl, hb6', hc6⟩ := (HRD.out.below HE7.out.1 (Nat.le_refl _)).i64 (show 0 < dl.length by omega)
        have q2 := hc6 kk hkd
        rw [hdk] at q2
        rw [HDNL.out] at hkd
        have q1 := HE7.out.2.2
        have hkd' : (kk : Int) < (dn2 : Int) := by omega
        have hkd2 : decide ((dn2 : Int) ≤ (kk : Int)) = false := by simp; omega
        have hkd0 : (0 : Int) ≤ (kk : Int) := by omega
        have HKD := Lib.hid hkd
        have HSS2 : Hid (Below w6.heap.size w6 w7.drew ∧ w7.drew.cell? ⟨b5, off5 + k, none⟩ = some (.int .i64 x) ∧ w7.drew.cell? ⟨b6, off6 + kk, none⟩ = some (.int .i64 x)) := Lib.hid ⟨HE7.out.1.drew, q1, q2⟩
        clear hc6 hdk hkd q1 q2
        go_wp2_with fail
        refine wp_region_held_drew (S := (fun W => Below w6.heap.size w6 W ∧ W.cell? ⟨b5, off5 + k, none⟩ = some (.int .i64 x) ∧ W.cell? ⟨b6, off6 + kk, none⟩ = some (.int .i64 x))) (by kernel_rfl) HSS2.out (fun hHeld => ?_)
        refine wpAnyH_take (i := 0) (v := ?_) rfl (by kernel_rfl) (by kernel_rfl) (by kernel_rfl) (fun _ _ _ h => h) (Or.inl ⟨by kernel_rfl, ?_⟩) hHeld ?_
        rotate_left
        · (intro w hSw; first | (go_simp; done) | (go_simp; with_reducible rfl))
        (try simp only [Act.put, List.getElem_toArray, List.getElem_cons_succ, List.getElem_cons_zero, List.setIfInBounds_toArray, List.set_cons_zero, List.set_cons_succ])
        refine wpAnyH_take (i := 1) (v := ?_) rfl (by kernel_rfl) (by kernel_rfl) (by kernel_rfl) (fun _ _ _ h => h) (Or.inl ⟨by kernel_rfl, ?_⟩) hHeld ?_
        rotate_left
        · (intro w hSw; first | (go_simp; done) | (go_simp; with_reducible rfl))
        (try simp only [Act.put, List.getElem_toArray, List.getElem_cons_succ, List.getElem_cons_zero, List.setIfInBounds_toArray, List.set_cons_zero, List.set_cons_succ])
        refine wpAnyH_take (i := 2) (v := ?_) rfl (by kernel_rfl) (by kernel_rfl) (by kernel_rfl) (fun _ _ _ h => h) (Or.inl ⟨by kernel_rfl, ?_⟩) hHeld ?_
        rotate_left
        · (intro w hSw; first | (go_simp; done) | (go_simp; with_reducible rfl))
        (try simp only [Act.put, List.getElem_toArray, List.getElem_cons_succ, List.getElem_cons_zero, List.setIfInBounds_toArray, List.set_cons_zero, List.set_cons_succ])
        refine wpAnyH_take (i := 3) (v := .bool false) rfl (by kernel_rfl) (by kernel_rfl) (by kernel_rfl) (fun _ _ _ h => h) (Or.inl ⟨by kernel_rfl, ?_⟩) hHeld ?_
        · (intro w hSw; go_simp; exact HKD.out)
        (try simp only [Act.put, List.getElem_toArray, List.getElem_cons_succ, List.getElem_cons_zero, List.setIfInBounds_toArray, List.set_cons_zero, List.set_cons_succ])
        refine wpAnyH_take (i := 4) (v := ?_) rfl (by kernel_rfl) (by kernel_rfl) (by kernel_rfl) (fun _ _ _ h => h) (Or.inl ⟨by kernel_rfl, ?_⟩) hHeld ?_
        rotate_left
        · (intro w hSw; first | (go_simp; done) | (go_simp; with_reducible rfl))
        (try simp only [Act.put, List.getElem_toArray, List.getElem_cons_succ, List.getElem_cons_zero, List.setIfInBounds_toArray, List.set_cons_zero, List.set_cons_succ])
        refine wpAnyH_take (i := 5) (v := ?_) rfl (by kernel_rfl) (by kernel_rfl) (by kernel_rfl) (fun _ _ _ h => h) (Or.inl ⟨by kernel_rfl, ?_⟩) hHeld ?_
        rotate_left
        · (intro w hSw; first | (go_simp; done) | (go_simp; with_reducible rfl))
        (try simp only [Act.put, List.getElem_toArray, List.getElem_cons_succ, List.getElem_cons_zero, List.setIfInBounds_toArray, List.set_cons_zero, List.set_cons_succ])
        refine wpAnyH_take (i := 6) (v := ?_) rfl (by kernel_rfl) (by kernel_rfl) (by kernel_rfl) (fun _ _ _ h => h) (Or.inl ⟨by kernel_rfl, ?_⟩) hHeld ?_
        rotate_left
        · (intro w hSw; first | (go_simp; done) | (go_simp; with_reducible rfl))
        (try simp only [Act.put, List.getElem_toArray, List.getElem_cons_succ, List.getElem_cons_zero, List.setIfInBounds_toArray, List.set_cons_zero, List.set_cons_succ])
        refine wpAnyH_take (i := 7) (v := ?_) rfl (by kernel_rfl) (by kernel_rfl) (by kernel_rfl) (fun _ _ _ h => h) (Or.inl ⟨by kernel_rfl, ?_⟩) hHeld ?_
        rotate_left
        · (intro w hSw; first | (go_simp; done) | (go_simp; with_reducible rfl))
        (try simp only [Act.put, List.getElem_toArray, List.getElem_cons_succ, List.getElem_cons_zero, List.setIfInBounds_toArray, List.set_cons_zero, List.set_cons_succ])
        refine wpAnyH_take (i := 8) (v := ?_) rfl (by kernel_rfl) (by kernel_rfl) (by kernel_rfl) (fun _ _ _ h => h) (Or.inl ⟨by kernel_rfl, ?_⟩) hHeld ?_
        rotate_left
        · (intro w hSw; first | (go_simp; done) | (go_simp; with_reducible rfl))
        (try simp only [Act.put, List.getElem_toArray, List.getElem_cons_succ, List.getElem_cons_zero, List.setIfInBounds_toArray, List.set_cons_zero, List.set_cons_succ])
        refine wpAnyH_take (i := 9) (v := ?_) rfl (by kernel_rfl) (by kernel_rfl) (by kernel_rfl) (fun _ _ _ h => h) (Or.inl ⟨by kernel_rfl, ?_⟩) hHeld ?_
        rotate_left
        · (intro w hSw; first | (go_simp; done) | (go_simp; with_reducible rfl))
        (try simp only [Act.put, List.getElem_toArray, List.getElem_cons_succ, List.getElem_cons_zero, List.setIfInBounds_toArray, List.set_cons_zero, List.set_cons_succ])
        refine wpAnyH_take (i := 10) (v := ?_) rfl (by kernel_rfl) (by kernel_rfl) (by kernel_rfl) (fun _ _ _ h => h) (Or.inl ⟨by kernel_rfl, ?_⟩) hHeld ?_
        rotate_left
        · (intro w hSw; first | (go_simp; done) | (go_simp; with_reducible rfl))
        (try simp only [Act.put, List.getElem_toArray, List.getElem_cons_succ, List.getElem_cons_zero, List.setIfInBounds_toArray, List.set_cons_zero, List.set_cons_succ])
        refine wpAnyH_take (i := 11) (v := ?_) rfl (by kernel_rfl) (by kernel_rfl) (by kernel_rfl) (fun _ _ _ h => h) (Or.inl ⟨by kernel_rfl, ?_⟩) hHeld ?_
        rotate_left
        · (intro w hSw; first | (go_simp; done) | (go_simp; with_reducible rfl))
        (try simp only [Act.put, List.getElem_toArray, List.getElem_cons_succ, List.getElem_cons_zero, List.setIfInBounds_toArray, List.set_cons_zero, List.set_cons_succ])
        refine wpAnyH_take (i := 12) (v := ?_) rfl (by kernel_rfl) (by kernel_rfl) (by kernel_rfl) (fun _ _ _ h => h) (Or.inl ⟨by kernel_rfl, ?_⟩) hHeld ?_
        rotate_left
        · (intro w hSw; first | (go_simp; done) | (go_simp; with_reducible rfl))
        (try simp only [Act.put, List.getElem_toArray, List.getElem_cons_succ, List.getElem_cons_zero, List.setIfInBounds_toArray, List.set_cons_zero, List.set_cons_succ])
        refine wpAnyH_take (i := 13) (v := ?_) rfl (by kernel_rfl) (by kernel_rfl) (by kernel_rfl) (fun _ _ _ h => h) (Or.inl ⟨by kernel_rfl, ?_⟩) hHeld ?_
        rotate_left
        · (intro w hSw; first | (go_simp; done) | (go_simp; with_reducible rfl))
        (try simp only [Act.put, List.getElem_toArray, List.getElem_cons_succ, List.getElem_cons_zero, List.setIfInBounds_toArray, List.set_cons_zero, List.set_cons_succ])
        refine wpAnyH_take (i := 14) (v := ?_) rfl (by kernel_rfl) (by kernel_rfl) (by kernel_rfl) (fun _ _ _ h => h) (Or.inl ⟨by kernel_rfl, ?_⟩) hHeld ?_
        rotate_left
        · (intro w hSw; first | (go_simp; done) | (go_simp; with_reducible rfl))
        (try simp only [Act.put, List.getElem_toArray, List.getElem_cons_succ, List.getElem_cons_zero, List.setIfInBounds_toArray, List.set_cons_zero, List.set_cons_succ])
        refine wpAnyH_done (by kernel_rfl) ?_ _
        have hEnd := hHeld
        have HE8 := Lib.hid hEnd
        clear hHeld hEnd
        go_wp2_with fail
        go_roundw
        case rel => exact ⟨k + 1, by omega, by go_num, by rw [HLE.out, List.length_append, HKK.out]; go_num, Lib.hid HE8.out.1⟩
        case measure => simp [intOf]; omega
    · obtain rfl : k = cn := by omega
      have hlf : leftOf dr (cl.take k) = leftOf dr cl := by rw [List.take_of_length_le (by rw [HCNL.out]; exact Nat.le_refl _)]
      rw [hlf]
      clear hlf
      obtain ⟨kk, hkk⟩ : ∃ kk, (leftOf dr cl).length = kk := ⟨_, rfl⟩
      rw [hkk]
      have HKK := Lib.hid hkk
      have hkkd : kk ≤ dn2 := by
        obtain ⟨_, _, rest, h3, _⟩ := HFIL.out
        have := congrArg List.length h3
        rw [HDNL.out, List.length_append, hkk] at this
        omega
      clear hkk
      have HKD := Lib.hid hkkd
      clear hkkd
      rename World => w7
      go_wp2_with fail
      go_loopw [15] (fun i wr => ∃ j : Nat, kk ≤ j ∧ j ≤ dn2 ∧ i = .int .i64 (j : Int) ∧ Hid (Below w6.heap.size w6 wr)) (fun i _ => dn2 - (intOf i).toNat)
      case atStart => exact ⟨kk, Nat.le_refl _, HKD.out, rfl, HBk⟩
      case round =>
        rename_i hrel2
        obtain ⟨j, hj1, hj2, rfl, HBj⟩ := hrel
        by_cases hlt2 : j < dn2
        · have hjL : j < dl.length := by rw [HDNL.out]; exact hlt2
          obtain ⟨b6, off6, rfl, hb6', hc6⟩ := (HRD.out.below HBj.out (Nat.le_refl _)).i64 (show 0 < dl.length by omega)
          have q1 := hc6 j hjL
          clear hc6
          have hk0 : (0 : Int) ≤ (j : Int) := by omega
          have hk1 : (j : Int) < (dn2 : Int) := by omega
          have hmem := fil_rest HFIL.out (i := j) (by rw [HKK.out]; exact hj1) hjL
          generalize dl.getD j 0 = x at *
          have HHX := Lib.hid (HHF.out x)
          have hd : decide (x ∈ fr) = true := by simpa using hmem
          rw [hd] at HHX
          have m1 := cell_at HBj.out HM1.out rfl
          have HSS : Hid (Below w6.heap.size w6 wr.drew ∧ wr.drew.cell? ⟨w.heap.size + 1, 1, none⟩ = some (.slice a2 fn c2) ∧ wr.drew.cell? ⟨b6, off6 + j, none⟩ = some (.int .i64 x)) := Lib.hid ⟨HBj.out.drew, m1, q1⟩
          clear m1 q1 hmem hd
          go_wp2_with fail
          refine wp_region_held_drew (S := (fun W => Below w6.heap.size w6 W ∧ W.cell? ⟨w.heap.size + 1, 1, none⟩ = some (.slice a2 fn c2) ∧ W.cell? ⟨b6, off6 + j, none⟩ = some (.int .i64 x))) (by kernel_rfl) HSS.out (fun hHeld => ?_)
          refine wpAnyH_take (i := 0) (v := ?_) rfl (by kernel_rfl) (by kernel_rfl) (by kernel_rfl) (fun _ _ _ h => h) (Or.inl ⟨by kernel_rfl, ?_⟩) hHeld ?_
          rotate_left
          · (intro w hSw; first | (go_simp; done) | (go_simp; with_reducible rfl))
          (try simp only [Act.put, List.getElem_toArray, List.getElem_cons_succ, List.getElem_cons_zero, List.setIfInBounds_toArray, List.set_cons_zero, List.set_cons_succ])
          refine wpAnyH_take (i := 1) (v := ?_) rfl (by kernel_rfl) (by kernel_rfl) (by kernel_rfl) (fun _ _ _ h => h) (Or.inl ⟨by kernel_rfl, ?_⟩) hHeld ?_
          rotate_left
          · (intro w hSw; first | (go_simp; done) | (go_simp; with_reducible rfl))
          (try simp only [Act.put, List.getElem_toArray, List.getElem_cons_succ, List.getElem_cons_zero, List.setIfInBounds_toArray, List.set_cons_zero, List.set_cons_succ])
          refine wpAnyH_take (i := 2) (v := ?_) rfl (by kernel_rfl) (by kernel_rfl) (by kernel_rfl) (fun _ _ _ h => h) (Or.inl ⟨by kernel_rfl, ?_⟩) hHeld ?_
          rotate_left
          · (intro w hSw; first | (go_simp; done) | (go_simp; with_reducible rfl))
          (try simp only [Act.put, List.getElem_toArray, List.getElem_cons_succ, List.getElem_cons_zero, List.setIfInBounds_toArray, List.set_cons_zero, List.set_cons_succ])
          refine wpAnyH_take (i := 3) (v := ?_) rfl (by kernel_rfl) (by kernel_rfl) (by kernel_rfl) (fun _ _ _ h => h) (Or.inl ⟨by kernel_rfl, ?_⟩) hHeld ?_
          rotate_left
          · (intro w hSw; first | (go_simp; done) | (go_simp; with_reducible rfl))
          (try simp only [Act.put, List.getElem_toArray, List.getElem_cons_succ, List.getElem_cons_zero, List.setIfInBounds_toArray, List.set_cons_zero, List.set_cons_succ])
          refine wpAnyH_take (i := 4) (v := ?_) rfl (by kernel_rfl) (by kernel_rfl) (by kernel_rfl) (fun _ _ _ h => h) (Or.inl ⟨by kernel_rfl, ?_⟩) hHeld ?_
          rotate_left
          · (intro w hSw; first | (go_simp; done) | (go_simp; with_reducible rfl))
          (try simp only [Act.put, List.getElem_toArray, List.getElem_cons_succ, List.getElem_cons_zero, List.setIfInBounds_toArray, List.set_cons_zero, List.set_cons_succ])
          refine wpAnyH_take (i := 5) (v := ?_) rfl (by kernel_rfl) (by kernel_rfl) (by kernel_rfl) (fun _ _ _ h => h) (Or.inl ⟨by kernel_rfl, ?_⟩) hHeld ?_
          rotate_left
          · (intro w hSw; first | (go_simp; done) | (go_simp; with_reducible rfl))
          (try simp only [Act.put, List.getElem_toArray, List.getElem_cons_succ, List.getElem_cons_zero, List.setIfInBounds_toArray, List.set_cons_zero, List.set_cons_succ])
          refine wpAnyH_ready (rs := [6]) (by kernel_rfl) (by simp) (AllReadyH.cons rfl (fun K hK => ?_) AllReadyH.nil)
          have hH := hHeld
          (go_simp; go_at_call 32; refine (HHX.out _ hH.1).mono ?_; rintro e w8 ⟨rfl, hb8⟩)
          refine hK.out _ _ (by exact ⟨hH.1.trans (hb8.mono hH.1.size), cell_at hb8 hH.2.1 rfl, cell_at hb8 hH.2.2 rfl⟩) (fun hHq1 => ?_)
          clear hK K hH 
          (try simp only [Act.put, List.getElem_toArray, List.getElem_cons_succ, List.getElem_cons_zero, List.setIfInBounds_toArray, List.set_cons_zero, List.set_cons_succ])
          refine wpAnyH_take (i := 7) (v := ?_) rfl (by kernel_rfl) (by kernel_rfl) (by kernel_rfl) (fun _ _ _ h => h) (Or.inl ⟨by kernel_rfl, ?_⟩) hHq1 ?_
          rotate_left
          · (intro w hSw; first | (go_simp; done) | (go_simp; with_reducible rfl))
          (try simp only [Act.put, List.getElem_toArray, List.getElem_cons_succ, List.getElem_cons_zero, List.setIfInBounds_toArray, List.set_cons_zero, List.set_cons_succ])
          refine wpAnyH_done (by kernel_rfl) ?_ _
          have hEnd := hHq1
          have HE8 := Lib.hid hEnd
          clear hHeld hEnd hb8
          go_wp2_with fail
          go_roundw
          case rel => exact ⟨j + 1, by omega, by omega, by go_num, Lib.hid HE8.out.1⟩
          case measure => simp [intOf]; omega
        · obtain rfl : j = dn2 := by omega
          have HSN2 := Lib.hid (fun (W' : World) (hb : Below w6.heap.size w6 W') => HSN.out W' (HB6.out.trans (hb.mono HB6.out.size)))
          have HSL2 := Lib.hid (fun (W' : World) (hb : Below w6.heap.size w6 W') => HSL.out W' (HBW6.out.trans (hb.mono HBW6.out.size)))
          have hdc : k = j := by have := HFIL.out.1; rw [HCNL.out, HDNL.out] at this; omega
          subst hdc
          have o := HO6.out.below HBj.out HO6.out.lt
          have n0 := o.cell 0
          have n1 := o.cell 1
          have n2 := o.cell 2
          simp at n0 n1 n2
          have HBWr := HBW6.out.trans (HBj.out.mono HBW6.out.size)
          have k0 := cell_at HBWr HK.out.1 rfl
          have k1 := cell_at HBWr HK.out.2.1 rfl
          have k2 := cell_at HBWr HK.out.2.2.1 rfl
          have e5 := HE56.out.1
          have e6 := HE56.out.2
          have HSS : Hid (Below w6.heap.size w6 wr.drew ∧ wr.drew.cell? ⟨w3.heap.size, 0, none⟩ = some (.int .u64 (te : Int)) ∧ wr.drew.cell? ⟨w3.heap.size, 1, none⟩ = some (.slice ta tn tc) ∧ wr.drew.cell? ⟨w3.heap.size, 2, none⟩ = some (.int .i64 tq) ∧ wr.drew.cell? ⟨w.heap.size, 0, none⟩ = some (.int .u64 (ep : Int)) ∧ wr.drew.cell? ⟨w.heap.size, 1, none⟩ = some (.slice sa n c) ∧ wr.drew.cell? ⟨w.heap.size, 2, none⟩ = some (.int .i64 q)) := Lib.hid ⟨HBj.out.drew, n0, n1, n2, k0, k1, k2⟩
          clear n0 n1 n2 k0 k1 k2 o HBWr
          go_wp2_with fail
          refine wp_region_held_drew (S := (fun W => Below w6.heap.size w6 W ∧ W.cell? ⟨w3.heap.size, 0, none⟩ = some (.int .u64 (te : Int)) ∧ W.cell? ⟨w3.heap.size, 1, none⟩ = some (.slice ta tn tc) ∧ W.cell? ⟨w3.heap.size, 2, none⟩ = some (.int .i64 tq) ∧ W.cell? ⟨w.heap.size, 0, none⟩ = some (.int .u64 (ep : Int)) ∧ W.cell? ⟨w.heap.size, 1, none⟩ = some (.slice sa n c) ∧ W.cell? ⟨w.heap.size, 2, none⟩ = some (.int .i64 q))) (by kernel_rfl) HSS.out (fun hHeld => ?_)
          by_cases h0 : k = 0
          · subst h0
            refine wpAnyH_ready (rs := [0]) (by kernel_rfl) (by simp) (AllReadyH.cons rfl (fun K hK => ?_) AllReadyH.nil)
            have hH := hHeld
            (go_simp; go_at_call 11; refine (HAL.out _).mono ?_; rintro e w8 ⟨rfl, hb8⟩)
            refine hK.out _ _ (by exact ⟨hH.1.trans (hb8.mono hH.1.size), cell_at hb8 hH.2.1 rfl, cell_at hb8 hH.2.2.1 rfl, cell_at hb8 hH.2.2.2.1 rfl, cell_at hb8 hH.2.2.2.2.1 rfl, cell_at hb8 hH.2.2.2.2.2.1 rfl, cell_at hb8 hH.2.2.2.2.2.2 rfl⟩) (fun hHq1 => ?_)
            clear hK K hH 
            (try simp only [Act.put, List.getElem_toArray, List.getElem_cons_succ, List.getElem_cons_zero, List.setIfInBounds_toArray, List.set_cons_zero, List.set_cons_succ])
            refine wpAnyH_take (i := 1) (v := ?_) rfl (by kernel_rfl) (by kernel_rfl) (by kernel_rfl) (fun _ _ _ h => h) (Or.inl ⟨by kernel_rfl, ?_⟩) hHq1 ?_
            rotate_left
            · (intro w hSw; first | (go_simp; done) | (go_simp; with_reducible rfl))
            (try simp only [Act.put, List.getElem_toArray, List.getElem_cons_succ, List.getElem_cons_zero, List.setIfInBounds_toArray, List.set_cons_zero, List.set_cons_succ])
            refine wpAnyH_take (i := 2) (v := ?_) rfl (by kernel_rfl) (by kernel_rfl) (by kernel_rfl) (fun _ _ _ h => h) (Or.inl ⟨by kernel_rfl, ?_⟩) hHq1 ?_
            rotate_left
            · (intro w hSw; first | (go_simp; done) | (go_simp; with_reducible rfl))
            (try simp only [Act.put, List.getElem_toArray, List.getElem_cons_succ, List.getElem_cons_zero, List.setIfInBounds_toArray, List.set_cons_zero, List.set_cons_succ])
            refine wpAnyH_take (i := 3) (v := ?_) rfl (by kernel_rfl) (by kernel_rfl) (by kernel_rfl) (fun _ _ _ h => h) (Or.inl ⟨by kernel_rfl, ?_⟩) hHq1 ?_
            rotate_left
            · (intro w hSw; first | (go_simp; done) | (go_simp; with_reducible rfl))
            (try simp only [Act.put, List.getElem_toArray, List.getElem_cons_succ, List.getElem_cons_zero, List.setIfInBounds_toArray, List.set_cons_zero, List.set_cons_succ])
            refine wpAnyH_take (i := 4) (v := ?_) rfl (by kernel_rfl) (by kernel_rfl) (by kernel_rfl) (fun _ _ _ h => h) (Or.inl ⟨by kernel_rfl, ?_⟩) hHq1 ?_
            rotate_left
            · (intro w hSw; first | (go_simp; done) | (go_simp; with_reducible rfl))
            (try simp only [Act.put, List.getElem_toArray, List.getElem_cons_succ, List.getElem_cons_zero, List.setIfInBounds_toArray, List.set_cons_zero, List.set_cons_succ])
            refine wpAnyH_take (i := 5) (v := ?_) rfl (by kernel_rfl) (by kernel_rfl) (by kernel_rfl) (fun _ _ _ h => h) (Or.inl ⟨by kernel_rfl, ?_⟩) hHq1 ?_
            rotate_left
            · (intro w hSw; first | (go_simp; done) | (go_simp; with_reducible rfl))
            (try simp only [Act.put, List.getElem_toArray, List.getElem_cons_succ, List.getElem_cons_zero, List.setIfInBounds_toArray, List.set_cons_zero, List.set_cons_succ])
            refine wpAnyH_take (i := 6) (v := .bool true) rfl (by kernel_rfl) (by kernel_rfl) (by kernel_rfl) (fun _ _ _ h => h) (Or.inl ⟨by kernel_rfl, ?_⟩) hHq1 ?_
            · (intro w hSw; go_simp)
            (try simp only [Act.put, List.getElem_toArray, List.getElem_cons_succ, List.getElem_cons_zero, List.setIfInBounds_toArray, List.set_cons_zero, List.set_cons_succ])
            refine wpAnyH_take (i := 7) (v := ?_) rfl (by kernel_rfl) (by kernel_rfl) (by kernel_rfl) (fun _ _ _ h => h) (Or.inl ⟨by kernel_rfl, ?_⟩) hHq1 ?_
            rotate_left
            · (intro w hSw; first | (go_simp; done) | (go_simp; with_reducible rfl))
            (try simp only [Act.put, List.getElem_toArray, List.getElem_cons_succ, List.getElem_cons_zero, List.setIfInBounds_toArray, List.set_cons_zero, List.set_cons_succ])
            refine wpAnyH_take (i := 8) (v := ?_) rfl (by kernel_rfl) (by kernel_rfl) (by kernel_rfl) (fun _ _ _ h => h) (Or.inl ⟨by kernel_rfl, ?_⟩) hHq1 ?_
            rotate_left
            · (intro w hSw; first | (go_simp; done) | (go_simp; with_reducible rfl))
            (try simp only [Act.put, List.getElem_toArray, List.getElem_cons_succ, List.getElem_cons_zero, List.setIfInBounds_toArray, List.set_cons_zero, List.set_cons_succ])
            refine wpAnyH_take (i := 9) (v := ?_) rfl (by kernel_rfl) (by kernel_rfl) (by kernel_rfl) (fun _ _ _ h => h) (Or.inl ⟨by kernel_rfl, ?_⟩) hHq1 ?_
            rotate_left
            · (intro w hSw; first | (go_simp; done) | (go_simp; with_reducible rfl))
            (try simp only [Act.put, List.getElem_toArray, List.getElem_cons_succ, List.getElem_cons_zero, List.setIfInBounds_toArray, List.set_cons_zero, List.set_cons_succ])
            refine wpAnyH_take (i := 10) (v := ?_) rfl (by kernel_rfl) (by kernel_rfl) (by kernel_rfl) (fun _ _ _ h => h) (Or.inl ⟨by kernel_rfl, ?_⟩) hHq1 ?_
            rotate_left
            · (intro w hSw; first | (go_simp; done) | (go_simp; with_reducible rfl))
            (try simp only [Act.put, List.getElem_toArray, List.getElem_cons_succ, List.getElem_cons_zero, List.setIfInBounds_toArray, List.set_cons_zero, List.set_cons_succ])
            refine wpAnyH_take (i := 11) (v := .bool true) rfl (by kernel_rfl) (by kernel_rfl) (by kernel_rfl) (fun _ _ _ h => h) (Or.inl ⟨by kernel_rfl, ?_⟩) hHq1 ?_
            · (intro w hSw; go_simp)
            (try simp only [Act.put, List.getElem_toArray, List.getElem_cons_succ, List.getElem_cons_zero, List.setIfInBounds_toArray, List.set_cons_zero, List.set_cons_succ])
            refine wpAnyH_take (i := 12) (v := ?_) rfl (by kernel_rfl) (by kernel_rfl) (by kernel_rfl) (fun _ _ _ h => h) (Or.inl ⟨by kernel_rfl, ?_⟩) hHq1 ?_
            rotate_left
            · (intro w hSw; first | (go_simp; done) | (go_simp; with_reducible rfl))
            (try simp only [Act.put, List.getElem_toArray, List.getElem_cons_succ, List.getElem_cons_zero, List.setIfInBounds_toArray, List.set_cons_zero, List.set_cons_succ])
            refine wpAnyH_take (i := 13) (v := undef) rfl (by kernel_rfl) (by kernel_rfl) (by kernel_rfl) (fun _ _ _ h => h) (Or.inr ⟨by kernel_rfl, rfl⟩) hHq1 ?_
            (try simp only [Act.put, List.getElem_toArray, List.getElem_cons_succ, List.getElem_cons_zero, List.setIfInBounds_toArray, List.set_cons_zero, List.set_cons_succ])
            refine wpAnyH_take (i := 14) (v := undef) rfl (by kernel_rfl) (by kernel_rfl) (by kernel_rfl) (fun _ _ _ h => h) (Or.inr ⟨by kernel_rfl, rfl⟩) hHq1 ?_
            (try simp only [Act.put, List.getElem_toArray, List.getElem_cons_succ, List.getElem_cons_zero, List.setIfInBounds_toArray, List.set_cons_zero, List.set_cons_succ])
            refine wpAnyH_take (i := 15) (v := ?_) rfl (by kernel_rfl) (by kernel_rfl) (by kernel_rfl) (fun _ _ _ h => h) (Or.inl ⟨by kernel_rfl, ?_⟩) hHq1 ?_
            rotate_left
            · (intro w hSw; first | (go_simp; done) | (go_simp; with_reducible rfl))
            (try simp only [Act.put, List.getElem_toArray, List.getElem_cons_succ, List.getElem_cons_zero, List.setIfInBounds_toArray, List.set_cons_zero, List.set_cons_succ])
            refine wpAnyH_take (i := 16) (v := ?_) rfl (by kernel_rfl) (by kernel_rfl) (by kernel_rfl) (fun _ _ _ h => h) (Or.inl ⟨by kernel_rfl, ?_⟩) hHq1 ?_
            rotate_left
            · (intro w hSw; first | (go_simp; done) | (go_simp; with_reducible rfl))
            (try simp only [Act.put, List.getElem_toArray, List.getElem_cons_succ, List.getElem_cons_zero, List.setIfInBounds_toArray, List.set_cons_zero, List.set_cons_succ])
            refine wpAnyH_take (i := 17) (v := ?_) rfl (by kernel_rfl) (by kernel_rfl) (by kernel_rfl) (fun _ _ _ h => h) (Or.inl ⟨by kernel_rfl, ?_⟩) hHq1 ?_
            rotate_left
            · (intro w hSw; first | (go_simp; done) | (go_simp; with_reducible rfl))
            (try simp only [Act.put, List.getElem_toArray, List.getElem_cons_succ, List.getElem_cons_zero, List.setIfInBounds_toArray, List.set_cons_zero, List.set_cons_succ])
            refine wpAnyH_take (i := 18) (v := ?_) rfl (by kernel_rfl) (by kernel_rfl) (by kernel_rfl) (fun _ _ _ h => h) (Or.inl ⟨by kernel_rfl, ?_⟩) hHq1 ?_
            rotate_left
            · (intro w hSw; first | (go_simp; done) | (go_simp; with_reducible rfl))
            (try simp only [Act.put, List.getElem_toArray, List.getElem_cons_succ, List.getElem_cons_zero, List.setIfInBounds_toArray, List.set_cons_zero, List.set_cons_succ])
            refine wpAnyH_take (i := 19) (v := ?_) rfl (by kernel_rfl) (by kernel_rfl) (by kernel_rfl) (fun _ _ _ h => h) (Or.inl ⟨by kernel_rfl, ?_⟩) hHq1 ?_
            rotate_left
            · (intro w hSw; first | (go_simp; done) | (go_simp; with_reducible rfl))
            (try simp only [Act.put, List.getElem_toArray, List.getElem_cons_succ, List.getElem_cons_zero, List.setIfInBounds_toArray, List.set_cons_zero, List.set_cons_succ])
            refine wpAnyH_take (i := 20) (v := ?_) rfl (by kernel_rfl) (by kernel_rfl) (by kernel_rfl) (fun _ _ _ h => h) (Or.inl ⟨by kernel_rfl, ?_⟩) hHq1 ?_
            rotate_left
            · (intro w hSw; first | (go_simp; done) | (go_simp; with_reducible rfl))
            (try simp only [Act.put, List.getElem_toArray, List.getElem_cons_succ, List.getElem_cons_zero, List.setIfInBounds_toArray, List.set_cons_zero, List.set_cons_succ])
            refine wpAnyH_take (i := 21) (v := ?_) rfl (by kernel_rfl) (by kernel_rfl) (by kernel_rfl) (fun _ _ _ h => h) (Or.inl ⟨by kernel_rfl, ?_⟩) hHq1 ?_
            rotate_left
            · (intro w hSw; first | (go_simp; done) | (go_simp; with_reducible rfl))
            (try simp only [Act.put, List.getElem_toArray, List.getElem_cons_succ, List.getElem_cons_zero, List.setIfInBounds_toArray, List.set_cons_zero, List.set_cons_succ])
            refine wpAnyH_take (i := 22) (v := ?_) rfl (by kernel_rfl) (by kernel_rfl) (by kernel_rfl) (fun _ _ _ h => h) (Or.inl ⟨by kernel_rfl, ?_⟩) hHq1 ?_
            rotate_left
            · (intro w hSw; first | (go_simp; done) | (go_simp; with_reducible rfl))
            (try simp only [Act.put, List.getElem_toArray, List.getElem_cons_succ, List.getElem_cons_zero, List.setIfInBounds_toArray, List.set_cons_zero, List.set_cons_succ])
            refine wpAnyH_take (i := 23) (v := .bool true) rfl (by kernel_rfl) (by kernel_rfl) (by kernel_rfl) (fun _ _ _ h => h) (Or.inl ⟨by kernel_rfl, ?_⟩) hHq1 ?_
            · (intro w hSw; go_simp)
            (try simp only [Act.put, List.getElem_toArray, List.getElem_cons_succ, List.getElem_cons_zero, List.setIfInBounds_toArray, List.set_cons_zero, List.set_cons_succ])
            refine wpAnyH_take (i := 24) (v := ?_) rfl (by kernel_rfl) (by kernel_rfl) (by kernel_rfl) (fun _ _ _ h => h) (Or.inl ⟨by kernel_rfl, ?_⟩) hHq1 ?_
            rotate_left
            · (intro w hSw; first | (go_simp; done) | (go_simp; with_reducible rfl))
            (try simp only [Act.put, List.getElem_toArray, List.getElem_cons_succ, List.getElem_cons_zero, List.setIfInBounds_toArray, List.set_cons_zero, List.set_cons_succ])
            refine wpAnyH_take (i := 25) (v := ?_) rfl (by kernel_rfl) (by kernel_rfl) (by kernel_rfl) (fun _ _ _ h => h) (Or.inl ⟨by kernel_rfl, ?_⟩) hHq1 ?_
            rotate_left
            · (intro w hSw; first | (go_simp; done) | (go_simp; with_reducible rfl))
            (try simp only [Act.put, List.getElem_toArray, List.getElem_cons_succ, List.getElem_cons_zero, List.setIfInBounds_toArray, List.set_cons_zero, List.set_cons_succ])
            refine wpAnyH_take (i := 26) (v := ?_) rfl (by kernel_rfl) (by kernel_rfl) (by kernel_rfl) (fun _ _ _ h => h) (Or.inl ⟨by kernel_rfl, ?_⟩) hHq1 ?_
            rotate_left
            · (intro w hSw; first | (go_simp; done) | (go_simp; with_reducible rfl))
            (try simp only [Act.put, List.getElem_toArray, List.getElem_cons_succ, List.getElem_cons_zero, List.setIfInBounds_toArray, List.set_cons_zero, List.set_cons_succ])
            refine wpAnyH_take (i := 27) (v := ?_) rfl (by kernel_rfl) (by kernel_rfl) (by kernel_rfl) (fun _ _ _ h => h) (Or.inl ⟨by kernel_rfl, ?_⟩) hHq1 ?_
            rotate_left
            · (intro w hSw; first | (go_simp; done) | (go_simp; with_reducible rfl))
            (try simp only [Act.put, List.getElem_toArray, List.getElem_cons_succ, List.getElem_cons_zero, List.setIfInBounds_toArray, List.set_cons_zero, List.set_cons_succ])
            refine wpAnyH_take (i := 29) (v := ?_) rfl (by kernel_rfl) (by kernel_rfl) (by kernel_rfl) (fun _ _ _ h => h) (Or.inl ⟨by kernel_rfl, ?_⟩) hHq1 ?_
            rotate_left
            · (intro w hSw; first | (go_simp; done) | (go_simp; with_reducible rfl))
            (try simp only [Act.put, List.getElem_toArray, List.getElem_cons_succ, List.getElem_cons_zero, List.setIfInBounds_toArray, List.set_cons_zero, List.set_cons_succ])
            refine wpAnyH_take (i := 30) (v := ?_) rfl (by kernel_rfl) (by kernel_rfl) (by kernel_rfl) (fun _ _ _ h => h) (Or.inl ⟨by kernel_rfl, ?_⟩) hHq1 ?_
            rotate_left
            · (intro w hSw; first | (go_simp; done) | (go_simp; with_reducible rfl))
            (try simp only [Act.put, List.getElem_toArray, List.getElem_cons_succ, List.getElem_cons_zero, List.setIfInBounds_toArray, List.set_cons_zero, List.set_cons_succ])
            refine wpAnyH_ready (rs := [28]) (by kernel_rfl) (by simp) (AllReadyH.cons rfl (fun K hK => ?_) AllReadyH.nil)
            have hH := hHq1
            (go_simp; go_at_call 24; refine (HSN2.out _ hH.1).mono ?_; rintro e w9 ⟨rfl, hb9⟩)
            refine hK.out _ _ (by exact ⟨hH.1.trans (hb9.mono hH.1.size), cell_at hb9 hH.2.1 rfl, cell_at hb9 hH.2.2.1 rfl, cell_at hb9 hH.2.2.2.1 rfl, cell_at hb9 hH.2.2.2.2.1 rfl, cell_at hb9 hH.2.2.2.2.2.1 rfl, cell_at hb9 hH.2.2.2.2.2.2 rfl⟩) (fun hHq2 => ?_)
            clear hK K hH hHq1
            (try simp only [Act.put, List.getElem_toArray, List.getElem_cons_succ, List.getElem_cons_zero, List.setIfInBounds_toArray, List.set_cons_zero, List.set_cons_succ])
            refine wpAnyH_ready (rs := [31]) (by kernel_rfl) (by simp) (AllReadyH.cons rfl (fun K hK => ?_) AllReadyH.nil)
            have hH := hHq2
            (go_simp; go_at_call 24; refine (HSL2.out _ hH.1).mono ?_; rintro e w10 ⟨rfl, hb10⟩)
            refine hK.out _ _ (by exact ⟨hH.1.trans (hb10.mono hH.1.size), cell_at hb10 hH.2.1 rfl, cell_at hb10 hH.2.2.1 rfl, cell_at hb10 hH.2.2.2.1 rfl, cell_at hb10 hH.2.2.2.2.1 rfl, cell_at hb10 hH.2.2.2.2.2.1 rfl, cell_at hb10 hH.2.2.2.2.2.2 rfl⟩) (fun hHq3 => ?_)
            clear hK K hH hHq2
            (try simp only [Act.put, List.getElem_toArray, List.getElem_cons_succ, List.getElem_cons_zero, List.setIfInBounds_toArray, List.set_cons_zero, List.set_cons_succ])
            refine wpAnyH_take (i := 32) (v := ?_) rfl (by kernel_rfl) (by kernel_rfl) (by kernel_rfl) (fun _ _ _ h => h) (Or.inl ⟨by kernel_rfl, ?_⟩) hHq3 ?_
            rotate_left
            · (intro w hSw; first | (go_simp; done) | (go_simp; with_reducible rfl))
            (try simp only [Act.put, List.getElem_toArray, List.getElem_cons_succ, List.getElem_cons_zero, List.setIfInBounds_toArray, List.set_cons_zero, List.set_cons_succ])
            refine wpAnyH_take (i := 33) (v := ?_) rfl (by kernel_rfl) (by kernel_rfl) (by kernel_rfl) (fun _ _ _ h => h) (Or.inl ⟨by kernel_rfl, ?_⟩) hHq3 ?_
            rotate_left
            · (intro w hSw; first | (go_simp; done) | (go_simp; with_reducible rfl))
            (try simp only [Act.put, List.getElem_toArray, List.getElem_cons_succ, List.getElem_cons_zero, List.setIfInBounds_toArray, List.set_cons_zero, List.set_cons_succ])
            refine wpAnyH_take (i := 34) (v := ?_) rfl (by kernel_rfl) (by kernel_rfl) (by kernel_rfl) (fun _ _ _ h => h) (Or.inl ⟨by kernel_rfl, ?_⟩) hHq3 ?_
            rotate_left
            · (intro w hSw; first | (go_simp; done) | (go_simp; with_reducible rfl))
            (try simp only [Act.put, List.getElem_toArray, List.getElem_cons_succ, List.getElem_cons_zero, List.setIfInBounds_toArray, List.set_cons_zero, List.set_cons_succ])
            refine wpAnyH_done (by kernel_rfl) ?_ _
            have hEnd := hHq3
            have HE := Lib.hid (HBW6.out.trans (hEnd.1.mono HBW6.out.size))
            clear hHeld hEnd
            go_wp2_with fail
            go_ret
            exact ⟨rfl, HEND.out _ HE.out⟩
          · have h0' : ((k : Int) == 0) = false := by rw [beq_eq_false_iff_ne]; omega
            have hk9 : 0 < kk := by
              rcases HFIL.out.2.1 with h | h
              · exact absurd (by rw [← HCNL.out, h]; rfl) h0
              · rw [HKK.out] at h; exact h
            have hk9' : decide ((0 : Int) < (kk : Int)) = true := by simp; omega
            have HK9 := Lib.hid hk9
            clear h0 hk9
            refine wpAnyH_ready (rs := [0]) (by kernel_rfl) (by simp) (AllReadyH.cons rfl (fun K hK => ?_) AllReadyH.nil)
            have hH := hHeld
            (go_simp; go_at_call 11; refine (HAL.out _).mono ?_; rintro e w8 ⟨rfl, hb8⟩)
            refine hK.out _ _ (by exact ⟨hH.1.trans (hb8.mono hH.1.size), cell_at hb8 hH.2.1 rfl, cell_at hb8 hH.2.2.1 rfl, cell_at hb8 hH.2.2.2.1 rfl, cell_at hb8 hH.2.2.2.2.1 rfl, cell_at hb8 hH.2.2.2.2.2.1 rfl, cell_at hb8 hH.2.2.2.2.2.2 rfl⟩) (fun hHq1 => ?_)
            clear hK K hH 
            (try simp only [Act.put, List.getElem_toArray, List.getElem_cons_succ, List.getElem_cons_zero, List.setIfInBounds_toArray, List.set_cons_zero, List.set_cons_succ])
            refine wpAnyH_take (i := 1) (v := ?_) rfl (by kernel_rfl) (by kernel_rfl) (by kernel_rfl) (fun _ _ _ h => h) (Or.inl ⟨by kernel_rfl, ?_⟩) hHq1 ?_
            rotate_left
            · (intro w hSw; first | (go_simp; done) | (go_simp; with_reducible rfl))
            (try simp only [Act.put, List.getElem_toArray, List.getElem_cons_succ, List.getElem_cons_zero, List.setIfInBounds_toArray, List.set_cons_zero, List.set_cons_succ])
            refine wpAnyH_take (i := 2) (v := ?_) rfl (by kernel_rfl) (by kernel_rfl) (by kernel_rfl) (fun _ _ _ h => h) (Or.inl ⟨by kernel_rfl, ?_⟩) hHq1 ?_
            rotate_left
            · (intro w hSw; first | (go_simp; done) | (go_simp; with_reducible rfl))
            (try simp only [Act.put, List.getElem_toArray, List.getElem_cons_succ, List.getElem_cons_zero, List.setIfInBounds_toArray, List.set_cons_zero, List.set_cons_succ])
            refine wpAnyH_take (i := 3) (v := ?_) rfl (by kernel_rfl) (by kernel_rfl) (by kernel_rfl) (fun _ _ _ h => h) (Or.inl ⟨by kernel_rfl, ?_⟩) hHq1 ?_
            rotate_left
            · (intro w hSw; first | (go_simp; done) | (go_simp; with_reducible rfl))
            (try simp only [Act.put, List.getElem_toArray, List.getElem_cons_succ, List.getElem_cons_zero, List.setIfInBounds_toArray, List.set_cons_zero, List.set_cons_succ])
            refine wpAnyH_take (i := 4) (v := ?_) rfl (by kernel_rfl) (by kernel_rfl) (by kernel_rfl) (fun _ _ _ h => h) (Or.inl ⟨by kernel_rfl, ?_⟩) hHq1 ?_
            rotate_left
            · (intro w hSw; first | (go_simp; done) | (go_simp; with_reducible rfl))
            (try simp only [Act.put, List.getElem_toArray, List.getElem_cons_succ, List.getElem_cons_zero, List.setIfInBounds_toArray, List.set_cons_zero, List.set_cons_succ])
            refine wpAnyH_take (i := 5) (v := ?_) rfl (by kernel_rfl) (by kernel_rfl) (by kernel_rfl) (fun _ _ _ h => h) (Or.inl ⟨by kernel_rfl, ?_⟩) hHq1 ?_
            rotate_left
            · (intro w hSw; first | (go_simp; done) | (go_simp; with_reducible rfl))
            (try simp only [Act.put, List.getElem_toArray, List.getElem_cons_succ, List.getElem_cons_zero, List.setIfInBounds_toArray, List.set_cons_zero, List.set_cons_succ])
            refine wpAnyH_take (i := 6) (v := .bool true) rfl (by kernel_rfl) (by kernel_rfl) (by kernel_rfl) (fun _ _ _ h => h) (Or.inl ⟨by kernel_rfl, ?_⟩) hHq1 ?_
            · (intro w hSw; go_simp)
            (try simp only [Act.put, List.getElem_toArray, List.getElem_cons_succ, List.getElem_cons_zero, List.setIfInBounds_toArray, List.set_cons_zero, List.set_cons_succ])
            refine wpAnyH_take (i := 7) (v := ?_) rfl (by kernel_rfl) (by kernel_rfl) (by kernel_rfl) (fun _ _ _ h => h) (Or.inl ⟨by kernel_rfl, ?_⟩) hHq1 ?_
            rotate_left
            · (intro w hSw; first | (go_simp; done) | (go_simp; with_reducible rfl))
            (try simp only [Act.put, List.getElem_toArray, List.getElem_cons_succ, List.getElem_cons_zero, List.setIfInBounds_toArray, List.set_cons_zero, List.set_cons_succ])
            refine wpAnyH_take (i := 8) (v := ?_) rfl (by kernel_rfl) (by kernel_rfl) (by kernel_rfl) (fun _ _ _ h => h) (Or.inl ⟨by kernel_rfl, ?_⟩) hHq1 ?_
            rotate_left
            · (intro w hSw; first | (go_simp; done) | (go_simp; with_reducible rfl))
            (try simp only [Act.put, List.getElem_toArray, List.getElem_cons_succ, List.getElem_cons_zero, List.setIfInBounds_toArray, List.set_cons_zero, List.set_cons_succ])
            refine wpAnyH_take (i := 9) (v := ?_) rfl (by kernel_rfl) (by kernel_rfl) (by kernel_rfl) (fun _ _ _ h => h) (Or.inl ⟨by kernel_rfl, ?_⟩) hHq1 ?_
            rotate_left
            · (intro w hSw; first | (go_simp; done) | (go_simp; with_reducible rfl))
            (try simp only [Act.put, List.getElem_toArray, List.getElem_cons_succ, List.getElem_cons_zero, List.setIfInBounds_toArray, List.set_cons_zero, List.set_cons_succ])
            refine wpAnyH_take (i := 10) (v := ?_) rfl (by kernel_rfl) (by kernel_rfl) (by kernel_rfl) (fun _ _ _ h => h) (Or.inl ⟨by kernel_rfl, ?_⟩) hHq1 ?_
            rotate_left
            · (intro w hSw; first | (go_simp; done) | (go_simp; with_reducible rfl))
            (try simp only [Act.put, List.getElem_toArray, List.getElem_cons_succ, List.getElem_cons_zero, List.setIfInBounds_toArray, List.set_cons_zero, List.set_cons_succ])
            refine wpAnyH_take (i := 11) (v := .bool false) rfl (by kernel_rfl) (by kernel_rfl) (by kernel_rfl) (fun _ _ _ h => h) (Or.inl ⟨by kernel_rfl, ?_⟩) hHq1 ?_
            · (intro w hSw; go_simp)
            (try simp only [Act.put, List.getElem_toArray, List.getElem_cons_succ, List.getElem_cons_zero, List.setIfInBounds_toArray, List.set_cons_zero, List.set_cons_succ])
            refine wpAnyH_take (i := 12) (v := ?_) rfl (by kernel_rfl) (by kernel_rfl) (by kernel_rfl) (fun _ _ _ h => h) (Or.inl ⟨by kernel_rfl, ?_⟩) hHq1 ?_
            rotate_left
            · (intro w hSw; first | (go_simp; done) | (go_simp; with_reducible rfl))
            (try simp only [Act.put, List.getElem_toArray, List.getElem_cons_succ, List.getElem_cons_zero, List.setIfInBounds_toArray, List.set_cons_zero, List.set_cons_succ])
            refine wpAnyH_take (i := 13) (v := ?_) rfl (by kernel_rfl) (by kernel_rfl) (by kernel_rfl) (fun _ _ _ h => h) (Or.inl ⟨by kernel_rfl, ?_⟩) hHq1 ?_
            rotate_left
            · (intro w hSw; first | (go_simp; done) | (go_simp; with_reducible rfl))
            (try simp only [Act.put, List.getElem_toArray, List.getElem_cons_succ, List.getElem_cons_zero, List.setIfInBounds_toArray, List.set_cons_zero, List.set_cons_succ])
            refine wpAnyH_take (i := 14) (v := .bool true) rfl (by kernel_rfl) (by kernel_rfl) (by kernel_rfl) (fun _ _ _ h => h) (Or.inl ⟨by kernel_rfl, ?_⟩) hHq1 ?_
            · (intro w hSw; go_simp; exact HK9.out)
            (try simp only [Act.put, List.getElem_toArray, List.getElem_cons_succ, List.getElem_cons_zero, List.setIfInBounds_toArray, List.set_cons_zero, List.set_cons_succ])
            refine wpAnyH_take (i := 15) (v := ?_) rfl (by kernel_rfl) (by kernel_rfl) (by kernel_rfl) (fun _ _ _ h => h) (Or.inl ⟨by kernel_rfl, ?_⟩) hHq1 ?_
            rotate_left
            · (intro w hSw; first | (go_simp; done) | (go_simp; with_reducible rfl))
            (try simp only [Act.put, List.getElem_toArray, List.getElem_cons_succ, List.getElem_cons_zero, List.setIfInBounds_toArray, List.set_cons_zero, List.set_cons_succ])
            refine wpAnyH_take (i := 16) (v := ?_) rfl (by kernel_rfl) (by kernel_rfl) (by kernel_rfl) (fun _ _ _ h => h) (Or.inl ⟨by kernel_rfl, ?_⟩) hHq1 ?_
            rotate_left
            · (intro w hSw; first | (go_simp; done) | (go_simp; with_reducible rfl))
            (try simp only [Act.put, List.getElem_toArray, List.getElem_cons_succ, List.getElem_cons_zero, List.setIfInBounds_toArray, List.set_cons_zero, List.set_cons_succ])
            refine wpAnyH_take (i := 17) (v := ?_) rfl (by kernel_rfl) (by kernel_rfl) (by kernel_rfl) (fun _ _ _ h => h) (Or.inl ⟨by kernel_rfl, ?_⟩) hHq1 ?_
            rotate_left
            · (intro w hSw; first | (go_simp; done) | (go_simp; with_reducible rfl))
            (try simp only [Act.put, List.getElem_toArray, List.getElem_cons_succ, List.getElem_cons_zero, List.setIfInBounds_toArray, List.set_cons_zero, List.set_cons_succ])
            refine wpAnyH_take (i := 18) (v := ?_) rfl (by kernel_rfl) (by kernel_rfl) (by kernel_rfl) (fun _ _ _ h => h) (Or.inl ⟨by kernel_rfl, ?_⟩) hHq1 ?_
            rotate_left
            · (intro w hSw; first | (go_simp; done) | (go_simp; with_reducible rfl))
            (try simp only [Act.put, List.getElem_toArray, List.getElem_cons_succ, List.getElem_cons_zero, List.setIfInBounds_toArray, List.set_cons_zero, List.set_cons_succ])
            refine wpAnyH_take (i := 19) (v := ?_) rfl (by kernel_rfl) (by kernel_rfl) (by kernel_rfl) (fun _ _ _ h => h) (Or.inl ⟨by kernel_rfl, ?_⟩) hHq1 ?_
            rotate_left
            · (intro w hSw; first | (go_simp; done) | (go_simp; with_reducible rfl))
            (try simp only [Act.put, List.getElem_toArray, List.getElem_cons_succ, List.getElem_cons_zero, List.setIfInBounds_toArray, List.set_cons_zero, List.set_cons_succ])
            refine wpAnyH_take (i := 20) (v := ?_) rfl (by kernel_rfl) (by kernel_rfl) (by kernel_rfl) (fun _ _ _ h => h) (Or.inl ⟨by kernel_rfl, ?_⟩) hHq1 ?_
            rotate_left
            · (intro w hSw; first | (go_simp; done) | (go_simp; with_reducible rfl))
            (try simp only [Act.put, List.getElem_toArray, List.getElem_cons_succ, List.getElem_cons_zero, List.setIfInBounds_toArray, List.set_cons_zero, List.set_cons_succ])
            refine wpAnyH_take (i := 21) (v := ?_) rfl (by kernel_rfl) (by kernel_rfl) (by kernel_rfl) (fun _ _ _ h => h) (Or.inl ⟨by kernel_rfl, ?_⟩) hHq1 ?_
            rotate_left
            · (intro w hSw; first | (go_simp; done) | (go_simp; with_reducible rfl))
            (try simp only [Act.put, List.getElem_toArray, List.getElem_cons_succ, List.getElem_cons_zero, List.setIfInBounds_toArray, List.set_cons_zero, List.set_cons_succ])
            refine wpAnyH_take (i := 22) (v := ?_) rfl (by kernel_rfl) (by kernel_rfl) (by kernel_rfl) (fun _ _ _ h => h) (Or.inl ⟨by kernel_rfl, ?_⟩) hHq1 ?_
            rotate_left
            · (intro w hSw; first | (go_simp; done) | (go_simp; with_reducible rfl))
            (try simp only [Act.put, List.getElem_toArray, List.getElem_cons_succ, List.getElem_cons_zero, List.setIfInBounds_toArray, List.set_cons_zero, List.set_cons_succ])
            refine wpAnyH_take (i := 23) (v := .bool true) rfl (by kernel_rfl) (by kernel_rfl) (by kernel_rfl) (fun _ _ _ h => h) (Or.inl ⟨by kernel_rfl, ?_⟩) hHq1 ?_
            · (intro w hSw; go_simp)
            (try simp only [Act.put, List.getElem_toArray, List.getElem_cons_succ, List.getElem_cons_zero, List.setIfInBounds_toArray, List.set_cons_zero, List.set_cons_succ])
            refine wpAnyH_take (i := 24) (v := ?_) rfl (by kernel_rfl) (by kernel_rfl) (by kernel_rfl) (fun _ _ _ h => h) (Or.inl ⟨by kernel_rfl, ?_⟩) hHq1 ?_
            rotate_left
            · (intro w hSw; first | (go_simp; done) | (go_simp; with_reducible rfl))
            (try simp only [Act.put, List.getElem_toArray, List.getElem_cons_succ, List.getElem_cons_zero, List.setIfInBounds_toArray, List.set_cons_zero, List.set_cons_succ])
            refine wpAnyH_take (i := 25) (v := ?_) rfl (by kernel_rfl) (by kernel_rfl) (by kernel_rfl) (fun _ _ _ h => h) (Or.inl ⟨by kernel_rfl, ?_⟩) hHq1 ?_
            rotate_left
            · (intro w hSw; first | (go_simp; done) | (go_simp; with_reducible rfl))
            (try simp only [Act.put, List.getElem_toArray, List.getElem_cons_succ, List.getElem_cons_zero, List.setIfInBounds_toArray, List.set_cons_zero, List.set_cons_succ])
            refine wpAnyH_take (i := 26) (v := ?_) rfl (by kernel_rfl) (by kernel_rfl) (by kernel_rfl) (fun _ _ _ h => h) (Or.inl ⟨by kernel_rfl, ?_⟩) hHq1 ?_
            rotate_left
            · (intro w hSw; first | (go_simp; done) | (go_simp; with_reducible rfl))
            (try simp only [Act.put, List.getElem_toArray, List.getElem_cons_succ, List.getElem_cons_zero, List.setIfInBounds_toArray, List.set_cons_zero, List.set_cons_succ])
            refine wpAnyH_take (i := 27) (v := ?_) rfl (by kernel_rfl) (by kernel_rfl) (by kernel_rfl) (fun _ _ _ h => h) (Or.inl ⟨by kernel_rfl, ?_⟩) hHq1 ?_
            rotate_left
            · (intro w hSw; first | (go_simp; done) | (go_simp; with_reducible rfl))
            (try simp only [Act.put, List.getElem_toArray, List.getElem_cons_succ, List.getElem_cons_zero, List.setIfInBounds_toArray, List.set_cons_zero, List.set_cons_succ])
            refine wpAnyH_take (i := 29) (v := ?_) rfl (by kernel_rfl) (by kernel_rfl) (by kernel_rfl) (fun _ _ _ h => h) (Or.inl ⟨by kernel_rfl, ?_⟩) hHq1 ?_
            rotate_left
            · (intro w hSw; first | (go_simp; done) | (go_simp; with_reducible rfl))
            (try simp only [Act.put, List.getElem_toArray, List.getElem_cons_succ, List.getElem_cons_zero, List.setIfInBounds_toArray, List.set_cons_zero, List.set_cons_succ])
            refine wpAnyH_take (i := 30) (v := ?_) rfl (by kernel_rfl) (by kernel_rfl) (by kernel_rfl) (fun _ _ _ h => h) (Or.inl ⟨by kernel_rfl, ?_⟩) hHq1 ?_
            rotate_left
            · (intro w hSw; first | (go_simp; done) | (go_simp; with_reducible rfl))
            (try simp only [Act.put, List.getElem_toArray, List.getElem_cons_succ, List.getElem_cons_zero, List.setIfInBounds_toArray, List.set_cons_zero, List.set_cons_succ])
            refine wpAnyH_ready (rs := [28]) (by kernel_rfl) (by simp) (AllReadyH.cons rfl (fun K hK => ?_) AllReadyH.nil)
            have hH := hHq1
            (go_simp; go_at_call 24; refine (HSN2.out _ hH.1).mono ?_; rintro e w9 ⟨rfl, hb9⟩)
            refine hK.out _ _ (by exact ⟨hH.1.trans (hb9.mono hH.1.size), cell_at hb9 hH.2.1 rfl, cell_at hb9 hH.2.2.1 rfl, cell_at hb9 hH.2.2.2.1 rfl, cell_at hb9 hH.2.2.2.2.1 rfl, cell_at hb9 hH.2.2.2.2.2.1 rfl, cell_at hb9 hH.2.2.2.2.2.2 rfl⟩) (fun hHq2 => ?_)
            clear hK K hH hHq1
            (try simp only [Act.put, List.getElem_toArray, List.getElem_cons_succ, List.getElem_cons_zero, List.setIfInBounds_toArray, List.set_cons_zero, List.set_cons_succ])
            refine wpAnyH_ready (rs := [31]) (by kernel_rfl) (by simp) (AllReadyH.cons rfl (fun K hK => ?_) AllReadyH.nil)
            have hH := hHq2
            (go_simp; go_at_call 24; refine (HSL2.out _ hH.1).mono ?_; rintro e w10 ⟨rfl, hb10⟩)
            refine hK.out _ _ (by exact ⟨hH.1.trans (hb10.mono hH.1.size), cell_at hb10 hH.2.1 rfl, cell_at hb10 hH.2.2.1 rfl, cell_at hb10 hH.2.2.2.1 rfl, cell_at hb10 hH.2.2.2.2.1 rfl, cell_at hb10 hH.2.2.2.2.2.1 rfl, cell_at hb10 hH.2.2.2.2.2.2 rfl⟩) (fun hHq3 => ?_)
            clear hK K hH hHq2
            (try simp only [Act.put, List.getElem_toArray, List.getElem_cons_succ, List.getElem_cons_zero, List.setIfInBounds_toArray, List.set_cons_zero, List.set_cons_succ])
            refine wpAnyH_take (i := 32) (v := ?_) rfl (by kernel_rfl) (by kernel_rfl) (by kernel_rfl) (fun _ _ _ h => h) (Or.inl ⟨by kernel_rfl, ?_⟩) hHq3 ?_
            rotate_left
            · (intro w hSw; first | (go_simp; done) | (go_simp; with_reducible rfl))
            (try simp only [Act.put, List.getElem_toArray, List.getElem_cons_succ, List.getElem_cons_zero, List.setIfInBounds_toArray, List.set_cons_zero, List.set_cons_succ])
            refine wpAnyH_take (i := 33) (v := ?_) rfl (by kernel_rfl) (by kernel_rfl) (by kernel_rfl) (fun _ _ _ h => h) (Or.inl ⟨by kernel_rfl, ?_⟩) hHq3 ?_
            rotate_left
            · (intro w hSw; first | (go_simp; done) | (go_simp; with_reducible rfl))
            (try simp only [Act.put, List.getElem_toArray, List.getElem_cons_succ, List.getElem_cons_zero, List.setIfInBounds_toArray, List.set_cons_zero, List.set_cons_succ])
            refine wpAnyH_take (i := 34) (v := ?_) rfl (by kernel_rfl) (by kernel_rfl) (by kernel_rfl) (fun _ _ _ h => h) (Or.inl ⟨by kernel_rfl, ?_⟩) hHq3 ?_
            rotate_left
            · (intro w hSw; first | (go_simp; done) | (go_simp; with_reducible rfl))
            (try simp only [Act.put, List.getElem_toArray, List.getElem_cons_succ, List.getElem_cons_zero, List.setIfInBounds_toArray, List.set_cons_zero, List.set_cons_succ])
            refine wpAnyH_done (by kernel_rfl) ?_ _
            have hEnd := hHq3
            have HE := Lib.hid (HBW6.out.trans (hEnd.1.mono HBW6.out.size))
            clear hHeld hEnd
            go_wp2_with fail
            go_ret
            exact ⟨rfl, HEND.out _ HE.out⟩
end Go.Proofs.Ytjpahookioenpaa
