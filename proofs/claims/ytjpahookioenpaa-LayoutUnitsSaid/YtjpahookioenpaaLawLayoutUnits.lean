/-
  The law LayoutUnits, walked. No claim of its own.
-/
import Derived.Test.YtjpahookioenpaaOp9
import Derived.Test.YtjpahookioenpaaAlv9
import Derived.Test.YtjpahookioenpaaLyU
import Derived.Test.YtjpahookioenpaaLyW
import Derived.Deep.RegionHeld3
namespace Go.Proofs.Ytjpahookioenpaa
open Go.RowKit Go.Deep Go.Shelf
set_option linter.unusedVariables false
set_option linter.unusedSimpArgs false

set_option maxHeartbeats 8000000 in
set_option maxRecDepth 100000 in
theorem layoutUnits_any (w : World) {A : LyT} (hA : LyOk w A) {F : FoT} (hF : FoOk w F) :
    Calls Try.prog 9 #[A.val, F.val] w fun e w' => e = .returned (.bool true) ∧ Below w.heap.size w w' := by
  obtain ⟨W, HWW⟩ : ∃ W, Hid ((w.alloc (.cells #[.int .u64 (A.e : Int), .slice A.a A.sg.length A.c, .int .i64 A.q] 25)).alloc (.cells #[.slice F.a1 F.dr.length F.c1, .slice F.a2 F.fr.length F.c2, .int .i64 F.q, .int .u64 (F.f : Int), .slice F.a3 F.ch.length F.c3] 43) = W) := ⟨_, Lib.hid rfl⟩
  have hWb : Below w.heap.size w W := by rw [← HWW.out]; exact ((Below.refl _ _).alloc (Nat.le_refl _) _).alloc (by simp) _
  have o1 : Own W w.heap.size 25 [.int .u64 (A.e : Int), .slice A.a A.sg.length A.c, .int .i64 A.q] := by rw [← HWW.out]; exact (Own.new w _ _).alloc _
  have o2 : Own W (w.heap.size + 1) 43 [.slice F.a1 F.dr.length F.c1, .slice F.a2 F.fr.length F.c2, .int .i64 F.q, .int .u64 (F.f : Int), .slice F.a3 F.ch.length F.c3] := by
    rw [← HWW.out]
    have := Own.new (w.alloc (.cells #[.int .u64 (A.e : Int), .slice A.a A.sg.length A.c, .int .i64 A.q] 25)) 43 [.slice F.a1 F.dr.length F.c1, .slice F.a2 F.fr.length F.c2, .int .i64 F.q, .int .u64 (F.f : Int), .slice F.a3 F.ch.length F.c3]
    simpa using this
  have HWB := Lib.hid hWb
  have HAO := Lib.hid hA
  have HFO := Lib.hid hF
  have HO1 := Lib.hid o1
  have HO2 := Lib.hid o2
  have HAL := Lib.hid alive_any
  have HKL := Lib.hid (fun (W' : World) (hb : Below W.heap.size W W') => (hA.inn.below (hWb.trans (hb.mono hWb.size)) (Nat.le_refl _)))
  have HF1 := Lib.hid (fun (W' : World) (hb : Below W.heap.size W W') => fitsL_any A w.heap.size W' (hA.inn.below (hWb.trans (hb.mono hWb.size)) (Nat.le_refl _)) (Nat.le_trans hWb.size hb.size) hA.fit)
  have HF2 := Lib.hid (fun (W' : World) (hb : Below W.heap.size W W') => fitsF_any F.a1 F.dr.length F.c1 F.a2 F.fr.length F.c2 F.q F.f F.a3 F.ch F.c3 w.heap.size W' (hF.ch.below (hWb.trans (hb.mono hWb.size)) (Nat.le_refl _)) (Nat.le_trans hWb.size hb.size) hF.chf.1)
  have HEX := Lib.hid (fun (W' : World) (hb : Below W.heap.size W W') (hdl : F.dr.length ≤ 1000000) => next_any A w.heap.size F.dr F.fr F.a1 F.a2 F.c1 F.c2 F.q W' (hA.inn.below (hWb.trans (hb.mono hWb.size)) (Nat.le_refl _)) (Nat.le_trans hWb.size hb.size) hA.fit (hF.dr.below (hWb.trans (hb.mono hWb.size)) (Nat.le_refl _)) hdl (hF.fr.below (hWb.trans (hb.mono hWb.size)) (Nat.le_refl _)) hF.fc.1 hF.fc.2.1 hF.fc.2.2)
  have HRI := Lib.hid (fun (W' : World) (hb : Below W.heap.size W W') => right_any A w.heap.size W' (hA.inn.below (hWb.trans (hb.mono hWb.size)) (Nat.le_refl _)) (Nat.le_trans hWb.size hb.size) hA.fit)
  have HUN := Lib.hid (fun (W' : World) (hb : Below W.heap.size W W') => units_any A w.heap.size W' (hA.inn.below (hWb.trans (hb.mono hWb.size)) (Nat.le_refl _)) (Nat.le_trans hWb.size hb.size) hA.fit)
  clear hWb o1 o2 hA hF
  obtain ⟨r, HRR⟩ : ∃ r, Hid (nextOf A.x F.dr F.fr F.q = r) := ⟨_, Lib.hid rfl⟩
  have HRYES : Hid (r.1 = 0 → right A.x = true ∧ (fillS F.dr ([], F.fr) A.x.s).1 = 0 ∧ right (nextRaw A.x F.dr F.fr F.q) = true ∧ r.2 = nextRaw A.x F.dr F.fr F.q) := Lib.hid (by rw [← HRR.out]; exact nextOf_yes)
  rw [HRR.out] at HEX
  have HEP : Hid (right A.x = true → A.e ≤ 1048576) := Lib.hid (fun h => (right_iff.1 h).1.2)
  obtain ⟨X, HX⟩ : ∃ X, Hid (A.x = X) := ⟨_, Lib.hid rfl⟩
  have HXE : Hid (X.e = A.e ∧ X.q = A.q) := Lib.hid (by rw [← HX.out]; exact ⟨rfl, rfl⟩)
  rw [HX.out] at HRYES HEP HRI HUN
  have HXS : Hid (X.s = sgx A.sg) := Lib.hid (by rw [← HX.out]; rfl)
  obtain ⟨ep, sa, c, L, q⟩ := A
  obtain ⟨a1, c1, dr, a2, c2, fr, fq, ff, a3, c3, M⟩ := F
  simp only [LyT.val, FoT.val] at *
  obtain ⟨n, hn⟩ : ∃ n, L.length = n := ⟨_, rfl⟩
  have HN := Lib.hid hn
  rw [hn] at HWW HO1 HF1 HRI HUN HEX ⊢
  clear hn
  obtain ⟨dn, hdn⟩ : ∃ dn, dr.length = dn := ⟨_, rfl⟩
  have HDN := Lib.hid hdn
  obtain ⟨fn, hfn⟩ : ∃ fn, fr.length = fn := ⟨_, rfl⟩
  have HFN := Lib.hid hfn
  rw [hdn] at HWW HO2 HF2 HEX ⊢
  rw [hfn] at HWW HO2 HF2 HEX ⊢
  clear hdn hfn
  obtain ⟨mn, hmn⟩ : ∃ mn, M.length = mn := ⟨_, rfl⟩
  have HMN := Lib.hid hmn
  rw [hmn] at HWW HO2 HF2 ⊢
  clear hmn
  go_enter Try.func9, Try.ntmps9
  go_upto_region 1 with fail
  rw [HWW.out]
  have hz0 := HO1.out.lt
  have hz1 := HO2.out.lt
  have k0 := HO1.out.cell 0
  have k1 := HO1.out.cell 1
  have k2 := HO1.out.cell 2
  have m0 := HO2.out.cell 0
  have m1 := HO2.out.cell 1
  have m2 := HO2.out.cell 2
  have m3 := HO2.out.cell 3
  have m4 := HO2.out.cell 4
  simp at k0 k1 k2 m0 m1 m2 m3 m4
  have HK := Lib.hid (And.intro k0 (And.intro k1 (And.intro k2 (And.intro m0 (And.intro m1 (And.intro m2 (And.intro m3 m4)))))))
  go_wp2_with fail
  refine (HF1.out W (Below.refl _ _)).mono ?_
  rintro e w1 ⟨⟨t1, rfl⟩, hb1⟩
  have HB1 := Lib.hid hb1
  clear hb1 k0 k1 k2 m0 m1 m2 m3 m4
  have m0 := cell_at HB1.out HK.out.2.2.2.1 rfl
  have m1 := cell_at HB1.out HK.out.2.2.2.2.1 rfl
  have m2 := cell_at HB1.out HK.out.2.2.2.2.2.1 rfl
  have m3 := cell_at HB1.out HK.out.2.2.2.2.2.2.1 rfl
  have m4 := cell_at HB1.out HK.out.2.2.2.2.2.2.2 rfl
  have hz2 : w.heap.size + 1 < w1.heap.size := World.block_lt_of_cell? _ _ m0
  go_wp2_with fail
  refine (HF2.out w1 HB1.out).mono ?_
  rintro e w2 ⟨⟨t2, rfl, hfits⟩, hb2⟩
  have HFITS := Lib.hid hfits
  clear hfits
  have HB2 := Lib.hid (HB1.out.trans (hb2.mono HB1.out.size))
  clear hb2 m0 m1 m2 m3 m4 hz2
  have HEND : Hid (∀ W', Below W.heap.size W W' → Below w.heap.size w W') := Lib.hid (fun W' h => HWB.out.trans (h.mono HWB.out.size))
  cases t1 with
  | false =>
    go_wp2_with fail
    refine (HAL.out _).mono ?_
    rintro e w3 ⟨rfl, hb3⟩
    have HB3 := Lib.hid (HB2.out.trans (hb3.mono HB2.out.size))
    clear hb3
    go_wp2_with fail
    go_ret
    exact ⟨rfl, HEND.out _ HB3.out⟩
  | true =>
  cases t2 with
  | false =>
    go_wp2_with fail
    refine (HAL.out _).mono ?_
    rintro e w3 ⟨rfl, hb3⟩
    have HB3 := Lib.hid (HB2.out.trans (hb3.mono HB2.out.size))
    clear hb3
    go_wp2_with fail
    go_ret
    exact ⟨rfl, HEND.out _ HB3.out⟩
  | true =>
  have HD2 : Hid (dn ≤ 200 ∧ fn ≤ 200) := Lib.hid (HFITS.out rfl)
  obtain ⟨rr, HRX⟩ : ∃ rr, Hid (right X = rr) := ⟨_, Lib.hid rfl⟩
  rw [HRX.out] at HRI
  have k0 := cell_at HB2.out HK.out.1 rfl
  have k1 := cell_at HB2.out HK.out.2.1 rfl
  have k2 := cell_at HB2.out HK.out.2.2.1 rfl
  have hz3 : w.heap.size < w2.heap.size := World.block_lt_of_cell? _ _ k0
  go_wp2_with fail
  refine (HRI.out w2 HB2.out).mono ?_
  rintro e w3 ⟨rfl, hb3⟩
  have HB3 := Lib.hid (HB2.out.trans (hb3.mono HB2.out.size))
  clear hb3 k0 k1 k2 hz3
  cases rr with
  | false =>
    go_wp2_with fail
    refine (HAL.out _).mono ?_
    rintro e w4 ⟨rfl, hb4⟩
    have HB4 := Lib.hid (HB3.out.trans (hb4.mono HB3.out.size))
    clear hb4
    go_wp2_with fail
    go_ret
    exact ⟨rfl, HEND.out _ HB4.out⟩
  | true =>
  have k0 := cell_at HB3.out HK.out.1 rfl
  have k1 := cell_at HB3.out HK.out.2.1 rfl
  have k2 := cell_at HB3.out HK.out.2.2.1 rfl
  have hz3 : w.heap.size < w3.heap.size := World.block_lt_of_cell? _ _ k0
  go_wp2_with fail
  refine (HUN.out w3 HB3.out).mono ?_
  rintro e w4 ⟨v4, rfl, hl4, hb4⟩
  have HB4 := Lib.hid (HB3.out.trans (hb4.mono HB3.out.size))
  obtain ⟨a4, c4, rfl, hr4, _, _⟩ := hl4.form
  have HR4 := Lib.hid hr4
  have hsm := units_small HRX.out
  have HLT : Hid (∀ i, i + 1 < (unitsOf X).length → (unitsOf X).getD i 0 < (unitsOf X).getD (i + 1) 0) := Lib.hid (fun i hi => units_lt HRX.out hi)
  have HIN : Hid (∀ u ∈ unitsOf X, inAny u X.s = true) := Lib.hid (fun u hu => units_in HRX.out hu)
  have HNX : Hid (r.1 = 0 → ∀ u ∈ unitsOf r.2, (u ∈ unitsOf X ∧ u ∉ dr) ∨ u ∈ fr) := Lib.hid (fun h0 u hu => by
    obtain ⟨g1, g2, g3, g4⟩ := HRYES.out h0
    rw [g4] at hu
    exact next_units g1 g2 g3 hu)
  have hXl : X.s.length = n := by rw [HXS.out, sgx_length, HN.out]
  have HTM : Hid (∀ s, s < n → ∀ u, tm u (chx (st L s).ch) ≤ 1) := Lib.hid (fun s hs u => by
    have h1 := tm_one (u := u) (seg_nodup HRX.out (sx_mem (L := X.s) (i := s) (by rw [hXl]; exact hs)))
    rw [HXS.out, sx_sgx] at h1
    exact h1)
  have HCK : Hid (∀ s, s < n → 1 ≤ (st L s).ch.length ∧ (st L s).ch.length ≤ 4 ∧ ∀ k, k < (st L s).ch.length → (ct (st L s).ch k).u.length ≤ 4) := Lib.hid (fun s hs => by
    have h1 := right_ch HRX.out (i := s) (by rw [hXl]; exact hs)
    rw [HXS.out, sx_sgx] at h1
    have h2 := (chOk_iff.1 h1).1
    simp only [SgT.x, chx_length] at h2
    refine ⟨h2.1, h2.2, fun k hk => ?_⟩
    have h3 := (ch_small h1 (i := k) (by simp [SgT.x]; exact hk)).2
    simp only [SgT.x] at h3
    rw [cx_chx] at h3
    exact h3)
  rw [i64s_length]
  clear hl4 hb4 hr4 k0 k1 k2 hz3 hXl
  obtain ⟨us, hus⟩ : ∃ us, unitsOf X = us := ⟨_, rfl⟩
  rw [hus] at HR4 hsm HLT HIN HNX ⊢
  clear hus
  obtain ⟨un, hun⟩ : ∃ un, us.length = un := ⟨_, rfl⟩
  have HUNL := Lib.hid hun
  rw [hun] at hsm HLT ⊢
  have HUS := Lib.hid hsm
  clear hun hsm
  obtain ⟨b, off, esa, hb0, hc⟩ := HAO.out.inn.1.sg (show 0 < L.length by rw [HN.out]; have := (sgOk_iff.1 (right_iff.1 HRX.out).2.2).1.1; rw [HXS.out, sgx_length, HN.out] at this; omega)
  simp only at esa
  subst esa
  have hn4 : n ≤ 4 := by have := (sgOk_iff.1 (right_iff.1 HRX.out).2.2).1.2; rw [HXS.out, sgx_length, HN.out] at this; exact this
  have HN4 := Lib.hid hn4
  have HSG : Hid (∀ s, s < n → ∀ W', Below w4.heap.size w4 W' → W'.cell? ⟨b, off + s * 2 + 1, none⟩ = some (.slice (st L s).a (st L s).ch.length (st L s).c)) := Lib.hid (fun s hs W' hb => cell_keep ((HEND.out _ HB4.out).trans (hb.mono (HEND.out _ HB4.out).size)) (hc s (by rw [HN.out]; exact hs)).2 hb0)
  have HK1 : Hid (∀ W', Below w4.heap.size w4 W' → W'.cell? ⟨w.heap.size, 1, none⟩ = some (.slice (some ⟨b, off, none⟩) n c)) := Lib.hid (fun W' hb => cell_at hb (cell_at HB4.out HK.out.2.1 rfl) rfl)
  have HGO : Hid (∀ W', Below w4.heap.size w4 W' → Below w.heap.size w W') := Lib.hid (fun W' hb => (HEND.out _ HB4.out).trans (hb.mono (HEND.out _ HB4.out).size))
  clear hc hb0 hn4
  have hun6 : (un : Int) ≤ 1000000 := by have := HUS.out; omega
  go_wp2_with fail
  go_loopw [8] (fun i wr => ∃ k : Nat, k ≤ un ∧ i = .int .i64 (k : Int) ∧ Hid (Below w4.heap.size w4 wr)) (fun i _ => un - (intOf i).toNat)
  case atStart => exact ⟨0, Nat.zero_le _, rfl, Lib.hid (Below.refl _ _)⟩
  case round =>
    obtain ⟨i, hi, rfl, HBi⟩ := hrel
    by_cases hlt : i < un
    rotate_left
    · obtain rfl : i = un := by omega
      rename World => w5
      have HB5 := Lib.hid (HB4.out.trans (HBi.out.mono HB4.out.size))
      have k0 := cell_at HB5.out HK.out.1 rfl
      have k1 := cell_at HB5.out HK.out.2.1 rfl
      have k2 := cell_at HB5.out HK.out.2.2.1 rfl
      have m0 := cell_at HB5.out HK.out.2.2.2.1 rfl
      have m1 := cell_at HB5.out HK.out.2.2.2.2.1 rfl
      have m2 := cell_at HB5.out HK.out.2.2.2.2.2.1 rfl
      have hz5 : w.heap.size + 1 < w5.heap.size := World.block_lt_of_cell? _ _ m0
      have hz6 : w.heap.size < w5.heap.size := World.block_lt_of_cell? _ _ k0
      go_wp2_with fail
      refine (HEX.out w5 HB5.out (by have := HD2.out.1; omega)).mono ?_
      intro e w6 hR4
      obtain ⟨HBB6, hcs⟩ := hR4.cases
      clear hR4 k0 k1 k2 m0 m1 m2 hz5 hz6
      have HB6 := Lib.hid (HB5.out.trans (HBB6.out.mono HB5.out.size))
      rcases hcs with ⟨h0, T, rfl, HTX, HRT, HTIN⟩ | ⟨h0, rfl⟩
      rotate_left
      · have hne : (r.1 != 0) = true := by rw [bne_iff_ne]; exact h0
        clear h0
        generalize r.1 = rc at *
        go_wp2_with fail
        refine (HAL.out _).mono ?_
        rintro e w7 ⟨rfl, hb7⟩
        have HB7 := Lib.hid ((HB6.out.alloc HB6.out.size (.cells #[.int .u64 0, .slice none 0 0, .int .i64 0] 25)).trans (hb7.mono (by have := HB6.out.size; simp; omega)))
        clear hb7
        go_wp2_with fail
        go_ret
        exact ⟨rfl, HEND.out _ HB7.out⟩
      have hnx := HNX.out h0
      rw [← HTX.out] at hnx
      have htr : right T.x = true := by rw [HTX.out]; exact HRT.out
      have HTF := Lib.hid (right_fit (A := T) htr)
      have hst := units_small htr
      have HUT := Lib.hid (fun (W' : World) (hb : Below w6.heap.size w6 W') => units_any T w6.heap.size W' (HTIN.out.below hb (Nat.le_refl _)) hb.size HTF.out)
      obtain ⟨th, hth⟩ : ∃ th, unitsOf T.x = th := ⟨_, rfl⟩
      rw [hth] at HUT hnx hst
      clear hth htr h0
      have HNU := Lib.hid hnx
      obtain ⟨tm', htm⟩ : ∃ tm', th.length = tm' := ⟨_, rfl⟩
      have HTL := Lib.hid htm
      rw [htm] at hst
      have HTS := Lib.hid hst
      have htm6 : (tm' : Int) ≤ 1000000 := by omega
      clear hnx hst htm
      obtain ⟨te, ta, tc, tg, tq⟩ := T
      simp only [LyT.val] at HUT ⊢
      generalize tg.length = tn at *
      obtain ⟨W7, hW7⟩ : ∃ W7, w6.alloc (.cells #[.int .u64 (te : Int), .slice ta tn tc, .int .i64 tq] 25) = W7 := ⟨_, rfl⟩
      have hb7 : Below w6.heap.size w6 W7 := by rw [← hW7]; exact (Below.refl _ _).alloc (Nat.le_refl _) _
      have HO7 : Hid (Own W7 w6.heap.size 25 [.int .u64 (te : Int), .slice ta tn tc, .int .i64 tq]) := Lib.hid (by rw [← hW7]; exact Own.new w6 _ _)
      have HB7 := Lib.hid hb7
      have HBW7 := Lib.hid (HB6.out.trans (hb7.mono HB6.out.size))
      have HB47 := Lib.hid ((HBi.out.trans (HBB6.out.mono HBi.out.size)).trans (hb7.mono (Nat.le_trans HBi.out.size HBB6.out.size)))
      have HW7 := Lib.hid hW7
      clear hb7 hW7
      go_upto_region 27 with fail
      rw [HW7.out]
      have n0 := HO7.out.cell 0
      have n1 := HO7.out.cell 1
      have n2 := HO7.out.cell 2
      have hz7 := HO7.out.lt
      simp at n0 n1 n2
      go_wp2_with fail
      refine (HUT.out W7 HB7.out).mono ?_
      rintro e w8 ⟨v8, rfl, hl8, hb8⟩
      have HBW8 := Lib.hid (HBW7.out.trans (hb8.mono HBW7.out.size))
      have HB48 := Lib.hid (HB47.out.trans (hb8.mono HB47.out.size))
      obtain ⟨a8, c8, rfl, hr8, _, _⟩ := hl8.form
      have HR8 := Lib.hid hr8
      rw [i64s_length, HTL.out]
      clear hl8 hb8 hr8 n0 n1 n2 hz7
      have HM0 := Lib.hid (cell_at HBW8.out HK.out.2.2.2.1 rfl)
      have HM1 := Lib.hid (cell_at HBW8.out HK.out.2.2.2.2.1 rfl)
      have HHU := Lib.hid (fun (x : Int) (W' : World) (hb : Below w8.heap.size w8 W') => has_any us x a4 c4 w4.heap.size W' (HR4.out.below (HB48.out.trans (hb.mono HB48.out.size)) (Nat.le_refl _)) (Nat.le_trans HB48.out.size hb.size) (by have h1 := HUS.out; have h2 := HUNL.out; omega))
      have HHD := Lib.hid (fun (x : Int) (W' : World) (hb : Below w8.heap.size w8 W') => has_any dr x a1 c1 w.heap.size W' (HFO.out.dr.below ((HEND.out _ HBW8.out).trans (hb.mono (HEND.out _ HBW8.out).size)) (Nat.le_refl _)) (Nat.le_trans (HEND.out _ HBW8.out).size hb.size) (by have h1 := HD2.out.1; have h2 := HDN.out; omega))
      have HHF := Lib.hid (fun (x : Int) (W' : World) (hb : Below w8.heap.size w8 W') => has_any fr x a2 c2 w.heap.size W' (HFO.out.fr.below ((HEND.out _ HBW8.out).trans (hb.mono (HEND.out _ HBW8.out).size)) (Nat.le_refl _)) (Nat.le_trans (HEND.out _ HBW8.out).size hb.size) (by have h1 := HD2.out.2; have h2 := HFN.out; omega))
      rw [HUNL.out] at HHU
      rw [HDN.out] at HHD
      rw [HFN.out] at HHF
      go_wp2_with fail
      go_loopw [16] (fun j wr => ∃ k : Nat, k ≤ tm' ∧ j = .int .i64 (k : Int) ∧ Hid (Below w8.heap.size w8 wr)) (fun j _ => tm' - (intOf j).toNat)
      case atStart => exact ⟨0, Nat.zero_le _, rfl, Lib.hid (Below.refl _ _)⟩
      case round =>
        obtain ⟨k, hk, rfl, HBk⟩ := hrel
        by_cases hlt4 : k < tm'
        rotate_left
        · obtain rfl : k = tm' := by omega
          go_wp2_with fail
          refine (HAL.out _).mono ?_
          rintro e w9 ⟨rfl, hb9⟩
          have HB9 := Lib.hid (HBW8.out.trans ((HBk.out.trans (hb9.mono HBk.out.size)).mono HBW8.out.size))
          clear hb9
          go_wp2_with fail
          go_ret
          exact ⟨rfl, HEND.out _ HB9.out⟩
        have hkL : k < th.length := by rw [HTL.out]; exact hlt4
        obtain ⟨b8, off8, rfl, hb8', hc8⟩ := (HR8.out.below HBk.out (Nat.le_refl _)).i64 (show 0 < th.length by omega)
        have q1 := hc8 k hkL
        clear hc8
        have hk0 : (0 : Int) ≤ (k : Int) := by omega
        have hk1 : (k : Int) < (tm' : Int) := by omega
        have hnu := HNU.out (th.getD k 0) (by rw [List.getD_eq_getElem?_getD, List.getElem?_eq_getElem hkL]; exact List.getElem_mem hkL)
        generalize th.getD k 0 = x at *
        have HHX := Lib.hid (HHU.out x)
        have HHY := Lib.hid (HHD.out x)
        have HHZ := Lib.hid (HHF.out x)
        have HSS : Hid (Below w8.heap.size w8 wr.drew ∧ wr.drew.cell? ⟨w.heap.size + 1, 0, none⟩ = some (.slice a1 dn c1) ∧ wr.drew.cell? ⟨w.heap.size + 1, 1, none⟩ = some (.slice a2 fn c2) ∧ wr.drew.cell? ⟨b8, off8 + k, none⟩ = some (.int .i64 x)) := Lib.hid ⟨HBk.out.drew, cell_at HBk.out.drew HM0.out rfl, cell_at HBk.out.drew HM1.out rfl, q1⟩
        clear q1
        by_cases h1 : x ∈ us
        · rw [decide_eq_true h1] at HHX
          by_cases h2 : x ∈ dr
          · rw [decide_eq_true h2] at HHY
            have h3 : x ∈ fr := by
              rcases hnu with h | h
              · exact absurd h2 h.2
              · exact h
            rw [decide_eq_true h3] at HHZ
            clear h1 h2 h3 hnu
            go_wp2_with fail
            refine wp_region_held_drew (S := (fun W => Below w8.heap.size w8 W ∧ W.cell? ⟨w.heap.size + 1, 0, none⟩ = some (.slice a1 dn c1) ∧ W.cell? ⟨w.heap.size + 1, 1, none⟩ = some (.slice a2 fn c2) ∧ W.cell? ⟨b8, off8 + k, none⟩ = some (.int .i64 x))) (by kernel_rfl) HSS.out (fun hHeld => ?_)
            refine wpAnyH_take (i := 0) (v := ?_) rfl (by kernel_rfl) (by kernel_rfl) (by kernel_rfl) (fun _ _ _ h => h) (Or.inl ⟨by kernel_rfl, ?_⟩) hHeld ?_
            rotate_left
            · (intro w hSw; first | (go_simp; done) | (go_simp; with_reducible rfl))
            (try simp only [Act.put, List.getElem_toArray, List.getElem_cons_succ, List.getElem_cons_zero, List.setIfInBounds_toArray, List.set_cons_zero, List.set_cons_succ])
            refine wpAnyH_take (i := 1) (v := ?_) rfl (by kernel_rfl) (by kernel_rfl) (by kernel_rfl) (fun _ _ _ h => h) (Or.inl ⟨by kernel_rfl, ?_⟩) hHeld ?_
            rotate_left
            · (intro w hSw; first | (go_simp; done) | (go_simp; with_reducible rfl))
            (try simp only [Act.put, List.getElem_toArray, List.getElem_cons_succ, List.getElem_cons_zero, List.setIfInBounds_toArray, List.set_cons_zero, List.set_cons_succ])
            refine wpAnyH_take (i := 2) (v := ?_) rfl (by kernel_rfl) (by kernel_rfl) (by kernel_rfl) (fun _ _ _ h => h) (Or.inl ⟨by kernel_rfl, ?_⟩) hHeld ?_
            rotate_left
            · (intro w hSw; first | (go_simp; done) | (go_simp; with_reducible rfl))
            (try simp only [Act.put, List.getElem_toArray, List.getElem_cons_succ, List.getElem_cons_zero, List.setIfInBounds_toArray, List.set_cons_zero, List.set_cons_succ])
            refine wpAnyH_take (i := 3) (v := ?_) rfl (by kernel_rfl) (by kernel_rfl) (by kernel_rfl) (fun _ _ _ h => h) (Or.inl ⟨by kernel_rfl, ?_⟩) hHeld ?_
            rotate_left
            · (intro w hSw; first | (go_simp; done) | (go_simp; with_reducible rfl))
            (try simp only [Act.put, List.getElem_toArray, List.getElem_cons_succ, List.getElem_cons_zero, List.setIfInBounds_toArray, List.set_cons_zero, List.set_cons_succ])
            refine wpAnyH_take (i := 4) (v := ?_) rfl (by kernel_rfl) (by kernel_rfl) (by kernel_rfl) (fun _ _ _ h => h) (Or.inl ⟨by kernel_rfl, ?_⟩) hHeld ?_
            rotate_left
            · (intro w hSw; first | (go_simp; done) | (go_simp; with_reducible rfl))
            (try simp only [Act.put, List.getElem_toArray, List.getElem_cons_succ, List.getElem_cons_zero, List.setIfInBounds_toArray, List.set_cons_zero, List.set_cons_succ])
            refine wpAnyH_ready (rs := [5]) (by kernel_rfl) (by simp) (AllReadyH.cons rfl (fun K hK => ?_) AllReadyH.nil)
            have hH := hHeld
            (go_simp; go_at_call 32; refine (HHX.out _ hH.1).mono ?_; rintro e w9 ⟨rfl, hb9⟩)
            refine hK.out _ _ (by exact ⟨hH.1.trans (hb9.mono hH.1.size), cell_at hb9 hH.2.1 rfl, cell_at hb9 hH.2.2.1 rfl, cell_at hb9 hH.2.2.2 rfl⟩) (fun hHq1 => ?_)
            clear hK K hH 
            clear hb9
            (try simp only [Act.put, List.getElem_toArray, List.getElem_cons_succ, List.getElem_cons_zero, List.setIfInBounds_toArray, List.set_cons_zero, List.set_cons_succ])
            refine wpAnyH_take (i := 6) (v := .bool true) rfl (by kernel_rfl) (by kernel_rfl) (by kernel_rfl) (fun _ _ _ h => h) (Or.inl ⟨by kernel_rfl, ?_⟩) hHq1 ?_
            · (intro w hSw; go_simp)
            (try simp only [Act.put, List.getElem_toArray, List.getElem_cons_succ, List.getElem_cons_zero, List.setIfInBounds_toArray, List.set_cons_zero, List.set_cons_succ])
            refine wpAnyH_take (i := 7) (v := ?_) rfl (by kernel_rfl) (by kernel_rfl) (by kernel_rfl) (fun _ _ _ h => h) (Or.inl ⟨by kernel_rfl, ?_⟩) hHq1 ?_
            rotate_left
            · (intro w hSw; first | (go_simp; done) | (go_simp; with_reducible rfl))
            (try simp only [Act.put, List.getElem_toArray, List.getElem_cons_succ, List.getElem_cons_zero, List.setIfInBounds_toArray, List.set_cons_zero, List.set_cons_succ])
            refine wpAnyH_take (i := 8) (v := ?_) rfl (by kernel_rfl) (by kernel_rfl) (by kernel_rfl) (fun _ _ _ h => h) (Or.inl ⟨by kernel_rfl, ?_⟩) hHq1 ?_
            rotate_left
            · (intro w hSw; first | (go_simp; done) | (go_simp; with_reducible rfl))
            (try simp only [Act.put, List.getElem_toArray, List.getElem_cons_succ, List.getElem_cons_zero, List.setIfInBounds_toArray, List.set_cons_zero, List.set_cons_succ])
            refine wpAnyH_take (i := 9) (v := ?_) rfl (by kernel_rfl) (by kernel_rfl) (by kernel_rfl) (fun _ _ _ h => h) (Or.inl ⟨by kernel_rfl, ?_⟩) hHq1 ?_
            rotate_left
            · (intro w hSw; first | (go_simp; done) | (go_simp; with_reducible rfl))
            (try simp only [Act.put, List.getElem_toArray, List.getElem_cons_succ, List.getElem_cons_zero, List.setIfInBounds_toArray, List.set_cons_zero, List.set_cons_succ])
            refine wpAnyH_take (i := 10) (v := ?_) rfl (by kernel_rfl) (by kernel_rfl) (by kernel_rfl) (fun _ _ _ h => h) (Or.inl ⟨by kernel_rfl, ?_⟩) hHq1 ?_
            rotate_left
            · (intro w hSw; first | (go_simp; done) | (go_simp; with_reducible rfl))
            (try simp only [Act.put, List.getElem_toArray, List.getElem_cons_succ, List.getElem_cons_zero, List.setIfInBounds_toArray, List.set_cons_zero, List.set_cons_succ])
            refine wpAnyH_take (i := 11) (v := ?_) rfl (by kernel_rfl) (by kernel_rfl) (by kernel_rfl) (fun _ _ _ h => h) (Or.inl ⟨by kernel_rfl, ?_⟩) hHq1 ?_
            rotate_left
            · (intro w hSw; first | (go_simp; done) | (go_simp; with_reducible rfl))
            (try simp only [Act.put, List.getElem_toArray, List.getElem_cons_succ, List.getElem_cons_zero, List.setIfInBounds_toArray, List.set_cons_zero, List.set_cons_succ])
            refine wpAnyH_take (i := 12) (v := ?_) rfl (by kernel_rfl) (by kernel_rfl) (by kernel_rfl) (fun _ _ _ h => h) (Or.inl ⟨by kernel_rfl, ?_⟩) hHq1 ?_
            rotate_left
            · (intro w hSw; first | (go_simp; done) | (go_simp; with_reducible rfl))
            (try simp only [Act.put, List.getElem_toArray, List.getElem_cons_succ, List.getElem_cons_zero, List.setIfInBounds_toArray, List.set_cons_zero, List.set_cons_succ])
            refine wpAnyH_ready (rs := [13]) (by kernel_rfl) (by simp) (AllReadyH.cons rfl (fun K hK => ?_) AllReadyH.nil)
            have hH := hHq1
            (go_simp; go_at_call 32; refine (HHY.out _ hH.1).mono ?_; rintro e w9 ⟨rfl, hb9⟩)
            refine hK.out _ _ (by exact ⟨hH.1.trans (hb9.mono hH.1.size), cell_at hb9 hH.2.1 rfl, cell_at hb9 hH.2.2.1 rfl, cell_at hb9 hH.2.2.2 rfl⟩) (fun hHq2 => ?_)
            clear hK K hH hHq1
            clear hb9
            (try simp only [Act.put, List.getElem_toArray, List.getElem_cons_succ, List.getElem_cons_zero, List.setIfInBounds_toArray, List.set_cons_zero, List.set_cons_succ])
            refine wpAnyH_take (i := 14) (v := ?_) rfl (by kernel_rfl) (by kernel_rfl) (by kernel_rfl) (fun _ _ _ h => h) (Or.inl ⟨by kernel_rfl, ?_⟩) hHq2 ?_
            rotate_left
            · (intro w hSw; first | (go_simp; done) | (go_simp; with_reducible rfl))
            (try simp only [Act.put, List.getElem_toArray, List.getElem_cons_succ, List.getElem_cons_zero, List.setIfInBounds_toArray, List.set_cons_zero, List.set_cons_succ])
            refine wpAnyH_take (i := 15) (v := ?_) rfl (by kernel_rfl) (by kernel_rfl) (by kernel_rfl) (fun _ _ _ h => h) (Or.inl ⟨by kernel_rfl, ?_⟩) hHq2 ?_
            rotate_left
            · (intro w hSw; first | (go_simp; done) | (go_simp; with_reducible rfl))
            (try simp only [Act.put, List.getElem_toArray, List.getElem_cons_succ, List.getElem_cons_zero, List.setIfInBounds_toArray, List.set_cons_zero, List.set_cons_succ])
            refine wpAnyH_take (i := 16) (v := ?_) rfl (by kernel_rfl) (by kernel_rfl) (by kernel_rfl) (fun _ _ _ h => h) (Or.inl ⟨by kernel_rfl, ?_⟩) hHq2 ?_
            rotate_left
            · (intro w hSw; first | (go_simp; done) | (go_simp; with_reducible rfl))
            (try simp only [Act.put, List.getElem_toArray, List.getElem_cons_succ, List.getElem_cons_zero, List.setIfInBounds_toArray, List.set_cons_zero, List.set_cons_succ])
            refine wpAnyH_done (by kernel_rfl) ?_ _
            have hEnd := hHq2
            have HE9 := Lib.hid hEnd
            clear hHeld hEnd
            rename World => w9
            have HSS2 : Hid (Below w8.heap.size w8 w9.drew ∧ w9.drew.cell? ⟨w.heap.size + 1, 0, none⟩ = some (.slice a1 dn c1) ∧ w9.drew.cell? ⟨w.heap.size + 1, 1, none⟩ = some (.slice a2 fn c2) ∧ w9.drew.cell? ⟨b8, off8 + k, none⟩ = some (.int .i64 x)) := Lib.hid ⟨HE9.out.1.drew, HE9.out.2.1, HE9.out.2.2.1, HE9.out.2.2.2⟩
            go_wp2_with fail
            refine wp_region_held_drew (S := (fun W => Below w8.heap.size w8 W ∧ W.cell? ⟨w.heap.size + 1, 0, none⟩ = some (.slice a1 dn c1) ∧ W.cell? ⟨w.heap.size + 1, 1, none⟩ = some (.slice a2 fn c2) ∧ W.cell? ⟨b8, off8 + k, none⟩ = some (.int .i64 x))) (by kernel_rfl) HSS2.out (fun hHeld => ?_)
            refine wpAnyH_take (i := 0) (v := ?_) rfl (by kernel_rfl) (by kernel_rfl) (by kernel_rfl) (fun _ _ _ h => h) (Or.inl ⟨by kernel_rfl, ?_⟩) hHeld ?_
            rotate_left
            · (intro w hSw; first | (go_simp; done) | (go_simp; with_reducible rfl))
            (try simp only [Act.put, List.getElem_toArray, List.getElem_cons_succ, List.getElem_cons_zero, List.setIfInBounds_toArray, List.set_cons_zero, List.set_cons_succ])
            refine wpAnyH_take (i := 1) (v := ?_) rfl (by kernel_rfl) (by kernel_rfl) (by kernel_rfl) (fun _ _ _ h => h) (Or.inl ⟨by kernel_rfl, ?_⟩) hHeld ?_
            rotate_left
            · (intro w hSw; first | (go_simp; done) | (go_simp; with_reducible rfl))
            (try simp only [Act.put, List.getElem_toArray, List.getElem_cons_succ, List.getElem_cons_zero, List.setIfInBounds_toArray, List.set_cons_zero, List.set_cons_succ])
            refine wpAnyH_take (i := 2) (v := .bool true) rfl (by kernel_rfl) (by kernel_rfl) (by kernel_rfl) (fun _ _ _ h => h) (Or.inl ⟨by kernel_rfl, ?_⟩) hHeld ?_
            · (intro w hSw; go_simp)
            (try simp only [Act.put, List.getElem_toArray, List.getElem_cons_succ, List.getElem_cons_zero, List.setIfInBounds_toArray, List.set_cons_zero, List.set_cons_succ])
            refine wpAnyH_take (i := 3) (v := ?_) rfl (by kernel_rfl) (by kernel_rfl) (by kernel_rfl) (fun _ _ _ h => h) (Or.inl ⟨by kernel_rfl, ?_⟩) hHeld ?_
            rotate_left
            · (intro w hSw; first | (go_simp; done) | (go_simp; with_reducible rfl))
            (try simp only [Act.put, List.getElem_toArray, List.getElem_cons_succ, List.getElem_cons_zero, List.setIfInBounds_toArray, List.set_cons_zero, List.set_cons_succ])
            refine wpAnyH_take (i := 4) (v := ?_) rfl (by kernel_rfl) (by kernel_rfl) (by kernel_rfl) (fun _ _ _ h => h) (Or.inl ⟨by kernel_rfl, ?_⟩) hHeld ?_
            rotate_left
            · (intro w hSw; first | (go_simp; done) | (go_simp; with_reducible rfl))
            (try simp only [Act.put, List.getElem_toArray, List.getElem_cons_succ, List.getElem_cons_zero, List.setIfInBounds_toArray, List.set_cons_zero, List.set_cons_succ])
            refine wpAnyH_take (i := 5) (v := ?_) rfl (by kernel_rfl) (by kernel_rfl) (by kernel_rfl) (fun _ _ _ h => h) (Or.inl ⟨by kernel_rfl, ?_⟩) hHeld ?_
            rotate_left
            · (intro w hSw; first | (go_simp; done) | (go_simp; with_reducible rfl))
            (try simp only [Act.put, List.getElem_toArray, List.getElem_cons_succ, List.getElem_cons_zero, List.setIfInBounds_toArray, List.set_cons_zero, List.set_cons_succ])
            refine wpAnyH_take (i := 6) (v := ?_) rfl (by kernel_rfl) (by kernel_rfl) (by kernel_rfl) (fun _ _ _ h => h) (Or.inl ⟨by kernel_rfl, ?_⟩) hHeld ?_
            rotate_left
            · (intro w hSw; first | (go_simp; done) | (go_simp; with_reducible rfl))
            (try simp only [Act.put, List.getElem_toArray, List.getElem_cons_succ, List.getElem_cons_zero, List.setIfInBounds_toArray, List.set_cons_zero, List.set_cons_succ])
            refine wpAnyH_take (i := 7) (v := ?_) rfl (by kernel_rfl) (by kernel_rfl) (by kernel_rfl) (fun _ _ _ h => h) (Or.inl ⟨by kernel_rfl, ?_⟩) hHeld ?_
            rotate_left
            · (intro w hSw; first | (go_simp; done) | (go_simp; with_reducible rfl))
            (try simp only [Act.put, List.getElem_toArray, List.getElem_cons_succ, List.getElem_cons_zero, List.setIfInBounds_toArray, List.set_cons_zero, List.set_cons_succ])
            refine wpAnyH_take (i := 8) (v := ?_) rfl (by kernel_rfl) (by kernel_rfl) (by kernel_rfl) (fun _ _ _ h => h) (Or.inl ⟨by kernel_rfl, ?_⟩) hHeld ?_
            rotate_left
            · (intro w hSw; first | (go_simp; done) | (go_simp; with_reducible rfl))
            (try simp only [Act.put, List.getElem_toArray, List.getElem_cons_succ, List.getElem_cons_zero, List.setIfInBounds_toArray, List.set_cons_zero, List.set_cons_succ])
            refine wpAnyH_ready (rs := [9]) (by kernel_rfl) (by simp) (AllReadyH.cons rfl (fun K hK => ?_) AllReadyH.nil)
            have hH := hHeld
            (go_simp; go_at_call 32; refine (HHZ.out _ hH.1).mono ?_; rintro e w10 ⟨rfl, hb9⟩)
            refine hK.out _ _ (by exact ⟨hH.1.trans (hb9.mono hH.1.size), cell_at hb9 hH.2.1 rfl, cell_at hb9 hH.2.2.1 rfl, cell_at hb9 hH.2.2.2 rfl⟩) (fun hHq1 => ?_)
            clear hK K hH 
            clear hb9
            (try simp only [Act.put, List.getElem_toArray, List.getElem_cons_succ, List.getElem_cons_zero, List.setIfInBounds_toArray, List.set_cons_zero, List.set_cons_succ])
            refine wpAnyH_take (i := 10) (v := ?_) rfl (by kernel_rfl) (by kernel_rfl) (by kernel_rfl) (fun _ _ _ h => h) (Or.inl ⟨by kernel_rfl, ?_⟩) hHq1 ?_
            rotate_left
            · (intro w hSw; first | (go_simp; done) | (go_simp; with_reducible rfl))
            (try simp only [Act.put, List.getElem_toArray, List.getElem_cons_succ, List.getElem_cons_zero, List.setIfInBounds_toArray, List.set_cons_zero, List.set_cons_succ])
            refine wpAnyH_take (i := 11) (v := ?_) rfl (by kernel_rfl) (by kernel_rfl) (by kernel_rfl) (fun _ _ _ h => h) (Or.inl ⟨by kernel_rfl, ?_⟩) hHq1 ?_
            rotate_left
            · (intro w hSw; first | (go_simp; done) | (go_simp; with_reducible rfl))
            (try simp only [Act.put, List.getElem_toArray, List.getElem_cons_succ, List.getElem_cons_zero, List.setIfInBounds_toArray, List.set_cons_zero, List.set_cons_succ])
            refine wpAnyH_done (by kernel_rfl) ?_ _
            have hEnd := hHq1
            have HE10 := Lib.hid hEnd.1
            clear hHeld hEnd
            go_wp2_with fail
            go_roundw
            case rel => exact ⟨k + 1, by omega, by go_num, HE10⟩
            case measure => simp [intOf]; omega
          · rw [decide_eq_false h2] at HHY
            clear h1 h2 hnu
            go_wp2_with fail
            refine wp_region_held_drew (S := (fun W => Below w8.heap.size w8 W ∧ W.cell? ⟨w.heap.size + 1, 0, none⟩ = some (.slice a1 dn c1) ∧ W.cell? ⟨w.heap.size + 1, 1, none⟩ = some (.slice a2 fn c2) ∧ W.cell? ⟨b8, off8 + k, none⟩ = some (.int .i64 x))) (by kernel_rfl) HSS.out (fun hHeld => ?_)
            refine wpAnyH_take (i := 0) (v := ?_) rfl (by kernel_rfl) (by kernel_rfl) (by kernel_rfl) (fun _ _ _ h => h) (Or.inl ⟨by kernel_rfl, ?_⟩) hHeld ?_
            rotate_left
            · (intro w hSw; first | (go_simp; done) | (go_simp; with_reducible rfl))
            (try simp only [Act.put, List.getElem_toArray, List.getElem_cons_succ, List.getElem_cons_zero, List.setIfInBounds_toArray, List.set_cons_zero, List.set_cons_succ])
            refine wpAnyH_take (i := 1) (v := ?_) rfl (by kernel_rfl) (by kernel_rfl) (by kernel_rfl) (fun _ _ _ h => h) (Or.inl ⟨by kernel_rfl, ?_⟩) hHeld ?_
            rotate_left
            · (intro w hSw; first | (go_simp; done) | (go_simp; with_reducible rfl))
            (try simp only [Act.put, List.getElem_toArray, List.getElem_cons_succ, List.getElem_cons_zero, List.setIfInBounds_toArray, List.set_cons_zero, List.set_cons_succ])
            refine wpAnyH_take (i := 2) (v := ?_) rfl (by kernel_rfl) (by kernel_rfl) (by kernel_rfl) (fun _ _ _ h => h) (Or.inl ⟨by kernel_rfl, ?_⟩) hHeld ?_
            rotate_left
            · (intro w hSw; first | (go_simp; done) | (go_simp; with_reducible rfl))
            (try simp only [Act.put, List.getElem_toArray, List.getElem_cons_succ, List.getElem_cons_zero, List.setIfInBounds_toArray, List.set_cons_zero, List.set_cons_succ])
            refine wpAnyH_take (i := 3) (v := ?_) rfl (by kernel_rfl) (by kernel_rfl) (by kernel_rfl) (fun _ _ _ h => h) (Or.inl ⟨by kernel_rfl, ?_⟩) hHeld ?_
            rotate_left
            · (intro w hSw; first | (go_simp; done) | (go_simp; with_reducible rfl))
            (try simp only [Act.put, List.getElem_toArray, List.getElem_cons_succ, List.getElem_cons_zero, List.setIfInBounds_toArray, List.set_cons_zero, List.set_cons_succ])
            refine wpAnyH_take (i := 4) (v := ?_) rfl (by kernel_rfl) (by kernel_rfl) (by kernel_rfl) (fun _ _ _ h => h) (Or.inl ⟨by kernel_rfl, ?_⟩) hHeld ?_
            rotate_left
            · (intro w hSw; first | (go_simp; done) | (go_simp; with_reducible rfl))
            (try simp only [Act.put, List.getElem_toArray, List.getElem_cons_succ, List.getElem_cons_zero, List.setIfInBounds_toArray, List.set_cons_zero, List.set_cons_succ])
            refine wpAnyH_ready (rs := [5]) (by kernel_rfl) (by simp) (AllReadyH.cons rfl (fun K hK => ?_) AllReadyH.nil)
            have hH := hHeld
            (go_simp; go_at_call 32; refine (HHX.out _ hH.1).mono ?_; rintro e w9 ⟨rfl, hb9⟩)
            refine hK.out _ _ (by exact ⟨hH.1.trans (hb9.mono hH.1.size), cell_at hb9 hH.2.1 rfl, cell_at hb9 hH.2.2.1 rfl, cell_at hb9 hH.2.2.2 rfl⟩) (fun hHq1 => ?_)
            clear hK K hH 
            clear hb9
            (try simp only [Act.put, List.getElem_toArray, List.getElem_cons_succ, List.getElem_cons_zero, List.setIfInBounds_toArray, List.set_cons_zero, List.set_cons_succ])
            refine wpAnyH_take (i := 6) (v := .bool true) rfl (by kernel_rfl) (by kernel_rfl) (by kernel_rfl) (fun _ _ _ h => h) (Or.inl ⟨by kernel_rfl, ?_⟩) hHq1 ?_
            · (intro w hSw; go_simp)
            (try simp only [Act.put, List.getElem_toArray, List.getElem_cons_succ, List.getElem_cons_zero, List.setIfInBounds_toArray, List.set_cons_zero, List.set_cons_succ])
            refine wpAnyH_take (i := 7) (v := ?_) rfl (by kernel_rfl) (by kernel_rfl) (by kernel_rfl) (fun _ _ _ h => h) (Or.inl ⟨by kernel_rfl, ?_⟩) hHq1 ?_
            rotate_left
            · (intro w hSw; first | (go_simp; done) | (go_simp; with_reducible rfl))
            (try simp only [Act.put, List.getElem_toArray, List.getElem_cons_succ, List.getElem_cons_zero, List.setIfInBounds_toArray, List.set_cons_zero, List.set_cons_succ])
            refine wpAnyH_take (i := 8) (v := ?_) rfl (by kernel_rfl) (by kernel_rfl) (by kernel_rfl) (fun _ _ _ h => h) (Or.inl ⟨by kernel_rfl, ?_⟩) hHq1 ?_
            rotate_left
            · (intro w hSw; first | (go_simp; done) | (go_simp; with_reducible rfl))
            (try simp only [Act.put, List.getElem_toArray, List.getElem_cons_succ, List.getElem_cons_zero, List.setIfInBounds_toArray, List.set_cons_zero, List.set_cons_succ])
            refine wpAnyH_take (i := 9) (v := ?_) rfl (by kernel_rfl) (by kernel_rfl) (by kernel_rfl) (fun _ _ _ h => h) (Or.inl ⟨by kernel_rfl, ?_⟩) hHq1 ?_
            rotate_left
            · (intro w hSw; first | (go_simp; done) | (go_simp; with_reducible rfl))
            (try simp only [Act.put, List.getElem_toArray, List.getElem_cons_succ, List.getElem_cons_zero, List.setIfInBounds_toArray, List.set_cons_zero, List.set_cons_succ])
            refine wpAnyH_take (i := 10) (v := ?_) rfl (by kernel_rfl) (by kernel_rfl) (by kernel_rfl) (fun _ _ _ h => h) (Or.inl ⟨by kernel_rfl, ?_⟩) hHq1 ?_
            rotate_left
            · (intro w hSw; first | (go_simp; done) | (go_simp; with_reducible rfl))
            (try simp only [Act.put, List.getElem_toArray, List.getElem_cons_succ, List.getElem_cons_zero, List.setIfInBounds_toArray, List.set_cons_zero, List.set_cons_succ])
            refine wpAnyH_take (i := 11) (v := ?_) rfl (by kernel_rfl) (by kernel_rfl) (by kernel_rfl) (fun _ _ _ h => h) (Or.inl ⟨by kernel_rfl, ?_⟩) hHq1 ?_
            rotate_left
            · (intro w hSw; first | (go_simp; done) | (go_simp; with_reducible rfl))
            (try simp only [Act.put, List.getElem_toArray, List.getElem_cons_succ, List.getElem_cons_zero, List.setIfInBounds_toArray, List.set_cons_zero, List.set_cons_succ])
            refine wpAnyH_take (i := 12) (v := ?_) rfl (by kernel_rfl) (by kernel_rfl) (by kernel_rfl) (fun _ _ _ h => h) (Or.inl ⟨by kernel_rfl, ?_⟩) hHq1 ?_
            rotate_left
            · (intro w hSw; first | (go_simp; done) | (go_simp; with_reducible rfl))
            (try simp only [Act.put, List.getElem_toArray, List.getElem_cons_succ, List.getElem_cons_zero, List.setIfInBounds_toArray, List.set_cons_zero, List.set_cons_succ])
            refine wpAnyH_ready (rs := [13]) (by kernel_rfl) (by simp) (AllReadyH.cons rfl (fun K hK => ?_) AllReadyH.nil)
            have hH := hHq1
            (go_simp; go_at_call 32; refine (HHY.out _ hH.1).mono ?_; rintro e w9 ⟨rfl, hb9⟩)
            refine hK.out _ _ (by exact ⟨hH.1.trans (hb9.mono hH.1.size), cell_at hb9 hH.2.1 rfl, cell_at hb9 hH.2.2.1 rfl, cell_at hb9 hH.2.2.2 rfl⟩) (fun hHq2 => ?_)
            clear hK K hH hHq1
            clear hb9
            (try simp only [Act.put, List.getElem_toArray, List.getElem_cons_succ, List.getElem_cons_zero, List.setIfInBounds_toArray, List.set_cons_zero, List.set_cons_succ])
            refine wpAnyH_take (i := 14) (v := ?_) rfl (by kernel_rfl) (by kernel_rfl) (by kernel_rfl) (fun _ _ _ h => h) (Or.inl ⟨by kernel_rfl, ?_⟩) hHq2 ?_
            rotate_left
            · (intro w hSw; first | (go_simp; done) | (go_simp; with_reducible rfl))
            (try simp only [Act.put, List.getElem_toArray, List.getElem_cons_succ, List.getElem_cons_zero, List.setIfInBounds_toArray, List.set_cons_zero, List.set_cons_succ])
            refine wpAnyH_take (i := 15) (v := ?_) rfl (by kernel_rfl) (by kernel_rfl) (by kernel_rfl) (fun _ _ _ h => h) (Or.inl ⟨by kernel_rfl, ?_⟩) hHq2 ?_
            rotate_left
            · (intro w hSw; first | (go_simp; done) | (go_simp; with_reducible rfl))
            (try simp only [Act.put, List.getElem_toArray, List.getElem_cons_succ, List.getElem_cons_zero, List.setIfInBounds_toArray, List.set_cons_zero, List.set_cons_succ])
            refine wpAnyH_take (i := 16) (v := ?_) rfl (by kernel_rfl) (by kernel_rfl) (by kernel_rfl) (fun _ _ _ h => h) (Or.inl ⟨by kernel_rfl, ?_⟩) hHq2 ?_
            rotate_left
            · (intro w hSw; first | (go_simp; done) | (go_simp; with_reducible rfl))
            (try simp only [Act.put, List.getElem_toArray, List.getElem_cons_succ, List.getElem_cons_zero, List.setIfInBounds_toArray, List.set_cons_zero, List.set_cons_succ])
            refine wpAnyH_done (by kernel_rfl) ?_ _
            have hEnd := hHq2
            have HE9 := Lib.hid hEnd
            clear hHeld hEnd
            rename World => w9
            have HSS2 : Hid (Below w8.heap.size w8 w9.drew ∧ w9.drew.cell? ⟨w.heap.size + 1, 0, none⟩ = some (.slice a1 dn c1) ∧ w9.drew.cell? ⟨w.heap.size + 1, 1, none⟩ = some (.slice a2 fn c2) ∧ w9.drew.cell? ⟨b8, off8 + k, none⟩ = some (.int .i64 x)) := Lib.hid ⟨HE9.out.1.drew, HE9.out.2.1, HE9.out.2.2.1, HE9.out.2.2.2⟩
            go_wp2_with fail
            refine wp_region_held_drew (S := (fun W => Below w8.heap.size w8 W ∧ W.cell? ⟨w.heap.size + 1, 0, none⟩ = some (.slice a1 dn c1) ∧ W.cell? ⟨w.heap.size + 1, 1, none⟩ = some (.slice a2 fn c2) ∧ W.cell? ⟨b8, off8 + k, none⟩ = some (.int .i64 x))) (by kernel_rfl) HSS2.out (fun hHeld => ?_)
            refine wpAnyH_take (i := 0) (v := ?_) rfl (by kernel_rfl) (by kernel_rfl) (by kernel_rfl) (fun _ _ _ h => h) (Or.inl ⟨by kernel_rfl, ?_⟩) hHeld ?_
            rotate_left
            · (intro w hSw; first | (go_simp; done) | (go_simp; with_reducible rfl))
            (try simp only [Act.put, List.getElem_toArray, List.getElem_cons_succ, List.getElem_cons_zero, List.setIfInBounds_toArray, List.set_cons_zero, List.set_cons_succ])
            refine wpAnyH_take (i := 1) (v := ?_) rfl (by kernel_rfl) (by kernel_rfl) (by kernel_rfl) (fun _ _ _ h => h) (Or.inl ⟨by kernel_rfl, ?_⟩) hHeld ?_
            rotate_left
            · (intro w hSw; first | (go_simp; done) | (go_simp; with_reducible rfl))
            (try simp only [Act.put, List.getElem_toArray, List.getElem_cons_succ, List.getElem_cons_zero, List.setIfInBounds_toArray, List.set_cons_zero, List.set_cons_succ])
            refine wpAnyH_take (i := 2) (v := .bool false) rfl (by kernel_rfl) (by kernel_rfl) (by kernel_rfl) (fun _ _ _ h => h) (Or.inl ⟨by kernel_rfl, ?_⟩) hHeld ?_
            · (intro w hSw; go_simp)
            (try simp only [Act.put, List.getElem_toArray, List.getElem_cons_succ, List.getElem_cons_zero, List.setIfInBounds_toArray, List.set_cons_zero, List.set_cons_succ])
            refine wpAnyH_take (i := 3) (v := undef) rfl (by kernel_rfl) (by kernel_rfl) (by kernel_rfl) (fun _ _ _ h => h) (Or.inr ⟨by kernel_rfl, rfl⟩) hHeld ?_
            (try simp only [Act.put, List.getElem_toArray, List.getElem_cons_succ, List.getElem_cons_zero, List.setIfInBounds_toArray, List.set_cons_zero, List.set_cons_succ])
            refine wpAnyH_take (i := 4) (v := undef) rfl (by kernel_rfl) (by kernel_rfl) (by kernel_rfl) (fun _ _ _ h => h) (Or.inr ⟨by kernel_rfl, rfl⟩) hHeld ?_
            (try simp only [Act.put, List.getElem_toArray, List.getElem_cons_succ, List.getElem_cons_zero, List.setIfInBounds_toArray, List.set_cons_zero, List.set_cons_succ])
            refine wpAnyH_take (i := 5) (v := undef) rfl (by kernel_rfl) (by kernel_rfl) (by kernel_rfl) (fun _ _ _ h => h) (Or.inr ⟨by kernel_rfl, rfl⟩) hHeld ?_
            (try simp only [Act.put, List.getElem_toArray, List.getElem_cons_succ, List.getElem_cons_zero, List.setIfInBounds_toArray, List.set_cons_zero, List.set_cons_succ])
            refine wpAnyH_take (i := 6) (v := undef) rfl (by kernel_rfl) (by kernel_rfl) (by kernel_rfl) (fun _ _ _ h => h) (Or.inr ⟨by kernel_rfl, rfl⟩) hHeld ?_
            (try simp only [Act.put, List.getElem_toArray, List.getElem_cons_succ, List.getElem_cons_zero, List.setIfInBounds_toArray, List.set_cons_zero, List.set_cons_succ])
            refine wpAnyH_take (i := 7) (v := undef) rfl (by kernel_rfl) (by kernel_rfl) (by kernel_rfl) (fun _ _ _ h => h) (Or.inr ⟨by kernel_rfl, rfl⟩) hHeld ?_
            (try simp only [Act.put, List.getElem_toArray, List.getElem_cons_succ, List.getElem_cons_zero, List.setIfInBounds_toArray, List.set_cons_zero, List.set_cons_succ])
            refine wpAnyH_take (i := 8) (v := undef) rfl (by kernel_rfl) (by kernel_rfl) (by kernel_rfl) (fun _ _ _ h => h) (Or.inr ⟨by kernel_rfl, rfl⟩) hHeld ?_
            (try simp only [Act.put, List.getElem_toArray, List.getElem_cons_succ, List.getElem_cons_zero, List.setIfInBounds_toArray, List.set_cons_zero, List.set_cons_succ])
            refine wpAnyH_take (i := 9) (v := undef) rfl (by kernel_rfl) (by kernel_rfl) (by kernel_rfl) (fun _ _ _ h => h) (Or.inr ⟨by kernel_rfl, rfl⟩) hHeld ?_
            (try simp only [Act.put, List.getElem_toArray, List.getElem_cons_succ, List.getElem_cons_zero, List.setIfInBounds_toArray, List.set_cons_zero, List.set_cons_succ])
            refine wpAnyH_take (i := 10) (v := undef) rfl (by kernel_rfl) (by kernel_rfl) (by kernel_rfl) (fun _ _ _ h => h) (Or.inr ⟨by kernel_rfl, rfl⟩) hHeld ?_
            (try simp only [Act.put, List.getElem_toArray, List.getElem_cons_succ, List.getElem_cons_zero, List.setIfInBounds_toArray, List.set_cons_zero, List.set_cons_succ])
            refine wpAnyH_take (i := 11) (v := ?_) rfl (by kernel_rfl) (by kernel_rfl) (by kernel_rfl) (fun _ _ _ h => h) (Or.inl ⟨by kernel_rfl, ?_⟩) hHeld ?_
            rotate_left
            · (intro w hSw; first | (go_simp; done) | (go_simp; with_reducible rfl))
            (try simp only [Act.put, List.getElem_toArray, List.getElem_cons_succ, List.getElem_cons_zero, List.setIfInBounds_toArray, List.set_cons_zero, List.set_cons_succ])
            refine wpAnyH_done (by kernel_rfl) ?_ _
            have hEnd := hHeld
            have HE10 := Lib.hid hEnd.1
            clear hHeld hEnd
            go_wp2_with fail
            go_roundw
            case rel => exact ⟨k + 1, by omega, by go_num, HE10⟩
            case measure => simp [intOf]; omega
        · rw [decide_eq_false h1] at HHX
          have h3 : x ∈ fr := by
            rcases hnu with h | h
            · exact absurd h.1 h1
            · exact h
          rw [decide_eq_true h3] at HHZ
          clear h1 h3 hnu
          go_wp2_with fail
          refine wp_region_held_drew (S := (fun W => Below w8.heap.size w8 W ∧ W.cell? ⟨w.heap.size + 1, 0, none⟩ = some (.slice a1 dn c1) ∧ W.cell? ⟨w.heap.size + 1, 1, none⟩ = some (.slice a2 fn c2) ∧ W.cell? ⟨b8, off8 + k, none⟩ = some (.int .i64 x))) (by kernel_rfl) HSS.out (fun hHeld => ?_)
          refine wpAnyH_take (i := 0) (v := ?_) rfl (by kernel_rfl) (by kernel_rfl) (by kernel_rfl) (fun _ _ _ h => h) (Or.inl ⟨by kernel_rfl, ?_⟩) hHeld ?_
          rotate_left
          · (intro w hSw; first | (go_simp; done) | (go_simp; with_reducible rfl))
          (try simp only [Act.put, List.getElem_toArray, List.getElem_cons_succ, List.getElem_cons_zero, List.setIfInBounds_toArray, List.set_cons_zero, List.set_cons_succ])
          refine wpAnyH_take (i := 1) (v := ?_) rfl (by kernel_rfl) (by kernel_rfl) (by kernel_rfl) (fun _ _ _ h => h) (Or.inl ⟨by kernel_rfl, ?_⟩) hHeld ?_
          rotate_left
          · (intro w hSw; first | (go_simp; done) | (go_simp; with_reducible rfl))
          (try simp only [Act.put, List.getElem_toArray, List.getElem_cons_succ, List.getElem_cons_zero, List.setIfInBounds_toArray, List.set_cons_zero, List.set_cons_succ])
          refine wpAnyH_take (i := 2) (v := ?_) rfl (by kernel_rfl) (by kernel_rfl) (by kernel_rfl) (fun _ _ _ h => h) (Or.inl ⟨by kernel_rfl, ?_⟩) hHeld ?_
          rotate_left
          · (intro w hSw; first | (go_simp; done) | (go_simp; with_reducible rfl))
          (try simp only [Act.put, List.getElem_toArray, List.getElem_cons_succ, List.getElem_cons_zero, List.setIfInBounds_toArray, List.set_cons_zero, List.set_cons_succ])
          refine wpAnyH_take (i := 3) (v := ?_) rfl (by kernel_rfl) (by kernel_rfl) (by kernel_rfl) (fun _ _ _ h => h) (Or.inl ⟨by kernel_rfl, ?_⟩) hHeld ?_
          rotate_left
          · (intro w hSw; first | (go_simp; done) | (go_simp; with_reducible rfl))
          (try simp only [Act.put, List.getElem_toArray, List.getElem_cons_succ, List.getElem_cons_zero, List.setIfInBounds_toArray, List.set_cons_zero, List.set_cons_succ])
          refine wpAnyH_take (i := 4) (v := ?_) rfl (by kernel_rfl) (by kernel_rfl) (by kernel_rfl) (fun _ _ _ h => h) (Or.inl ⟨by kernel_rfl, ?_⟩) hHeld ?_
          rotate_left
          · (intro w hSw; first | (go_simp; done) | (go_simp; with_reducible rfl))
          (try simp only [Act.put, List.getElem_toArray, List.getElem_cons_succ, List.getElem_cons_zero, List.setIfInBounds_toArray, List.set_cons_zero, List.set_cons_succ])
          refine wpAnyH_ready (rs := [5]) (by kernel_rfl) (by simp) (AllReadyH.cons rfl (fun K hK => ?_) AllReadyH.nil)
          have hH := hHeld
          (go_simp; go_at_call 32; refine (HHX.out _ hH.1).mono ?_; rintro e w9 ⟨rfl, hb9⟩)
          refine hK.out _ _ (by exact ⟨hH.1.trans (hb9.mono hH.1.size), cell_at hb9 hH.2.1 rfl, cell_at hb9 hH.2.2.1 rfl, cell_at hb9 hH.2.2.2 rfl⟩) (fun hHq1 => ?_)
          clear hK K hH 
          clear hb9
          (try simp only [Act.put, List.getElem_toArray, List.getElem_cons_succ, List.getElem_cons_zero, List.setIfInBounds_toArray, List.set_cons_zero, List.set_cons_succ])
          refine wpAnyH_take (i := 6) (v := .bool false) rfl (by kernel_rfl) (by kernel_rfl) (by kernel_rfl) (fun _ _ _ h => h) (Or.inl ⟨by kernel_rfl, ?_⟩) hHq1 ?_
          · (intro w hSw; go_simp)
          (try simp only [Act.put, List.getElem_toArray, List.getElem_cons_succ, List.getElem_cons_zero, List.setIfInBounds_toArray, List.set_cons_zero, List.set_cons_succ])
          refine wpAnyH_take (i := 7) (v := undef) rfl (by kernel_rfl) (by kernel_rfl) (by kernel_rfl) (fun _ _ _ h => h) (Or.inr ⟨by kernel_rfl, rfl⟩) hHq1 ?_
          (try simp only [Act.put, List.getElem_toArray, List.getElem_cons_succ, List.getElem_cons_zero, List.setIfInBounds_toArray, List.set_cons_zero, List.set_cons_succ])
          refine wpAnyH_take (i := 8) (v := undef) rfl (by kernel_rfl) (by kernel_rfl) (by kernel_rfl) (fun _ _ _ h => h) (Or.inr ⟨by kernel_rfl, rfl⟩) hHq1 ?_
          (try simp only [Act.put, List.getElem_toArray, List.getElem_cons_succ, List.getElem_cons_zero, List.setIfInBounds_toArray, List.set_cons_zero, List.set_cons_succ])
          refine wpAnyH_take (i := 9) (v := undef) rfl (by kernel_rfl) (by kernel_rfl) (by kernel_rfl) (fun _ _ _ h => h) (Or.inr ⟨by kernel_rfl, rfl⟩) hHq1 ?_
          (try simp only [Act.put, List.getElem_toArray, List.getElem_cons_succ, List.getElem_cons_zero, List.setIfInBounds_toArray, List.set_cons_zero, List.set_cons_succ])
          refine wpAnyH_take (i := 10) (v := undef) rfl (by kernel_rfl) (by kernel_rfl) (by kernel_rfl) (fun _ _ _ h => h) (Or.inr ⟨by kernel_rfl, rfl⟩) hHq1 ?_
          (try simp only [Act.put, List.getElem_toArray, List.getElem_cons_succ, List.getElem_cons_zero, List.setIfInBounds_toArray, List.set_cons_zero, List.set_cons_succ])
          refine wpAnyH_take (i := 11) (v := undef) rfl (by kernel_rfl) (by kernel_rfl) (by kernel_rfl) (fun _ _ _ h => h) (Or.inr ⟨by kernel_rfl, rfl⟩) hHq1 ?_
          (try simp only [Act.put, List.getElem_toArray, List.getElem_cons_succ, List.getElem_cons_zero, List.setIfInBounds_toArray, List.set_cons_zero, List.set_cons_succ])
          refine wpAnyH_take (i := 12) (v := undef) rfl (by kernel_rfl) (by kernel_rfl) (by kernel_rfl) (fun _ _ _ h => h) (Or.inr ⟨by kernel_rfl, rfl⟩) hHq1 ?_
          (try simp only [Act.put, List.getElem_toArray, List.getElem_cons_succ, List.getElem_cons_zero, List.setIfInBounds_toArray, List.set_cons_zero, List.set_cons_succ])
          refine wpAnyH_take (i := 13) (v := undef) rfl (by kernel_rfl) (by kernel_rfl) (by kernel_rfl) (fun _ _ _ h => h) (Or.inr ⟨by kernel_rfl, rfl⟩) hHq1 ?_
          (try simp only [Act.put, List.getElem_toArray, List.getElem_cons_succ, List.getElem_cons_zero, List.setIfInBounds_toArray, List.set_cons_zero, List.set_cons_succ])
          refine wpAnyH_take (i := 14) (v := undef) rfl (by kernel_rfl) (by kernel_rfl) (by kernel_rfl) (fun _ _ _ h => h) (Or.inr ⟨by kernel_rfl, rfl⟩) hHq1 ?_
          (try simp only [Act.put, List.getElem_toArray, List.getElem_cons_succ, List.getElem_cons_zero, List.setIfInBounds_toArray, List.set_cons_zero, List.set_cons_succ])
          refine wpAnyH_take (i := 15) (v := ?_) rfl (by kernel_rfl) (by kernel_rfl) (by kernel_rfl) (fun _ _ _ h => h) (Or.inl ⟨by kernel_rfl, ?_⟩) hHq1 ?_
          rotate_left
          · (intro w hSw; first | (go_simp; done) | (go_simp; with_reducible rfl))
          (try simp only [Act.put, List.getElem_toArray, List.getElem_cons_succ, List.getElem_cons_zero, List.setIfInBounds_toArray, List.set_cons_zero, List.set_cons_succ])
          refine wpAnyH_take (i := 16) (v := ?_) rfl (by kernel_rfl) (by kernel_rfl) (by kernel_rfl) (fun _ _ _ h => h) (Or.inl ⟨by kernel_rfl, ?_⟩) hHq1 ?_
          rotate_left
          · (intro w hSw; first | (go_simp; done) | (go_simp; with_reducible rfl))
          (try simp only [Act.put, List.getElem_toArray, List.getElem_cons_succ, List.getElem_cons_zero, List.setIfInBounds_toArray, List.set_cons_zero, List.set_cons_succ])
          refine wpAnyH_done (by kernel_rfl) ?_ _
          have hEnd := hHq1
          have HE9 := Lib.hid hEnd
          clear hHeld hEnd
          rename World => w9
          have HSS2 : Hid (Below w8.heap.size w8 w9.drew ∧ w9.drew.cell? ⟨w.heap.size + 1, 0, none⟩ = some (.slice a1 dn c1) ∧ w9.drew.cell? ⟨w.heap.size + 1, 1, none⟩ = some (.slice a2 fn c2) ∧ w9.drew.cell? ⟨b8, off8 + k, none⟩ = some (.int .i64 x)) := Lib.hid ⟨HE9.out.1.drew, HE9.out.2.1, HE9.out.2.2.1, HE9.out.2.2.2⟩
          go_wp2_with fail
          refine wp_region_held_drew (S := (fun W => Below w8.heap.size w8 W ∧ W.cell? ⟨w.heap.size + 1, 0, none⟩ = some (.slice a1 dn c1) ∧ W.cell? ⟨w.heap.size + 1, 1, none⟩ = some (.slice a2 fn c2) ∧ W.cell? ⟨b8, off8 + k, none⟩ = some (.int .i64 x))) (by kernel_rfl) HSS2.out (fun hHeld => ?_)
          refine wpAnyH_take (i := 0) (v := ?_) rfl (by kernel_rfl) (by kernel_rfl) (by kernel_rfl) (fun _ _ _ h => h) (Or.inl ⟨by kernel_rfl, ?_⟩) hHeld ?_
          rotate_left
          · (intro w hSw; first | (go_simp; done) | (go_simp; with_reducible rfl))
          (try simp only [Act.put, List.getElem_toArray, List.getElem_cons_succ, List.getElem_cons_zero, List.setIfInBounds_toArray, List.set_cons_zero, List.set_cons_succ])
          refine wpAnyH_take (i := 1) (v := ?_) rfl (by kernel_rfl) (by kernel_rfl) (by kernel_rfl) (fun _ _ _ h => h) (Or.inl ⟨by kernel_rfl, ?_⟩) hHeld ?_
          rotate_left
          · (intro w hSw; first | (go_simp; done) | (go_simp; with_reducible rfl))
          (try simp only [Act.put, List.getElem_toArray, List.getElem_cons_succ, List.getElem_cons_zero, List.setIfInBounds_toArray, List.set_cons_zero, List.set_cons_succ])
          refine wpAnyH_take (i := 2) (v := .bool true) rfl (by kernel_rfl) (by kernel_rfl) (by kernel_rfl) (fun _ _ _ h => h) (Or.inl ⟨by kernel_rfl, ?_⟩) hHeld ?_
          · (intro w hSw; go_simp)
          (try simp only [Act.put, List.getElem_toArray, List.getElem_cons_succ, List.getElem_cons_zero, List.setIfInBounds_toArray, List.set_cons_zero, List.set_cons_succ])
          refine wpAnyH_take (i := 3) (v := ?_) rfl (by kernel_rfl) (by kernel_rfl) (by kernel_rfl) (fun _ _ _ h => h) (Or.inl ⟨by kernel_rfl, ?_⟩) hHeld ?_
          rotate_left
          · (intro w hSw; first | (go_simp; done) | (go_simp; with_reducible rfl))
          (try simp only [Act.put, List.getElem_toArray, List.getElem_cons_succ, List.getElem_cons_zero, List.setIfInBounds_toArray, List.set_cons_zero, List.set_cons_succ])
          refine wpAnyH_take (i := 4) (v := ?_) rfl (by kernel_rfl) (by kernel_rfl) (by kernel_rfl) (fun _ _ _ h => h) (Or.inl ⟨by kernel_rfl, ?_⟩) hHeld ?_
          rotate_left
          · (intro w hSw; first | (go_simp; done) | (go_simp; with_reducible rfl))
          (try simp only [Act.put, List.getElem_toArray, List.getElem_cons_succ, List.getElem_cons_zero, List.setIfInBounds_toArray, List.set_cons_zero, List.set_cons_succ])
          refine wpAnyH_take (i := 5) (v := ?_) rfl (by kernel_rfl) (by kernel_rfl) (by kernel_rfl) (fun _ _ _ h => h) (Or.inl ⟨by kernel_rfl, ?_⟩) hHeld ?_
          rotate_left
          · (intro w hSw; first | (go_simp; done) | (go_simp; with_reducible rfl))
          (try simp only [Act.put, List.getElem_toArray, List.getElem_cons_succ, List.getElem_cons_zero, List.setIfInBounds_toArray, List.set_cons_zero, List.set_cons_succ])
          refine wpAnyH_take (i := 6) (v := ?_) rfl (by kernel_rfl) (by kernel_rfl) (by kernel_rfl) (fun _ _ _ h => h) (Or.inl ⟨by kernel_rfl, ?_⟩) hHeld ?_
          rotate_left
          · (intro w hSw; first | (go_simp; done) | (go_simp; with_reducible rfl))
          (try simp only [Act.put, List.getElem_toArray, List.getElem_cons_succ, List.getElem_cons_zero, List.setIfInBounds_toArray, List.set_cons_zero, List.set_cons_succ])
          refine wpAnyH_take (i := 7) (v := ?_) rfl (by kernel_rfl) (by kernel_rfl) (by kernel_rfl) (fun _ _ _ h => h) (Or.inl ⟨by kernel_rfl, ?_⟩) hHeld ?_
          rotate_left
          · (intro w hSw; first | (go_simp; done) | (go_simp; with_reducible rfl))
          (try simp only [Act.put, List.getElem_toArray, List.getElem_cons_succ, List.getElem_cons_zero, List.setIfInBounds_toArray, List.set_cons_zero, List.set_cons_succ])
          refine wpAnyH_take (i := 8) (v := ?_) rfl (by kernel_rfl) (by kernel_rfl) (by kernel_rfl) (fun _ _ _ h => h) (Or.inl ⟨by kernel_rfl, ?_⟩) hHeld ?_
          rotate_left
          · (intro w hSw; first | (go_simp; done) | (go_simp; with_reducible rfl))
          (try simp only [Act.put, List.getElem_toArray, List.getElem_cons_succ, List.getElem_cons_zero, List.setIfInBounds_toArray, List.set_cons_zero, List.set_cons_succ])
          refine wpAnyH_ready (rs := [9]) (by kernel_rfl) (by simp) (AllReadyH.cons rfl (fun K hK => ?_) AllReadyH.nil)
          have hH := hHeld
          (go_simp; go_at_call 32; refine (HHZ.out _ hH.1).mono ?_; rintro e w10 ⟨rfl, hb9⟩)
          refine hK.out _ _ (by exact ⟨hH.1.trans (hb9.mono hH.1.size), cell_at hb9 hH.2.1 rfl, cell_at hb9 hH.2.2.1 rfl, cell_at hb9 hH.2.2.2 rfl⟩) (fun hHq1 => ?_)
          clear hK K hH 
          clear hb9
          (try simp only [Act.put, List.getElem_toArray, List.getElem_cons_succ, List.getElem_cons_zero, List.setIfInBounds_toArray, List.set_cons_zero, List.set_cons_succ])
          refine wpAnyH_take (i := 10) (v := ?_) rfl (by kernel_rfl) (by kernel_rfl) (by kernel_rfl) (fun _ _ _ h => h) (Or.inl ⟨by kernel_rfl, ?_⟩) hHq1 ?_
          rotate_left
          · (intro w hSw; first | (go_simp; done) | (go_simp; with_reducible rfl))
          (try simp only [Act.put, List.getElem_toArray, List.getElem_cons_succ, List.getElem_cons_zero, List.setIfInBounds_toArray, List.set_cons_zero, List.set_cons_succ])
          refine wpAnyH_take (i := 11) (v := ?_) rfl (by kernel_rfl) (by kernel_rfl) (by kernel_rfl) (fun _ _ _ h => h) (Or.inl ⟨by kernel_rfl, ?_⟩) hHq1 ?_
          rotate_left
          · (intro w hSw; first | (go_simp; done) | (go_simp; with_reducible rfl))
          (try simp only [Act.put, List.getElem_toArray, List.getElem_cons_succ, List.getElem_cons_zero, List.setIfInBounds_toArray, List.set_cons_zero, List.set_cons_succ])
          refine wpAnyH_done (by kernel_rfl) ?_ _
          have hEnd := hHq1
          have HE10 := Lib.hid hEnd.1
          clear hHeld hEnd
          go_wp2_with fail
          go_roundw
          case rel => exact ⟨k + 1, by omega, by go_num, HE10⟩
          case measure => simp [intOf]; omega
    have hiL : i < us.length := by rw [HUNL.out]; exact hlt
    have hii : (i : Int) < (un : Int) := by omega
    obtain ⟨u, HU⟩ : ∃ u, Hid (us.getD i 0 = u) := ⟨_, Lib.hid rfl⟩
    have HINU : Hid (inAny u X.s = true) := Lib.hid (HIN.out u (by rw [← HU.out, List.getD_eq_getElem?_getD, List.getElem?_eq_getElem hiL]; exact List.getElem_mem hiL))
    obtain ⟨b5, off5, rfl, hb5, hc5⟩ := HR4.out.i64 (show 0 < us.length by omega)
    have HC5 : Hid (∀ i, i < un → ∀ W', Below w4.heap.size w4 W' → W'.cell? ⟨b5, off5 + i, none⟩ = some (.int .i64 (us.getD i 0))) := Lib.hid (fun i hi W' hb => cell_keep hb (hc5 i (by rw [HUNL.out]; exact hi)) hb5)
    clear hc5
    have HII := Lib.hid hlt
    have HBI0 := HBi
    go_wp2_with fail
    go_loopw [9, 10] (fun x j wr => ∃ s : Nat, s ≤ n ∧ j = .int .i64 (s : Int) ∧ x = .bool (inAny u (X.s.take s)) ∧ Hid (Below w4.heap.size w4 wr)) (fun _ j _ => n - (intOf j).toNat)
    case atStart => exact ⟨0, Nat.zero_le _, rfl, by simp [inAny], HBI0⟩
    case round =>
      obtain ⟨s, hs, rfl, rfl, HBs⟩ := hrel
      have k1 := HK1.out _ HBs.out
      have hzs : w.heap.size < wr.heap.size := World.block_lt_of_cell? _ _ k1
      by_cases hlt2 : s < n
      rotate_left
      · obtain rfl : s = n := by omega
        have htk : X.s.take s = X.s := List.take_of_length_le (by rw [HXS.out, sgx_length, HN.out]; exact Nat.le_refl _)
        rw [htk, HINU.out]
        clear htk
        have q3 := HC5.out i HII.out _ HBs.out
        rw [HU.out] at q3
        have q3d := HC5.out i HII.out _ HBs.out.drew
        rw [HU.out] at q3d
        have hi0 : (0 : Int) ≤ (i : Int) := by omega
        rcases Nat.eq_zero_or_pos i with h0 | h0
        · subst h0
          have HSS : Hid (Below w4.heap.size w4 wr.drew) := Lib.hid HBs.out.drew
          clear q3 q3d
          go_wp2_with fail
          refine wp_region_held_drew (S := (fun W => Below w4.heap.size w4 W)) (by kernel_rfl) HSS.out (fun hHeld => ?_)
          refine wpAnyH_take (i := 0) (v := ?_) rfl (by kernel_rfl) (by kernel_rfl) (by kernel_rfl) (fun _ _ _ h => h) (Or.inl ⟨by kernel_rfl, ?_⟩) hHeld ?_
          rotate_left
          · (intro w hSw; first | (go_simp; done) | (go_simp; with_reducible rfl))
          (try simp only [Act.put, List.getElem_toArray, List.getElem_cons_succ, List.getElem_cons_zero, List.setIfInBounds_toArray, List.set_cons_zero, List.set_cons_succ])
          refine wpAnyH_take (i := 1) (v := ?_) rfl (by kernel_rfl) (by kernel_rfl) (by kernel_rfl) (fun _ _ _ h => h) (Or.inl ⟨by kernel_rfl, ?_⟩) hHeld ?_
          rotate_left
          · (intro w hSw; first | (go_simp; done) | (go_simp; with_reducible rfl))
          (try simp only [Act.put, List.getElem_toArray, List.getElem_cons_succ, List.getElem_cons_zero, List.setIfInBounds_toArray, List.set_cons_zero, List.set_cons_succ])
          refine wpAnyH_take (i := 2) (v := .bool false) rfl (by kernel_rfl) (by kernel_rfl) (by kernel_rfl) (fun _ _ _ h => h) (Or.inl ⟨by kernel_rfl, ?_⟩) hHeld ?_
          · (intro w hSw; go_simp)
          (try simp only [Act.put, List.getElem_toArray, List.getElem_cons_succ, List.getElem_cons_zero, List.setIfInBounds_toArray, List.set_cons_zero, List.set_cons_succ])
          refine wpAnyH_take (i := 3) (v := ?_) rfl (by kernel_rfl) (by kernel_rfl) (by kernel_rfl) (fun _ _ _ h => h) (Or.inl ⟨by kernel_rfl, ?_⟩) hHeld ?_
          rotate_left
          · (intro w hSw; first | (go_simp; done) | (go_simp; with_reducible rfl))
          (try simp only [Act.put, List.getElem_toArray, List.getElem_cons_succ, List.getElem_cons_zero, List.setIfInBounds_toArray, List.set_cons_zero, List.set_cons_succ])
          refine wpAnyH_take (i := 4) (v := ?_) rfl (by kernel_rfl) (by kernel_rfl) (by kernel_rfl) (fun _ _ _ h => h) (Or.inl ⟨by kernel_rfl, ?_⟩) hHeld ?_
          rotate_left
          · (intro w hSw; first | (go_simp; done) | (go_simp; with_reducible rfl))
          (try simp only [Act.put, List.getElem_toArray, List.getElem_cons_succ, List.getElem_cons_zero, List.setIfInBounds_toArray, List.set_cons_zero, List.set_cons_succ])
          refine wpAnyH_take (i := 5) (v := .bool false) rfl (by kernel_rfl) (by kernel_rfl) (by kernel_rfl) (fun _ _ _ h => h) (Or.inl ⟨by kernel_rfl, ?_⟩) hHeld ?_
          · (intro w hSw; go_simp)
          (try simp only [Act.put, List.getElem_toArray, List.getElem_cons_succ, List.getElem_cons_zero, List.setIfInBounds_toArray, List.set_cons_zero, List.set_cons_succ])
          refine wpAnyH_take (i := 6) (v := undef) rfl (by kernel_rfl) (by kernel_rfl) (by kernel_rfl) (fun _ _ _ h => h) (Or.inr ⟨by kernel_rfl, rfl⟩) hHeld ?_
          (try simp only [Act.put, List.getElem_toArray, List.getElem_cons_succ, List.getElem_cons_zero, List.setIfInBounds_toArray, List.set_cons_zero, List.set_cons_succ])
          refine wpAnyH_take (i := 7) (v := undef) rfl (by kernel_rfl) (by kernel_rfl) (by kernel_rfl) (fun _ _ _ h => h) (Or.inr ⟨by kernel_rfl, rfl⟩) hHeld ?_
          (try simp only [Act.put, List.getElem_toArray, List.getElem_cons_succ, List.getElem_cons_zero, List.setIfInBounds_toArray, List.set_cons_zero, List.set_cons_succ])
          refine wpAnyH_take (i := 8) (v := undef) rfl (by kernel_rfl) (by kernel_rfl) (by kernel_rfl) (fun _ _ _ h => h) (Or.inr ⟨by kernel_rfl, rfl⟩) hHeld ?_
          (try simp only [Act.put, List.getElem_toArray, List.getElem_cons_succ, List.getElem_cons_zero, List.setIfInBounds_toArray, List.set_cons_zero, List.set_cons_succ])
          refine wpAnyH_take (i := 9) (v := undef) rfl (by kernel_rfl) (by kernel_rfl) (by kernel_rfl) (fun _ _ _ h => h) (Or.inr ⟨by kernel_rfl, rfl⟩) hHeld ?_
          (try simp only [Act.put, List.getElem_toArray, List.getElem_cons_succ, List.getElem_cons_zero, List.setIfInBounds_toArray, List.set_cons_zero, List.set_cons_succ])
          refine wpAnyH_take (i := 10) (v := undef) rfl (by kernel_rfl) (by kernel_rfl) (by kernel_rfl) (fun _ _ _ h => h) (Or.inr ⟨by kernel_rfl, rfl⟩) hHeld ?_
          (try simp only [Act.put, List.getElem_toArray, List.getElem_cons_succ, List.getElem_cons_zero, List.setIfInBounds_toArray, List.set_cons_zero, List.set_cons_succ])
          refine wpAnyH_take (i := 11) (v := undef) rfl (by kernel_rfl) (by kernel_rfl) (by kernel_rfl) (fun _ _ _ h => h) (Or.inr ⟨by kernel_rfl, rfl⟩) hHeld ?_
          (try simp only [Act.put, List.getElem_toArray, List.getElem_cons_succ, List.getElem_cons_zero, List.setIfInBounds_toArray, List.set_cons_zero, List.set_cons_succ])
          refine wpAnyH_take (i := 12) (v := undef) rfl (by kernel_rfl) (by kernel_rfl) (by kernel_rfl) (fun _ _ _ h => h) (Or.inr ⟨by kernel_rfl, rfl⟩) hHeld ?_
          (try simp only [Act.put, List.getElem_toArray, List.getElem_cons_succ, List.getElem_cons_zero, List.setIfInBounds_toArray, List.set_cons_zero, List.set_cons_succ])
          refine wpAnyH_take (i := 13) (v := undef) rfl (by kernel_rfl) (by kernel_rfl) (by kernel_rfl) (fun _ _ _ h => h) (Or.inr ⟨by kernel_rfl, rfl⟩) hHeld ?_
          (try simp only [Act.put, List.getElem_toArray, List.getElem_cons_succ, List.getElem_cons_zero, List.setIfInBounds_toArray, List.set_cons_zero, List.set_cons_succ])
          refine wpAnyH_take (i := 14) (v := undef) rfl (by kernel_rfl) (by kernel_rfl) (by kernel_rfl) (fun _ _ _ h => h) (Or.inr ⟨by kernel_rfl, rfl⟩) hHeld ?_
          (try simp only [Act.put, List.getElem_toArray, List.getElem_cons_succ, List.getElem_cons_zero, List.setIfInBounds_toArray, List.set_cons_zero, List.set_cons_succ])
          refine wpAnyH_take (i := 15) (v := undef) rfl (by kernel_rfl) (by kernel_rfl) (by kernel_rfl) (fun _ _ _ h => h) (Or.inr ⟨by kernel_rfl, rfl⟩) hHeld ?_
          (try simp only [Act.put, List.getElem_toArray, List.getElem_cons_succ, List.getElem_cons_zero, List.setIfInBounds_toArray, List.set_cons_zero, List.set_cons_succ])
          refine wpAnyH_take (i := 16) (v := ?_) rfl (by kernel_rfl) (by kernel_rfl) (by kernel_rfl) (fun _ _ _ h => h) (Or.inl ⟨by kernel_rfl, ?_⟩) hHeld ?_
          rotate_left
          · (intro w hSw; first | (go_simp; done) | (go_simp; with_reducible rfl))
          (try simp only [Act.put, List.getElem_toArray, List.getElem_cons_succ, List.getElem_cons_zero, List.setIfInBounds_toArray, List.set_cons_zero, List.set_cons_succ])
          refine wpAnyH_take (i := 17) (v := ?_) rfl (by kernel_rfl) (by kernel_rfl) (by kernel_rfl) (fun _ _ _ h => h) (Or.inl ⟨by kernel_rfl, ?_⟩) hHeld ?_
          rotate_left
          · (intro w hSw; first | (go_simp; done) | (go_simp; with_reducible rfl))
          (try simp only [Act.put, List.getElem_toArray, List.getElem_cons_succ, List.getElem_cons_zero, List.setIfInBounds_toArray, List.set_cons_zero, List.set_cons_succ])
          refine wpAnyH_done (by kernel_rfl) ?_ _
          have hEnd := hHeld
          have HE9 := Lib.hid hEnd
          clear hHeld hEnd
          go_wp2_with fail
          go_roundw
          case rel => exact ⟨0 + 1, by have := HII.out; omega, by go_num, HE9⟩
          case measure => have := HII.out; simp [intOf]; omega
        · obtain ⟨ip, rfl⟩ : ∃ ip, i = ip + 1 := ⟨i - 1, by omega⟩
          have hlu := HLT.out ip HII.out
          rw [HU.out] at hlu
          have q4d := HC5.out ip (by have := HII.out; omega) _ HBs.out.drew
          generalize us.getD ip 0 = up at *
          have hle : decide (u ≤ up) = false := decide_eq_false (by omega)
          obtain ⟨i1, hi1⟩ : ∃ i1, ip + 1 = i1 := ⟨_, rfl⟩
          have HI1 := Lib.hid hi1
          have hip1 : (i1 : Int) - 1 = (ip : Int) := by omega
          have hip0 : (0 : Int) ≤ (ip : Int) := by omega
          have hip2 : (ip : Int) < (un : Int) := by have := HII.out; omega
          have hip3 : decide ((0 : Int) < (i1 : Int)) = true := decide_eq_true (by omega)
          have hip4 : (0 : Int) ≤ (i1 : Int) := by omega
          have HIP : Hid (0 < i1) := Lib.hid (by omega)
          have hip6 : IntKind.i64.wrap (ip : Int) = (ip : Int) := by rw [IntKind.wrap_i64]; have := HUS.out; omega
          have hip5 : (i1 : Int) < (un : Int) := by have := HII.out; omega
          rw [hi1] at q3d
          have HSS : Hid (Below w4.heap.size w4 wr.drew ∧ wr.drew.cell? ⟨b5, off5 + i1, none⟩ = some (.int .i64 u) ∧ wr.drew.cell? ⟨b5, off5 + ip, none⟩ = some (.int .i64 up)) := Lib.hid ⟨HBs.out.drew, q3d, q4d⟩
          have HII2 := Lib.hid HII.out
          rw [hi1] at HII2 ⊢
          clear hlu q3 q3d q4d hi1
          go_wp2_with fail
          refine wp_region_held_drew (S := (fun W => Below w4.heap.size w4 W ∧ W.cell? ⟨b5, off5 + i1, none⟩ = some (.int .i64 u) ∧ W.cell? ⟨b5, off5 + ip, none⟩ = some (.int .i64 up))) (by kernel_rfl) HSS.out (fun hHeld => ?_)
          refine wpAnyH_take (i := 0) (v := ?_) rfl (by kernel_rfl) (by kernel_rfl) (by kernel_rfl) (fun _ _ _ h => h) (Or.inl ⟨by kernel_rfl, ?_⟩) hHeld ?_
          rotate_left
          · (intro w hSw; first | (go_simp; done) | (go_simp; with_reducible rfl))
          (try simp only [Act.put, List.getElem_toArray, List.getElem_cons_succ, List.getElem_cons_zero, List.setIfInBounds_toArray, List.set_cons_zero, List.set_cons_succ])
          refine wpAnyH_take (i := 1) (v := ?_) rfl (by kernel_rfl) (by kernel_rfl) (by kernel_rfl) (fun _ _ _ h => h) (Or.inl ⟨by kernel_rfl, ?_⟩) hHeld ?_
          rotate_left
          · (intro w hSw; first | (go_simp; done) | (go_simp; with_reducible rfl))
          (try simp only [Act.put, List.getElem_toArray, List.getElem_cons_succ, List.getElem_cons_zero, List.setIfInBounds_toArray, List.set_cons_zero, List.set_cons_succ])
          refine wpAnyH_take (i := 2) (v := .bool false) rfl (by kernel_rfl) (by kernel_rfl) (by kernel_rfl) (fun _ _ _ h => h) (Or.inl ⟨by kernel_rfl, ?_⟩) hHeld ?_
          · (intro w hSw; go_simp)
          (try simp only [Act.put, List.getElem_toArray, List.getElem_cons_succ, List.getElem_cons_zero, List.setIfInBounds_toArray, List.set_cons_zero, List.set_cons_succ])
          refine wpAnyH_take (i := 3) (v := ?_) rfl (by kernel_rfl) (by kernel_rfl) (by kernel_rfl) (fun _ _ _ h => h) (Or.inl ⟨by kernel_rfl, ?_⟩) hHeld ?_
          rotate_left
          · (intro w hSw; first | (go_simp; done) | (go_simp; with_reducible rfl))
          (try simp only [Act.put, List.getElem_toArray, List.getElem_cons_succ, List.getElem_cons_zero, List.setIfInBounds_toArray, List.set_cons_zero, List.set_cons_succ])
          refine wpAnyH_take (i := 4) (v := ?_) rfl (by kernel_rfl) (by kernel_rfl) (by kernel_rfl) (fun _ _ _ h => h) (Or.inl ⟨by kernel_rfl, ?_⟩) hHeld ?_
          rotate_left
          · (intro w hSw; first | (go_simp; done) | (go_simp; with_reducible rfl))
          (try simp only [Act.put, List.getElem_toArray, List.getElem_cons_succ, List.getElem_cons_zero, List.setIfInBounds_toArray, List.set_cons_zero, List.set_cons_succ])
          refine wpAnyH_take (i := 5) (v := .bool true) rfl (by kernel_rfl) (by kernel_rfl) (by kernel_rfl) (fun _ _ _ h => h) (Or.inl ⟨by kernel_rfl, ?_⟩) hHeld ?_
          · (intro w hSw; go_simp; exact HIP.out)
          (try simp only [Act.put, List.getElem_toArray, List.getElem_cons_succ, List.getElem_cons_zero, List.setIfInBounds_toArray, List.set_cons_zero, List.set_cons_succ])
          refine wpAnyH_take (i := 6) (v := ?_) rfl (by kernel_rfl) (by kernel_rfl) (by kernel_rfl) (fun _ _ _ h => h) (Or.inl ⟨by kernel_rfl, ?_⟩) hHeld ?_
          rotate_left
          · (intro w hSw; first | (go_simp; done) | (go_simp; with_reducible rfl))
          (try simp only [Act.put, List.getElem_toArray, List.getElem_cons_succ, List.getElem_cons_zero, List.setIfInBounds_toArray, List.set_cons_zero, List.set_cons_succ])
          refine wpAnyH_take (i := 7) (v := ?_) rfl (by kernel_rfl) (by kernel_rfl) (by kernel_rfl) (fun _ _ _ h => h) (Or.inl ⟨by kernel_rfl, ?_⟩) hHeld ?_
          rotate_left
          · (intro w hSw; first | (go_simp; done) | (go_simp; with_reducible rfl))
          (try simp only [Act.put, List.getElem_toArray, List.getElem_cons_succ, List.getElem_cons_zero, List.setIfInBounds_toArray, List.set_cons_zero, List.set_cons_succ])
          refine wpAnyH_take (i := 8) (v := ?_) rfl (by kernel_rfl) (by kernel_rfl) (by kernel_rfl) (fun _ _ _ h => h) (Or.inl ⟨by kernel_rfl, ?_⟩) hHeld ?_
          rotate_left
          · (intro w hSw; first | (go_simp; done) | (go_simp; with_reducible rfl))
          (try simp only [Act.put, List.getElem_toArray, List.getElem_cons_succ, List.getElem_cons_zero, List.setIfInBounds_toArray, List.set_cons_zero, List.set_cons_succ])
          refine wpAnyH_take (i := 9) (v := ?_) rfl (by kernel_rfl) (by kernel_rfl) (by kernel_rfl) (fun _ _ _ h => h) (Or.inl ⟨by kernel_rfl, ?_⟩) hHeld ?_
          rotate_left
          · (intro w hSw; first | (go_simp; done) | (go_simp; with_reducible rfl))
          (try simp only [Act.put, List.getElem_toArray, List.getElem_cons_succ, List.getElem_cons_zero, List.setIfInBounds_toArray, List.set_cons_zero, List.set_cons_succ])
          refine wpAnyH_take (i := 10) (v := ?_) rfl (by kernel_rfl) (by kernel_rfl) (by kernel_rfl) (fun _ _ _ h => h) (Or.inl ⟨by kernel_rfl, ?_⟩) hHeld ?_
          rotate_left
          · (intro w hSw; first | (go_simp; done) | (go_simp; with_reducible rfl))
          (try simp only [Act.put, List.getElem_toArray, List.getElem_cons_succ, List.getElem_cons_zero, List.setIfInBounds_toArray, List.set_cons_zero, List.set_cons_succ])
          refine wpAnyH_take (i := 11) (v := ?_) rfl (by kernel_rfl) (by kernel_rfl) (by kernel_rfl) (fun _ _ _ h => h) (Or.inl ⟨by kernel_rfl, ?_⟩) hHeld ?_
          rotate_left
          · (intro w hSw; first | (go_simp; done) | (go_simp; with_reducible rfl))
          (try simp only [Act.put, List.getElem_toArray, List.getElem_cons_succ, List.getElem_cons_zero, List.setIfInBounds_toArray, List.set_cons_zero, List.set_cons_succ])
          refine wpAnyH_take (i := 12) (v := ?_) rfl (by kernel_rfl) (by kernel_rfl) (by kernel_rfl) (fun _ _ _ h => h) (Or.inl ⟨by kernel_rfl, ?_⟩) hHeld ?_
          rotate_left
          · (intro w hSw; first | (go_simp; done) | (go_simp; with_reducible rfl))
          (try simp only [Act.put, List.getElem_toArray, List.getElem_cons_succ, List.getElem_cons_zero, List.setIfInBounds_toArray, List.set_cons_zero, List.set_cons_succ])
          refine wpAnyH_take (i := 13) (v := ?_) rfl (by kernel_rfl) (by kernel_rfl) (by kernel_rfl) (fun _ _ _ h => h) (Or.inl ⟨by kernel_rfl, ?_⟩) hHeld ?_
          rotate_left
          · (intro w hSw; first | (go_simp; done) | (go_simp; with_reducible rfl))
          (try simp only [Act.put, List.getElem_toArray, List.getElem_cons_succ, List.getElem_cons_zero, List.setIfInBounds_toArray, List.set_cons_zero, List.set_cons_succ])
          refine wpAnyH_take (i := 14) (v := ?_) rfl (by kernel_rfl) (by kernel_rfl) (by kernel_rfl) (fun _ _ _ h => h) (Or.inl ⟨by kernel_rfl, ?_⟩) hHeld ?_
          rotate_left
          · (intro w hSw; first | (go_simp; done) | (go_simp; with_reducible rfl))
          (try simp only [Act.put, List.getElem_toArray, List.getElem_cons_succ, List.getElem_cons_zero, List.setIfInBounds_toArray, List.set_cons_zero, List.set_cons_succ])
          refine wpAnyH_take (i := 15) (v := ?_) rfl (by kernel_rfl) (by kernel_rfl) (by kernel_rfl) (fun _ _ _ h => h) (Or.inl ⟨by kernel_rfl, ?_⟩) hHeld ?_
          rotate_left
          · (intro w hSw; first | (go_simp; done) | (go_simp; with_reducible rfl))
          (try simp only [Act.put, List.getElem_toArray, List.getElem_cons_succ, List.getElem_cons_zero, List.setIfInBounds_toArray, List.set_cons_zero, List.set_cons_succ])
          refine wpAnyH_take (i := 16) (v := ?_) rfl (by kernel_rfl) (by kernel_rfl) (by kernel_rfl) (fun _ _ _ h => h) (Or.inl ⟨by kernel_rfl, ?_⟩) hHeld ?_
          rotate_left
          · (intro w hSw; first | (go_simp; done) | (go_simp; with_reducible rfl))
          (try simp only [Act.put, List.getElem_toArray, List.getElem_cons_succ, List.getElem_cons_zero, List.setIfInBounds_toArray, List.set_cons_zero, List.set_cons_succ])
          refine wpAnyH_take (i := 17) (v := ?_) rfl (by kernel_rfl) (by kernel_rfl) (by kernel_rfl) (fun _ _ _ h => h) (Or.inl ⟨by kernel_rfl, ?_⟩) hHeld ?_
          rotate_left
          · (intro w hSw; first | (go_simp; done) | (go_simp; with_reducible rfl))
          (try simp only [Act.put, List.getElem_toArray, List.getElem_cons_succ, List.getElem_cons_zero, List.setIfInBounds_toArray, List.set_cons_zero, List.set_cons_succ])
          refine wpAnyH_done (by kernel_rfl) ?_ _
          have hEnd := hHeld
          have HE9 := Lib.hid hEnd.1
          clear hHeld hEnd
          go_wp2_with fail
          go_roundw
          case rel => exact ⟨i1 + 1, by have := HII2.out; omega, by go_num, HE9⟩
          case measure => have := HII2.out; simp [intOf]; omega
      have hs1 : (s : Int) < (n : Int) := by omega
      have hs0 : (0 : Int) ≤ (s : Int) := by omega
      obtain ⟨hm1, hm4, hcl⟩ := HCK.out s hlt2
      have htm1 := HTM.out s hlt2 u
      have hin1 := inAny_take (u := u) (L := X.s) (k := s) (by rw [HXS.out, sgx_length, HN.out]; exact hlt2)
      rw [HXS.out, sx_sgx, ← HXS.out] at hin1
      have HIN1 := Lib.hid hin1
      have s2 := HSG.out s hlt2 _ HBs.out
      have hsL : s < L.length := by rw [HN.out]; exact hlt2
      obtain ⟨hro, hci⟩ := HAO.out.inn.2 (st L s) (st_mem hsL)
      obtain ⟨b6, off6, ea6, hb6, hc6⟩ := hro.ch (by omega)
      have HSGs := Lib.hid (HSG.out s hlt2)
      rw [ea6] at HSGs s2
      have hx2 : (st L s).x.2 = chx (st L s).ch := rfl
      rw [hx2] at HIN1
      clear hin1 hro ea6 hx2 hsL
      generalize (st L s).ch = C at *
      generalize (st L s).c = x4 at *
      obtain ⟨m, hm⟩ : ∃ m, C.length = m := ⟨_, rfl⟩
      have HM := Lib.hid hm
      rw [hm] at HSGs s2 hm1 hm4 hcl
      have HC6 : Hid (∀ k, k < m → ∀ W', Below w4.heap.size w4 W' → W'.cell? ⟨b6, off6 + k, none⟩ = some (.slice (ct C k).a (ct C k).u.length (ct C k).c)) := Lib.hid (fun k hk W' hb => cell_keep (HGO.out W' hb) (hc6 k (by rw [HM.out]; exact hk)) hb6)
      have HHC : Hid (∀ k, k < m → ∀ W', Below w4.heap.size w4 W' → Calls Try.prog 32 #[.slice (ct C k).a (ct C k).u.length (ct C k).c, .int .i64 u] W' fun e w' => e = .returned (.bool (decide (u ∈ (ct C k).u))) ∧ Below W'.heap.size W' w') := Lib.hid (fun k hk W' hb => has_any (ct C k).u u (ct C k).a (ct C k).c w.heap.size W' ((hci _ (ct_mem (by rw [HM.out]; exact hk))).below (HGO.out W' hb) (Nat.le_refl _)) (HGO.out W' hb).size (by have := hcl k hk; omega))
      have HM14 := Lib.hid (And.intro hm1 hm4)
      have HTM1 := Lib.hid htm1
      have HSS1 := Lib.hid hlt2
      clear hc6 hci hcl hm hb6 hm1 hm4 htm1
      have HBS0 := HBs
      go_wp2_with fail
      go_loopw [11, 12] (fun x j wr => ∃ k : Nat, k ≤ m ∧ j = .int .i64 (k : Int) ∧ x = .int .i64 ((tm u ((chx C).take k) : Nat) : Int) ∧ Hid (Below w4.heap.size w4 wr)) (fun _ j _ => m - (intOf j).toNat)
      case atStart => exact ⟨0, Nat.zero_le _, rfl, by simp [tm], HBS0⟩
      case round =>
        obtain ⟨k, hk, rfl, rfl, HBk⟩ := hrel
        have k1 := HK1.out _ HBk.out
        have hzk : w.heap.size < wr.heap.size := World.block_lt_of_cell? _ _ k1
        have s2 := HSGs.out _ HBk.out
        by_cases hlt3 : k < m
        rotate_left
        · obtain rfl : k = m := by omega
          have htk : (chx C).take k = chx C := List.take_of_length_le (by rw [chx_length, HM.out]; exact Nat.le_refl _)
          rw [htk]
          clear htk
          obtain ⟨tt, htt⟩ : ∃ tt, tm u (chx C) = tt := ⟨_, rfl⟩
          have htt1 : tt ≤ 1 := by rw [← htt]; exact HTM1.out
          have HIN2 := Lib.hid HIN1.out
          rw [htt] at HIN2 ⊢
          clear htt
          obtain ⟨bo, hbo⟩ : ∃ bo, inAny u (X.s.take s) = bo := ⟨_, rfl⟩
          rw [hbo] at HIN2 ⊢
          clear hbo
          obtain ⟨bq, hbq⟩ : ∃ bq, decide (tt = 1) = bq := ⟨_, rfl⟩
          rw [hbq] at HIN2
          have hq1 : ((tt : Int) == 1) = bq := by
            rw [← hbq]
            by_cases h1 : tt = 1
            · subst h1; rfl
            · have h2 : ¬ (tt : Int) = 1 := by omega
              simp [h1, h2]
          have hq4 : (tt == 1) = bq := by
            rw [← hbq]
            by_cases h1 : tt = 1
            · subst h1; rfl
            · simp [h1]
          have hq2 : decide ((1 : Int) < (tt : Int)) = false := decide_eq_false (by omega)
          have hq3 : decide (1 < tt) = false := decide_eq_false (by omega)
          clear htt1 hbq
          have hsn : (n : Int) ≤ 4 := by have := HN4.out; omega
          cases bo with
          | true =>
            cases bq with
            | true =>
              go_wp2_with fail
              go_roundw
              case rel => exact ⟨s + 1, by have := HSS1.out; omega, by go_num, by rw [HIN2.out]; rfl, HBk⟩
              case measure => have := HSS1.out; simp [intOf]; omega
            | false =>
              go_wp2_with fail
              go_roundw
              case rel => exact ⟨s + 1, by have := HSS1.out; omega, by go_num, by rw [HIN2.out]; rfl, HBk⟩
              case measure => have := HSS1.out; simp [intOf]; omega
          | false =>
            cases bq with
            | true =>
              go_wp2_with fail
              go_roundw
              case rel => exact ⟨s + 1, by have := HSS1.out; omega, by go_num, by rw [HIN2.out]; rfl, HBk⟩
              case measure => have := HSS1.out; simp [intOf]; omega
            | false =>
              go_wp2_with fail
              go_roundw
              case rel => exact ⟨s + 1, by have := HSS1.out; omega, by go_num, by rw [HIN2.out]; rfl, HBk⟩
              case measure => have := HSS1.out; simp [intOf]; omega
        have hk1 : (k : Int) < (m : Int) := by omega
        have hk0 : (0 : Int) ≤ (k : Int) := by omega
        have hi0 : (0 : Int) ≤ (i : Int) := by omega
        have hkm : (m : Int) ≤ 4 := by have := HM14.out; omega
        have htk := tm_take (u := u) (L := chx C) (k := k) (by rw [chx_length, HM.out]; exact hlt3)
        rw [cx_chx] at htk
        have HTK := Lib.hid htk
        have HHX := Lib.hid (HHC.out k hlt3)
        have q2 := HC6.out k hlt3 _ HBk.out.drew
        have q3 := HC5.out i HII.out _ HBk.out.drew
        rw [HU.out] at q3
        clear htk
        generalize (ct C k).a = y1 at *
        generalize (ct C k).c = y3 at *
        generalize (ct C k).u = y2 at *
        generalize y2.length = yn at *
        obtain ⟨t, HT⟩ : ∃ t, Hid (decide (u ∈ y2) = t) := ⟨_, Lib.hid rfl⟩
        rw [HT.out] at HHX
        have HSS : Hid (Below w4.heap.size w4 wr.drew ∧ wr.drew.cell? ⟨w.heap.size, 1, none⟩ = some (.slice (some ⟨b, off, none⟩) n c) ∧ wr.drew.cell? ⟨b, off + s * 2 + 1, none⟩ = some (.slice (some ⟨b6, off6, none⟩) m x4) ∧ wr.drew.cell? ⟨b6, off6 + k, none⟩ = some (.slice y1 yn y3) ∧ wr.drew.cell? ⟨b5, off5 + i, none⟩ = some (.int .i64 u)) := Lib.hid ⟨HBk.out.drew, HK1.out _ HBk.out.drew, HSGs.out _ HBk.out.drew, q2, q3⟩
        clear q2 q3
        go_wp2_with fail
        refine wp_region_held_drew (S := (fun W => Below w4.heap.size w4 W ∧ W.cell? ⟨w.heap.size, 1, none⟩ = some (.slice (some ⟨b, off, none⟩) n c) ∧ W.cell? ⟨b, off + s * 2 + 1, none⟩ = some (.slice (some ⟨b6, off6, none⟩) m x4) ∧ W.cell? ⟨b6, off6 + k, none⟩ = some (.slice y1 yn y3) ∧ W.cell? ⟨b5, off5 + i, none⟩ = some (.int .i64 u))) (by kernel_rfl) HSS.out (fun hHeld => ?_)
        refine wpAnyH_take (i := 0) (v := ?_) rfl (by kernel_rfl) (by kernel_rfl) (by kernel_rfl) (fun _ _ _ h => h) (Or.inl ⟨by kernel_rfl, ?_⟩) hHeld ?_
        rotate_left
        · (intro w hSw; first | (go_simp; done) | (go_simp; with_reducible rfl))
        (try simp only [Act.put, List.getElem_toArray, List.getElem_cons_succ, List.getElem_cons_zero, List.setIfInBounds_toArray, List.set_cons_zero, List.set_cons_succ])
        refine wpAnyH_take (i := 1) (v := ?_) rfl (by kernel_rfl) (by kernel_rfl) (by kernel_rfl) (fun _ _ _ h => h) (Or.inl ⟨by kernel_rfl, ?_⟩) hHeld ?_
        rotate_left
        · (intro w hSw; first | (go_simp; done) | (go_simp; with_reducible rfl))
        (try simp only [Act.put, List.getElem_toArray, List.getElem_cons_succ, List.getElem_cons_zero, List.setIfInBounds_toArray, List.set_cons_zero, List.set_cons_succ])
        refine wpAnyH_take (i := 2) (v := ?_) rfl (by kernel_rfl) (by kernel_rfl) (by kernel_rfl) (fun _ _ _ h => h) (Or.inl ⟨by kernel_rfl, ?_⟩) hHeld ?_
        rotate_left
        · (intro w hSw; first | (go_simp; done) | (go_simp; with_reducible rfl))
        (try simp only [Act.put, List.getElem_toArray, List.getElem_cons_succ, List.getElem_cons_zero, List.setIfInBounds_toArray, List.set_cons_zero, List.set_cons_succ])
        refine wpAnyH_take (i := 3) (v := ?_) rfl (by kernel_rfl) (by kernel_rfl) (by kernel_rfl) (fun _ _ _ h => h) (Or.inl ⟨by kernel_rfl, ?_⟩) hHeld ?_
        rotate_left
        · (intro w hSw; first | (go_simp; done) | (go_simp; with_reducible rfl))
        (try simp only [Act.put, List.getElem_toArray, List.getElem_cons_succ, List.getElem_cons_zero, List.setIfInBounds_toArray, List.set_cons_zero, List.set_cons_succ])
        refine wpAnyH_take (i := 4) (v := ?_) rfl (by kernel_rfl) (by kernel_rfl) (by kernel_rfl) (fun _ _ _ h => h) (Or.inl ⟨by kernel_rfl, ?_⟩) hHeld ?_
        rotate_left
        · (intro w hSw; first | (go_simp; done) | (go_simp; with_reducible rfl))
        (try simp only [Act.put, List.getElem_toArray, List.getElem_cons_succ, List.getElem_cons_zero, List.setIfInBounds_toArray, List.set_cons_zero, List.set_cons_succ])
        refine wpAnyH_take (i := 5) (v := ?_) rfl (by kernel_rfl) (by kernel_rfl) (by kernel_rfl) (fun _ _ _ h => h) (Or.inl ⟨by kernel_rfl, ?_⟩) hHeld ?_
        rotate_left
        · (intro w hSw; first | (go_simp; done) | (go_simp; with_reducible rfl))
        (try simp only [Act.put, List.getElem_toArray, List.getElem_cons_succ, List.getElem_cons_zero, List.setIfInBounds_toArray, List.set_cons_zero, List.set_cons_succ])
        refine wpAnyH_take (i := 6) (v := ?_) rfl (by kernel_rfl) (by kernel_rfl) (by kernel_rfl) (fun _ _ _ h => h) (Or.inl ⟨by kernel_rfl, ?_⟩) hHeld ?_
        rotate_left
        · (intro w hSw; first | (go_simp; done) | (go_simp; with_reducible rfl))
        (try simp only [Act.put, List.getElem_toArray, List.getElem_cons_succ, List.getElem_cons_zero, List.setIfInBounds_toArray, List.set_cons_zero, List.set_cons_succ])
        refine wpAnyH_take (i := 7) (v := ?_) rfl (by kernel_rfl) (by kernel_rfl) (by kernel_rfl) (fun _ _ _ h => h) (Or.inl ⟨by kernel_rfl, ?_⟩) hHeld ?_
        rotate_left
        · (intro w hSw; first | (go_simp; done) | (go_simp; with_reducible rfl))
        (try simp only [Act.put, List.getElem_toArray, List.getElem_cons_succ, List.getElem_cons_zero, List.setIfInBounds_toArray, List.set_cons_zero, List.set_cons_succ])
        refine wpAnyH_take (i := 8) (v := ?_) rfl (by kernel_rfl) (by kernel_rfl) (by kernel_rfl) (fun _ _ _ h => h) (Or.inl ⟨by kernel_rfl, ?_⟩) hHeld ?_
        rotate_left
        · (intro w hSw; first | (go_simp; done) | (go_simp; with_reducible rfl))
        (try simp only [Act.put, List.getElem_toArray, List.getElem_cons_succ, List.getElem_cons_zero, List.setIfInBounds_toArray, List.set_cons_zero, List.set_cons_succ])
        refine wpAnyH_take (i := 9) (v := ?_) rfl (by kernel_rfl) (by kernel_rfl) (by kernel_rfl) (fun _ _ _ h => h) (Or.inl ⟨by kernel_rfl, ?_⟩) hHeld ?_
        rotate_left
        · (intro w hSw; first | (go_simp; done) | (go_simp; with_reducible rfl))
        (try simp only [Act.put, List.getElem_toArray, List.getElem_cons_succ, List.getElem_cons_zero, List.setIfInBounds_toArray, List.set_cons_zero, List.set_cons_succ])
        refine wpAnyH_take (i := 10) (v := ?_) rfl (by kernel_rfl) (by kernel_rfl) (by kernel_rfl) (fun _ _ _ h => h) (Or.inl ⟨by kernel_rfl, ?_⟩) hHeld ?_
        rotate_left
        · (intro w hSw; first | (go_simp; done) | (go_simp; with_reducible rfl))
        (try simp only [Act.put, List.getElem_toArray, List.getElem_cons_succ, List.getElem_cons_zero, List.setIfInBounds_toArray, List.set_cons_zero, List.set_cons_succ])
        refine wpAnyH_take (i := 11) (v := ?_) rfl (by kernel_rfl) (by kernel_rfl) (by kernel_rfl) (fun _ _ _ h => h) (Or.inl ⟨by kernel_rfl, ?_⟩) hHeld ?_
        rotate_left
        · (intro w hSw; first | (go_simp; done) | (go_simp; with_reducible rfl))
        (try simp only [Act.put, List.getElem_toArray, List.getElem_cons_succ, List.getElem_cons_zero, List.setIfInBounds_toArray, List.set_cons_zero, List.set_cons_succ])
        refine wpAnyH_take (i := 12) (v := ?_) rfl (by kernel_rfl) (by kernel_rfl) (by kernel_rfl) (fun _ _ _ h => h) (Or.inl ⟨by kernel_rfl, ?_⟩) hHeld ?_
        rotate_left
        · (intro w hSw; first | (go_simp; done) | (go_simp; with_reducible rfl))
        (try simp only [Act.put, List.getElem_toArray, List.getElem_cons_succ, List.getElem_cons_zero, List.setIfInBounds_toArray, List.set_cons_zero, List.set_cons_succ])
        refine wpAnyH_ready (rs := [13]) (by kernel_rfl) (by simp) (AllReadyH.cons rfl (fun K hK => ?_) AllReadyH.nil)
        have hH := hHeld
        (go_simp; go_at_call 32; refine (HHX.out _ hH.1).mono ?_; rintro e w9 ⟨rfl, hb9⟩)
        refine hK.out _ _ (by exact ⟨hH.1.trans (hb9.mono hH.1.size), cell_at hb9 hH.2.1 rfl, cell_at hb9 hH.2.2.1 rfl, cell_at hb9 hH.2.2.2.1 rfl, cell_at hb9 hH.2.2.2.2 rfl⟩) (fun hHq1 => ?_)
        clear hK K hH 
        (try simp only [Act.put, List.getElem_toArray, List.getElem_cons_succ, List.getElem_cons_zero, List.setIfInBounds_toArray, List.set_cons_zero, List.set_cons_succ])
        refine wpAnyH_done (by kernel_rfl) ?_ _
        have hEnd := hHq1
        have HE9 := Lib.hid hEnd.1
        clear hHeld hEnd hb9
        cases t with
        | true =>
          have hmem : u ∈ y2 := by have := HT.out; simpa using this
          have HTL : Hid (tm u ((chx C).take (k + 1)) = tm u ((chx C).take k) + 1) := Lib.hid (by rw [HTK.out, if_pos hmem])
          clear hmem
          have HLL : Hid (tm u ((chx C).take k) ≤ 4) := Lib.hid (by unfold tm; refine Nat.le_trans (List.length_filter_le _ _) ?_; rw [List.length_take]; omega)
          obtain ⟨tt, htt⟩ : ∃ tt, tm u ((chx C).take k) = tt := ⟨_, rfl⟩
          rw [htt] at HTL HLL ⊢
          have htt4 : (tt : Int) ≤ 4 := by have := HLL.out; omega
          clear htt
          go_wp2_with fail
          go_roundw
          case rel => exact ⟨k + 1, by omega, by go_num, by rw [HTL.out]; go_num, HE9⟩
          case measure => simp [intOf]; omega
        | false =>
          have hmem : u ∉ y2 := by have := HT.out; simpa using this
          have HTL : Hid (tm u ((chx C).take (k + 1)) = tm u ((chx C).take k)) := Lib.hid (by rw [HTK.out, if_neg hmem]; rfl)
          clear hmem
          go_wp2_with fail
          go_roundw
          case rel => exact ⟨k + 1, by omega, by go_num, by rw [HTL.out], HE9⟩
          case measure => simp [intOf]; omega
end Go.Proofs.Ytjpahookioenpaa
