/-
  The statement LayoutFollows: the walk of its Go text, by the contracts of what it calls.
-/
import Derived.Test.YtkdgoopldaoihaaGb20
import Derived.Test.YtkdgoopldaoihaaGb21
import Derived.Test.YtkdgoopldaoihaaGb22
import Derived.Test.YtkdgoopldaoihaaGb23
import Derived.Test.YtkdgoopldaoihaaGb2
import Derived.Test.YtkdgoopldaoihaaGb3
import Derived.Deep.Cut
import Derived.Deep.RegionHeld3
namespace Go.Proofs.Ytkdgoopldaoihaa
open Go.RowKit Go.Deep Go.Shelf
set_option linter.unusedVariables false
set_option linter.unusedSimpArgs false

/-- a layout, or none beside an error -/
def orNo (r : Int × Ly) : Ly := if r.1 = 0 then r.2 else noL
/-- what Next and Extend tell, in one form -/
structure RW (w : World) (r : Int × Ly) (w' : World) (T : LyT) : Prop where
  below : Below w.heap.size w w'
  x : T.x = orNo r
  inn : LyIn w' w'.heap.size T
  fit : SgFit T.sg
theorem R4.w {w w' : World} {r : Int × Ly} {e : Ending} (h : R4 w r e w') : ∃ T : LyT, e = .returned (.tuple #[T.val, .int .i64 r.1]) ∧ RW w r w' T := by
  obtain ⟨hb, ⟨h0, h1, T, he, h2, h3⟩ | ⟨h0, he⟩⟩ := h
  · refine ⟨T, by rw [he, h0], hb, by unfold orNo; rw [if_pos h0]; exact h2, h3, right_fit (by rw [h2]; exact h1)⟩
  · exact ⟨⟨0, none, 0, [], 0⟩, he, hb, by unfold orNo; rw [if_neg h0]; rfl, ⟨Ro.nil _ _ _, fun s hs => by cases hs⟩, ⟨by simp, fun s hs => by cases hs⟩⟩
set_option maxHeartbeats 16000000 in
set_option maxRecDepth 100000 in
theorem layoutFollows_any (w : World) {A : LyT} (hA : LyOk w A) {F : FoT} (hF : FoOk w F) :
    Calls Try.prog 4 #[A.val, F.val] w fun e w' => e = .returned (.bool true) ∧ Below w.heap.size w w' := by
  obtain ⟨fa1, fc1, dr, fa2, fc2, fr, sq, ff, fa3, fc3, M⟩ := F
  obtain ⟨W, HWW⟩ : ∃ W, Hid ((w.alloc (.cells #[.int .u64 (A.e : Int), .slice A.a A.sg.length A.c, .int .i64 A.q] 25)).alloc (.cells #[.slice fa1 dr.length fc1, .slice fa2 fr.length fc2, .int .i64 sq, .int .u64 (ff : Int), .slice fa3 M.length fc3] 43) = W) := ⟨_, Lib.hid rfl⟩
  have hWb : Below w.heap.size w W := by rw [← HWW.out]; exact ((Below.refl _ _).alloc (Nat.le_refl _) _).alloc (by simp) _
  have o1 : Own W w.heap.size 25 [.int .u64 (A.e : Int), .slice A.a A.sg.length A.c, .int .i64 A.q] := by rw [← HWW.out]; exact (Own.new w _ _).alloc _
  have o2 : Own W (w.heap.size + 1) 43 [.slice fa1 dr.length fc1, .slice fa2 fr.length fc2, .int .i64 sq, .int .u64 (ff : Int), .slice fa3 M.length fc3] := by
    rw [← HWW.out]
    have := Own.new (w.alloc (.cells #[.int .u64 (A.e : Int), .slice A.a A.sg.length A.c, .int .i64 A.q] 25)) 43 [.slice fa1 dr.length fc1, .slice fa2 fr.length fc2, .int .i64 sq, .int .u64 (ff : Int), .slice fa3 M.length fc3]
    simpa using this
  have HAL := Lib.hid alive9_any
  have hup := fun (W' : World) (hb : Below W.heap.size W W') => hWb.trans (hb.mono hWb.size)
  have hLA := fun (W' : World) (hb : Below W.heap.size W W') => (hA.inn.below (hup W' hb) (Nat.le_refl _))
  have hsz := fun (W' : World) (hb : Below W.heap.size W W') => Nat.le_trans hWb.size hb.size
  have HF1 := Lib.hid (fun (W' : World) (hb : Below W.heap.size W W') => fitsL_any A w.heap.size W' (hLA W' hb) (hsz W' hb) hA.fit)
  have HF2 := Lib.hid (fun (W' : World) (hb : Below W.heap.size W W') => fitsF_any fa1 dr.length fc1 fa2 fr.length fc2 sq ff fa3 M fc3 w.heap.size W' (hF.ch.below (hup W' hb) (Nat.le_refl _)) (hsz W' hb) hF.chf.1)
  have HE1 := Lib.hid (fun (W' : World) (hb : Below W.heap.size W W') => lenc_w A w.heap.size W' (hLA W' hb) (hsz W' hb) hA.fit)
  have HX1 := Lib.hid (fun (W' : World) (hb : Below W.heap.size W W') (hd : dr.length ≤ 200) => next_any A w.heap.size dr fr fa1 fa2 fc1 fc2 sq W' (hLA W' hb) (hsz W' hb) hA.fit (hF.dr.below (hup W' hb) (Nat.le_refl _)) (by omega) (hF.fr.below (hup W' hb) (Nat.le_refl _)) hF.fc.1 hF.fc.2.1 hF.fc.2.2)
  have HX2 := Lib.hid (fun (W' : World) (hb : Below W.heap.size W W') (hd : dr.length ≤ 200) (hf : fr.length ≤ 200) => dnext_any A w.heap.size dr fr fa1 fa2 fc1 fc2 sq W' (hLA W' hb) (hsz W' hb) hA.fit (hF.dr.below (hup W' hb) (Nat.le_refl _)) (by omega) (hF.fr.below (hup W' hb) (Nat.le_refl _)) (by omega))
  have HY1 := Lib.hid (fun (W' : World) (hb : Below W.heap.size W W') => extend_any A w.heap.size ff M fa3 fc3 W' (hLA W' hb) (hsz W' hb) hA.fit (hF.ch.below (hup W' hb) (Nat.le_refl _)) (hF.chi.below (hup W' hb) (Nat.le_refl _)) hF.chf hF.f)
  have HY2 := Lib.hid (fun (W' : World) (hb : Below W.heap.size W W') => dextend_any A w.heap.size ff M fa3 fc3 W' (hLA W' hb) (hsz W' hb) hA.fit (hF.ch.below (hup W' hb) (Nat.le_refl _)) (hF.chi.below (hup W' hb) (Nat.le_refl _)) hF.chf hF.f)
  have HEND : Hid (∀ W', Below W.heap.size W W' → Below w.heap.size w W') := Lib.hid (fun W' h => hup W' h)
  have HLB := Lib.hid (fun (p q : List UInt8) (h1 : LB A.x p) (h2 : LB A.x q) => h1.unique h2)
  clear hWb hA hF hLA hsz hup
  generalize nextOf A.x dr fr sq = r1 at *
  generalize extOf A.x ff (chx M) = r2 at *
  generalize lcode A.x = lc at *
  obtain ⟨X, hX⟩ : ∃ X, A.x = X := ⟨_, rfl⟩
  rw [hX] at HE1 HLB
  obtain ⟨ep, sa, c, L, q⟩ := A
  clear hX
  simp only [LyT.val, FoT.val, folV] at *
  generalize L.length = n at *
  generalize M.length = mn at *
  generalize dr.length = nd at *
  generalize fr.length = nf at *
  have k0 := o1.cell 0
  have k1 := o1.cell 1
  have k2 := o1.cell 2
  have m0 := o2.cell 0
  have m1 := o2.cell 1
  have m2 := o2.cell 2
  have m3 := o2.cell 3
  have m4 := o2.cell 4
  have hz0 := o1.lt
  have hz1 := o2.lt
  simp at k0 k1 k2 m0 m1 m2 m3 m4
  have HKA : Hid (∀ W', Below W.heap.size W W' → W'.cell? ⟨w.heap.size, 0, none⟩ = some (.int .u64 (ep : Int)) ∧ W'.cell? ⟨w.heap.size, 1, none⟩ = some (.slice sa n c) ∧ W'.cell? ⟨w.heap.size, 2, none⟩ = some (.int .i64 q) ∧ W'.cell? ⟨w.heap.size + 1, 0, none⟩ = some (.slice fa1 nd fc1) ∧ W'.cell? ⟨w.heap.size + 1, 1, none⟩ = some (.slice fa2 nf fc2) ∧ W'.cell? ⟨w.heap.size + 1, 2, none⟩ = some (.int .i64 sq) ∧ W'.cell? ⟨w.heap.size + 1, 3, none⟩ = some (.int .u64 (ff : Int)) ∧ W'.cell? ⟨w.heap.size + 1, 4, none⟩ = some (.slice fa3 mn fc3)) := Lib.hid (fun W' h => ⟨cell_at h k0 rfl, cell_at h k1 rfl, cell_at h k2 rfl, cell_at h m0 rfl, cell_at h m1 rfl, cell_at h m2 rfl, cell_at h m3 rfl, cell_at h m4 rfl⟩)
  clear o1 o2 m0 m1 m2 m3 m4 hz1
  go_enter Try.func4, Try.ntmps4
  go_upto_region 1 with fail
  rw [HWW.out]
  go_wp2_with fail
  refine (HF1.out W (Below.refl _ _)).mono ?_
  rintro e w1 ⟨⟨t1, rfl⟩, hb1⟩
  have HB1 := Lib.hid hb1
  clear hb1 k0 k1 k2 hz0
  obtain ⟨k0, k1, k2, m0, m1, m2, m3, m4⟩ := HKA.out w1 HB1.out
  go_wp2_with fail
  refine (HF2.out w1 HB1.out).mono ?_
  rintro e w2 ⟨⟨t2, rfl, ht2⟩, hb2⟩
  have HB2 := Lib.hid (HB1.out.trans (hb2.mono HB1.out.size))
  have HT2 := Lib.hid ht2
  clear hb2 ht2 k0 k1 k2 m0 m1 m2 m3 m4
  have hcase : t1 = false ∨ (t1 = true ∧ t2 = false) ∨ (t1 = true ∧ t2 = true) := by cases t1 <;> cases t2 <;> simp
  rcases hcase with rfl | ⟨rfl, rfl⟩ | ⟨rfl, rfl⟩
  · go_wp2_with fail
    refine (HAL.out w2).mono ?_
    rintro e w3 ⟨rfl, hb3⟩
    have HE := Lib.hid (HEND.out _ (HB2.out.trans (hb3.mono HB2.out.size)))
    clear hb3
    go_wp2_with fail
    go_ret
    exact ⟨rfl, HE.out⟩
  · go_wp2_with fail
    refine (HAL.out w2).mono ?_
    rintro e w3 ⟨rfl, hb3⟩
    have HE := Lib.hid (HEND.out _ (HB2.out.trans (hb3.mono HB2.out.size)))
    clear hb3
    go_wp2_with fail
    go_ret
    exact ⟨rfl, HE.out⟩
  have HDF := Lib.hid (HT2.out rfl)
  obtain ⟨k0, k1, k2, m0, m1, m2, m3, m4⟩ := HKA.out w2 HB2.out
  go_wp2_with fail
  refine (HE1.out w2 HB2.out).mono ?_
  rintro e w3 ⟨sxa, sxc, xs, rfl, hlb, hro, hb3⟩
  have HB3 := Lib.hid (HB2.out.trans (hb3.mono HB2.out.size))
  have HX := Lib.hid (fun V (hV : Below w3.heap.size w3 V) => hro.below hV (Nat.le_refl _))
  have HXB := Lib.hid hlb
  have HR3 := Lib.hid (Below.refl w3.heap.size w3)
  clear hlb hro hb3 k0 k1 k2 m0 m1 m2 m3 m4
  obtain ⟨nx, hnx⟩ : ∃ nx, xs.length = nx := ⟨_, rfl⟩
  rw [hnx]
  have HNX := Lib.hid hnx
  clear hnx
  obtain ⟨k0, k1, k2, m0, m1, m2, m3, m4⟩ := HKA.out w3 HB3.out
  go_wp2_with fail
  refine (HX1.out w3 HB3.out HDF.out.1).mono ?_
  intro e w4 hd
  obtain ⟨T, rfl, hD⟩ := hd.w
  have HBw4 := Lib.hid (HB3.out.trans (hD.below.mono HB3.out.size))
  have HRw4 := Lib.hid (HR3.out.trans (hD.below.mono HR3.out.size))
  have HFIx := Lib.hid hD.fit
  have HXXx := Lib.hid hD.x
  have HINx := Lib.hid hD.inn
  clear hd hD k0 k1 k2 m0 m1 m2 m3 m4
  obtain ⟨xe, xa, xc, xL, xq⟩ := T
  simp only [LyT.val]
  obtain ⟨xn, hxn⟩ : ∃ tn, xL.length = tn := ⟨_, rfl⟩
  have HNx := Lib.hid hxn
  rw [hxn]
  clear hxn
  go_upto_region 7 with fail
  obtain ⟨px, hp⟩ : ∃ p, w4.heap.size = p := ⟨_, rfl⟩
  obtain ⟨W4, hW⟩ : ∃ W4, w4.alloc (.cells #[.int .u64 (xe : Int), .slice xa xn xc, .int .i64 xq] 25) = W4 := ⟨_, rfl⟩
  have kA : Below w4.heap.size w4 W4 := by rw [← hW]; exact (Below.refl _ _).alloc (Nat.le_refl _) _
  have HBW4 := Lib.hid (HBw4.out.trans (kA.mono HBw4.out.size))
  have HRW4 := Lib.hid (HRw4.out.trans (kA.mono HRw4.out.size))
  have HOxW4 : Hid (Own W4 px 25 [.int .u64 (xe : Int), .slice xa xn xc, .int .i64 xq]) := Lib.hid (by rw [← hW, ← hp]; exact Own.new w4 _ _)
  have HIxW4 : Hid (LyIn W4 W4.heap.size ⟨xe, xa, xc, xL, xq⟩) := Lib.hid (HINx.out.below kA (Nat.le_refl _) |>.mono kA.size)
  rw [hW, hp]
  clear hW hp kA
  obtain ⟨k0, k1, k2, m0, m1, m2, m3, m4⟩ := HKA.out W4 HBW4.out
  go_wp2_with fail
  refine (HX2.out W4 HBW4.out HDF.out.1 HDF.out.2).mono ?_
  intro e w6 hd
  obtain ⟨T, rfl, hD⟩ := hd.w
  have HBw6 := Lib.hid (HBW4.out.trans (hD.below.mono HBW4.out.size))
  have HRw6 := Lib.hid (HRW4.out.trans (hD.below.mono HRW4.out.size))
  have HOxw6 := Lib.hid (HOxW4.out.below hD.below HOxW4.out.lt)
  have HIxw6 := Lib.hid (HIxW4.out.below hD.below (Nat.le_refl _) |>.mono hD.below.size)
  have HFIy := Lib.hid hD.fit
  have HXXy := Lib.hid hD.x
  have HINy := Lib.hid hD.inn
  clear hd hD k0 k1 k2 m0 m1 m2 m3 m4
  obtain ⟨ye, ya, yc, yL, yq⟩ := T
  simp only [LyT.val]
  obtain ⟨yn, hyn⟩ : ∃ tn, yL.length = tn := ⟨_, rfl⟩
  have HNy := Lib.hid hyn
  rw [hyn]
  clear hyn
  go_upto_region 8 with fail
  obtain ⟨py, hp⟩ : ∃ p, w6.heap.size = p := ⟨_, rfl⟩
  obtain ⟨W6, hW⟩ : ∃ W4, w6.alloc (.cells #[.int .u64 (ye : Int), .slice ya yn yc, .int .i64 yq] 25) = W4 := ⟨_, rfl⟩
  have kA : Below w6.heap.size w6 W6 := by rw [← hW]; exact (Below.refl _ _).alloc (Nat.le_refl _) _
  have HBW6 := Lib.hid (HBw6.out.trans (kA.mono HBw6.out.size))
  have HRW6 := Lib.hid (HRw6.out.trans (kA.mono HRw6.out.size))
  have HOxW6 := Lib.hid (HOxw6.out.below kA HOxw6.out.lt)
  have HIxW6 := Lib.hid (HIxw6.out.below kA (Nat.le_refl _) |>.mono kA.size)
  have HOyW6 : Hid (Own W6 py 25 [.int .u64 (ye : Int), .slice ya yn yc, .int .i64 yq]) := Lib.hid (by rw [← hW, ← hp]; exact Own.new w6 _ _)
  have HIyW6 : Hid (LyIn W6 W6.heap.size ⟨ye, ya, yc, yL, yq⟩) := Lib.hid (HINy.out.below kA (Nat.le_refl _) |>.mono kA.size)
  rw [hW, hp]
  clear hW hp kA
  obtain ⟨k0, k1, k2, m0, m1, m2, m3, m4⟩ := HKA.out W6 HBW6.out
  go_wp2_with fail
  refine (HY1.out W6 HBW6.out).mono ?_
  intro e w8 hd
  obtain ⟨T, rfl, hD⟩ := hd.w
  have HBw8 := Lib.hid (HBW6.out.trans (hD.below.mono HBW6.out.size))
  have HRw8 := Lib.hid (HRW6.out.trans (hD.below.mono HRW6.out.size))
  have HOxw8 := Lib.hid (HOxW6.out.below hD.below HOxW6.out.lt)
  have HIxw8 := Lib.hid (HIxW6.out.below hD.below (Nat.le_refl _) |>.mono hD.below.size)
  have HOyw8 := Lib.hid (HOyW6.out.below hD.below HOyW6.out.lt)
  have HIyw8 := Lib.hid (HIyW6.out.below hD.below (Nat.le_refl _) |>.mono hD.below.size)
  have HFIz := Lib.hid hD.fit
  have HXXz := Lib.hid hD.x
  have HINz := Lib.hid hD.inn
  clear hd hD k0 k1 k2 m0 m1 m2 m3 m4
  obtain ⟨ze, za, zc, zL, zq⟩ := T
  simp only [LyT.val]
  obtain ⟨zn, hzn⟩ : ∃ tn, zL.length = tn := ⟨_, rfl⟩
  have HNz := Lib.hid hzn
  rw [hzn]
  clear hzn
  go_upto_region 9 with fail
  obtain ⟨pz, hp⟩ : ∃ p, w8.heap.size = p := ⟨_, rfl⟩
  obtain ⟨W8, hW⟩ : ∃ W4, w8.alloc (.cells #[.int .u64 (ze : Int), .slice za zn zc, .int .i64 zq] 25) = W4 := ⟨_, rfl⟩
  have kA : Below w8.heap.size w8 W8 := by rw [← hW]; exact (Below.refl _ _).alloc (Nat.le_refl _) _
  have HBW8 := Lib.hid (HBw8.out.trans (kA.mono HBw8.out.size))
  have HRW8 := Lib.hid (HRw8.out.trans (kA.mono HRw8.out.size))
  have HOxW8 := Lib.hid (HOxw8.out.below kA HOxw8.out.lt)
  have HIxW8 := Lib.hid (HIxw8.out.below kA (Nat.le_refl _) |>.mono kA.size)
  have HOyW8 := Lib.hid (HOyw8.out.below kA HOyw8.out.lt)
  have HIyW8 := Lib.hid (HIyw8.out.below kA (Nat.le_refl _) |>.mono kA.size)
  have HOzW8 : Hid (Own W8 pz 25 [.int .u64 (ze : Int), .slice za zn zc, .int .i64 zq]) := Lib.hid (by rw [← hW, ← hp]; exact Own.new w8 _ _)
  have HIzW8 : Hid (LyIn W8 W8.heap.size ⟨ze, za, zc, zL, zq⟩) := Lib.hid (HINz.out.below kA (Nat.le_refl _) |>.mono kA.size)
  rw [hW, hp]
  clear hW hp kA
  obtain ⟨k0, k1, k2, m0, m1, m2, m3, m4⟩ := HKA.out W8 HBW8.out
  go_wp2_with fail
  refine (HY2.out W8 HBW8.out).mono ?_
  intro e w10 hd
  obtain ⟨T, rfl, hD⟩ := hd.w
  have HBw10 := Lib.hid (HBW8.out.trans (hD.below.mono HBW8.out.size))
  have HRw10 := Lib.hid (HRW8.out.trans (hD.below.mono HRW8.out.size))
  have HOxw10 := Lib.hid (HOxW8.out.below hD.below HOxW8.out.lt)
  have HIxw10 := Lib.hid (HIxW8.out.below hD.below (Nat.le_refl _) |>.mono hD.below.size)
  have HOyw10 := Lib.hid (HOyW8.out.below hD.below HOyW8.out.lt)
  have HIyw10 := Lib.hid (HIyW8.out.below hD.below (Nat.le_refl _) |>.mono hD.below.size)
  have HOzw10 := Lib.hid (HOzW8.out.below hD.below HOzW8.out.lt)
  have HIzw10 := Lib.hid (HIzW8.out.below hD.below (Nat.le_refl _) |>.mono hD.below.size)
  have HFIu := Lib.hid hD.fit
  have HXXu := Lib.hid hD.x
  have HINu := Lib.hid hD.inn
  clear hd hD k0 k1 k2 m0 m1 m2 m3 m4
  obtain ⟨ue, ua, uc, uL, uq⟩ := T
  simp only [LyT.val]
  obtain ⟨un, hun⟩ : ∃ tn, uL.length = tn := ⟨_, rfl⟩
  have HNu := Lib.hid hun
  rw [hun]
  clear hun
  go_upto_region 10 with fail
  obtain ⟨pu, hp⟩ : ∃ p, w10.heap.size = p := ⟨_, rfl⟩
  obtain ⟨W10, hW⟩ : ∃ W4, w10.alloc (.cells #[.int .u64 (ue : Int), .slice ua un uc, .int .i64 uq] 25) = W4 := ⟨_, rfl⟩
  have kA : Below w10.heap.size w10 W10 := by rw [← hW]; exact (Below.refl _ _).alloc (Nat.le_refl _) _
  have HBW10 := Lib.hid (HBw10.out.trans (kA.mono HBw10.out.size))
  have HRW10 := Lib.hid (HRw10.out.trans (kA.mono HRw10.out.size))
  have HOxW10 := Lib.hid (HOxw10.out.below kA HOxw10.out.lt)
  have HIxW10 := Lib.hid (HIxw10.out.below kA (Nat.le_refl _) |>.mono kA.size)
  have HOyW10 := Lib.hid (HOyw10.out.below kA HOyw10.out.lt)
  have HIyW10 := Lib.hid (HIyw10.out.below kA (Nat.le_refl _) |>.mono kA.size)
  have HOzW10 := Lib.hid (HOzw10.out.below kA HOzw10.out.lt)
  have HIzW10 := Lib.hid (HIzw10.out.below kA (Nat.le_refl _) |>.mono kA.size)
  have HOuW10 : Hid (Own W10 pu 25 [.int .u64 (ue : Int), .slice ua un uc, .int .i64 uq]) := Lib.hid (by rw [← hW, ← hp]; exact Own.new w10 _ _)
  have HIuW10 : Hid (LyIn W10 W10.heap.size ⟨ue, ua, uc, uL, uq⟩) := Lib.hid (HINu.out.below kA (Nat.le_refl _) |>.mono kA.size)
  rw [hW, hp]
  clear hW hp kA
  obtain ⟨k0, k1, k2, m0, m1, m2, m3, m4⟩ := HKA.out W10 HBW10.out
  clear k0 k1 k2 m0 m1 m2 m3 m4
  have HS1 := Lib.hid (rlsame_any ⟨xe, xa, xc, xL, xq⟩ ⟨ye, ya, yc, yL, yq⟩ W10.heap.size W10 HIxW10.out HIyW10.out HFIx.out HFIy.out (Nat.le_refl _))
  rw [HXXx.out, HXXy.out, show lalike (orNo r1) (orNo r1) = true from lalike_iff.2 rfl] at HS1
  simp only [LyT.val, HNx.out, HNy.out] at HS1
  have z0 := HOxW10.out.cell 0
  have z1 := HOxW10.out.cell 1
  have z2 := HOxW10.out.cell 2
  have z3 := HOyW10.out.cell 0
  have z4 := HOyW10.out.cell 1
  have z5 := HOyW10.out.cell 2
  have hz1 := HOxW10.out.lt
  have hz2 := HOyW10.out.lt
  simp at z0 z1 z2 z3 z4 z5
  go_wp2_with fail
  refine HS1.out.mono ?_
  rintro e v1 ⟨rfl, hb⟩
  clear z0 z1 z2 z3 z4 z5 hz1 hz2
  have HV1 := Lib.hid (HBW10.out.trans (hb.mono HBW10.out.size))
  have HRV1 := Lib.hid (HRW10.out.trans (hb.mono HRW10.out.size))
  have HOz1 := Lib.hid (HOzW10.out.below hb HOzW10.out.lt)
  have HOu1 := Lib.hid (HOuW10.out.below hb HOuW10.out.lt)
  have HS2 := Lib.hid (rlsame_any ⟨ze, za, zc, zL, zq⟩ ⟨ue, ua, uc, uL, uq⟩ W10.heap.size v1 (HIzW10.out.below hb (Nat.le_refl _)) (HIuW10.out.below hb (Nat.le_refl _)) HFIz.out HFIu.out hb.size)
  rw [HXXz.out, HXXu.out, show lalike (orNo r2) (orNo r2) = true from lalike_iff.2 rfl] at HS2
  simp only [LyT.val, HNz.out, HNu.out] at HS2
  have z0 := HOz1.out.cell 0
  have z1 := HOz1.out.cell 1
  have z2 := HOz1.out.cell 2
  have z3 := HOu1.out.cell 0
  have z4 := HOu1.out.cell 1
  have z5 := HOu1.out.cell 2
  have hz1 := HOz1.out.lt
  have hz2 := HOu1.out.lt
  simp at z0 z1 z2 z3 z4 z5
  clear hb
  go_wp2_with fail
  refine HS2.out.mono ?_
  rintro e v2 ⟨rfl, hb⟩
  have HV2 := Lib.hid (HV1.out.trans (hb.mono HV1.out.size))
  have HRV2 := Lib.hid (HRV1.out.trans (hb.mono HRV1.out.size))
  clear hb z0 z1 z2 z3 z4 z5 hz1 hz2
  obtain ⟨k0, k1, k2, m0, m1, m2, m3, m4⟩ := HKA.out v2 HV2.out
  go_wp2_with fail
  refine (HE1.out v2 HV2.out).mono ?_
  rintro e v3 ⟨sya, syc, ys, rfl, hlb, hro, hb3⟩
  obtain rfl := HLB.out _ _ HXB.out hlb
  have HV3 := Lib.hid (HV2.out.trans (hb3.mono HV2.out.size))
  have HR9 := Lib.hid (HRV2.out.trans (hb3.mono HRV2.out.size))
  have HYR := Lib.hid hro
  rw [HNX.out]
  clear hlb hro hb3 k0 k1 k2 m0 m1 m2 m3 m4
  go_wp2_with fail
  refine (HAL.out v3).mono ?_
  rintro e v4 ⟨rfl, hb4⟩
  have HE := Lib.hid (HEND.out _ (HV3.out.trans (hb4.mono HV3.out.size)))
  have c1 := conv_ro (c := sxc) (HX.out v4 (HR9.out.trans (hb4.mono HR9.out.size))) HNX.out
  have c2 := conv_ro (c := syc) (HYR.out.below hb4 (Nat.le_refl _)) HNX.out
  have q1 : ((r1.1 : Int) == r1.1) = true := by simp
  have q2 : ((r2.1 : Int) == r2.1) = true := by simp
  have q3 : ((lc : Int) == lc) = true := by simp
  clear hb4
  go_wp2_with fail
  go_ret
  exact ⟨rfl, HE.out⟩
end Go.Proofs.Ytkdgoopldaoihaa
