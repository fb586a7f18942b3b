/-
  The statement LayoutBack: the walk of its Go text, by the contracts of what it calls.
-/
import Derived.Test.YtdpaofedepnnbaaLd
import Derived.Test.YtdpaofedepnnbaaLq
import Derived.Test.YtdpaofedepnnbaaLyG
import Derived.Test.YtdpaofedepnnbaaLyH
import Derived.Test.YtdpaofedepnnbaaLyW
import Derived.Test.YtdpaofedepnnbaaAlv9
import Derived.Test.YtdpaofedepnnbaaOp9
import Derived.Test.YtdpaofedepnnbaaArgs
import Derived.Deep.Cut
import Derived.Deep.RegionHeld3
namespace Go.Proofs.Ytdpaofedepnnbaa
open Go.RowKit Go.Deep Go.Shelf
set_option linter.unusedVariables false
set_option linter.unusedSimpArgs false

theorem le_less {x : Ly} {cs : List UInt8} (hr : lright x = true) (he : IsLE x cs) {q : Nat} (hq : cs.length = q + 1) : ∀ y, lright y = true → ¬ IsLE y (cs.take q) := fun y hy hey => by
  have h1 := pLy_enc hy hey (cs.drop q)
  rw [List.take_append_drop, pLy_enc' hr he] at h1
  subst h1
  have := congrArg List.length (he.unique hey)
  rw [List.length_take, hq] at this
  omega
theorem le_more {x : Ly} {cs : List UInt8} (hr : lright x = true) (he : IsLE x cs) (t : List UInt8) (ht : 0 < t.length) : ∀ y, lright y = true → ¬ IsLE y (cs ++ t) := fun y hy hey => by
  have h1 := pLy_enc hr he t
  rw [pLy_enc' hy hey] at h1
  subst h1
  have := congrArg List.length (he.unique hey)
  rw [List.length_append] at this
  omega
/-- what Decode tells, in one form -/
structure DU (w : World) (bs : List UInt8) (w' : World) (ok : Bool) (g : Int) (T : LyT) : Prop where
  below : Below w.heap.size w w'
  code : (g == 0) = ok
  yes : ok = true → lright (pLy bs) = true ∧ IsLE (pLy bs) bs ∧ T.x = pLy bs
  no : ok = false → g = 91 ∧ ∀ x, lright x = true → ¬ IsLE x bs
  inn : LyIn w' w'.heap.size T
  fit : SgFit T.sg
theorem DL.u {w w' : World} {bs : List UInt8} {e : Ending} (h : DL w bs e w') : ∃ ok g T, e = .returned (.tuple #[T.val, .int .i64 g]) ∧ DU w bs w' ok g T := by
  obtain ⟨hb, ⟨T, he, h1, h2, h3, h4, h5⟩ | ⟨he, h1⟩⟩ := h
  · exact ⟨true, 0, T, he, hb, by decide, fun _ => ⟨h1, h2, h3⟩, (fun h => by cases h), h4, h5⟩
  · refine ⟨false, 91, ⟨0, none, 0, [], 0⟩, he, hb, by decide, (fun h => by cases h), fun _ => ⟨rfl, h1⟩, ⟨Ro.nil _ _ _, fun s hs => by cases hs⟩, ⟨by simp, fun s hs => by cases hs⟩⟩
/-- what Encode tells, in one form -/
structure EU (w : World) (x : Ly) (w' : World) (ok : Bool) (g : Int) (a : Option Addr) (cs : List UInt8) : Prop where
  below : Below w.heap.size w w'
  code : (g != 0) = !ok
  yes : ok = true → lright x = true ∧ IsLE x cs
  no : ok = false → g = 91 ∧ lright x = false ∧ cs = []
  ro : Ro w' w'.heap.size a (u8s cs)
  nn : ok = true → a ≠ none
theorem lenc_u (A : LyT) (B : Nat) (w : World) (h : LyIn w B A) (hB : B ≤ w.heap.size) (hf : SgFit A.sg) :
    Calls Try.prog 11 #[A.val] w fun e w' => ∃ ok g a cs, e = .returned (.tuple #[.slice a cs.length cs.length, .int .i64 g]) ∧ EU w A.x w' ok g a cs := by
  cases hr : lright A.x with
  | false =>
    refine (lenc_no A B w h hB hf hr).mono ?_
    rintro e w' ⟨rfl, hb⟩
    exact ⟨false, 91, none, [], rfl, hb, by decide, (fun h => by cases h), fun _ => ⟨rfl, hr, rfl⟩, Ro.nil _ _ _, fun h => by cases h⟩
  | true =>
    refine (lenc_yes A B w h hB hf hr).mono ?_
    rintro e w' ⟨g, cs, rfl, _, he, ho, hb⟩
    exact ⟨true, 0, _, cs, rfl, hb, by decide, fun _ => ⟨hr, he⟩, (fun h => by cases h), ho.ro _ ho.lt, fun _ h => by cases h⟩

set_option maxHeartbeats 8000000 in
set_option maxRecDepth 100000 in
theorem layoutBack_any (w : World) {A C : LyT} (hA : LyOk w A) (hC : LyOk w C) {ab : Option Addr} {nb cb : Nat} {zs : List Int} (hrow : IsRow .u8 w ab nb cb zs) :
    Calls Try.prog 5 #[A.val, C.val, .slice ab nb cb] w fun e w' => e = .returned (.bool true) ∧ Below w.heap.size w w' := by
  obtain ⟨bs, hbl, hbc, _, hbr⟩ := hrow.u8s
  have hnb := hrow.len_le
  clear hrow
  obtain ⟨W, HWW⟩ : ∃ W, Hid ((w.alloc (.cells #[.int .u64 (A.e : Int), .slice A.a A.sg.length A.c, .int .i64 A.q] 25)).alloc (.cells #[.int .u64 (C.e : Int), .slice C.a C.sg.length C.c, .int .i64 C.q] 25) = W) := ⟨_, Lib.hid rfl⟩
  have hWb : Below w.heap.size w W := by rw [← HWW.out]; exact ((Below.refl _ _).alloc (Nat.le_refl _) _).alloc (by simp) _
  have o1 : Own W w.heap.size 25 [.int .u64 (A.e : Int), .slice A.a A.sg.length A.c, .int .i64 A.q] := by rw [← HWW.out]; exact (Own.new w _ _).alloc _
  have o2 : Own W (w.heap.size + 1) 25 [.int .u64 (C.e : Int), .slice C.a C.sg.length C.c, .int .i64 C.q] := by
    rw [← HWW.out]
    have := Own.new (w.alloc (.cells #[.int .u64 (A.e : Int), .slice A.a A.sg.length A.c, .int .i64 A.q] 25)) 25 [.int .u64 (C.e : Int), .slice C.a C.sg.length C.c, .int .i64 C.q]
    simpa using this
  have HWB := Lib.hid hWb
  have HO1 := Lib.hid o1
  have HO2 := Lib.hid o2
  have HAL := Lib.hid alive9_any
  have HLA := Lib.hid (fun (W' : World) (hb : Below W.heap.size W W') => (hA.inn.below (hWb.trans (hb.mono hWb.size)) (Nat.le_refl _)))
  have HLC := Lib.hid (fun (W' : World) (hb : Below W.heap.size W W') => (hC.inn.below (hWb.trans (hb.mono hWb.size)) (Nat.le_refl _)))
  have HF1 := Lib.hid (fun (W' : World) (hb : Below W.heap.size W W') => fitsL_any A w.heap.size W' (HLA.out W' hb) (Nat.le_trans hWb.size hb.size) hA.fit)
  have HF2 := Lib.hid (fun (W' : World) (hb : Below W.heap.size W W') => fitsL_any C w.heap.size W' (HLC.out W' hb) (Nat.le_trans hWb.size hb.size) hC.fit)
  have HEA := Lib.hid (fun (W' : World) (hb : Below W.heap.size W W') => lenc_u A w.heap.size W' (HLA.out W' hb) (Nat.le_trans hWb.size hb.size) hA.fit)
  have HEC := Lib.hid (fun (W' : World) (hb : Below W.heap.size W W') => lenc_u C w.heap.size W' (HLC.out W' hb) (Nat.le_trans hWb.size hb.size) hC.fit)
  have HRA := Lib.hid (fun (W' : World) (hb : Below W.heap.size W W') => lright_any A w.heap.size W' (HLA.out W' hb) (Nat.le_trans hWb.size hb.size) hA.fit)
  have HUA := Lib.hid (fun (W' : World) (hb : Below W.heap.size W W') => units_any A w.heap.size W' (HLA.out W' hb) (Nat.le_trans hWb.size hb.size) hA.fit)
  have HSM := Lib.hid (fun (W' : World) (hb : Below W.heap.size W W') => lsame_any A C w.heap.size W' (HLA.out W' hb) (HLC.out W' hb) hA.fit hC.fit (Nat.le_trans hWb.size hb.size))
  have HSA := Lib.hid (fun (W' : World) (hb : Below W.heap.size W W') (T : LyT) (hT : LyIn W' W'.heap.size T) (hf : SgFit T.sg) => lsame_any T A W'.heap.size W' hT ((HLA.out W' hb).mono (Nat.le_trans hWb.size hb.size)) hf hA.fit (Nat.le_refl _))
  have HDB := Lib.hid (fun (W' : World) (hb : Below W.heap.size W W') (hl : nb ≤ 1000000) => ldec_any bs nb ab cb w.heap.size W' hbl (hbr.below (hWb.trans (hb.mono hWb.size)) (Nat.le_refl _)) (Nat.le_trans hWb.size hb.size) hl)
  have HBR := Lib.hid (fun (W' : World) (hb : Below W.heap.size W W') => hbr.below (hWb.trans (hb.mono hWb.size)) (Nat.le_refl _))
  have HBL := Lib.hid hbl
  have HEND : Hid (∀ W', Below W.heap.size W W' → Below w.heap.size w W') := Lib.hid (fun W' h => hWb.trans (h.mono hWb.size))
  clear hWb o1 o2 hA hC hbr hbl hbc
  obtain ⟨X, HX⟩ : ∃ X, Hid (A.x = X) := ⟨_, Lib.hid rfl⟩
  obtain ⟨Y, HY⟩ : ∃ X, Hid (C.x = X) := ⟨_, Lib.hid rfl⟩
  rw [HX.out] at HEA HRA HUA HSM HSA
  rw [HY.out] at HEC HSM
  obtain ⟨ep, sa, c, L, q⟩ := A
  obtain ⟨ep2, sa2, c2, L2, q2⟩ := C
  simp only [LyT.val] at *
  generalize L.length = n at *
  generalize L2.length = n2 at *
  go_enter Try.func5, Try.ntmps5
  go_upto_region 1 with fail
  rw [HWW.out]
  have hz0 := HO1.out.lt
  have hz1 := HO2.out.lt
  have k0 := HO1.out.cell 0
  have k1 := HO1.out.cell 1
  have k2 := HO1.out.cell 2
  have m0 := HO2.out.cell 0
  have m1 := HO2.out.cell 1
  have m2 := HO2.out.cell 2
  simp at k0 k1 k2 m0 m1 m2
  have HKA : Hid (∀ W', Below W.heap.size W W' → W'.cell? ⟨w.heap.size, 0, none⟩ = some (.int .u64 (ep : Int)) ∧ W'.cell? ⟨w.heap.size, 1, none⟩ = some (.slice sa n c) ∧ W'.cell? ⟨w.heap.size, 2, none⟩ = some (.int .i64 q)) := Lib.hid (fun W' h => ⟨cell_at h k0 rfl, cell_at h k1 rfl, cell_at h k2 rfl⟩)
  have HKC : Hid (∀ W', Below W.heap.size W W' → W'.cell? ⟨w.heap.size + 1, 0, none⟩ = some (.int .u64 (ep2 : Int)) ∧ W'.cell? ⟨w.heap.size + 1, 1, none⟩ = some (.slice sa2 n2 c2) ∧ W'.cell? ⟨w.heap.size + 1, 2, none⟩ = some (.int .i64 q2)) := Lib.hid (fun W' h => ⟨cell_at h m0 rfl, cell_at h m1 rfl, cell_at h m2 rfl⟩)
  clear m0 m1 m2
  go_wp2_with fail
  refine (HF1.out W (Below.refl _ _)).mono ?_
  rintro e w1 ⟨⟨t1, rfl⟩, hb1⟩
  have HB1 := Lib.hid hb1
  clear hb1 k0 k1 k2
  obtain ⟨m0, m1, m2⟩ := HKC.out w1 HB1.out
  go_wp2_with fail
  refine (HF2.out w1 HB1.out).mono ?_
  rintro e w2 ⟨⟨t2, rfl⟩, hb2⟩
  have HB2 := Lib.hid (HB1.out.trans (hb2.mono HB1.out.size))
  clear hb2 m0 m1 m2
  cases t1 with
  | false =>
    go_wp2_with fail
    refine (HAL.out w2).mono ?_
    rintro e w3 ⟨rfl, hb3⟩
    have HE := Lib.hid (HEND.out _ (HB2.out.trans (hb3.mono HB2.out.size)))
    clear hb3
    go_wp2_with fail
    go_ret
    exact ⟨rfl, HE.out⟩
  | true =>
  cases t2 with
  | false =>
    go_wp2_with fail
    refine (HAL.out w2).mono ?_
    rintro e w3 ⟨rfl, hb3⟩
    have HE := Lib.hid (HEND.out _ (HB2.out.trans (hb3.mono HB2.out.size)))
    clear hb3
    go_wp2_with fail
    go_ret
    exact ⟨rfl, HE.out⟩
  | true =>
  by_cases hl : 200 < nb
  · go_wp2_with fail
    refine (HAL.out w2).mono ?_
    rintro e w3 ⟨rfl, hb3⟩
    have HE := Lib.hid (HEND.out _ (HB2.out.trans (hb3.mono HB2.out.size)))
    clear hb3
    go_wp2_with fail
    go_ret
    exact ⟨rfl, HE.out⟩
  go_wp2_with fail
  refine (HDB.out w2 HB2.out (by omega)).mono ?_
  intro e w3 hd3
  obtain ⟨ok, g, T, rfl, hD⟩ := hd3.u
  have hg := hD.code
  have HD := Lib.hid hD
  have HB3 := Lib.hid (HB2.out.trans (hD.below.mono HB2.out.size))
  have HDX := Lib.hid (fun (W' : World) (hb : Below w3.heap.size w3 W') => lenc_u T w3.heap.size W' (hD.inn.below hb (Nat.le_refl _)) hb.size hD.fit)
  have HDR := Lib.hid (fun (W' : World) (hb : Below w3.heap.size w3 W') => lright_any T w3.heap.size W' (hD.inn.below hb (Nat.le_refl _)) hb.size hD.fit)
  clear hd3 hD
  obtain ⟨x3, hx3⟩ : ∃ x, T.x = x := ⟨_, rfl⟩
  rw [hx3] at HDX HDR
  have HX3 := Lib.hid hx3
  clear hx3
  obtain ⟨te, ta, tc, TL, tq⟩ := T
  simp only [LyT.val] at *
  generalize TL.length = tn at *
  go_upto_if 45 with fail
  obtain ⟨p, hp⟩ : ∃ p, w3.heap.size = p := ⟨_, rfl⟩
  obtain ⟨W3, hW3⟩ : ∃ W3, w3.alloc (.cells #[.int .u64 (te : Int), .slice ta tn tc, .int .i64 tq] 25) = W3 := ⟨_, rfl⟩
  have HW3 : Hid (Below W.heap.size W W3) := Lib.hid (by rw [← hW3]; exact HB3.out.alloc HB3.out.size _)
  have HW33 : Hid (Below w3.heap.size w3 W3) := Lib.hid (by rw [← hW3]; exact (Below.refl _ _).alloc (Nat.le_refl _) _)
  have HP3 : Hid (Own W3 p 25 [.int .u64 (te : Int), .slice ta tn tc, .int .i64 tq]) := Lib.hid (by rw [← hW3, ← hp]; exact Own.new w3 _ _)
  rw [hW3, hp]
  have HPP := Lib.hid hp
  clear hW3 hp
  go_cut [] from 46 (fun wx => Hid (Below W.heap.size W wx))
  case first =>
    cases ok with
    | false =>
      go_wp2_with fail
      go_meet
      case rel => exact HW3
    | true =>
      have z0 := HP3.out.cell 0
      have z1 := HP3.out.cell 1
      have z2 := HP3.out.cell 2
      have hzz := HP3.out.lt
      simp at z0 z1 z2
      obtain ⟨y1, y2, y3⟩ := HD.out.yes rfl
      have y3' : x3 = pLy bs := HX3.out.symm.trans y3
      rw [← y3'] at y1 y2
      have HY2 := Lib.hid y2
      have HY1 := Lib.hid y1
      clear y1 y2 y3 y3'
      go_wp2_with fail
      refine (HDX.out W3 HW33.out).mono ?_
      rintro e w4 ⟨ok4, g4, a4, cs, rfl, hE⟩
      cases ok4 with
      | false =>
        have := (hE.no rfl).2.1
        rw [HY1.out] at this
        cases this
      | true =>
      have hcs := (hE.yes rfl).2.unique HY2.out
      subst hcs
      have e4 : (g4 != 0) = false := hE.code
      have HR4 := Lib.hid hE.ro
      have HB4 := Lib.hid (HW3.out.trans (hE.below.mono HW3.out.size))
      have HB34 := Lib.hid (HW33.out.trans (hE.below.mono HW33.out.size))
      have HP4 := Lib.hid (HP3.out.below hE.below HP3.out.lt)
      have u0 := HP4.out.cell 0
      have u1 := HP4.out.cell 1
      have u2 := HP4.out.cell 2
      have hzu := HP4.out.lt
      simp at u0 u1 u2
      have v1 := conv_ro (c := nb) HR4.out HBL.out
      have v2 := conv_ro (c := cb) (HBR.out w4 HB4.out) HBL.out
      have HBL2 := HBL.out
      rw [HBL2]
      have HRR := HDR.out w4 HB34.out
      rw [HY1.out] at HRR
      have HRR' := Lib.hid HRR
      clear hE z0 z1 z2 hzz HBL2 HRR
      go_wp2_with fail
      refine HRR'.out.mono ?_
      rintro e w5 ⟨rfl, hb5⟩
      have HB5 := Lib.hid (HB4.out.trans (hb5.mono HB4.out.size))
      clear hb5 u0 u1 u2 hzu v1 v2
      go_wp2_with fail
      go_meet
      case rel => exact HB5
  case rest =>
    rename World => wq
    have HBQ := hcut
    clear hcut HW3 HW33 HP3 HPP HD HDX HDR HX3 HB3 hg
    obtain ⟨k0, k1, k2⟩ := HKA.out wq HBQ.out
    go_wp2_with fail
    refine (HEA.out wq HBQ.out).mono ?_
    rintro e w5 ⟨ok5, g5, a5, cs, rfl, hE⟩
    have HE5 := Lib.hid hE
    have HB5 := Lib.hid (HBQ.out.trans (hE.below.mono HBQ.out.size))
    have e5 := hE.code
    clear hE k0 k1 k2
    obtain ⟨nl, hnl⟩ : ∃ nl, cs.length = nl := ⟨_, rfl⟩
    have HNL := Lib.hid hnl
    rw [hnl]
    clear hnl
    cases ok5 with
    | false =>
      have e6 : (g5 != 0) = true := e5
      obtain ⟨rfl, hr, -⟩ := HE5.out.no rfl
      have HR := Lib.hid hr
      clear e5 e6 hr
      go_wp2_with fail
      refine (HAL.out w5).mono ?_
      rintro e w6 ⟨rfl, hb6⟩
      have HB6 := Lib.hid (HB5.out.trans (hb6.mono HB5.out.size))
      clear hb6
      obtain ⟨k0, k1, k2⟩ := HKA.out w6 HB6.out
      have hRR := HRA.out w6 HB6.out
      rw [HR.out] at hRR
      have HRR := Lib.hid hRR
      clear hRR
      go_wp2_with fail
      refine HRR.out.mono ?_
      rintro e w7 ⟨rfl, hb7⟩
      have HB7 := Lib.hid (HB6.out.trans (hb7.mono HB6.out.size))
      clear hb7 k0 k1 k2
      obtain ⟨k0, k1, k2⟩ := HKA.out w7 HB7.out
      go_wp2_with fail
      refine (HUA.out w7 HB7.out).mono ?_
      rintro e w8 ⟨v8, rfl, hl8, hb8⟩
      have HB8 := Lib.hid (HB7.out.trans (hb8.mono HB7.out.size))
      have hun : unitsOf X = [] := by unfold unitsOf; rw [HR.out]; rfl
      rw [hun] at hl8
      obtain ⟨a8, c8, rfl, _, _, _⟩ := hl8.form
      simp only [i64s, List.map_nil, List.length_nil]
      clear hl8 hb8 hun k0 k1 k2
      go_wp2_with fail
      go_ret
      exact ⟨rfl, HEND.out _ HB8.out⟩
    | true =>
      have e6 : (g5 != 0) = false := e5
      obtain ⟨hr, he⟩ := HE5.out.yes rfl
      have HR := Lib.hid hr
      have HLE := Lib.hid he
      have HN1 : Hid (1 ≤ nl ∧ nl ≤ 1000) := Lib.hid (by
        have h1 := he.1
        rw [nat_fw_sum, HNL.out] at h1
        have h2 := fLy_sum hr
        have h3 : fsum (fLy X) ≥ 21 := by unfold fLy; rw [fsum_cons]; omega
        omega)
      have HRO : Hid (∀ W', Below w5.heap.size w5 W' → Ro W' w5.heap.size a5 (u8s cs)) := Lib.hid (fun W' h => HE5.out.ro.below h (Nat.le_refl _))
      clear hr he e5
      obtain ⟨qn, rfl⟩ : ∃ qn, nl = qn + 1 := ⟨nl - 1, by have := HN1.out; omega⟩
      obtain ⟨ad, rfl⟩ : ∃ ad, a5 = some ad := Option.ne_none_iff_exists'.1 (HE5.out.nn rfl)
      go_wp2_with fail
      refine (ldec_any cs (qn + 1) (some ad) (qn + 1) w5.heap.size w5 HNL.out HE5.out.ro (Nat.le_refl _) (by have := HN1.out; omega)).mono ?_
      intro e w6 hd6
      obtain ⟨ok6, g6, T6, rfl, hD6⟩ := hd6.u
      cases ok6 with
      | false => exact absurd HLE.out ((hD6.no rfl).2 X HR.out)
      | true =>
      have e7 : (g6 == 0) = true := hD6.code
      have HX6 : Hid (T6.x = X) := Lib.hid ((hD6.yes rfl).2.2.trans (pLy_enc' HR.out HLE.out))
      have HB6 := Lib.hid (HB5.out.trans (hD6.below.mono HB5.out.size))
      have HS6 : Hid (∀ W', Below w6.heap.size w6 W' → Calls Try.prog 30 #[T6.val, .agg #[.int .u64 (ep : Int), .slice sa n c, .int .i64 q]] W' fun e w' => e = .returned (.bool true) ∧ Below W'.heap.size W' w') := Lib.hid (fun W' h => by
        have := HSA.out W' (HB6.out.trans (h.mono HB6.out.size)) T6 ((hD6.inn.below h (Nat.le_refl _)).mono h.size) hD6.fit
        rw [HX6.out, show lalike X X = true from lalike_iff.2 rfl] at this
        exact this)
      have HB56 := Lib.hid hD6.below
      clear hd6 hD6
      obtain ⟨te6, ta6, tc6, TL6, tq6⟩ := T6
      simp only [LyT.val] at *
      generalize TL6.length = tn6 at *
      go_upto_region 14 with fail
      obtain ⟨p6, hp⟩ : ∃ p, w6.heap.size = p := ⟨_, rfl⟩
      obtain ⟨W6, hW⟩ : ∃ W, w6.alloc (.cells #[.int .u64 (te6 : Int), .slice ta6 tn6 tc6, .int .i64 tq6] 25) = W := ⟨_, rfl⟩
      have HBW6 : Hid (Below W.heap.size W W6) := Lib.hid (by rw [← hW]; exact HB6.out.alloc HB6.out.size _)
      have HB5W : Hid (Below w5.heap.size w5 W6) := Lib.hid (by rw [← hW]; exact HB56.out.alloc HB56.out.size _)
      have HB6W : Hid (Below w6.heap.size w6 W6) := Lib.hid (by rw [← hW]; exact (Below.refl _ _).alloc (Nat.le_refl _) _)
      have HP6 : Hid (Own W6 p6 25 [.int .u64 (te6 : Int), .slice ta6 tn6 tc6, .int .i64 tq6]) := Lib.hid (by rw [← hW, ← hp]; exact Own.new w6 _ _)
      rw [hW, hp]
      clear hW hp
      have hq1 : (qn : Int) ≤ 1000 := by have := HN1.out; omega
      go_wp2_with fail
      refine (ldec_any (cs.take qn) qn (some ad) (qn + 1) w5.heap.size W6 (by rw [List.length_take, HNL.out]; omega) (by have := (HRO.out W6 HB5W.out).take qn; simpa [u8s] using this) HB5W.out.size (by have := HN1.out; omega)).mono ?_
      intro e w7 hd7
      obtain ⟨ok7, g7, T7, rfl, hD7⟩ := hd7.u
      cases ok7 with
      | true => exact absurd (hD7.yes rfl).2.1 (le_less HR.out HLE.out HNL.out _ (hD7.yes rfl).1)
      | false =>
      obtain ⟨rfl, -⟩ := hD7.no rfl
      have HB7 := Lib.hid (HBW6.out.trans (hD7.below.mono HBW6.out.size))
      have HB57 := Lib.hid (HB5W.out.trans (hD7.below.mono HB5W.out.size))
      have HB67 := Lib.hid (HB6W.out.trans (hD7.below.mono HB6W.out.size))
      have HP7 := Lib.hid (HP6.out.below hD7.below HP6.out.lt)
      clear hd7 hD7
      obtain ⟨te7, ta7, tc7, TL7, tq7⟩ := T7
      simp only [LyT.val] at *
      generalize TL7.length = tn7 at *
      go_upto_region 15 with fail
      obtain ⟨W7, hW⟩ : ∃ W, w7.alloc (.cells #[.int .u64 (te7 : Int), .slice ta7 tn7 tc7, .int .i64 tq7] 25) = W := ⟨_, rfl⟩
      have HBW7 : Hid (Below W.heap.size W W7) := Lib.hid (by rw [← hW]; exact HB7.out.alloc HB7.out.size _)
      have HB5W7 : Hid (Below w5.heap.size w5 W7) := Lib.hid (by rw [← hW]; exact HB57.out.alloc HB57.out.size _)
      have HB6W7 : Hid (Below w6.heap.size w6 W7) := Lib.hid (by rw [← hW]; exact HB67.out.alloc HB67.out.size _)
      have HPW7 : Hid (Own W7 p6 25 [.int .u64 (te6 : Int), .slice ta6 tn6 tc6, .int .i64 tq6]) := Lib.hid (by rw [← hW]; exact HP7.out.alloc _)
      rw [hW]
      clear hW
      have HEl : Hid (Lst (W7.alloc (.cells #[] 5)) W7.heap.size 5 (.slice (some ⟨W7.heap.size, 0, none⟩) 0 0) []) := Lib.hid (Lst.lit W7 W7.heap.size 5 #[] (Nat.le_refl _) (by decide))
      have HXl : Hid ((u8s cs).length = (qn + 1)) := Lib.hid (by rw [u8s_length]; exact HNL.out)
      have HB7e : Hid (Below W7.heap.size W7 (W7.alloc (.cells #[] 5))) := Lib.hid ((Below.refl _ _).alloc (Nat.le_refl _) _)
      have HRE : Hid (Ro (W7.alloc (.cells #[] 5)) w5.heap.size (some ad) (u8s cs)) := Lib.hid (HRO.out _ (HB5W7.out.alloc HB5W7.out.size _))
      go_wp2_with (at_builtin; refine wpList_appB rfl (.tmp 103) (.tmp 104) 26 rfl W7.heap.size 5 (.int .u8 0) 1 Try.underlying26 Try.info_u8 rfl (.slice (some ⟨W7.heap.size, 0, none⟩) 0 0) [] rfl HEl.out (some ad) w5.heap.size (qn + 1) (qn + 1) (u8s cs) rfl HXl.out HRE.out (u8s_oneCell _) (by simp; have := HN1.out; omega) (by simp; have := HN1.out; omega) W7.heap.size W7 HB7e.out (Nat.le_refl _) (by simp) ?_)
      intro v1 wa hl1 hb1 hs1
      have HL1 := Lib.hid (show Lst wa _ _ v1 (u8s cs) from hl1.out)
      have HBa := Lib.hid hb1
      clear hl1 hb1 hs1
      obtain ⟨a8, c8, rfl, -, -, -⟩ := HL1.out.form
      rw [HXl.out] at HL1 ⊢
      go_wp2_with (at_builtin; refine wpList_app1 rfl (.tmp 105) (.tmp 106) 26 rfl W7.heap.size 5 (.int .u8 0) 1 Try.underlying26 Try.info_u8 rfl (.int .u8 0) rfl (.slice a8 (qn + 1) c8) (u8s cs) rfl HL1.out rfl (by have := HXl.out; have := HN1.out; omega) (by have := HXl.out; have := HN1.out; omega) W7.heap.size W7 HBa.out (Nat.le_refl _) HBa.out.size ?_)
      intro v2 wb hl2 hb2 hs2
      have HL2 := Lib.hid (show Lst wb _ _ v2 (u8s (cs ++ [0])) by have := hl2.out; simpa [u8s] using this)
      have HBb := Lib.hid hb2
      clear hl2 hb2 hs2
      obtain ⟨a9, c9, rfl, hr9, -, -⟩ := HL2.out.form
      have HR9 := Lib.hid hr9
      have HX9 : Hid ((cs ++ [0]).length = (qn + 1) + 1) := Lib.hid (by rw [List.length_append, HNL.out]; rfl)
      have HBW8 : Hid (Below W.heap.size W wb) := Lib.hid (HBW7.out.trans (HBb.out.mono HBW7.out.size))
      have HB58 : Hid (Below w5.heap.size w5 wb) := Lib.hid (HB5W7.out.trans (HBb.out.mono HB5W7.out.size))
      have HB68 : Hid (Below w6.heap.size w6 wb) := Lib.hid (HB6W7.out.trans (HBb.out.mono HB6W7.out.size))
      have HPW8 := Lib.hid (HPW7.out.below HBb.out HPW7.out.lt)
      rw [u8s_length, HX9.out]
      clear hr9
      go_wp2_with fail
      refine (ldec_any (cs ++ [0]) ((qn + 1) + 1) a9 c9 wb.heap.size wb HX9.out HR9.out (Nat.le_refl _) (by have := HN1.out; omega)).mono ?_
      intro e w9 hd9
      obtain ⟨ok9, g9, T9, rfl, hD9⟩ := hd9.u
      cases ok9 with
      | true => exact absurd (hD9.yes rfl).2.1 (le_more HR.out HLE.out [0] (by simp) _ (hD9.yes rfl).1)
      | false =>
      obtain ⟨rfl, -⟩ := hD9.no rfl
      have HB9 := Lib.hid (HBW8.out.trans (hD9.below.mono HBW8.out.size))
      have HB59 := Lib.hid (HB58.out.trans (hD9.below.mono HB58.out.size))
      have HB69 := Lib.hid (HB68.out.trans (hD9.below.mono HB68.out.size))
      have HP9 := Lib.hid (HPW8.out.below hD9.below HPW8.out.lt)
      clear hd9 hD9
      obtain ⟨te9, ta9, tc9, TL9, tq9⟩ := T9
      simp only [LyT.val] at *
      generalize TL9.length = tn9 at *
      go_upto_region 16 with fail
      obtain ⟨W9, hW⟩ : ∃ W, w9.alloc (.cells #[.int .u64 (te9 : Int), .slice ta9 tn9 tc9, .int .i64 tq9] 25) = W := ⟨_, rfl⟩
      have HBW9 : Hid (Below W.heap.size W W9) := Lib.hid (by rw [← hW]; exact HB9.out.alloc HB9.out.size _)
      have HB5W9 : Hid (Below w5.heap.size w5 W9) := Lib.hid (by rw [← hW]; exact HB59.out.alloc HB59.out.size _)
      have HB6W9 : Hid (Below w6.heap.size w6 W9) := Lib.hid (by rw [← hW]; exact HB69.out.alloc HB69.out.size _)
      have HPW9 : Hid (Own W9 p6 25 [.int .u64 (te6 : Int), .slice ta6 tn6 tc6, .int .i64 tq6]) := Lib.hid (by rw [← hW]; exact HP9.out.alloc _)
      rw [hW]
      clear hW
      obtain ⟨m0, m1, m2⟩ := HKC.out W9 HBW9.out
      go_wp2_with fail
      refine (HEC.out W9 HBW9.out).mono ?_
      rintro e w10 ⟨ok10, g10, a10, ds, rfl, hE⟩
      have HE10 := Lib.hid hE
      have HB10 := Lib.hid (HBW9.out.trans (hE.below.mono HBW9.out.size))
      have HB5X := Lib.hid (HB5W9.out.trans (hE.below.mono HB5W9.out.size))
      have HB6X := Lib.hid (HB6W9.out.trans (hE.below.mono HB6W9.out.size))
      have HPX := Lib.hid (HPW9.out.below hE.below HPW9.out.lt)
      have e10 := hE.code
      clear hE m0 m1 m2
      obtain ⟨nd, hnd⟩ : ∃ y, ds.length = y := ⟨_, rfl⟩
      have HND := Lib.hid hnd
      rw [hnd]
      clear hnd
      go_upto_region 17 with fail
      have HSS : Hid (Below w10.heap.size w10 w10.drew ∧ w10.drew.cell? ⟨w.heap.size, 0, none⟩ = some (.int .u64 (ep : Int)) ∧ w10.drew.cell? ⟨w.heap.size, 1, none⟩ = some (.slice sa n c) ∧ w10.drew.cell? ⟨w.heap.size, 2, none⟩ = some (.int .i64 q) ∧ w10.drew.cell? ⟨w.heap.size + 1, 0, none⟩ = some (.int .u64 (ep2 : Int)) ∧ w10.drew.cell? ⟨w.heap.size + 1, 1, none⟩ = some (.slice sa2 n2 c2) ∧ w10.drew.cell? ⟨w.heap.size + 1, 2, none⟩ = some (.int .i64 q2) ∧ w10.drew.cell? ⟨p6, 0, none⟩ = some (.int .u64 (te6 : Int)) ∧ w10.drew.cell? ⟨p6, 1, none⟩ = some (.slice ta6 tn6 tc6) ∧ w10.drew.cell? ⟨p6, 2, none⟩ = some (.int .i64 tq6)) := Lib.hid (by
        obtain ⟨k0, k1, k2⟩ := HKA.out w10 HB10.out
        obtain ⟨m0, m1, m2⟩ := HKC.out w10 HB10.out
        have y0 := HPX.out.cell 0
        have y1 := HPX.out.cell 1
        have y2 := HPX.out.cell 2
        simp at y0 y1 y2
        exact ⟨(Below.refl _ _).drew, k0, k1, k2, m0, m1, m2, y0, y1, y2⟩)
      have HDS : Hid (∀ W', Below w10.heap.size w10 W' → Ro W' w10.heap.size a10 (u8s ds)) := Lib.hid (fun W' h => HE10.out.ro.below h (Nat.le_refl _))
      cases ok10 with
      | false =>
        have e11 : (g10 != 0) = true := e10
        clear e10
        refine wp_region_held_drew (S := (fun W => Below w10.heap.size w10 W ∧ W.cell? ⟨w.heap.size, 0, none⟩ = some (.int .u64 (ep : Int)) ∧ W.cell? ⟨w.heap.size, 1, none⟩ = some (.slice sa n c) ∧ W.cell? ⟨w.heap.size, 2, none⟩ = some (.int .i64 q) ∧ W.cell? ⟨w.heap.size + 1, 0, none⟩ = some (.int .u64 (ep2 : Int)) ∧ W.cell? ⟨w.heap.size + 1, 1, none⟩ = some (.slice sa2 n2 c2) ∧ W.cell? ⟨w.heap.size + 1, 2, none⟩ = some (.int .i64 q2) ∧ W.cell? ⟨p6, 0, none⟩ = some (.int .u64 (te6 : Int)) ∧ W.cell? ⟨p6, 1, none⟩ = some (.slice ta6 tn6 tc6) ∧ W.cell? ⟨p6, 2, none⟩ = some (.int .i64 tq6))) (by kernel_rfl) HSS.out (fun hHeld => ?_)
        refine wpAnyH_ready (rs := [0]) (by kernel_rfl) (by simp) (AllReadyH.cons rfl (fun K hK => ?_) AllReadyH.nil)
        have hH := hHeld
        (go_simp; go_at_call 10; refine (HAL.out _).mono ?_; rintro e w11 ⟨rfl, hb11⟩)
        refine hK.out _ _ (by exact ⟨hH.1.trans (hb11.mono hH.1.size), cell_at hb11 hH.2.1 rfl, cell_at hb11 hH.2.2.1 rfl, cell_at hb11 hH.2.2.2.1 rfl, cell_at hb11 hH.2.2.2.2.1 rfl, cell_at hb11 hH.2.2.2.2.2.1 rfl, cell_at hb11 hH.2.2.2.2.2.2.1 rfl, cell_at hb11 hH.2.2.2.2.2.2.2.1 rfl, cell_at hb11 hH.2.2.2.2.2.2.2.2.1 rfl, cell_at hb11 hH.2.2.2.2.2.2.2.2.2 rfl⟩) (fun hHq1 => ?_)
        clear hK K hH 
        (try simp only [Act.put, List.getElem_toArray, List.getElem_cons_succ, List.getElem_cons_zero, List.setIfInBounds_toArray, List.set_cons_zero, List.set_cons_succ])
        refine wpAnyH_take (i := 1) (v := ?_) rfl (by kernel_rfl) (by kernel_rfl) (by kernel_rfl) (fun _ _ _ h => h) (Or.inl ⟨by kernel_rfl, ?_⟩) hHq1 ?_
        rotate_left
        · (intro w hSw; first | (go_simp; done) | (go_simp; with_reducible rfl))
        (try simp only [Act.put, List.getElem_toArray, List.getElem_cons_succ, List.getElem_cons_zero, List.setIfInBounds_toArray, List.set_cons_zero, List.set_cons_succ])
        refine wpAnyH_take (i := 2) (v := ?_) rfl (by kernel_rfl) (by kernel_rfl) (by kernel_rfl) (fun _ _ _ h => h) (Or.inl ⟨by kernel_rfl, ?_⟩) hHq1 ?_
        rotate_left
        · (intro w hSw; first | (go_simp; done) | (go_simp; with_reducible rfl))
        (try simp only [Act.put, List.getElem_toArray, List.getElem_cons_succ, List.getElem_cons_zero, List.setIfInBounds_toArray, List.set_cons_zero, List.set_cons_succ])
        refine wpAnyH_take (i := 3) (v := ?_) rfl (by kernel_rfl) (by kernel_rfl) (by kernel_rfl) (fun _ _ _ h => h) (Or.inl ⟨by kernel_rfl, ?_⟩) hHq1 ?_
        rotate_left
        · (intro w hSw; first | (go_simp; done) | (go_simp; with_reducible rfl))
        (try simp only [Act.put, List.getElem_toArray, List.getElem_cons_succ, List.getElem_cons_zero, List.setIfInBounds_toArray, List.set_cons_zero, List.set_cons_succ])
        refine wpAnyH_take (i := 4) (v := ?_) rfl (by kernel_rfl) (by kernel_rfl) (by kernel_rfl) (fun _ _ _ h => h) (Or.inl ⟨by kernel_rfl, ?_⟩) hHq1 ?_
        rotate_left
        · (intro w hSw; first | (go_simp; done) | (go_simp; with_reducible rfl))
        (try simp only [Act.put, List.getElem_toArray, List.getElem_cons_succ, List.getElem_cons_zero, List.setIfInBounds_toArray, List.set_cons_zero, List.set_cons_succ])
        refine wpAnyH_take (i := 5) (v := ?_) rfl (by kernel_rfl) (by kernel_rfl) (by kernel_rfl) (fun _ _ _ h => h) (Or.inl ⟨by kernel_rfl, ?_⟩) hHq1 ?_
        rotate_left
        · (intro w hSw; first | (go_simp; done) | (go_simp; with_reducible rfl))
        (try simp only [Act.put, List.getElem_toArray, List.getElem_cons_succ, List.getElem_cons_zero, List.setIfInBounds_toArray, List.set_cons_zero, List.set_cons_succ])
        refine wpAnyH_take (i := 6) (v := ?_) rfl (by kernel_rfl) (by kernel_rfl) (by kernel_rfl) (fun _ _ _ h => h) (Or.inl ⟨by kernel_rfl, ?_⟩) hHq1 ?_
        rotate_left
        · (intro w hSw; first | (go_simp; done) | (go_simp; with_reducible rfl))
        (try simp only [Act.put, List.getElem_toArray, List.getElem_cons_succ, List.getElem_cons_zero, List.setIfInBounds_toArray, List.set_cons_zero, List.set_cons_succ])
        refine wpAnyH_take (i := 7) (v := ?_) rfl (by kernel_rfl) (by kernel_rfl) (by kernel_rfl) (fun _ _ _ h => h) (Or.inl ⟨by kernel_rfl, ?_⟩) hHq1 ?_
        rotate_left
        · (intro w hSw; first | (go_simp; done) | (go_simp; with_reducible rfl))
        (try simp only [Act.put, List.getElem_toArray, List.getElem_cons_succ, List.getElem_cons_zero, List.setIfInBounds_toArray, List.set_cons_zero, List.set_cons_succ])
        refine wpAnyH_ready (rs := [8]) (by kernel_rfl) (by simp) (AllReadyH.cons rfl (fun K hK => ?_) AllReadyH.nil)
        have hH := hHq1
        (go_simp; go_at_call 30; refine (HS6.out _ (HB6X.out.trans (hH.1.mono HB6X.out.size))).mono ?_; rintro e w12 ⟨rfl, hb12⟩)
        refine hK.out _ _ (by exact ⟨hH.1.trans (hb12.mono hH.1.size), cell_at hb12 hH.2.1 rfl, cell_at hb12 hH.2.2.1 rfl, cell_at hb12 hH.2.2.2.1 rfl, cell_at hb12 hH.2.2.2.2.1 rfl, cell_at hb12 hH.2.2.2.2.2.1 rfl, cell_at hb12 hH.2.2.2.2.2.2.1 rfl, cell_at hb12 hH.2.2.2.2.2.2.2.1 rfl, cell_at hb12 hH.2.2.2.2.2.2.2.2.1 rfl, cell_at hb12 hH.2.2.2.2.2.2.2.2.2 rfl⟩) (fun hHq2 => ?_)
        clear hK K hH hHq1
        (try simp only [Act.put, List.getElem_toArray, List.getElem_cons_succ, List.getElem_cons_zero, List.setIfInBounds_toArray, List.set_cons_zero, List.set_cons_succ])
        refine wpAnyH_take (i := 9) (v := ?_) rfl (by kernel_rfl) (by kernel_rfl) (by kernel_rfl) (fun _ _ _ h => h) (Or.inl ⟨by kernel_rfl, ?_⟩) hHq2 ?_
        rotate_left
        · (intro w hSw; first | (go_simp; done) | (go_simp; with_reducible rfl))
        (try simp only [Act.put, List.getElem_toArray, List.getElem_cons_succ, List.getElem_cons_zero, List.setIfInBounds_toArray, List.set_cons_zero, List.set_cons_succ])
        refine wpAnyH_take (i := 10) (v := ?_) rfl (by kernel_rfl) (by kernel_rfl) (by kernel_rfl) (fun _ _ _ h => h) (Or.inl ⟨by kernel_rfl, ?_⟩) hHq2 ?_
        rotate_left
        · (intro w hSw; first | (go_simp; done) | (go_simp; with_reducible rfl))
        (try simp only [Act.put, List.getElem_toArray, List.getElem_cons_succ, List.getElem_cons_zero, List.setIfInBounds_toArray, List.set_cons_zero, List.set_cons_succ])
        refine wpAnyH_take (i := 11) (v := ?_) rfl (by kernel_rfl) (by kernel_rfl) (by kernel_rfl) (fun _ _ _ h => h) (Or.inl ⟨by kernel_rfl, ?_⟩) hHq2 ?_
        rotate_left
        · (intro w hSw; first | (go_simp; done) | (go_simp; with_reducible rfl))
        (try simp only [Act.put, List.getElem_toArray, List.getElem_cons_succ, List.getElem_cons_zero, List.setIfInBounds_toArray, List.set_cons_zero, List.set_cons_succ])
        refine wpAnyH_take (i := 12) (v := ?_) rfl (by kernel_rfl) (by kernel_rfl) (by kernel_rfl) (fun _ _ _ h => h) (Or.inl ⟨by kernel_rfl, ?_⟩) hHq2 ?_
        rotate_left
        · (intro w hSw; first | (go_simp; done) | (go_simp; with_reducible rfl))
        (try simp only [Act.put, List.getElem_toArray, List.getElem_cons_succ, List.getElem_cons_zero, List.setIfInBounds_toArray, List.set_cons_zero, List.set_cons_succ])
        refine wpAnyH_take (i := 13) (v := ?_) rfl (by kernel_rfl) (by kernel_rfl) (by kernel_rfl) (fun _ _ _ h => h) (Or.inl ⟨by kernel_rfl, ?_⟩) hHq2 ?_
        rotate_left
        · (intro w hSw; first | (go_simp; done) | (go_simp; with_reducible rfl))
        (try simp only [Act.put, List.getElem_toArray, List.getElem_cons_succ, List.getElem_cons_zero, List.setIfInBounds_toArray, List.set_cons_zero, List.set_cons_succ])
        refine wpAnyH_take (i := 14) (v := ?_) rfl (by kernel_rfl) (by kernel_rfl) (by kernel_rfl) (fun _ _ _ h => h) (Or.inl ⟨by kernel_rfl, ?_⟩) hHq2 ?_
        rotate_left
        · (intro w hSw; first | (go_simp; done) | (go_simp; with_reducible rfl))
        (try simp only [Act.put, List.getElem_toArray, List.getElem_cons_succ, List.getElem_cons_zero, List.setIfInBounds_toArray, List.set_cons_zero, List.set_cons_succ])
        refine wpAnyH_take (i := 15) (v := ?_) rfl (by kernel_rfl) (by kernel_rfl) (by kernel_rfl) (fun _ _ _ h => h) (Or.inl ⟨by kernel_rfl, ?_⟩) hHq2 ?_
        rotate_left
        · (intro w hSw; first | (go_simp; done) | (go_simp; with_reducible rfl))
        (try simp only [Act.put, List.getElem_toArray, List.getElem_cons_succ, List.getElem_cons_zero, List.setIfInBounds_toArray, List.set_cons_zero, List.set_cons_succ])
        refine wpAnyH_take (i := 16) (v := ?_) rfl (by kernel_rfl) (by kernel_rfl) (by kernel_rfl) (fun _ _ _ h => h) (Or.inl ⟨by kernel_rfl, ?_⟩) hHq2 ?_
        rotate_left
        · (intro w hSw; first | (go_simp; done) | (go_simp; with_reducible rfl))
        (try simp only [Act.put, List.getElem_toArray, List.getElem_cons_succ, List.getElem_cons_zero, List.setIfInBounds_toArray, List.set_cons_zero, List.set_cons_succ])
        refine wpAnyH_take (i := 17) (v := ?_) rfl (by kernel_rfl) (by kernel_rfl) (by kernel_rfl) (fun _ _ _ h => h) (Or.inl ⟨by kernel_rfl, ?_⟩) hHq2 ?_
        rotate_left
        · (intro w hSw; first | (go_simp; done) | (go_simp; with_reducible rfl))
        (try simp only [Act.put, List.getElem_toArray, List.getElem_cons_succ, List.getElem_cons_zero, List.setIfInBounds_toArray, List.set_cons_zero, List.set_cons_succ])
        refine wpAnyH_take (i := 18) (v := ?_) rfl (by kernel_rfl) (by kernel_rfl) (by kernel_rfl) (fun _ _ _ h => h) (Or.inl ⟨by kernel_rfl, ?_⟩) hHq2 ?_
        rotate_left
        · (intro w hSw; first | (go_simp; done) | (go_simp; with_reducible rfl))
        (try simp only [Act.put, List.getElem_toArray, List.getElem_cons_succ, List.getElem_cons_zero, List.setIfInBounds_toArray, List.set_cons_zero, List.set_cons_succ])
        refine wpAnyH_take (i := 19) (v := ?_) rfl (by kernel_rfl) (by kernel_rfl) (by kernel_rfl) (fun _ _ _ h => h) (Or.inl ⟨by kernel_rfl, ?_⟩) hHq2 ?_
        rotate_left
        · (intro w hSw; first | (go_simp; done) | (go_simp; with_reducible rfl))
        (try simp only [Act.put, List.getElem_toArray, List.getElem_cons_succ, List.getElem_cons_zero, List.setIfInBounds_toArray, List.set_cons_zero, List.set_cons_succ])
        refine wpAnyH_take (i := 20) (v := ?_) rfl (by kernel_rfl) (by kernel_rfl) (by kernel_rfl) (fun _ _ _ h => h) (Or.inl ⟨by kernel_rfl, ?_⟩) hHq2 ?_
        rotate_left
        · (intro w hSw; first | (go_simp; done) | (go_simp; with_reducible rfl))
        (try simp only [Act.put, List.getElem_toArray, List.getElem_cons_succ, List.getElem_cons_zero, List.setIfInBounds_toArray, List.set_cons_zero, List.set_cons_succ])
        refine wpAnyH_take (i := 21) (v := ?_) rfl (by kernel_rfl) (by kernel_rfl) (by kernel_rfl) (fun _ _ _ h => h) (Or.inl ⟨by kernel_rfl, ?_⟩) hHq2 ?_
        rotate_left
        · (intro w hSw; first | (go_simp; done) | (go_simp; with_reducible rfl))
        (try simp only [Act.put, List.getElem_toArray, List.getElem_cons_succ, List.getElem_cons_zero, List.setIfInBounds_toArray, List.set_cons_zero, List.set_cons_succ])
        refine wpAnyH_take (i := 22) (v := undef) rfl (by kernel_rfl) (by kernel_rfl) (by kernel_rfl) (fun _ _ _ h => h) (Or.inr ⟨by kernel_rfl, rfl⟩) hHq2 ?_
        (try simp only [Act.put, List.getElem_toArray, List.getElem_cons_succ, List.getElem_cons_zero, List.setIfInBounds_toArray, List.set_cons_zero, List.set_cons_succ])
        refine wpAnyH_take (i := 23) (v := undef) rfl (by kernel_rfl) (by kernel_rfl) (by kernel_rfl) (fun _ _ _ h => h) (Or.inr ⟨by kernel_rfl, rfl⟩) hHq2 ?_
        (try simp only [Act.put, List.getElem_toArray, List.getElem_cons_succ, List.getElem_cons_zero, List.setIfInBounds_toArray, List.set_cons_zero, List.set_cons_succ])
        refine wpAnyH_take (i := 24) (v := undef) rfl (by kernel_rfl) (by kernel_rfl) (by kernel_rfl) (fun _ _ _ h => h) (Or.inr ⟨by kernel_rfl, rfl⟩) hHq2 ?_
        (try simp only [Act.put, List.getElem_toArray, List.getElem_cons_succ, List.getElem_cons_zero, List.setIfInBounds_toArray, List.set_cons_zero, List.set_cons_succ])
        refine wpAnyH_take (i := 25) (v := undef) rfl (by kernel_rfl) (by kernel_rfl) (by kernel_rfl) (fun _ _ _ h => h) (Or.inr ⟨by kernel_rfl, rfl⟩) hHq2 ?_
        (try simp only [Act.put, List.getElem_toArray, List.getElem_cons_succ, List.getElem_cons_zero, List.setIfInBounds_toArray, List.set_cons_zero, List.set_cons_succ])
        refine wpAnyH_take (i := 26) (v := undef) rfl (by kernel_rfl) (by kernel_rfl) (by kernel_rfl) (fun _ _ _ h => h) (Or.inr ⟨by kernel_rfl, rfl⟩) hHq2 ?_
        (try simp only [Act.put, List.getElem_toArray, List.getElem_cons_succ, List.getElem_cons_zero, List.setIfInBounds_toArray, List.set_cons_zero, List.set_cons_succ])
        refine wpAnyH_take (i := 27) (v := undef) rfl (by kernel_rfl) (by kernel_rfl) (by kernel_rfl) (fun _ _ _ h => h) (Or.inr ⟨by kernel_rfl, rfl⟩) hHq2 ?_
        (try simp only [Act.put, List.getElem_toArray, List.getElem_cons_succ, List.getElem_cons_zero, List.setIfInBounds_toArray, List.set_cons_zero, List.set_cons_succ])
        refine wpAnyH_take (i := 28) (v := undef) rfl (by kernel_rfl) (by kernel_rfl) (by kernel_rfl) (fun _ _ _ h => h) (Or.inr ⟨by kernel_rfl, rfl⟩) hHq2 ?_
        (try simp only [Act.put, List.getElem_toArray, List.getElem_cons_succ, List.getElem_cons_zero, List.setIfInBounds_toArray, List.set_cons_zero, List.set_cons_succ])
        refine wpAnyH_take (i := 29) (v := undef) rfl (by kernel_rfl) (by kernel_rfl) (by kernel_rfl) (fun _ _ _ h => h) (Or.inr ⟨by kernel_rfl, rfl⟩) hHq2 ?_
        (try simp only [Act.put, List.getElem_toArray, List.getElem_cons_succ, List.getElem_cons_zero, List.setIfInBounds_toArray, List.set_cons_zero, List.set_cons_succ])
        refine wpAnyH_take (i := 30) (v := undef) rfl (by kernel_rfl) (by kernel_rfl) (by kernel_rfl) (fun _ _ _ h => h) (Or.inr ⟨by kernel_rfl, rfl⟩) hHq2 ?_
        (try simp only [Act.put, List.getElem_toArray, List.getElem_cons_succ, List.getElem_cons_zero, List.setIfInBounds_toArray, List.set_cons_zero, List.set_cons_succ])
        refine wpAnyH_take (i := 31) (v := ?_) rfl (by kernel_rfl) (by kernel_rfl) (by kernel_rfl) (fun _ _ _ h => h) (Or.inl ⟨by kernel_rfl, ?_⟩) hHq2 ?_
        rotate_left
        · (intro w hSw; first | (go_simp; done) | (go_simp; with_reducible rfl))
        (try simp only [Act.put, List.getElem_toArray, List.getElem_cons_succ, List.getElem_cons_zero, List.setIfInBounds_toArray, List.set_cons_zero, List.set_cons_succ])
        refine wpAnyH_take (i := 32) (v := ?_) rfl (by kernel_rfl) (by kernel_rfl) (by kernel_rfl) (fun _ _ _ h => h) (Or.inl ⟨by kernel_rfl, ?_⟩) hHq2 ?_
        rotate_left
        · (intro w hSw; first | (go_simp; done) | (go_simp; with_reducible rfl))
        (try simp only [Act.put, List.getElem_toArray, List.getElem_cons_succ, List.getElem_cons_zero, List.setIfInBounds_toArray, List.set_cons_zero, List.set_cons_succ])
        refine wpAnyH_take (i := 33) (v := ?_) rfl (by kernel_rfl) (by kernel_rfl) (by kernel_rfl) (fun _ _ _ h => h) (Or.inl ⟨by kernel_rfl, ?_⟩) hHq2 ?_
        rotate_left
        · (intro w hSw; first | (go_simp; done) | (go_simp; with_reducible rfl))
        (try simp only [Act.put, List.getElem_toArray, List.getElem_cons_succ, List.getElem_cons_zero, List.setIfInBounds_toArray, List.set_cons_zero, List.set_cons_succ])
        refine wpAnyH_done (by kernel_rfl) ?_ _
        have hEnd := hHq2
        have HE := Lib.hid (HEND.out _ (HB10.out.trans (hEnd.1.mono HB10.out.size)))
        clear hHeld hEnd
        go_wp2_with fail
        go_ret
        exact ⟨rfl, HE.out⟩
      | true =>
        have e11 : (g10 != 0) = false := e10
        clear e10
        obtain ⟨hr2, he2⟩ := HE10.out.yes rfl
        by_cases heq : cs = ds
        · subst heq
          obtain rfl : X = Y := HLE.out.inj he2 HR.out hr2
          rw [show lalike X X = true from lalike_iff.2 rfl] at HSM
          clear hr2 he2
          refine wp_region_held_drew (S := (fun W => Below w10.heap.size w10 W ∧ W.cell? ⟨w.heap.size, 0, none⟩ = some (.int .u64 (ep : Int)) ∧ W.cell? ⟨w.heap.size, 1, none⟩ = some (.slice sa n c) ∧ W.cell? ⟨w.heap.size, 2, none⟩ = some (.int .i64 q) ∧ W.cell? ⟨w.heap.size + 1, 0, none⟩ = some (.int .u64 (ep2 : Int)) ∧ W.cell? ⟨w.heap.size + 1, 1, none⟩ = some (.slice sa2 n2 c2) ∧ W.cell? ⟨w.heap.size + 1, 2, none⟩ = some (.int .i64 q2) ∧ W.cell? ⟨p6, 0, none⟩ = some (.int .u64 (te6 : Int)) ∧ W.cell? ⟨p6, 1, none⟩ = some (.slice ta6 tn6 tc6) ∧ W.cell? ⟨p6, 2, none⟩ = some (.int .i64 tq6))) (by kernel_rfl) HSS.out (fun hHeld => ?_)
          refine wpAnyH_ready (rs := [0]) (by kernel_rfl) (by simp) (AllReadyH.cons rfl (fun K hK => ?_) AllReadyH.nil)
          have hH := hHeld
          (go_simp; go_at_call 10; refine (HAL.out _).mono ?_; rintro e w11 ⟨rfl, hb11⟩)
          refine hK.out _ _ (by exact ⟨hH.1.trans (hb11.mono hH.1.size), cell_at hb11 hH.2.1 rfl, cell_at hb11 hH.2.2.1 rfl, cell_at hb11 hH.2.2.2.1 rfl, cell_at hb11 hH.2.2.2.2.1 rfl, cell_at hb11 hH.2.2.2.2.2.1 rfl, cell_at hb11 hH.2.2.2.2.2.2.1 rfl, cell_at hb11 hH.2.2.2.2.2.2.2.1 rfl, cell_at hb11 hH.2.2.2.2.2.2.2.2.1 rfl, cell_at hb11 hH.2.2.2.2.2.2.2.2.2 rfl⟩) (fun hHq1 => ?_)
          clear hK K hH 
          (try simp only [Act.put, List.getElem_toArray, List.getElem_cons_succ, List.getElem_cons_zero, List.setIfInBounds_toArray, List.set_cons_zero, List.set_cons_succ])
          refine wpAnyH_take (i := 1) (v := ?_) rfl (by kernel_rfl) (by kernel_rfl) (by kernel_rfl) (fun _ _ _ h => h) (Or.inl ⟨by kernel_rfl, ?_⟩) hHq1 ?_
          rotate_left
          · (intro w hSw; first | (go_simp; done) | (go_simp; with_reducible rfl))
          (try simp only [Act.put, List.getElem_toArray, List.getElem_cons_succ, List.getElem_cons_zero, List.setIfInBounds_toArray, List.set_cons_zero, List.set_cons_succ])
          refine wpAnyH_take (i := 2) (v := ?_) rfl (by kernel_rfl) (by kernel_rfl) (by kernel_rfl) (fun _ _ _ h => h) (Or.inl ⟨by kernel_rfl, ?_⟩) hHq1 ?_
          rotate_left
          · (intro w hSw; first | (go_simp; done) | (go_simp; with_reducible rfl))
          (try simp only [Act.put, List.getElem_toArray, List.getElem_cons_succ, List.getElem_cons_zero, List.setIfInBounds_toArray, List.set_cons_zero, List.set_cons_succ])
          refine wpAnyH_take (i := 3) (v := ?_) rfl (by kernel_rfl) (by kernel_rfl) (by kernel_rfl) (fun _ _ _ h => h) (Or.inl ⟨by kernel_rfl, ?_⟩) hHq1 ?_
          rotate_left
          · (intro w hSw; first | (go_simp; done) | (go_simp; with_reducible rfl))
          (try simp only [Act.put, List.getElem_toArray, List.getElem_cons_succ, List.getElem_cons_zero, List.setIfInBounds_toArray, List.set_cons_zero, List.set_cons_succ])
          refine wpAnyH_take (i := 4) (v := ?_) rfl (by kernel_rfl) (by kernel_rfl) (by kernel_rfl) (fun _ _ _ h => h) (Or.inl ⟨by kernel_rfl, ?_⟩) hHq1 ?_
          rotate_left
          · (intro w hSw; first | (go_simp; done) | (go_simp; with_reducible rfl))
          (try simp only [Act.put, List.getElem_toArray, List.getElem_cons_succ, List.getElem_cons_zero, List.setIfInBounds_toArray, List.set_cons_zero, List.set_cons_succ])
          refine wpAnyH_take (i := 5) (v := ?_) rfl (by kernel_rfl) (by kernel_rfl) (by kernel_rfl) (fun _ _ _ h => h) (Or.inl ⟨by kernel_rfl, ?_⟩) hHq1 ?_
          rotate_left
          · (intro w hSw; first | (go_simp; done) | (go_simp; with_reducible rfl))
          (try simp only [Act.put, List.getElem_toArray, List.getElem_cons_succ, List.getElem_cons_zero, List.setIfInBounds_toArray, List.set_cons_zero, List.set_cons_succ])
          refine wpAnyH_take (i := 6) (v := ?_) rfl (by kernel_rfl) (by kernel_rfl) (by kernel_rfl) (fun _ _ _ h => h) (Or.inl ⟨by kernel_rfl, ?_⟩) hHq1 ?_
          rotate_left
          · (intro w hSw; first | (go_simp; done) | (go_simp; with_reducible rfl))
          (try simp only [Act.put, List.getElem_toArray, List.getElem_cons_succ, List.getElem_cons_zero, List.setIfInBounds_toArray, List.set_cons_zero, List.set_cons_succ])
          refine wpAnyH_take (i := 7) (v := ?_) rfl (by kernel_rfl) (by kernel_rfl) (by kernel_rfl) (fun _ _ _ h => h) (Or.inl ⟨by kernel_rfl, ?_⟩) hHq1 ?_
          rotate_left
          · (intro w hSw; first | (go_simp; done) | (go_simp; with_reducible rfl))
          (try simp only [Act.put, List.getElem_toArray, List.getElem_cons_succ, List.getElem_cons_zero, List.setIfInBounds_toArray, List.set_cons_zero, List.set_cons_succ])
          refine wpAnyH_ready (rs := [8]) (by kernel_rfl) (by simp) (AllReadyH.cons rfl (fun K hK => ?_) AllReadyH.nil)
          have hH := hHq1
          (go_simp; go_at_call 30; refine (HS6.out _ (HB6X.out.trans (hH.1.mono HB6X.out.size))).mono ?_; rintro e w12 ⟨rfl, hb12⟩)
          refine hK.out _ _ (by exact ⟨hH.1.trans (hb12.mono hH.1.size), cell_at hb12 hH.2.1 rfl, cell_at hb12 hH.2.2.1 rfl, cell_at hb12 hH.2.2.2.1 rfl, cell_at hb12 hH.2.2.2.2.1 rfl, cell_at hb12 hH.2.2.2.2.2.1 rfl, cell_at hb12 hH.2.2.2.2.2.2.1 rfl, cell_at hb12 hH.2.2.2.2.2.2.2.1 rfl, cell_at hb12 hH.2.2.2.2.2.2.2.2.1 rfl, cell_at hb12 hH.2.2.2.2.2.2.2.2.2 rfl⟩) (fun hHq2 => ?_)
          clear hK K hH hHq1
          (try simp only [Act.put, List.getElem_toArray, List.getElem_cons_succ, List.getElem_cons_zero, List.setIfInBounds_toArray, List.set_cons_zero, List.set_cons_succ])
          refine wpAnyH_take (i := 9) (v := ?_) rfl (by kernel_rfl) (by kernel_rfl) (by kernel_rfl) (fun _ _ _ h => h) (Or.inl ⟨by kernel_rfl, ?_⟩) hHq2 ?_
          rotate_left
          · (intro w hSw; first | (go_simp; done) | (go_simp; with_reducible rfl))
          (try simp only [Act.put, List.getElem_toArray, List.getElem_cons_succ, List.getElem_cons_zero, List.setIfInBounds_toArray, List.set_cons_zero, List.set_cons_succ])
          refine wpAnyH_take (i := 10) (v := ?_) rfl (by kernel_rfl) (by kernel_rfl) (by kernel_rfl) (fun _ _ _ h => h) (Or.inl ⟨by kernel_rfl, ?_⟩) hHq2 ?_
          rotate_left
          · (intro w hSw; first | (go_simp; done) | (go_simp; with_reducible rfl))
          (try simp only [Act.put, List.getElem_toArray, List.getElem_cons_succ, List.getElem_cons_zero, List.setIfInBounds_toArray, List.set_cons_zero, List.set_cons_succ])
          refine wpAnyH_take (i := 11) (v := ?_) rfl (by kernel_rfl) (by kernel_rfl) (by kernel_rfl) (fun _ _ _ h => h) (Or.inl ⟨by kernel_rfl, ?_⟩) hHq2 ?_
          rotate_left
          · (intro w hSw; first | (go_simp; done) | (go_simp; with_reducible rfl))
          (try simp only [Act.put, List.getElem_toArray, List.getElem_cons_succ, List.getElem_cons_zero, List.setIfInBounds_toArray, List.set_cons_zero, List.set_cons_succ])
          refine wpAnyH_take (i := 12) (v := ?_) rfl (by kernel_rfl) (by kernel_rfl) (by kernel_rfl) (fun _ _ _ h => h) (Or.inl ⟨by kernel_rfl, ?_⟩) hHq2 ?_
          rotate_left
          · (intro w hSw; first | (go_simp; done) | (go_simp; with_reducible rfl))
          (try simp only [Act.put, List.getElem_toArray, List.getElem_cons_succ, List.getElem_cons_zero, List.setIfInBounds_toArray, List.set_cons_zero, List.set_cons_succ])
          refine wpAnyH_take (i := 13) (v := ?_) rfl (by kernel_rfl) (by kernel_rfl) (by kernel_rfl) (fun _ _ _ h => h) (Or.inl ⟨by kernel_rfl, ?_⟩) hHq2 ?_
          rotate_left
          · (intro w hSw; first | (go_simp; done) | (go_simp; with_reducible rfl))
          (try simp only [Act.put, List.getElem_toArray, List.getElem_cons_succ, List.getElem_cons_zero, List.setIfInBounds_toArray, List.set_cons_zero, List.set_cons_succ])
          refine wpAnyH_take (i := 14) (v := ?_) rfl (by kernel_rfl) (by kernel_rfl) (by kernel_rfl) (fun _ _ _ h => h) (Or.inl ⟨by kernel_rfl, ?_⟩) hHq2 ?_
          rotate_left
          · (intro w hSw; first | (go_simp; done) | (go_simp; with_reducible rfl))
          (try simp only [Act.put, List.getElem_toArray, List.getElem_cons_succ, List.getElem_cons_zero, List.setIfInBounds_toArray, List.set_cons_zero, List.set_cons_succ])
          refine wpAnyH_take (i := 15) (v := ?_) rfl (by kernel_rfl) (by kernel_rfl) (by kernel_rfl) (fun _ _ _ h => h) (Or.inl ⟨by kernel_rfl, ?_⟩) hHq2 ?_
          rotate_left
          · (intro w hSw; first | (go_simp; done) | (go_simp; with_reducible rfl))
          (try simp only [Act.put, List.getElem_toArray, List.getElem_cons_succ, List.getElem_cons_zero, List.setIfInBounds_toArray, List.set_cons_zero, List.set_cons_succ])
          refine wpAnyH_take (i := 16) (v := ?_) rfl (by kernel_rfl) (by kernel_rfl) (by kernel_rfl) (fun _ _ _ h => h) (Or.inl ⟨by kernel_rfl, ?_⟩) hHq2 ?_
          rotate_left
          · (intro w hSw; first | (go_simp; done) | (go_simp; with_reducible rfl))
          (try simp only [Act.put, List.getElem_toArray, List.getElem_cons_succ, List.getElem_cons_zero, List.setIfInBounds_toArray, List.set_cons_zero, List.set_cons_succ])
          refine wpAnyH_take (i := 17) (v := ?_) rfl (by kernel_rfl) (by kernel_rfl) (by kernel_rfl) (fun _ _ _ h => h) (Or.inl ⟨by kernel_rfl, ?_⟩) hHq2 ?_
          rotate_left
          · (intro w hSw; first | (go_simp; done) | (go_simp; with_reducible rfl))
          (try simp only [Act.put, List.getElem_toArray, List.getElem_cons_succ, List.getElem_cons_zero, List.setIfInBounds_toArray, List.set_cons_zero, List.set_cons_succ])
          refine wpAnyH_take (i := 18) (v := ?_) rfl (by kernel_rfl) (by kernel_rfl) (by kernel_rfl) (fun _ _ _ h => h) (Or.inl ⟨by kernel_rfl, ?_⟩) hHq2 ?_
          rotate_left
          · (intro w hSw; first | (go_simp; done) | (go_simp; with_reducible rfl))
          (try simp only [Act.put, List.getElem_toArray, List.getElem_cons_succ, List.getElem_cons_zero, List.setIfInBounds_toArray, List.set_cons_zero, List.set_cons_succ])
          refine wpAnyH_take (i := 19) (v := ?_) rfl (by kernel_rfl) (by kernel_rfl) (by kernel_rfl) (fun _ _ _ h => h) (Or.inl ⟨by kernel_rfl, ?_⟩) hHq2 ?_
          rotate_left
          · (intro w hSw; first | (go_simp; done) | (go_simp; with_reducible rfl))
          (try simp only [Act.put, List.getElem_toArray, List.getElem_cons_succ, List.getElem_cons_zero, List.setIfInBounds_toArray, List.set_cons_zero, List.set_cons_succ])
          refine wpAnyH_take (i := 20) (v := ?_) rfl (by kernel_rfl) (by kernel_rfl) (by kernel_rfl) (fun _ _ _ h => h) (Or.inl ⟨by kernel_rfl, ?_⟩) hHq2 ?_
          rotate_left
          · (intro w hSw; first | (go_simp; done) | (go_simp; with_reducible rfl))
          (try simp only [Act.put, List.getElem_toArray, List.getElem_cons_succ, List.getElem_cons_zero, List.setIfInBounds_toArray, List.set_cons_zero, List.set_cons_succ])
          refine wpAnyH_take (i := 21) (v := ?_) rfl (by kernel_rfl) (by kernel_rfl) (by kernel_rfl) (fun _ _ _ h => h) (Or.inl ⟨by kernel_rfl, ?_⟩) hHq2 ?_
          rotate_left
          · (intro w hSw; first | (go_simp; done) | (go_simp; with_reducible rfl))
          (try simp only [Act.put, List.getElem_toArray, List.getElem_cons_succ, List.getElem_cons_zero, List.setIfInBounds_toArray, List.set_cons_zero, List.set_cons_succ])
          refine wpAnyH_take (i := 22) (v := ?_) rfl (by kernel_rfl) (by kernel_rfl) (by kernel_rfl) (fun _ _ _ h => h) (Or.inl ⟨by kernel_rfl, ?_⟩) hHq2 ?_
          rotate_left
          · (intro w hSw; first | (go_simp; done) | (go_simp; with_reducible rfl))
          (try simp only [Act.put, List.getElem_toArray, List.getElem_cons_succ, List.getElem_cons_zero, List.setIfInBounds_toArray, List.set_cons_zero, List.set_cons_succ])
          refine wpAnyH_take (i := 23) (v := ?_) rfl (by kernel_rfl) (by kernel_rfl) (by kernel_rfl) (fun _ _ _ h => h) (Or.inl ⟨by kernel_rfl, ?_⟩) hHq2 ?_
          rotate_left
          · (intro w hSw; first | (go_simp; done) | (go_simp; with_reducible rfl))
          (try simp only [Act.put, List.getElem_toArray, List.getElem_cons_succ, List.getElem_cons_zero, List.setIfInBounds_toArray, List.set_cons_zero, List.set_cons_succ])
          refine wpAnyH_take (i := 25) (v := ?_) rfl (by kernel_rfl) (by kernel_rfl) (by kernel_rfl) (fun _ _ _ h => h) (Or.inl ⟨by kernel_rfl, ?_⟩) hHq2 ?_
          rotate_left
          · (intro w hSw; first | (go_simp; done) | (go_simp; with_reducible rfl))
          (try simp only [Act.put, List.getElem_toArray, List.getElem_cons_succ, List.getElem_cons_zero, List.setIfInBounds_toArray, List.set_cons_zero, List.set_cons_succ])
          refine wpAnyH_take (i := 26) (v := .string ⟨cs.toArray⟩) rfl (by kernel_rfl) (by kernel_rfl) (by kernel_rfl) (fun _ _ _ h => h) (Or.inl ⟨by kernel_rfl, ?_⟩) hHq2 ?_
          · (intro w hSw; have hcv := conv_ro (c := qn + 1) (HRO.out w (HB5X.out.trans (hSw.1.mono HB5X.out.size))) HNL.out; go_simp)
          (try simp only [Act.put, List.getElem_toArray, List.getElem_cons_succ, List.getElem_cons_zero, List.setIfInBounds_toArray, List.set_cons_zero, List.set_cons_succ])
          refine wpAnyH_take (i := 27) (v := ?_) rfl (by kernel_rfl) (by kernel_rfl) (by kernel_rfl) (fun _ _ _ h => h) (Or.inl ⟨by kernel_rfl, ?_⟩) hHq2 ?_
          rotate_left
          · (intro w hSw; first | (go_simp; done) | (go_simp; with_reducible rfl))
          (try simp only [Act.put, List.getElem_toArray, List.getElem_cons_succ, List.getElem_cons_zero, List.setIfInBounds_toArray, List.set_cons_zero, List.set_cons_succ])
          refine wpAnyH_take (i := 28) (v := .string ⟨cs.toArray⟩) rfl (by kernel_rfl) (by kernel_rfl) (by kernel_rfl) (fun _ _ _ h => h) (Or.inl ⟨by kernel_rfl, ?_⟩) hHq2 ?_
          · (intro w hSw; have hcv := conv_ro (c := nd) (HDS.out w hSw.1) HND.out; go_simp)
          (try simp only [Act.put, List.getElem_toArray, List.getElem_cons_succ, List.getElem_cons_zero, List.setIfInBounds_toArray, List.set_cons_zero, List.set_cons_succ])
          refine wpAnyH_take (i := 29) (v := ?_) rfl (by kernel_rfl) (by kernel_rfl) (by kernel_rfl) (fun _ _ _ h => h) (Or.inl ⟨by kernel_rfl, ?_⟩) hHq2 ?_
          rotate_left
          · (intro w hSw; first | (go_simp; done) | (go_simp; with_reducible rfl))
          (try simp only [Act.put, List.getElem_toArray, List.getElem_cons_succ, List.getElem_cons_zero, List.setIfInBounds_toArray, List.set_cons_zero, List.set_cons_succ])
          refine wpAnyH_ready (rs := [24]) (by kernel_rfl) (by simp) (AllReadyH.cons rfl (fun K hK => ?_) AllReadyH.nil)
          have hH := hHq2
          (go_simp; go_at_call 30; refine (HSM.out _ (HB10.out.trans (hH.1.mono HB10.out.size))).mono ?_; rintro e w13 ⟨rfl, hb13⟩)
          refine hK.out _ _ (by exact ⟨hH.1.trans (hb13.mono hH.1.size), cell_at hb13 hH.2.1 rfl, cell_at hb13 hH.2.2.1 rfl, cell_at hb13 hH.2.2.2.1 rfl, cell_at hb13 hH.2.2.2.2.1 rfl, cell_at hb13 hH.2.2.2.2.2.1 rfl, cell_at hb13 hH.2.2.2.2.2.2.1 rfl, cell_at hb13 hH.2.2.2.2.2.2.2.1 rfl, cell_at hb13 hH.2.2.2.2.2.2.2.2.1 rfl, cell_at hb13 hH.2.2.2.2.2.2.2.2.2 rfl⟩) (fun hHq3 => ?_)
          clear hK K hH hHq2
          (try simp only [Act.put, List.getElem_toArray, List.getElem_cons_succ, List.getElem_cons_zero, List.setIfInBounds_toArray, List.set_cons_zero, List.set_cons_succ])
          refine wpAnyH_take (i := 30) (v := ?_) rfl (by kernel_rfl) (by kernel_rfl) (by kernel_rfl) (fun _ _ _ h => h) (Or.inl ⟨by kernel_rfl, ?_⟩) hHq3 ?_
          rotate_left
          · (intro w hSw; first | (go_simp; done) | (go_simp; with_reducible rfl))
          (try simp only [Act.put, List.getElem_toArray, List.getElem_cons_succ, List.getElem_cons_zero, List.setIfInBounds_toArray, List.set_cons_zero, List.set_cons_succ])
          refine wpAnyH_take (i := 31) (v := ?_) rfl (by kernel_rfl) (by kernel_rfl) (by kernel_rfl) (fun _ _ _ h => h) (Or.inl ⟨by kernel_rfl, ?_⟩) hHq3 ?_
          rotate_left
          · (intro w hSw; first | (go_simp; done) | (go_simp; with_reducible rfl))
          (try simp only [Act.put, List.getElem_toArray, List.getElem_cons_succ, List.getElem_cons_zero, List.setIfInBounds_toArray, List.set_cons_zero, List.set_cons_succ])
          refine wpAnyH_take (i := 32) (v := ?_) rfl (by kernel_rfl) (by kernel_rfl) (by kernel_rfl) (fun _ _ _ h => h) (Or.inl ⟨by kernel_rfl, ?_⟩) hHq3 ?_
          rotate_left
          · (intro w hSw; first | (go_simp; done) | (go_simp; with_reducible rfl))
          (try simp only [Act.put, List.getElem_toArray, List.getElem_cons_succ, List.getElem_cons_zero, List.setIfInBounds_toArray, List.set_cons_zero, List.set_cons_succ])
          refine wpAnyH_take (i := 33) (v := ?_) rfl (by kernel_rfl) (by kernel_rfl) (by kernel_rfl) (fun _ _ _ h => h) (Or.inl ⟨by kernel_rfl, ?_⟩) hHq3 ?_
          rotate_left
          · (intro w hSw; first | (go_simp; done) | (go_simp; with_reducible rfl))
          (try simp only [Act.put, List.getElem_toArray, List.getElem_cons_succ, List.getElem_cons_zero, List.setIfInBounds_toArray, List.set_cons_zero, List.set_cons_succ])
          refine wpAnyH_done (by kernel_rfl) ?_ _
          have hEnd := hHq3
          have HE := Lib.hid (HEND.out _ (HB10.out.trans (hEnd.1.mono HB10.out.size)))
          clear hHeld hEnd
          go_wp2_with fail
          go_ret
          exact ⟨rfl, HE.out⟩
        · have hne : lalike X Y = false := by
            cases h : lalike X Y with
            | false => rfl
            | true =>
              have := lalike_iff.1 h
              subst this
              exact absurd (HLE.out.unique he2) heq
          rw [hne] at HSM
          have hsn : (cs == ds) = false := by simpa using heq
          clear hr2 he2 heq hne
          refine wp_region_held_drew (S := (fun W => Below w10.heap.size w10 W ∧ W.cell? ⟨w.heap.size, 0, none⟩ = some (.int .u64 (ep : Int)) ∧ W.cell? ⟨w.heap.size, 1, none⟩ = some (.slice sa n c) ∧ W.cell? ⟨w.heap.size, 2, none⟩ = some (.int .i64 q) ∧ W.cell? ⟨w.heap.size + 1, 0, none⟩ = some (.int .u64 (ep2 : Int)) ∧ W.cell? ⟨w.heap.size + 1, 1, none⟩ = some (.slice sa2 n2 c2) ∧ W.cell? ⟨w.heap.size + 1, 2, none⟩ = some (.int .i64 q2) ∧ W.cell? ⟨p6, 0, none⟩ = some (.int .u64 (te6 : Int)) ∧ W.cell? ⟨p6, 1, none⟩ = some (.slice ta6 tn6 tc6) ∧ W.cell? ⟨p6, 2, none⟩ = some (.int .i64 tq6))) (by kernel_rfl) HSS.out (fun hHeld => ?_)
          refine wpAnyH_ready (rs := [0]) (by kernel_rfl) (by simp) (AllReadyH.cons rfl (fun K hK => ?_) AllReadyH.nil)
          have hH := hHeld
          (go_simp; go_at_call 10; refine (HAL.out _).mono ?_; rintro e w11 ⟨rfl, hb11⟩)
          refine hK.out _ _ (by exact ⟨hH.1.trans (hb11.mono hH.1.size), cell_at hb11 hH.2.1 rfl, cell_at hb11 hH.2.2.1 rfl, cell_at hb11 hH.2.2.2.1 rfl, cell_at hb11 hH.2.2.2.2.1 rfl, cell_at hb11 hH.2.2.2.2.2.1 rfl, cell_at hb11 hH.2.2.2.2.2.2.1 rfl, cell_at hb11 hH.2.2.2.2.2.2.2.1 rfl, cell_at hb11 hH.2.2.2.2.2.2.2.2.1 rfl, cell_at hb11 hH.2.2.2.2.2.2.2.2.2 rfl⟩) (fun hHq1 => ?_)
          clear hK K hH 
          (try simp only [Act.put, List.getElem_toArray, List.getElem_cons_succ, List.getElem_cons_zero, List.setIfInBounds_toArray, List.set_cons_zero, List.set_cons_succ])
          refine wpAnyH_take (i := 1) (v := ?_) rfl (by kernel_rfl) (by kernel_rfl) (by kernel_rfl) (fun _ _ _ h => h) (Or.inl ⟨by kernel_rfl, ?_⟩) hHq1 ?_
          rotate_left
          · (intro w hSw; first | (go_simp; done) | (go_simp; with_reducible rfl))
          (try simp only [Act.put, List.getElem_toArray, List.getElem_cons_succ, List.getElem_cons_zero, List.setIfInBounds_toArray, List.set_cons_zero, List.set_cons_succ])
          refine wpAnyH_take (i := 2) (v := ?_) rfl (by kernel_rfl) (by kernel_rfl) (by kernel_rfl) (fun _ _ _ h => h) (Or.inl ⟨by kernel_rfl, ?_⟩) hHq1 ?_
          rotate_left
          · (intro w hSw; first | (go_simp; done) | (go_simp; with_reducible rfl))
          (try simp only [Act.put, List.getElem_toArray, List.getElem_cons_succ, List.getElem_cons_zero, List.setIfInBounds_toArray, List.set_cons_zero, List.set_cons_succ])
          refine wpAnyH_take (i := 3) (v := ?_) rfl (by kernel_rfl) (by kernel_rfl) (by kernel_rfl) (fun _ _ _ h => h) (Or.inl ⟨by kernel_rfl, ?_⟩) hHq1 ?_
          rotate_left
          · (intro w hSw; first | (go_simp; done) | (go_simp; with_reducible rfl))
          (try simp only [Act.put, List.getElem_toArray, List.getElem_cons_succ, List.getElem_cons_zero, List.setIfInBounds_toArray, List.set_cons_zero, List.set_cons_succ])
          refine wpAnyH_take (i := 4) (v := ?_) rfl (by kernel_rfl) (by kernel_rfl) (by kernel_rfl) (fun _ _ _ h => h) (Or.inl ⟨by kernel_rfl, ?_⟩) hHq1 ?_
          rotate_left
          · (intro w hSw; first | (go_simp; done) | (go_simp; with_reducible rfl))
          (try simp only [Act.put, List.getElem_toArray, List.getElem_cons_succ, List.getElem_cons_zero, List.setIfInBounds_toArray, List.set_cons_zero, List.set_cons_succ])
          refine wpAnyH_take (i := 5) (v := ?_) rfl (by kernel_rfl) (by kernel_rfl) (by kernel_rfl) (fun _ _ _ h => h) (Or.inl ⟨by kernel_rfl, ?_⟩) hHq1 ?_
          rotate_left
          · (intro w hSw; first | (go_simp; done) | (go_simp; with_reducible rfl))
          (try simp only [Act.put, List.getElem_toArray, List.getElem_cons_succ, List.getElem_cons_zero, List.setIfInBounds_toArray, List.set_cons_zero, List.set_cons_succ])
          refine wpAnyH_take (i := 6) (v := ?_) rfl (by kernel_rfl) (by kernel_rfl) (by kernel_rfl) (fun _ _ _ h => h) (Or.inl ⟨by kernel_rfl, ?_⟩) hHq1 ?_
          rotate_left
          · (intro w hSw; first | (go_simp; done) | (go_simp; with_reducible rfl))
          (try simp only [Act.put, List.getElem_toArray, List.getElem_cons_succ, List.getElem_cons_zero, List.setIfInBounds_toArray, List.set_cons_zero, List.set_cons_succ])
          refine wpAnyH_take (i := 7) (v := ?_) rfl (by kernel_rfl) (by kernel_rfl) (by kernel_rfl) (fun _ _ _ h => h) (Or.inl ⟨by kernel_rfl, ?_⟩) hHq1 ?_
          rotate_left
          · (intro w hSw; first | (go_simp; done) | (go_simp; with_reducible rfl))
          (try simp only [Act.put, List.getElem_toArray, List.getElem_cons_succ, List.getElem_cons_zero, List.setIfInBounds_toArray, List.set_cons_zero, List.set_cons_succ])
          refine wpAnyH_ready (rs := [8]) (by kernel_rfl) (by simp) (AllReadyH.cons rfl (fun K hK => ?_) AllReadyH.nil)
          have hH := hHq1
          (go_simp; go_at_call 30; refine (HS6.out _ (HB6X.out.trans (hH.1.mono HB6X.out.size))).mono ?_; rintro e w12 ⟨rfl, hb12⟩)
          refine hK.out _ _ (by exact ⟨hH.1.trans (hb12.mono hH.1.size), cell_at hb12 hH.2.1 rfl, cell_at hb12 hH.2.2.1 rfl, cell_at hb12 hH.2.2.2.1 rfl, cell_at hb12 hH.2.2.2.2.1 rfl, cell_at hb12 hH.2.2.2.2.2.1 rfl, cell_at hb12 hH.2.2.2.2.2.2.1 rfl, cell_at hb12 hH.2.2.2.2.2.2.2.1 rfl, cell_at hb12 hH.2.2.2.2.2.2.2.2.1 rfl, cell_at hb12 hH.2.2.2.2.2.2.2.2.2 rfl⟩) (fun hHq2 => ?_)
          clear hK K hH hHq1
          (try simp only [Act.put, List.getElem_toArray, List.getElem_cons_succ, List.getElem_cons_zero, List.setIfInBounds_toArray, List.set_cons_zero, List.set_cons_succ])
          refine wpAnyH_take (i := 9) (v := ?_) rfl (by kernel_rfl) (by kernel_rfl) (by kernel_rfl) (fun _ _ _ h => h) (Or.inl ⟨by kernel_rfl, ?_⟩) hHq2 ?_
          rotate_left
          · (intro w hSw; first | (go_simp; done) | (go_simp; with_reducible rfl))
          (try simp only [Act.put, List.getElem_toArray, List.getElem_cons_succ, List.getElem_cons_zero, List.setIfInBounds_toArray, List.set_cons_zero, List.set_cons_succ])
          refine wpAnyH_take (i := 10) (v := ?_) rfl (by kernel_rfl) (by kernel_rfl) (by kernel_rfl) (fun _ _ _ h => h) (Or.inl ⟨by kernel_rfl, ?_⟩) hHq2 ?_
          rotate_left
          · (intro w hSw; first | (go_simp; done) | (go_simp; with_reducible rfl))
          (try simp only [Act.put, List.getElem_toArray, List.getElem_cons_succ, List.getElem_cons_zero, List.setIfInBounds_toArray, List.set_cons_zero, List.set_cons_succ])
          refine wpAnyH_take (i := 11) (v := ?_) rfl (by kernel_rfl) (by kernel_rfl) (by kernel_rfl) (fun _ _ _ h => h) (Or.inl ⟨by kernel_rfl, ?_⟩) hHq2 ?_
          rotate_left
          · (intro w hSw; first | (go_simp; done) | (go_simp; with_reducible rfl))
          (try simp only [Act.put, List.getElem_toArray, List.getElem_cons_succ, List.getElem_cons_zero, List.setIfInBounds_toArray, List.set_cons_zero, List.set_cons_succ])
          refine wpAnyH_take (i := 12) (v := ?_) rfl (by kernel_rfl) (by kernel_rfl) (by kernel_rfl) (fun _ _ _ h => h) (Or.inl ⟨by kernel_rfl, ?_⟩) hHq2 ?_
          rotate_left
          · (intro w hSw; first | (go_simp; done) | (go_simp; with_reducible rfl))
          (try simp only [Act.put, List.getElem_toArray, List.getElem_cons_succ, List.getElem_cons_zero, List.setIfInBounds_toArray, List.set_cons_zero, List.set_cons_succ])
          refine wpAnyH_take (i := 13) (v := ?_) rfl (by kernel_rfl) (by kernel_rfl) (by kernel_rfl) (fun _ _ _ h => h) (Or.inl ⟨by kernel_rfl, ?_⟩) hHq2 ?_
          rotate_left
          · (intro w hSw; first | (go_simp; done) | (go_simp; with_reducible rfl))
          (try simp only [Act.put, List.getElem_toArray, List.getElem_cons_succ, List.getElem_cons_zero, List.setIfInBounds_toArray, List.set_cons_zero, List.set_cons_succ])
          refine wpAnyH_take (i := 14) (v := ?_) rfl (by kernel_rfl) (by kernel_rfl) (by kernel_rfl) (fun _ _ _ h => h) (Or.inl ⟨by kernel_rfl, ?_⟩) hHq2 ?_
          rotate_left
          · (intro w hSw; first | (go_simp; done) | (go_simp; with_reducible rfl))
          (try simp only [Act.put, List.getElem_toArray, List.getElem_cons_succ, List.getElem_cons_zero, List.setIfInBounds_toArray, List.set_cons_zero, List.set_cons_succ])
          refine wpAnyH_take (i := 15) (v := ?_) rfl (by kernel_rfl) (by kernel_rfl) (by kernel_rfl) (fun _ _ _ h => h) (Or.inl ⟨by kernel_rfl, ?_⟩) hHq2 ?_
          rotate_left
          · (intro w hSw; first | (go_simp; done) | (go_simp; with_reducible rfl))
          (try simp only [Act.put, List.getElem_toArray, List.getElem_cons_succ, List.getElem_cons_zero, List.setIfInBounds_toArray, List.set_cons_zero, List.set_cons_succ])
          refine wpAnyH_take (i := 16) (v := ?_) rfl (by kernel_rfl) (by kernel_rfl) (by kernel_rfl) (fun _ _ _ h => h) (Or.inl ⟨by kernel_rfl, ?_⟩) hHq2 ?_
          rotate_left
          · (intro w hSw; first | (go_simp; done) | (go_simp; with_reducible rfl))
          (try simp only [Act.put, List.getElem_toArray, List.getElem_cons_succ, List.getElem_cons_zero, List.setIfInBounds_toArray, List.set_cons_zero, List.set_cons_succ])
          refine wpAnyH_take (i := 17) (v := ?_) rfl (by kernel_rfl) (by kernel_rfl) (by kernel_rfl) (fun _ _ _ h => h) (Or.inl ⟨by kernel_rfl, ?_⟩) hHq2 ?_
          rotate_left
          · (intro w hSw; first | (go_simp; done) | (go_simp; with_reducible rfl))
          (try simp only [Act.put, List.getElem_toArray, List.getElem_cons_succ, List.getElem_cons_zero, List.setIfInBounds_toArray, List.set_cons_zero, List.set_cons_succ])
          refine wpAnyH_take (i := 18) (v := ?_) rfl (by kernel_rfl) (by kernel_rfl) (by kernel_rfl) (fun _ _ _ h => h) (Or.inl ⟨by kernel_rfl, ?_⟩) hHq2 ?_
          rotate_left
          · (intro w hSw; first | (go_simp; done) | (go_simp; with_reducible rfl))
          (try simp only [Act.put, List.getElem_toArray, List.getElem_cons_succ, List.getElem_cons_zero, List.setIfInBounds_toArray, List.set_cons_zero, List.set_cons_succ])
          refine wpAnyH_take (i := 19) (v := ?_) rfl (by kernel_rfl) (by kernel_rfl) (by kernel_rfl) (fun _ _ _ h => h) (Or.inl ⟨by kernel_rfl, ?_⟩) hHq2 ?_
          rotate_left
          · (intro w hSw; first | (go_simp; done) | (go_simp; with_reducible rfl))
          (try simp only [Act.put, List.getElem_toArray, List.getElem_cons_succ, List.getElem_cons_zero, List.setIfInBounds_toArray, List.set_cons_zero, List.set_cons_succ])
          refine wpAnyH_take (i := 20) (v := ?_) rfl (by kernel_rfl) (by kernel_rfl) (by kernel_rfl) (fun _ _ _ h => h) (Or.inl ⟨by kernel_rfl, ?_⟩) hHq2 ?_
          rotate_left
          · (intro w hSw; first | (go_simp; done) | (go_simp; with_reducible rfl))
          (try simp only [Act.put, List.getElem_toArray, List.getElem_cons_succ, List.getElem_cons_zero, List.setIfInBounds_toArray, List.set_cons_zero, List.set_cons_succ])
          refine wpAnyH_take (i := 21) (v := ?_) rfl (by kernel_rfl) (by kernel_rfl) (by kernel_rfl) (fun _ _ _ h => h) (Or.inl ⟨by kernel_rfl, ?_⟩) hHq2 ?_
          rotate_left
          · (intro w hSw; first | (go_simp; done) | (go_simp; with_reducible rfl))
          (try simp only [Act.put, List.getElem_toArray, List.getElem_cons_succ, List.getElem_cons_zero, List.setIfInBounds_toArray, List.set_cons_zero, List.set_cons_succ])
          refine wpAnyH_take (i := 22) (v := ?_) rfl (by kernel_rfl) (by kernel_rfl) (by kernel_rfl) (fun _ _ _ h => h) (Or.inl ⟨by kernel_rfl, ?_⟩) hHq2 ?_
          rotate_left
          · (intro w hSw; first | (go_simp; done) | (go_simp; with_reducible rfl))
          (try simp only [Act.put, List.getElem_toArray, List.getElem_cons_succ, List.getElem_cons_zero, List.setIfInBounds_toArray, List.set_cons_zero, List.set_cons_succ])
          refine wpAnyH_take (i := 23) (v := ?_) rfl (by kernel_rfl) (by kernel_rfl) (by kernel_rfl) (fun _ _ _ h => h) (Or.inl ⟨by kernel_rfl, ?_⟩) hHq2 ?_
          rotate_left
          · (intro w hSw; first | (go_simp; done) | (go_simp; with_reducible rfl))
          (try simp only [Act.put, List.getElem_toArray, List.getElem_cons_succ, List.getElem_cons_zero, List.setIfInBounds_toArray, List.set_cons_zero, List.set_cons_succ])
          refine wpAnyH_take (i := 25) (v := ?_) rfl (by kernel_rfl) (by kernel_rfl) (by kernel_rfl) (fun _ _ _ h => h) (Or.inl ⟨by kernel_rfl, ?_⟩) hHq2 ?_
          rotate_left
          · (intro w hSw; first | (go_simp; done) | (go_simp; with_reducible rfl))
          (try simp only [Act.put, List.getElem_toArray, List.getElem_cons_succ, List.getElem_cons_zero, List.setIfInBounds_toArray, List.set_cons_zero, List.set_cons_succ])
          refine wpAnyH_take (i := 26) (v := .string ⟨cs.toArray⟩) rfl (by kernel_rfl) (by kernel_rfl) (by kernel_rfl) (fun _ _ _ h => h) (Or.inl ⟨by kernel_rfl, ?_⟩) hHq2 ?_
          · (intro w hSw; have hcv := conv_ro (c := qn + 1) (HRO.out w (HB5X.out.trans (hSw.1.mono HB5X.out.size))) HNL.out; go_simp)
          (try simp only [Act.put, List.getElem_toArray, List.getElem_cons_succ, List.getElem_cons_zero, List.setIfInBounds_toArray, List.set_cons_zero, List.set_cons_succ])
          refine wpAnyH_take (i := 27) (v := ?_) rfl (by kernel_rfl) (by kernel_rfl) (by kernel_rfl) (fun _ _ _ h => h) (Or.inl ⟨by kernel_rfl, ?_⟩) hHq2 ?_
          rotate_left
          · (intro w hSw; first | (go_simp; done) | (go_simp; with_reducible rfl))
          (try simp only [Act.put, List.getElem_toArray, List.getElem_cons_succ, List.getElem_cons_zero, List.setIfInBounds_toArray, List.set_cons_zero, List.set_cons_succ])
          refine wpAnyH_take (i := 28) (v := .string ⟨ds.toArray⟩) rfl (by kernel_rfl) (by kernel_rfl) (by kernel_rfl) (fun _ _ _ h => h) (Or.inl ⟨by kernel_rfl, ?_⟩) hHq2 ?_
          · (intro w hSw; have hcv := conv_ro (c := nd) (HDS.out w hSw.1) HND.out; go_simp)
          (try simp only [Act.put, List.getElem_toArray, List.getElem_cons_succ, List.getElem_cons_zero, List.setIfInBounds_toArray, List.set_cons_zero, List.set_cons_succ])
          refine wpAnyH_take (i := 29) (v := ?_) rfl (by kernel_rfl) (by kernel_rfl) (by kernel_rfl) (fun _ _ _ h => h) (Or.inl ⟨by kernel_rfl, ?_⟩) hHq2 ?_
          rotate_left
          · (intro w hSw; first | (go_simp; done) | (go_simp; with_reducible rfl))
          (try simp only [Act.put, List.getElem_toArray, List.getElem_cons_succ, List.getElem_cons_zero, List.setIfInBounds_toArray, List.set_cons_zero, List.set_cons_succ])
          refine wpAnyH_ready (rs := [24]) (by kernel_rfl) (by simp) (AllReadyH.cons rfl (fun K hK => ?_) AllReadyH.nil)
          have hH := hHq2
          (go_simp; go_at_call 30; refine (HSM.out _ (HB10.out.trans (hH.1.mono HB10.out.size))).mono ?_; rintro e w13 ⟨rfl, hb13⟩)
          refine hK.out _ _ (by exact ⟨hH.1.trans (hb13.mono hH.1.size), cell_at hb13 hH.2.1 rfl, cell_at hb13 hH.2.2.1 rfl, cell_at hb13 hH.2.2.2.1 rfl, cell_at hb13 hH.2.2.2.2.1 rfl, cell_at hb13 hH.2.2.2.2.2.1 rfl, cell_at hb13 hH.2.2.2.2.2.2.1 rfl, cell_at hb13 hH.2.2.2.2.2.2.2.1 rfl, cell_at hb13 hH.2.2.2.2.2.2.2.2.1 rfl, cell_at hb13 hH.2.2.2.2.2.2.2.2.2 rfl⟩) (fun hHq3 => ?_)
          clear hK K hH hHq2
          (try simp only [Act.put, List.getElem_toArray, List.getElem_cons_succ, List.getElem_cons_zero, List.setIfInBounds_toArray, List.set_cons_zero, List.set_cons_succ])
          refine wpAnyH_take (i := 30) (v := ?_) rfl (by kernel_rfl) (by kernel_rfl) (by kernel_rfl) (fun _ _ _ h => h) (Or.inl ⟨by kernel_rfl, ?_⟩) hHq3 ?_
          rotate_left
          · (intro w hSw; first | (go_simp; done) | (go_simp; with_reducible rfl))
          (try simp only [Act.put, List.getElem_toArray, List.getElem_cons_succ, List.getElem_cons_zero, List.setIfInBounds_toArray, List.set_cons_zero, List.set_cons_succ])
          refine wpAnyH_take (i := 31) (v := ?_) rfl (by kernel_rfl) (by kernel_rfl) (by kernel_rfl) (fun _ _ _ h => h) (Or.inl ⟨by kernel_rfl, ?_⟩) hHq3 ?_
          rotate_left
          · (intro w hSw; first | (go_simp; done) | (go_simp; with_reducible rfl))
          (try simp only [Act.put, List.getElem_toArray, List.getElem_cons_succ, List.getElem_cons_zero, List.setIfInBounds_toArray, List.set_cons_zero, List.set_cons_succ])
          refine wpAnyH_take (i := 32) (v := ?_) rfl (by kernel_rfl) (by kernel_rfl) (by kernel_rfl) (fun _ _ _ h => h) (Or.inl ⟨by kernel_rfl, ?_⟩) hHq3 ?_
          rotate_left
          · (intro w hSw; first | (go_simp; done) | (go_simp; with_reducible rfl))
          (try simp only [Act.put, List.getElem_toArray, List.getElem_cons_succ, List.getElem_cons_zero, List.setIfInBounds_toArray, List.set_cons_zero, List.set_cons_succ])
          refine wpAnyH_take (i := 33) (v := ?_) rfl (by kernel_rfl) (by kernel_rfl) (by kernel_rfl) (fun _ _ _ h => h) (Or.inl ⟨by kernel_rfl, ?_⟩) hHq3 ?_
          rotate_left
          · (intro w hSw; first | (go_simp; done) | (go_simp; with_reducible rfl))
          (try simp only [Act.put, List.getElem_toArray, List.getElem_cons_succ, List.getElem_cons_zero, List.setIfInBounds_toArray, List.set_cons_zero, List.set_cons_succ])
          refine wpAnyH_done (by kernel_rfl) ?_ _
          have hEnd := hHq3
          have HE := Lib.hid (HEND.out _ (HB10.out.trans (hEnd.1.mono HB10.out.size)))
          clear hHeld hEnd
          go_wp2_with fail
          go_ret
          exact ⟨rfl, HE.out⟩
end Go.Proofs.Ytdpaofedepnnbaa
