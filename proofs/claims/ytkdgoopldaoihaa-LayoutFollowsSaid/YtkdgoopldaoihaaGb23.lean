/-
  Same of the document's messages: its parts. No claim of its own.
-/
import Derived.Test.YtkdgoopldaoihaaGb10
import Derived.Test.YtkdgoopldaoihaaGb8
import Derived.Deep.RegionHeld3
import Derived.Test.YtkdgoopldaoihaaGb20
import Derived.Test.YtkdgoopldaoihaaGb2
namespace Go.Proofs.Ytkdgoopldaoihaa
open Go.RowKit Go.Deep Go.Shelf
set_option linter.unusedVariables false
set_option linter.unusedSimpArgs false

set_option maxHeartbeats 1000000 in
theorem sameChainW_any (L M : List Int) (a a2 : Option Addr) (c c2 B : Nat) (w : World) (hro : Ro w B a (i64s L)) (hro2 : Ro w B a2 (i64s M)) (hB : B ≤ w.heap.size) (hl : L.length ≤ 9223372036854775807) (hl2 : M.length ≤ 9223372036854775807) :
    Calls Try.prog 12 #[.slice a L.length c, .slice a2 M.length c2] w fun e w' => e = .returned (.bool (decide (L = M))) ∧ Below w.heap.size w w' := by
  by_cases hlm : L.length = M.length
  · have HRO := Lib.hid hro
    have HRO2 := Lib.hid hro2
    have HS := Lib.hid hB
    have HN2 := Lib.hid hlm
    rw [← hlm] at hl2 ⊢
    generalize hN : L.length = n at *
    have HN := Lib.hid hN
    have hn1 : (n : Int) ≤ 9223372036854775807 := by omega
    obtain ⟨t, HT⟩ : ∃ t, Hid (decide (L = M) = t) := ⟨_, Lib.hid rfl⟩
    rw [HT.out]
    clear hro hro2 hB hN hlm hl2
    go_enter Try.func12, Try.ntmps12
    go_wp2_with fail
    go_loopw [5] (fun i wr => ∃ k : Nat, k ≤ n ∧ i = .int .i64 (k : Int) ∧ Hid (∀ j, j < k → L.getD j 0 = M.getD j 0) ∧ Hid (Below w.heap.size w wr)) (fun i _ => n - (intOf i).toNat)
    case atStart => exact ⟨0, Nat.zero_le _, rfl, Lib.hid (by omega), Lib.hid (Below.refl _ _)⟩
    case round =>
      obtain ⟨k, hk, rfl, HM, HBk⟩ := hrel
      by_cases hlt : k < n
      · have hkL : k < L.length := by rw [HN.out]; exact hlt
        have hkM : k < M.length := by rw [← HN2.out]; exact hlt
        obtain ⟨b, off, rfl, hb, hc⟩ := (HRO.out.below HBk.out HS.out).i64 (show 0 < L.length by omega)
        obtain ⟨b2, off2, rfl, hb2, hc2⟩ := (HRO2.out.below HBk.out HS.out).i64 (show 0 < M.length by omega)
        have e1 := hc k hkL
        have e2 := hc2 k hkM
        clear hc hc2
        have hk0 : (0 : Int) ≤ (k : Int) := by omega
        have hk1 : (k : Int) < (n : Int) := by omega
        obtain ⟨y, hy⟩ : ∃ y, L.getD k 0 = y := ⟨_, rfl⟩
        obtain ⟨z, hz⟩ : ∃ z, M.getD k 0 = z := ⟨_, rfl⟩
        rw [hy] at e1
        rw [hz] at e2
        have HY := Lib.hid hy
        have HZ := Lib.hid hz
        clear hy hz
        by_cases hx : y = z
        · have hx' : (y != z) = false := by rw [bne_eq_false_iff_eq]; exact hx
          have HX := Lib.hid hx
          clear hx
          go_wp2_with fail
          go_region
          go_wp2_with fail
          go_roundw
          case rel =>
            refine ⟨k + 1, by omega, by go_num, Lib.hid fun j hj => ?_, Lib.hid HBk.out.drew⟩
            by_cases e : j = k
            · subst e; rw [HY.out, HZ.out]; exact HX.out
            · exact HM.out j (by omega)
          case measure => simp [intOf]; omega
        · have hx' : (y != z) = true := by rw [bne_iff_ne]; exact hx
          obtain rfl : t = false := by
            rw [← HT.out]
            simp only [decide_eq_false_iff_not]
            rintro rfl
            exact hx (HY.out.symm.trans HZ.out)
          clear hx
          go_wp2_with fail
          go_region
          go_wp2_with fail
          go_ret
          exact ⟨rfl, HBk.out.drew⟩
      · obtain rfl : k = n := by omega
        obtain rfl : t = true := by
          rw [← HT.out]
          simp only [decide_eq_true_eq]
          apply List.ext_getElem (by rw [HN.out]; exact HN2.out)
          intro i h1 h2
          have := HM.out i (by rw [HN.out] at h1; exact h1)
          simpa [List.getD, h1, h2] using this
        go_wp2_with fail
        go_ret
        exact ⟨rfl, HBk.out⟩
  · have e : decide (L = M) = false := by simp only [decide_eq_false_iff_not]; rintro rfl; exact hlm rfl
    rw [e]
    generalize L.length = n at *
    generalize M.length = m at *
    have hne : ((n : Int) != (m : Int)) = true := by rw [bne_iff_ne]; omega
    clear hlm e hro hro2
    go_enter Try.func12, Try.ntmps12
    go_wp2_with fail
    go_ret
    exact ⟨rfl, Below.refl _ _⟩


end Go.Proofs.Ytkdgoopldaoihaa
namespace Go.Proofs.Ytkdgoopldaoihaa
open Go.RowKit Go.Deep Go.Shelf
set_option linter.unusedVariables false
set_option linter.unusedSimpArgs false

set_option maxHeartbeats 4000000 in
theorem rlsame_any (A B : LyT) (B0 : Nat) (w0 : World) (ha : LyIn w0 B0 A) (hb : LyIn w0 B0 B) (hfa : SgFit A.sg) (hfb : SgFit B.sg) (hB : B0 ≤ w0.heap.size) :
    Calls Try.prog 11 #[A.val, B.val] w0 fun e w' => e = .returned (.bool (lalike A.x B.x)) ∧ Below w0.heap.size w0 w' := by
  obtain ⟨f, a, c, L, q⟩ := A
  obtain ⟨f', a', c', L', q'⟩ := B
  simp only [LyT.val] at *
  obtain ⟨W, HWW⟩ : ∃ W, Hid ((w0.alloc (.cells #[.int .u64 (f : Int), .slice a L.length c, .int .i64 q] 25)).alloc (.cells #[.int .u64 (f' : Int), .slice a' L'.length c', .int .i64 q'] 25) = W) := ⟨_, Lib.hid rfl⟩
  have hWc : Chg [] w0 W := by rw [← HWW.out]; exact ((Chg.refl [] w0).alloc _).alloc _
  have hWb : Below w0.heap.size w0 W := hWc.low
  have o1 : Own W w0.heap.size 25 [.int .u64 (f : Int), .slice a L.length c, .int .i64 q] := by rw [← HWW.out]; exact (Own.new w0 _ _).alloc _
  have o2 : Own W (w0.heap.size + 1) 25 [.int .u64 (f' : Int), .slice a' L'.length c', .int .i64 q'] := by
    rw [← HWW.out]
    have := Own.new (w0.alloc (.cells #[.int .u64 (f : Int), .slice a L.length c, .int .i64 q] 25)) 25 [.int .u64 (f' : Int), .slice a' L'.length c', .int .i64 q']
    simpa using this
  obtain ⟨t, HT⟩ : ∃ t, Hid (lalike (LyT.x ⟨f, a, c, L, q⟩) (LyT.x ⟨f', a', c', L', q'⟩) = t) := ⟨_, Lib.hid rfl⟩
  rw [HT.out]
  have HLK : Hid (lalike (LyT.x ⟨f, a, c, L, q⟩) (LyT.x ⟨f', a', c', L', q'⟩) = true ↔ f = f' ∧ q = q' ∧ sgx L = sgx L') := Lib.hid ⟨fun h => by
    have := lalike_iff.1 h
    simp only [LyT.x, Ly.mk.injEq] at this
    exact ⟨this.1, this.2.2, this.2.1⟩, fun ⟨h1, h2, h3⟩ => lalike_iff.2 (by simp only [LyT.x, h1, h2, h3])⟩
  rw [HT.out] at HLK
  have HA := Lib.hid (And.intro (ha.1.below hWb hB) (ha.2.below hWb hB))
  have HBb := Lib.hid (And.intro (hb.1.below hWb hB) (hb.2.below hWb hB))
  have HS := Lib.hid (Nat.le_trans hB hWb.size)
  have HFA := Lib.hid hfa.2
  have HFB := Lib.hid hfb.2
  have hl1 := hfa.1
  have hl2 := hfb.1
  have HB := Lib.hid hWb
  have HO1 := Lib.hid o1
  have HO2 := Lib.hid o2
  have c0 := o1.cell 0
  have c1 := o1.cell 1
  have c2 := o1.cell 2
  have d0 := o2.cell 0
  have d1 := o2.cell 1
  have d2 := o2.cell 2
  simp at c0 c1 c2 d0 d1 d2
  have HK : Hid (∀ V, Below W.heap.size W V → V.cell? ⟨w0.heap.size, 1, none⟩ = some (.slice a L.length c) ∧ V.cell? ⟨w0.heap.size + 1, 1, none⟩ = some (.slice a' L'.length c')) := Lib.hid fun V hV => ⟨cell_keep hV c1 (World.block_lt_of_cell? _ _ c1), cell_keep hV d1 (World.block_lt_of_cell? _ _ d1)⟩
  obtain ⟨n, hn⟩ : ∃ n, L.length = n := ⟨_, rfl⟩
  obtain ⟨m, hm⟩ : ∃ m, L'.length = m := ⟨_, rfl⟩
  rw [hn] at HK HO1 c1 hl1 HWW ⊢
  rw [hm] at HK HO2 d1 hl2 HWW ⊢
  have HN := Lib.hid hn
  have HM := Lib.hid hm
  clear hWc hWb o1 o2 ha hb hfa hfb hB hn hm
  go_enter Try.func11, Try.ntmps11
  go_upto_region 1 with fail
  rw [HWW.out]
  by_cases e : f = f'
  case neg =>
    have e1 : ((f : Int) != (f' : Int)) = true := by rw [bne_iff_ne]; omega
    obtain rfl : t = false := by cases t with | false => rfl | true => exact absurd (HLK.out.1 rfl).1 e
    clear e
    go_wp2_with fail
    go_ret
    exact ⟨rfl, HB.out⟩
  subst e
  by_cases e : q = q'
  case neg =>
    have e1 : (q != q') = true := by rw [bne_iff_ne]; exact e
    obtain rfl : t = false := by cases t with | false => rfl | true => exact absurd (HLK.out.1 rfl).2.1 e
    clear e
    go_wp2_with fail
    go_ret
    exact ⟨rfl, HB.out⟩
  subst e
  by_cases e : n = m
  case neg =>
    have e1 : ((n : Int) != (m : Int)) = true := by rw [bne_iff_ne]; omega
    obtain rfl : t = false := by
      cases t with
      | false => rfl
      | true =>
        have := congrArg List.length (HLK.out.1 rfl).2.2
        simp only [sgx_length, HN.out, HM.out] at this
        exact absurd this e
    clear e
    go_wp2_with fail
    go_ret
    exact ⟨rfl, HB.out⟩
  subst e
  go_wp2_with fail
  clear c0 c1 c2 d0 d1 d2
  go_loopw [5] (fun i wr => ∃ k : Nat, k ≤ n ∧ i = .int .i64 (k : Int) ∧ Hid (∀ j, j < k → (st L j).x = (st L' j).x) ∧ Hid (Below W.heap.size W wr)) (fun i _ => n - (intOf i).toNat)
  case atStart => exact ⟨0, Nat.zero_le _, rfl, Lib.hid (by omega), Lib.hid (Below.refl _ _)⟩
  case round =>
    obtain ⟨k, hk, rfl, HE, HBk⟩ := hrel
    rename World => w6
    by_cases hlt : k < n
    · have hkA : k < L.length := by rw [HN.out]; exact hlt
      have hkB : k < L'.length := by rw [HM.out]; exact hlt
      obtain ⟨g, off, rfl, hg, hcl⟩ := (HA.out.1.below HBk.out HS.out).sg (show 0 < L.length by omega)
      obtain ⟨g', off', rfl, hg', hcl'⟩ := (HBb.out.1.below HBk.out HS.out).sg (show 0 < L'.length by omega)
      obtain ⟨h1, h2⟩ := hcl k hkA
      obtain ⟨h4, h5⟩ := hcl' k hkB
      have HCA := Lib.hid (HA.out.2 _ (st_mem hkA))
      have HCB := Lib.hid (HBb.out.2 _ (st_mem hkB))
      have HQA := Lib.hid (HFA.out _ (st_mem hkA))
      have HQB := Lib.hid (HFB.out _ (st_mem hkB))
      clear hcl hcl'
      obtain ⟨x, hx⟩ : ∃ x, st L k = x := ⟨_, rfl⟩
      obtain ⟨y, hy⟩ : ∃ y, st L' k = y := ⟨_, rfl⟩
      rw [hx] at h1 h2 HCA HQA
      rw [hy] at h4 h5 HCB HQB
      have HX := Lib.hid hx
      have HY := Lib.hid hy
      obtain ⟨xf, xa, xc, xu⟩ := x
      obtain ⟨yf, ya, yc, yu⟩ := y
      simp only at h1 h2 h4 h5 HCA HCB HQA HQB
      have hk0 : (0 : Int) ≤ (k : Int) := by omega
      have hk1 : (k : Int) < (n : Int) := by omega
      clear hx hy
      obtain ⟨xn, hxn⟩ : ∃ n, xu.length = n := ⟨_, rfl⟩
      obtain ⟨yn, hyn⟩ : ∃ n, yu.length = n := ⟨_, rfl⟩
      rw [hxn] at h2
      rw [hyn] at h5
      have HXN := Lib.hid hxn
      have HYN := Lib.hid hyn
      clear hxn hyn
      obtain ⟨k1, k2⟩ := HK.out w6 HBk.out
      have hz6 : W.heap.size ≤ w6.heap.size := HBk.out.size
      have hgz2 : g < w6.heap.size := by have := HS.out; omega
      have hgz2' : g' < w6.heap.size := by have := HS.out; omega
      have hw0 : w0.heap.size + 1 < w6.heap.size := by have := HO2.out.lt; omega
      have a2 : (w6.alloc (.cells #[.int .u64 (xf : Int), .slice xa xn xc] 49)).cell? ⟨w0.heap.size + 1, 1, none⟩ = some (.slice (some ⟨g', off', none⟩) n c') := (((Chg.refl [] w6).alloc _).cell k2 (by simp))
      have h4' : (w6.alloc (.cells #[.int .u64 (xf : Int), .slice xa xn xc] 49)).cell? ⟨g', off' + k * 2, none⟩ = some (.int .u64 (yf : Int)) := (((Chg.refl [] w6).alloc _).cell h4 (by simp))
      have h5' : (w6.alloc (.cells #[.int .u64 (xf : Int), .slice xa xn xc] 49)).cell? ⟨g', off' + k * 2 + 1, none⟩ = some (.slice ya yn yc) := (((Chg.refl [] w6).alloc _).cell h5 (by simp))
      go_upto_region 8 with fail
      obtain ⟨r1, hr1⟩ : ∃ r, w6.heap.size = r := ⟨_, rfl⟩
      obtain ⟨W6, hW6⟩ : ∃ V, (w6.alloc (.cells #[.int .u64 (xf : Int), .slice xa xn xc] 49)).alloc (.cells #[.int .u64 (yf : Int), .slice ya yn yc] 49) = V := ⟨_, rfl⟩
      have HS1 : Hid (Own W6 r1 49 [.int .u64 (xf : Int), .slice xa xn xc]) := Lib.hid (by rw [← hW6, ← hr1]; exact (Own.new w6 _ _).alloc _)
      have HS2 : Hid (Own W6 (r1 + 1) 49 [.int .u64 (yf : Int), .slice ya yn yc]) := Lib.hid (by
        have := Own.new (w6.alloc (.cells #[.int .u64 (xf : Int), .slice xa xn xc] 49)) 49 [.int .u64 (yf : Int), .slice ya yn yc]
        rw [World.size_alloc, hW6, hr1] at this
        exact this)
      have HB6 : Hid (Below W.heap.size W W6) := Lib.hid (by rw [← hW6]; exact (HBk.out.alloc HBk.out.size _).alloc (by simp; omega) _)
      rw [hW6, hr1]
      clear hW6 hr1 a2 h4' h5' k1 k2 h1 h2 h4 h5 hgz2 hgz2' hw0 hz6 hg hg'
      have hxn2 : xn ≤ 9223372036854775807 := by have := HQA.out.1; have := HXN.out; omega
      have hyn2 : yn ≤ 9223372036854775807 := by have := HQB.out.1; have := HYN.out; omega
      have HSG : Hid (∀ V, Below W6.heap.size W6 V → V.cell? ⟨r1, 1, none⟩ = some (.slice xa xn xc) ∧ V.cell? ⟨r1 + 1, 1, none⟩ = some (.slice ya yn yc)) := Lib.hid fun V hV => ⟨(HS1.out.below hV HS1.out.lt).cell 1 |>.trans rfl, (HS2.out.below hV HS2.out.lt).cell 1 |>.trans rfl⟩
      have s0 := HS1.out.cell 0
      have s1 := HS1.out.cell 1
      have u0 := HS2.out.cell 0
      have u1 := HS2.out.cell 1
      have hz1 := HS1.out.lt
      have hz2 := HS2.out.lt
      simp at s0 s1 u0 u1
      have HFALSE : Hid ((SgT.x ⟨xf, xa, xc, xu⟩ ≠ SgT.x ⟨yf, ya, yc, yu⟩) → t = false) := Lib.hid (fun hne => by
        cases t with
        | false => rfl
        | true =>
          have := congrArg (fun l => sx l k) (HLK.out.1 rfl).2.2
          simp only [sx_sgx, HX.out, HY.out] at this
          exact absurd this hne)
      by_cases e : xf = yf
      case neg =>
        have e1 : ((xf : Int) != (yf : Int)) = true := by rw [bne_iff_ne]; omega
        obtain rfl : t = false := HFALSE.out (fun h => e (congrArg Prod.fst h))
        clear e
        go_wp2_with fail
        go_ret
        exact ⟨rfl, HB.out.trans (HB6.out.mono HB.out.size)⟩
      subst e
      by_cases e : xn = yn
      case neg =>
        have e1 : ((xn : Int) != (yn : Int)) = true := by rw [bne_iff_ne]; omega
        obtain rfl : t = false := HFALSE.out (fun h => e (by
          have := congrArg (fun z => List.length (Prod.snd z)) h
          simp only [SgT.x, chx_length, HXN.out, HYN.out] at this
          exact this))
        clear e
        go_wp2_with fail
        go_ret
        exact ⟨rfl, HB.out.trans (HB6.out.mono HB.out.size)⟩
      subst e
      go_wp2_with fail
      clear s0 s1 u0 u1
      go_loopw [8] (fun i wr => ∃ j : Nat, j ≤ xn ∧ i = .int .i64 (j : Int) ∧ Hid (∀ i, i < j → (ct xu i).u = (ct yu i).u) ∧ Hid (Below W6.heap.size W6 wr)) (fun i _ => xn - (intOf i).toNat)
      case atStart => exact ⟨0, Nat.zero_le _, rfl, Lib.hid (by omega), Lib.hid (Below.refl _ _)⟩
      case round =>
        obtain ⟨j, hj, rfl, HEj, HBj⟩ := hrel
        rename World => w7
        obtain ⟨v1, v2⟩ := HSG.out w7 HBj.out
        by_cases hlt2 : j < xn
        · have hjA : j < xu.length := by rw [HXN.out]; exact hlt2
          have hjB : j < yu.length := by rw [HYN.out]; exact hlt2
          have HB7 := Lib.hid (HB6.out.trans (HBj.out.mono HB6.out.size))
          have hBW : B0 ≤ W.heap.size := HS.out
          obtain ⟨b, o, rfl, hb, hc⟩ := (HCA.out.1.below HB7.out HS.out).ch (show 0 < xu.length by omega)
          obtain ⟨b', o', rfl, hb', hc'⟩ := (HCB.out.1.below HB7.out HS.out).ch (show 0 < yu.length by omega)
          have p1 := hc j hjA
          have p2 := hc' j hjB
          have HDA := Lib.hid (HCA.out.2 _ (ct_mem hjA))
          have HDB := Lib.hid (HCB.out.2 _ (ct_mem hjB))
          have HPA := Lib.hid (HQA.out.2 _ (ct_mem hjA))
          have HPB := Lib.hid (HQB.out.2 _ (ct_mem hjB))
          clear hc hc'
          obtain ⟨x2, hx2⟩ : ∃ x, ct xu j = x := ⟨_, rfl⟩
          obtain ⟨y2, hy2⟩ : ∃ x, ct yu j = x := ⟨_, rfl⟩
          rw [hx2] at p1 HDA HPA
          rw [hy2] at p2 HDB HPB
          have HX2 := Lib.hid hx2
          have HY2 := Lib.hid hy2
          obtain ⟨ga, gc, gu⟩ := x2
          obtain ⟨ga', gc', gu'⟩ := y2
          simp only at p1 p2 HDA HDB HPA HPB
          have HSC := Lib.hid (fun (V : World) (hV : Below w7.heap.size w7 V) => sameChainW_any gu gu' ga ga' gc gc' B0 V (HDA.out.below (HB7.out.trans (hV.mono HB7.out.size)) HS.out) (HDB.out.below (HB7.out.trans (hV.mono HB7.out.size)) HS.out) (Nat.le_trans HS.out (Nat.le_trans HB7.out.size hV.size)) HPA.out HPB.out)
          obtain ⟨r, hr⟩ : ∃ r, decide (gu = gu') = r := ⟨_, rfl⟩
          rw [hr] at HSC
          have HR := Lib.hid hr
          have hj0 : (0 : Int) ≤ (j : Int) := by omega
          have hj1 : (j : Int) < (xn : Int) := by omega
          clear hx2 hy2 hr hBW
          generalize gu.length = gn at *
          generalize gu'.length = gn' at *
          go_upto_region 13 with fail
          refine wp_region_held_drew (S := (fun V => Below w7.heap.size w7 V ∧ V.cell? ⟨r1, 1, none⟩ = some (.slice (some ⟨b, o, none⟩) xn xc) ∧ V.cell? ⟨r1 + 1, 1, none⟩ = some (.slice (some ⟨b', o', none⟩) xn yc) ∧ V.cell? ⟨b, o + j, none⟩ = some (.slice ga gn gc) ∧ V.cell? ⟨b', o' + j, none⟩ = some (.slice ga' gn' gc'))) (by kernel_rfl) ⟨(Below.refl _ _).drew, v1, v2, p1, p2⟩ (fun hHeld => ?_)
          refine wpAnyH_take (i := 0) (v := ?_) rfl (by kernel_rfl) (by kernel_rfl) (by kernel_rfl) (fun _ _ _ h => h) (Or.inl ⟨by kernel_rfl, ?_⟩) hHeld ?_
          rotate_left
          · (intro w hSw; first | (go_simp; done) | (go_simp; with_reducible rfl))
          (try simp only [Act.put, List.getElem_toArray, List.getElem_cons_succ, List.getElem_cons_zero, List.setIfInBounds_toArray, List.set_cons_zero, List.set_cons_succ])
          refine wpAnyH_take (i := 1) (v := ?_) rfl (by kernel_rfl) (by kernel_rfl) (by kernel_rfl) (fun _ _ _ h => h) (Or.inl ⟨by kernel_rfl, ?_⟩) hHeld ?_
          rotate_left
          · (intro w hSw; first | (go_simp; done) | (go_simp; with_reducible rfl))
          (try simp only [Act.put, List.getElem_toArray, List.getElem_cons_succ, List.getElem_cons_zero, List.setIfInBounds_toArray, List.set_cons_zero, List.set_cons_succ])
          refine wpAnyH_take (i := 2) (v := ?_) rfl (by kernel_rfl) (by kernel_rfl) (by kernel_rfl) (fun _ _ _ h => h) (Or.inl ⟨by kernel_rfl, ?_⟩) hHeld ?_
          rotate_left
          · (intro w hSw; first | (go_simp; done) | (go_simp; with_reducible rfl))
          (try simp only [Act.put, List.getElem_toArray, List.getElem_cons_succ, List.getElem_cons_zero, List.setIfInBounds_toArray, List.set_cons_zero, List.set_cons_succ])
          refine wpAnyH_take (i := 3) (v := ?_) rfl (by kernel_rfl) (by kernel_rfl) (by kernel_rfl) (fun _ _ _ h => h) (Or.inl ⟨by kernel_rfl, ?_⟩) hHeld ?_
          rotate_left
          · (intro w hSw; first | (go_simp; done) | (go_simp; with_reducible rfl))
          (try simp only [Act.put, List.getElem_toArray, List.getElem_cons_succ, List.getElem_cons_zero, List.setIfInBounds_toArray, List.set_cons_zero, List.set_cons_succ])
          refine wpAnyH_take (i := 4) (v := ?_) rfl (by kernel_rfl) (by kernel_rfl) (by kernel_rfl) (fun _ _ _ h => h) (Or.inl ⟨by kernel_rfl, ?_⟩) hHeld ?_
          rotate_left
          · (intro w hSw; first | (go_simp; done) | (go_simp; with_reducible rfl))
          (try simp only [Act.put, List.getElem_toArray, List.getElem_cons_succ, List.getElem_cons_zero, List.setIfInBounds_toArray, List.set_cons_zero, List.set_cons_succ])
          refine wpAnyH_take (i := 5) (v := ?_) rfl (by kernel_rfl) (by kernel_rfl) (by kernel_rfl) (fun _ _ _ h => h) (Or.inl ⟨by kernel_rfl, ?_⟩) hHeld ?_
          rotate_left
          · (intro w hSw; first | (go_simp; done) | (go_simp; with_reducible rfl))
          (try simp only [Act.put, List.getElem_toArray, List.getElem_cons_succ, List.getElem_cons_zero, List.setIfInBounds_toArray, List.set_cons_zero, List.set_cons_succ])
          refine wpAnyH_take (i := 6) (v := ?_) rfl (by kernel_rfl) (by kernel_rfl) (by kernel_rfl) (fun _ _ _ h => h) (Or.inl ⟨by kernel_rfl, ?_⟩) hHeld ?_
          rotate_left
          · (intro w hSw; first | (go_simp; done) | (go_simp; with_reducible rfl))
          (try simp only [Act.put, List.getElem_toArray, List.getElem_cons_succ, List.getElem_cons_zero, List.setIfInBounds_toArray, List.set_cons_zero, List.set_cons_succ])
          refine wpAnyH_take (i := 7) (v := ?_) rfl (by kernel_rfl) (by kernel_rfl) (by kernel_rfl) (fun _ _ _ h => h) (Or.inl ⟨by kernel_rfl, ?_⟩) hHeld ?_
          rotate_left
          · (intro w hSw; first | (go_simp; done) | (go_simp; with_reducible rfl))
          (try simp only [Act.put, List.getElem_toArray, List.getElem_cons_succ, List.getElem_cons_zero, List.setIfInBounds_toArray, List.set_cons_zero, List.set_cons_succ])
          refine wpAnyH_take (i := 8) (v := ?_) rfl (by kernel_rfl) (by kernel_rfl) (by kernel_rfl) (fun _ _ _ h => h) (Or.inl ⟨by kernel_rfl, ?_⟩) hHeld ?_
          rotate_left
          · (intro w hSw; first | (go_simp; done) | (go_simp; with_reducible rfl))
          (try simp only [Act.put, List.getElem_toArray, List.getElem_cons_succ, List.getElem_cons_zero, List.setIfInBounds_toArray, List.set_cons_zero, List.set_cons_succ])
          refine wpAnyH_take (i := 9) (v := ?_) rfl (by kernel_rfl) (by kernel_rfl) (by kernel_rfl) (fun _ _ _ h => h) (Or.inl ⟨by kernel_rfl, ?_⟩) hHeld ?_
          rotate_left
          · (intro w hSw; first | (go_simp; done) | (go_simp; with_reducible rfl))
          (try simp only [Act.put, List.getElem_toArray, List.getElem_cons_succ, List.getElem_cons_zero, List.setIfInBounds_toArray, List.set_cons_zero, List.set_cons_succ])
          refine wpAnyH_ready (rs := [10]) (by kernel_rfl) (by simp) (AllReadyH.cons rfl (fun K hK => ?_) AllReadyH.nil)
          have hH := hHeld
          (go_simp; go_at_call 12; refine (HSC.out _ hH.1).mono ?_; rintro e w9 ⟨rfl, hb9⟩)
          refine hK.out _ _ (by exact ⟨hH.1.trans (hb9.mono hH.1.size), cell_keep hb9 hH.2.1 (World.block_lt_of_cell? _ _ hH.2.1), cell_keep hb9 hH.2.2.1 (World.block_lt_of_cell? _ _ hH.2.2.1), cell_keep hb9 hH.2.2.2.1 (World.block_lt_of_cell? _ _ hH.2.2.2.1), cell_keep hb9 hH.2.2.2.2 (World.block_lt_of_cell? _ _ hH.2.2.2.2)⟩) (fun hHq1 => ?_)
          clear hK K hH 
          (try simp only [Act.put, List.getElem_toArray, List.getElem_cons_succ, List.getElem_cons_zero, List.setIfInBounds_toArray, List.set_cons_zero, List.set_cons_succ])
          refine wpAnyH_take (i := 11) (v := ?_) rfl (by kernel_rfl) (by kernel_rfl) (by kernel_rfl) (fun _ _ _ h => h) (Or.inl ⟨by kernel_rfl, ?_⟩) hHq1 ?_
          rotate_left
          · (intro w hSw; first | (go_simp; done) | (go_simp; with_reducible rfl))
          (try simp only [Act.put, List.getElem_toArray, List.getElem_cons_succ, List.getElem_cons_zero, List.setIfInBounds_toArray, List.set_cons_zero, List.set_cons_succ])
          refine wpAnyH_done (by kernel_rfl) ?_ _
          have hEnd := hHq1
          have HB9 := Lib.hid (HBj.out.trans (hEnd.1.mono HBj.out.size))
          clear hHeld hEnd v1 v2 p1 p2
          cases r with
          | true =>
            go_wp2_with fail
            go_roundw
            case rel =>
              refine ⟨j + 1, by omega, by go_num, Lib.hid fun i hi => ?_, HB9⟩
              by_cases e : i = j
              · subst e
                rw [HX2.out, HY2.out]
                exact of_decide_eq_true HR.out
              · exact HEj.out i (by omega)
            case measure => simp [intOf]; omega
          | false =>
            obtain rfl : t = false := HFALSE.out (fun h => by
              have := congrArg (fun z : Sg => cx z.2 j) h
              simp only [SgT.x, cx_chx, HX2.out, HY2.out] at this
              exact of_decide_eq_false HR.out this)
            go_wp2_with fail
            go_ret
            exact ⟨rfl, HB.out.trans ((HB6.out.trans (HB9.out.mono HB6.out.size)).mono HB.out.size)⟩
        · obtain rfl : j = xn := by omega
          go_wp2_with fail
          go_roundw
          case rel =>
            refine ⟨k + 1, by omega, by go_num, Lib.hid fun i hi => ?_, Lib.hid (HB6.out.trans (HBj.out.mono HB6.out.size))⟩
            by_cases e : i = k
            · subst e
              rw [HX.out, HY.out]
              simp only [SgT.x, Prod.mk.injEq, true_and]
              exact chx_ext (by rw [HXN.out, HYN.out]) (by rw [HXN.out]; exact HEj.out)
            · exact HE.out i (by omega)
          case measure => simp [intOf]; omega
    · obtain rfl : k = n := by omega
      obtain ⟨k1, k2⟩ := HK.out w6 HBk.out
      obtain rfl : t = true := HLK.out.2 ⟨by trivial, by trivial, sgx_ext (by rw [HN.out, HM.out]) (by rw [HN.out]; exact HE.out)⟩
      go_wp2_with fail
      go_ret
      exact ⟨rfl, HB.out.trans (HBk.out.mono HB.out.size)⟩
end Go.Proofs.Ytkdgoopldaoihaa
namespace Go.Proofs.Ytkdgoopldaoihaa
open Go.RowKit Go.Deep Go.Shelf
set_option linter.unusedVariables false
set_option linter.unusedSimpArgs false

/-- two lists in order with the same elements are one -/
theorem inc_unique {l m : List Int} (h1 : l.Pairwise (· < ·)) (h2 : m.Pairwise (· < ·)) (h : ∀ x, x ∈ l ↔ x ∈ m) : l = m := by
  have n1 : l.Nodup := h1.imp (fun h => by omega)
  have n2 : m.Nodup := h2.imp (fun h => by omega)
  have hp : l.Perm m := (List.perm_ext_iff_of_nodup n1 n2).2 h
  exact hp.eq_of_pairwise (fun a b _ _ h1 h2 => by omega) h1 h2
theorem R4.yes {w w' : World} {n : Ly} {e : Ending} (h : R4 w (0, n) e w') : ∃ T : LyT, e = .returned (.tuple #[T.val, .int .i64 0]) ∧ Hid (T.x = n) ∧ Hid (lright n = true) ∧ Hid (LyIn w' w'.heap.size T) ∧ Hid (Below w.heap.size w w') := by
  obtain ⟨h1, ⟨_, h2, T, h3, h4, h5⟩ | ⟨h2, _⟩⟩ := h
  · exact ⟨T, h3, Lib.hid h4, Lib.hid h2, Lib.hid h5, Lib.hid h1⟩
  · exact absurd rfl h2
theorem R4.no {w w' : World} {n : Ly} {c : Int} {e : Ending} (hc : c ≠ 0) (h : R4 w (c, n) e w') : e = .returned (.tuple #[zeroL, .int .i64 c]) ∧ Hid (Below w.heap.size w w') := by
  obtain ⟨h1, ⟨h2, _⟩ | ⟨_, h2⟩⟩ := h
  · exact absurd h2 hc
  · exact ⟨h2, Lib.hid h1⟩
def alX : Ly := ⟨4, [(0, [[1, 2], [3]]), (10, [[5]])], 0⟩
def alN : Ly := ⟨5, [(0, [[2, 7], [3]]), (10, [[5]])], 2⟩
theorem al_right : lright alX = true := by decide +kernel
theorem al_next : nextOf alX [1] [7] 2 = (0, alN) := by kernel_rfl
theorem al_chain : chainOf alN 8 = [2, 7] := by decide +kernel
theorem al_seg : segI alX 10 = 1 := by decide +kernel
theorem al_units : unitsOf alX = [1, 2, 3, 5] := by
  obtain ⟨h1, h2⟩ := unitsOf_is al_right
  refine inc_unique h1 (by decide) (fun x => ?_)
  rw [h2]
  show x ∈ [1, 2, 3, 5] ↔ _
  simp
def alT (s : Nat) : LyT := ⟨4, some ⟨s + 5, 0, none⟩, 2, [⟨0, some ⟨s + 2, 0, none⟩, 2, [⟨some ⟨s, 0, none⟩, 2, [1, 2]⟩, ⟨some ⟨s + 1, 0, none⟩, 1, [3]⟩]⟩, ⟨10, some ⟨s + 4, 0, none⟩, 1, [⟨some ⟨s + 3, 0, none⟩, 1, [5]⟩]⟩], 0⟩
set_option maxHeartbeats 4000000 in
set_option maxRecDepth 100000 in
theorem alive9_any (w : World) : Calls Try.prog 6 #[] w fun e w' => e = .returned (.bool true) ∧ Below w.heap.size w w' := by
  obtain ⟨W, hW⟩ : ∃ W, (((((((w.alloc (.cells #[.int .i64 1, .int .i64 2] 3)).alloc (.cells #[.int .i64 3] 3)).alloc (.cells #[.slice (some ⟨w.heap.size, 0, none⟩) 2 2, .slice (some ⟨w.heap.size + 1, 0, none⟩) 1 1] 36)).alloc (.cells #[.int .i64 5] 3)).alloc (.cells #[.slice (some ⟨w.heap.size + 3, 0, none⟩) 1 1] 36)).alloc (.cells #[.int .u64 0, .slice (some ⟨w.heap.size + 2, 0, none⟩) 2 2, .int .u64 10, .slice (some ⟨w.heap.size + 4, 0, none⟩) 1 1] 49)).alloc (.cells #[.int .u64 4, .slice (some ⟨w.heap.size + 5, 0, none⟩) 2 2, .int .i64 0] 25)) = W := ⟨_, rfl⟩
  have hWc : Chg [] w W := by rw [← hW]; exact (((((((Chg.refl [] w).alloc _).alloc _).alloc _).alloc _).alloc _).alloc _).alloc _
  have hz : W.heap.size = w.heap.size + 7 := by rw [← hW]; simp
  have o0 : Own W (w.heap.size) 3 [.int .i64 1, .int .i64 2] := by
    rw [← hW]
    have := Own.new w 3 [.int .i64 1, .int .i64 2]
    exact Own.alloc (Own.alloc (Own.alloc (Own.alloc (Own.alloc (Own.alloc ((by simpa using this)) _) _) _) _) _) _
  have o1 : Own W (w.heap.size + 1) 3 [.int .i64 3] := by
    rw [← hW]
    have := Own.new (w.alloc (.cells #[.int .i64 1, .int .i64 2] 3)) 3 [.int .i64 3]
    exact Own.alloc (Own.alloc (Own.alloc (Own.alloc (Own.alloc ((by simpa using this)) _) _) _) _) _
  have o2 : Own W (w.heap.size + 2) 36 [.slice (some ⟨w.heap.size, 0, none⟩) 2 2, .slice (some ⟨w.heap.size + 1, 0, none⟩) 1 1] := by
    rw [← hW]
    have := Own.new ((w.alloc (.cells #[.int .i64 1, .int .i64 2] 3)).alloc (.cells #[.int .i64 3] 3)) 36 [.slice (some ⟨w.heap.size, 0, none⟩) 2 2, .slice (some ⟨w.heap.size + 1, 0, none⟩) 1 1]
    exact Own.alloc (Own.alloc (Own.alloc (Own.alloc ((by simpa using this)) _) _) _) _
  have o3 : Own W (w.heap.size + 3) 3 [.int .i64 5] := by
    rw [← hW]
    have := Own.new (((w.alloc (.cells #[.int .i64 1, .int .i64 2] 3)).alloc (.cells #[.int .i64 3] 3)).alloc (.cells #[.slice (some ⟨w.heap.size, 0, none⟩) 2 2, .slice (some ⟨w.heap.size + 1, 0, none⟩) 1 1] 36)) 3 [.int .i64 5]
    exact Own.alloc (Own.alloc (Own.alloc ((by simpa using this)) _) _) _
  have o4 : Own W (w.heap.size + 4) 36 [.slice (some ⟨w.heap.size + 3, 0, none⟩) 1 1] := by
    rw [← hW]
    have := Own.new ((((w.alloc (.cells #[.int .i64 1, .int .i64 2] 3)).alloc (.cells #[.int .i64 3] 3)).alloc (.cells #[.slice (some ⟨w.heap.size, 0, none⟩) 2 2, .slice (some ⟨w.heap.size + 1, 0, none⟩) 1 1] 36)).alloc (.cells #[.int .i64 5] 3)) 36 [.slice (some ⟨w.heap.size + 3, 0, none⟩) 1 1]
    exact Own.alloc (Own.alloc ((by simpa using this)) _) _
  have o5 : Own W (w.heap.size + 5) 49 [.int .u64 0, .slice (some ⟨w.heap.size + 2, 0, none⟩) 2 2, .int .u64 10, .slice (some ⟨w.heap.size + 4, 0, none⟩) 1 1] := by
    rw [← hW]
    have := Own.new (((((w.alloc (.cells #[.int .i64 1, .int .i64 2] 3)).alloc (.cells #[.int .i64 3] 3)).alloc (.cells #[.slice (some ⟨w.heap.size, 0, none⟩) 2 2, .slice (some ⟨w.heap.size + 1, 0, none⟩) 1 1] 36)).alloc (.cells #[.int .i64 5] 3)).alloc (.cells #[.slice (some ⟨w.heap.size + 3, 0, none⟩) 1 1] 36)) 49 [.int .u64 0, .slice (some ⟨w.heap.size + 2, 0, none⟩) 2 2, .int .u64 10, .slice (some ⟨w.heap.size + 4, 0, none⟩) 1 1]
    exact Own.alloc ((by simpa using this)) _
  have o6 : Own W (w.heap.size + 6) 25 [.int .u64 4, .slice (some ⟨w.heap.size + 5, 0, none⟩) 2 2, .int .i64 0] := by
    rw [← hW]
    have := Own.new ((((((w.alloc (.cells #[.int .i64 1, .int .i64 2] 3)).alloc (.cells #[.int .i64 3] 3)).alloc (.cells #[.slice (some ⟨w.heap.size, 0, none⟩) 2 2, .slice (some ⟨w.heap.size + 1, 0, none⟩) 1 1] 36)).alloc (.cells #[.int .i64 5] 3)).alloc (.cells #[.slice (some ⟨w.heap.size + 3, 0, none⟩) 1 1] 36)).alloc (.cells #[.int .u64 0, .slice (some ⟨w.heap.size + 2, 0, none⟩) 2 2, .int .u64 10, .slice (some ⟨w.heap.size + 4, 0, none⟩) 1 1] 49)) 25 [.int .u64 4, .slice (some ⟨w.heap.size + 5, 0, none⟩) 2 2, .int .i64 0]
    exact (by simpa using this)
  have hin : LyIn W W.heap.size (alT w.heap.size) := by
    refine ⟨o5.ro _ o5.lt, fun s hs => ?_⟩
    simp only [alT, List.mem_cons, List.not_mem_nil, or_false] at hs
    rcases hs with rfl | rfl
    · refine ⟨o2.ro _ o2.lt, fun c hc => ?_⟩
      simp only [List.mem_cons, List.not_mem_nil, or_false] at hc
      rcases hc with rfl | rfl
      · exact o0.ro _ o0.lt
      · exact o1.ro _ o1.lt
    · refine ⟨o4.ro _ o4.lt, fun c hc => ?_⟩
      simp only [List.mem_cons, List.not_mem_nil, or_false] at hc
      subst hc
      exact o3.ro _ o3.lt
  have hfit : SgFit (alT w.heap.size).sg := right_fit al_right
  have HIN := Lib.hid hin
  have HFIT := Lib.hid hfit
  have HWC := Lib.hid hWc
  have HW := Lib.hid hW
  have HO := Lib.hid o6
  clear o0 o1 o2 o3 o4 o5 hin hfit hWc hW hz
  have c0 := o6.cell 0
  have c1 := o6.cell 1
  have c2 := o6.cell 2
  have hz6 := o6.lt
  simp at c0 c1 c2
  clear o6
  have HNX := Lib.hid (fun (W' : World) (hb : Below W.heap.size W W') (a1 a2 : Option Addr) (h1 : Ro W' W'.heap.size a1 (i64s [1])) (h2 : Ro W' W'.heap.size a2 (i64s [7])) (hn : a2 ≠ none) => next_any (alT w.heap.size) W'.heap.size [1] [7] a1 a2 1 1 2 W' ((HIN.out.below hb (Nat.le_refl _)).mono hb.size) (Nat.le_refl _) HFIT.out h1 (by simp) h2 (by simp) (by omega) (fun h => absurd h hn))
  change Hid (∀ (W' : World) (hb : Below W.heap.size W W') (a1 a2 : Option Addr) (h1 : Ro W' W'.heap.size a1 (i64s [1])) (h2 : Ro W' W'.heap.size a2 (i64s [7])) (hn : a2 ≠ none), Calls _ _ #[.agg #[.int .u64 4, .slice (some ⟨w.heap.size + 5, 0, none⟩) 2 2, .int .i64 0], .slice a1 1 1, .slice a2 1 1, .int .i64 2] W' (R4 W' (nextOf alX [1] [7] 2))) at HNX
  rw [al_next] at HNX
  have HSE := Lib.hid (fun (W' : World) (hb : Below W.heap.size W W') => segment_any (alT w.heap.size) W.heap.size 10 W' (HIN.out.below hb (Nat.le_refl _)) hb.size HFIT.out)
  change Hid (∀ (W' : World) (hb : Below W.heap.size W W'), Calls _ _ #[.agg #[.int .u64 4, .slice (some ⟨w.heap.size + 5, 0, none⟩) 2 2, .int .i64 0], .int .u64 10] W' fun e w' => e = .returned (.int .i64 (segI alX 10)) ∧ Below W'.heap.size W' w') at HSE
  rw [al_seg] at HSE
  have HUN := Lib.hid (fun (W' : World) (hb : Below W.heap.size W W') => units_any (alT w.heap.size) W.heap.size W' (HIN.out.below hb (Nat.le_refl _)) hb.size HFIT.out)
  change Hid (∀ (W' : World) (hb : Below W.heap.size W W'), Calls _ _ #[.agg #[.int .u64 4, .slice (some ⟨w.heap.size + 5, 0, none⟩) 2 2, .int .i64 0]] W' fun e w' => ∃ v, e = .returned v ∧ Lst w' W'.heap.size 3 v (i64s (unitsOf alX)) ∧ Below W'.heap.size W' w') at HUN
  rw [al_units] at HUN
  go_enter Try.func6, Try.ntmps6
  go_upto_region 2 with fail
  rw [HW.out]
  have hb2 : Below W.heap.size W ((W.alloc (.cells #[.int .i64 1] 3)).alloc (.cells #[.int .i64 7] 3)) := ((Below.refl _ _).alloc (Nat.le_refl _) _).alloc (by simp) _
  have r1 : Own ((W.alloc (.cells #[.int .i64 1] 3)).alloc (.cells #[.int .i64 7] 3)) W.heap.size 3 (i64s [1]) := (Own.new W 3 _).alloc _
  have r2 : Own ((W.alloc (.cells #[.int .i64 1] 3)).alloc (.cells #[.int .i64 7] 3)) (W.heap.size + 1) 3 (i64s [7]) := by
    have := Own.new (W.alloc (.cells #[.int .i64 1] 3)) 3 [.int .i64 7]
    have h2 : Own ((W.alloc (.cells #[.int .i64 1] 3)).alloc (.cells #[.int .i64 7] 3)) (W.heap.size + 1) 3 [.int .i64 7] := by simpa using this
    exact h2
  have HN2 := Lib.hid (HNX.out _ hb2 (some ⟨W.heap.size, 0, none⟩) (some ⟨W.heap.size + 1, 0, none⟩) (r1.ro _ r1.lt) (r2.ro _ r2.lt) (by simp))
  have HB2 := Lib.hid hb2
  clear hb2 r1 r2
  go_wp2_with fail
  refine HN2.out.mono ?_
  intro e w1 hR4
  obtain ⟨T, rfl, HTX, HRT, HTIN, HBB1⟩ := hR4.yes
  clear hR4
  have HB1 : Hid (Below W.heap.size W w1) := Lib.hid (HB2.out.trans (HBB1.out.mono HB2.out.size))
  have HTF := Lib.hid (right_fit (A := T) (by rw [HTX.out]; exact HRT.out))
  have hTe : (T.e : Int) = 5 := by have h2 : T.e = 5 := congrArg Ly.e HTX.out; omega
  have hTq : T.q = 2 := congrArg Ly.q HTX.out
  have HCN := Lib.hid (fun (W' : World) (hb : Below w1.heap.size w1 W') => chain_any T w1.heap.size 8 W' (HTIN.out.below hb (Nat.le_refl _)) hb.size HTF.out)
  rw [HTX.out] at HCN
  rw [al_chain] at HCN
  have HO1 := Lib.hid (HO.out.below HB1.out HO.out.lt)
  clear c0 c1 c2 hz6
  have hTv : T.val = .agg #[.int .u64 5, .slice T.a T.sg.length T.c, .int .i64 2] := by unfold LyT.val; rw [hTe, hTq]
  rw [hTv] at HCN ⊢
  clear hTv hTe hTq
  generalize T.sg.length = tn at *
  generalize T.a = ta at *
  generalize T.c = tc at *
  have d0 := HO1.out.cell 0
  have d1 := HO1.out.cell 1
  have d2 := HO1.out.cell 2
  have hz1 := HO1.out.lt
  simp at d0 d1 d2
  obtain ⟨W3, hW3⟩ : ∃ W3, w1.alloc (.cells #[.int .u64 5, .slice ta tn tc, .int .i64 2] 25) = W3 := ⟨_, rfl⟩
  have hb3 : Below w1.heap.size w1 W3 := by rw [← hW3]; exact (Below.refl _ _).alloc (Nat.le_refl _) _
  have o7 : Own W3 w1.heap.size 25 [.int .u64 5, .slice ta tn tc, .int .i64 2] := by rw [← hW3]; exact Own.new w1 _ _
  have HO7 := Lib.hid o7
  have HB3 := Lib.hid hb3
  have HW3 := Lib.hid hW3
  have HO13 := Lib.hid (HO1.out.below hb3 hz1)
  clear hb3 o7 hW3
  go_wp2_with fail
  rw [HW3.out]
  refine (HCN.out W3 HB3.out).mono ?_
  rintro e w4 ⟨v4, rfl, hl4, hb4⟩
  have HB4 : Hid (Below W.heap.size W w4) := Lib.hid ((HB1.out.trans (HB3.out.mono HB1.out.size)).trans (hb4.mono (Nat.le_trans HB1.out.size HB3.out.size)))
  have HO74 := Lib.hid (HO7.out.below hb4 HO7.out.lt)
  have HO14 := Lib.hid (HO13.out.below hb4 HO13.out.lt)
  obtain ⟨a4, c4, rfl, hr4, hc4, _⟩ := hl4.form
  obtain ⟨b4, off4, rfl, hb44, hcc⟩ := hr4.i64 (by decide)
  have e0 := hcc 0 (by decide)
  have e1 := hcc 1 (by decide)
  simp only [Nat.add_zero] at e0
  change w4.cell? ⟨b4, off4, none⟩ = some (.int .i64 2) at e0
  change w4.cell? ⟨b4, off4 + 1, none⟩ = some (.int .i64 7) at e1
  have g0 := HO74.out.cell 0
  have g1 := HO74.out.cell 1
  have g2 := HO74.out.cell 2
  have q0 := HO14.out.cell 0
  have q1 := HO14.out.cell 1
  have q2 := HO14.out.cell 2
  have hz7 := HO74.out.lt
  have hz4 := HO14.out.lt
  simp at g0 g1 g2 q0 q1 q2
  have HS4 := Lib.hid (HSE.out _ HB4.out)
  clear hb4 hl4 hr4 hcc d0 d1 d2 hz1
  change 2 ≤ c4 at hc4
  rw [show (i64s [2, 7]).length = 2 from rfl]
  go_wp2_with fail
  refine HS4.out.mono ?_
  rintro e w5 ⟨rfl, hb5⟩
  have HB5 : Hid (Below W.heap.size W w5) := Lib.hid (HB4.out.trans (hb5.mono HB4.out.size))
  have HO15 := Lib.hid (HO14.out.below hb5 HO14.out.lt)
  have p0 := HO15.out.cell 0
  have p1 := HO15.out.cell 1
  have p2 := HO15.out.cell 2
  have hz5 := HO15.out.lt
  simp at p0 p1 p2
  have HU5 := Lib.hid (HUN.out _ HB5.out)
  clear hb5 g0 g1 g2 q0 q1 q2 e0 e1 hz7 hz4
  go_wp2_with fail
  refine HU5.out.mono ?_
  rintro e w6 ⟨v6, rfl, hl6, hb6⟩
  have HB6 : Hid (Below w.heap.size w w6) := Lib.hid ((HWC.out.low.trans (HB5.out.mono HWC.out.low.size)).trans (hb6.mono (Nat.le_trans HWC.out.low.size HB5.out.size)))
  obtain ⟨a6, c6, rfl, _, _, _⟩ := hl6.form
  rw [show (i64s [1, 2, 3, 5]).length = 4 from rfl]
  clear hl6 hb6 p0 p1 p2 hz5
  go_wp2_with fail
  go_ret
  exact ⟨rfl, HB6.out⟩
end Go.Proofs.Ytkdgoopldaoihaa
