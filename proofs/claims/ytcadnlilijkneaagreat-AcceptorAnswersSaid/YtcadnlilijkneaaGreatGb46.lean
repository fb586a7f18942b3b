/-
  Same of the document's layouts. No claim of its own.
-/
import Derived.Test.YtcadnlilijkneaaGreatGb45
import Derived.Deep.RegionHeld3
import Derived.Test.YtcadnlilijkneaaGreatGb43
namespace Go.Proofs.YtcadnlilijkneaaGreat
open Go.RowKit Go.Deep Go.Shelf
set_option linter.unusedVariables false
set_option linter.unusedSimpArgs false

set_option maxHeartbeats 4000000 in
theorem rlsame_any (A B : LyT) (B0 : Nat) (w0 : World) (ha : LyIn w0 B0 A) (hb : LyIn w0 B0 B) (hfa : SgFit A.sg) (hfb : SgFit B.sg) (hB : B0 ≤ w0.heap.size) :
    Calls Tryz.prog 27 #[A.val, B.val] w0 fun e w' => e = .returned (.bool (lalike A.x B.x)) ∧ Below w0.heap.size w0 w' := by
  obtain ⟨f, a, c, L, q⟩ := A
  obtain ⟨f', a', c', L', q'⟩ := B
  simp only [LyT.val] at *
  obtain ⟨W, HWW⟩ : ∃ W, Hid ((w0.alloc (.cells #[.int .u64 (f : Int), .slice a L.length c, .int .i64 q] 26)).alloc (.cells #[.int .u64 (f' : Int), .slice a' L'.length c', .int .i64 q'] 26) = W) := ⟨_, Lib.hid rfl⟩
  have hWc : Chg [] w0 W := by rw [← HWW.out]; exact ((Chg.refl [] w0).alloc _).alloc _
  have hWb : Below w0.heap.size w0 W := hWc.low
  have o1 : Own W w0.heap.size 26 [.int .u64 (f : Int), .slice a L.length c, .int .i64 q] := by rw [← HWW.out]; exact (Own.new w0 _ _).alloc _
  have o2 : Own W (w0.heap.size + 1) 26 [.int .u64 (f' : Int), .slice a' L'.length c', .int .i64 q'] := by
    rw [← HWW.out]
    have := Own.new (w0.alloc (.cells #[.int .u64 (f : Int), .slice a L.length c, .int .i64 q] 26)) 26 [.int .u64 (f' : Int), .slice a' L'.length c', .int .i64 q']
    simpa using this
  obtain ⟨t, HT⟩ : ∃ t, Hid (lalike (LyT.x ⟨f, a, c, L, q⟩) (LyT.x ⟨f', a', c', L', q'⟩) = t) := ⟨_, Lib.hid rfl⟩
  rw [HT.out]
  have HLK : Hid (lalike (LyT.x ⟨f, a, c, L, q⟩) (LyT.x ⟨f', a', c', L', q'⟩) = true ↔ f = f' ∧ q = q' ∧ sgx L = sgx L') := Lib.hid ⟨fun h => by
    have := lalike_iff.1 h
    simp only [LyT.x, Ly.mk.injEq] at this
    exact ⟨this.1, this.2.2, this.2.1⟩, fun ⟨h1, h2, h3⟩ => lalike_iff.2 (by simp only [LyT.x, h1, h2, h3])⟩
  rw [HT.out] at HLK
  have HA := Lib.hid (And.intro (ha.1.below hWb hB) (ha.2.below hWb hB))
  have HBb := Lib.hid (And.intro (hb.1.below hWb hB) (hb.2.below hWb hB))
  have HS := Lib.hid (Nat.le_trans hB hWb.size)
  have HFA := Lib.hid hfa.2
  have HFB := Lib.hid hfb.2
  have hl1 := hfa.1
  have hl2 := hfb.1
  have HB := Lib.hid hWb
  have HO1 := Lib.hid o1
  have HO2 := Lib.hid o2
  have c0 := o1.cell 0
  have c1 := o1.cell 1
  have c2 := o1.cell 2
  have d0 := o2.cell 0
  have d1 := o2.cell 1
  have d2 := o2.cell 2
  simp at c0 c1 c2 d0 d1 d2
  have HK : Hid (∀ V, Below W.heap.size W V → V.cell? ⟨w0.heap.size, 1, none⟩ = some (.slice a L.length c) ∧ V.cell? ⟨w0.heap.size + 1, 1, none⟩ = some (.slice a' L'.length c')) := Lib.hid fun V hV => ⟨cell_keep hV c1 (World.block_lt_of_cell? _ _ c1), cell_keep hV d1 (World.block_lt_of_cell? _ _ d1)⟩
  obtain ⟨n, hn⟩ : ∃ n, L.length = n := ⟨_, rfl⟩
  obtain ⟨m, hm⟩ : ∃ m, L'.length = m := ⟨_, rfl⟩
  rw [hn] at HK HO1 c1 hl1 HWW ⊢
  rw [hm] at HK HO2 d1 hl2 HWW ⊢
  have HN := Lib.hid hn
  have HM := Lib.hid hm
  clear hWc hWb o1 o2 ha hb hfa hfb hB hn hm
  go_enter Tryz.func27, Tryz.ntmps27
  go_upto_region 1 with fail
  rw [HWW.out]
  by_cases e : f = f'
  case neg =>
    have e1 : ((f : Int) != (f' : Int)) = true := by rw [bne_iff_ne]; omega
    obtain rfl : t = false := by cases t with | false => rfl | true => exact absurd (HLK.out.1 rfl).1 e
    clear e
    go_wp2_with fail
    go_ret
    exact ⟨rfl, HB.out⟩
  subst e
  by_cases e : q = q'
  case neg =>
    have e1 : (q != q') = true := by rw [bne_iff_ne]; exact e
    obtain rfl : t = false := by cases t with | false => rfl | true => exact absurd (HLK.out.1 rfl).2.1 e
    clear e
    go_wp2_with fail
    go_ret
    exact ⟨rfl, HB.out⟩
  subst e
  by_cases e : n = m
  case neg =>
    have e1 : ((n : Int) != (m : Int)) = true := by rw [bne_iff_ne]; omega
    obtain rfl : t = false := by
      cases t with
      | false => rfl
      | true =>
        have := congrArg List.length (HLK.out.1 rfl).2.2
        simp only [sgx_length, HN.out, HM.out] at this
        exact absurd this e
    clear e
    go_wp2_with fail
    go_ret
    exact ⟨rfl, HB.out⟩
  subst e
  go_wp2_with fail
  clear c0 c1 c2 d0 d1 d2
  go_loopw [5] (fun i wr => ∃ k : Nat, k ≤ n ∧ i = .int .i64 (k : Int) ∧ Hid (∀ j, j < k → (st L j).x = (st L' j).x) ∧ Hid (Below W.heap.size W wr)) (fun i _ => n - (Go.RowKit.intOf i).toNat)
  case atStart => exact ⟨0, Nat.zero_le _, rfl, Lib.hid (by omega), Lib.hid (Below.refl _ _)⟩
  case round =>
    obtain ⟨k, hk, rfl, HE, HBk⟩ := hrel
    rename World => w6
    by_cases hlt : k < n
    · have hkA : k < L.length := by rw [HN.out]; exact hlt
      have hkB : k < L'.length := by rw [HM.out]; exact hlt
      obtain ⟨g, off, rfl, hg, hcl⟩ := (HA.out.1.below HBk.out HS.out).sg (show 0 < L.length by omega)
      obtain ⟨g', off', rfl, hg', hcl'⟩ := (HBb.out.1.below HBk.out HS.out).sg (show 0 < L'.length by omega)
      obtain ⟨h1, h2⟩ := hcl k hkA
      obtain ⟨h4, h5⟩ := hcl' k hkB
      have HCA := Lib.hid (HA.out.2 _ (st_mem hkA))
      have HCB := Lib.hid (HBb.out.2 _ (st_mem hkB))
      have HQA := Lib.hid (HFA.out _ (st_mem hkA))
      have HQB := Lib.hid (HFB.out _ (st_mem hkB))
      clear hcl hcl'
      obtain ⟨x, hx⟩ : ∃ x, st L k = x := ⟨_, rfl⟩
      obtain ⟨y, hy⟩ : ∃ y, st L' k = y := ⟨_, rfl⟩
      rw [hx] at h1 h2 HCA HQA
      rw [hy] at h4 h5 HCB HQB
      have HX := Lib.hid hx
      have HY := Lib.hid hy
      obtain ⟨xf, xa, xc, xu⟩ := x
      obtain ⟨yf, ya, yc, yu⟩ := y
      simp only at h1 h2 h4 h5 HCA HCB HQA HQB
      have hk0 : (0 : Int) ≤ (k : Int) := by omega
      have hk1 : (k : Int) < (n : Int) := by omega
      clear hx hy
      obtain ⟨xn, hxn⟩ : ∃ n, xu.length = n := ⟨_, rfl⟩
      obtain ⟨yn, hyn⟩ : ∃ n, yu.length = n := ⟨_, rfl⟩
      rw [hxn] at h2
      rw [hyn] at h5
      have HXN := Lib.hid hxn
      have HYN := Lib.hid hyn
      clear hxn hyn
      obtain ⟨k1, k2⟩ := HK.out w6 HBk.out
      have hz6 : W.heap.size ≤ w6.heap.size := HBk.out.size
      have hgz2 : g < w6.heap.size := by have := HS.out; omega
      have hgz2' : g' < w6.heap.size := by have := HS.out; omega
      have hw0 : w0.heap.size + 1 < w6.heap.size := by have := HO2.out.lt; omega
      have a2 : (w6.alloc (.cells #[.int .u64 (xf : Int), .slice xa xn xc] 84)).cell? ⟨w0.heap.size + 1, 1, none⟩ = some (.slice (some ⟨g', off', none⟩) n c') := (((Chg.refl [] w6).alloc _).cell k2 (by simp))
      have h4' : (w6.alloc (.cells #[.int .u64 (xf : Int), .slice xa xn xc] 84)).cell? ⟨g', off' + k * 2, none⟩ = some (.int .u64 (yf : Int)) := (((Chg.refl [] w6).alloc _).cell h4 (by simp))
      have h5' : (w6.alloc (.cells #[.int .u64 (xf : Int), .slice xa xn xc] 84)).cell? ⟨g', off' + k * 2 + 1, none⟩ = some (.slice ya yn yc) := (((Chg.refl [] w6).alloc _).cell h5 (by simp))
      go_upto_region 8 with fail
      obtain ⟨r1, hr1⟩ : ∃ r, w6.heap.size = r := ⟨_, rfl⟩
      obtain ⟨W6, hW6⟩ : ∃ V, (w6.alloc (.cells #[.int .u64 (xf : Int), .slice xa xn xc] 84)).alloc (.cells #[.int .u64 (yf : Int), .slice ya yn yc] 84) = V := ⟨_, rfl⟩
      have HS1 : Hid (Own W6 r1 84 [.int .u64 (xf : Int), .slice xa xn xc]) := Lib.hid (by rw [← hW6, ← hr1]; exact (Own.new w6 _ _).alloc _)
      have HS2 : Hid (Own W6 (r1 + 1) 84 [.int .u64 (yf : Int), .slice ya yn yc]) := Lib.hid (by
        have := Own.new (w6.alloc (.cells #[.int .u64 (xf : Int), .slice xa xn xc] 84)) 84 [.int .u64 (yf : Int), .slice ya yn yc]
        rw [World.size_alloc, hW6, hr1] at this
        exact this)
      have HB6 : Hid (Below W.heap.size W W6) := Lib.hid (by rw [← hW6]; exact (HBk.out.alloc HBk.out.size _).alloc (by simp; omega) _)
      rw [hW6, hr1]
      clear hW6 hr1 a2 h4' h5' k1 k2 h1 h2 h4 h5 hgz2 hgz2' hw0 hz6 hg hg'
      have hxn2 : xn ≤ 9223372036854775807 := by have := HQA.out.1; have := HXN.out; omega
      have hyn2 : yn ≤ 9223372036854775807 := by have := HQB.out.1; have := HYN.out; omega
      have HSG : Hid (∀ V, Below W6.heap.size W6 V → V.cell? ⟨r1, 1, none⟩ = some (.slice xa xn xc) ∧ V.cell? ⟨r1 + 1, 1, none⟩ = some (.slice ya yn yc)) := Lib.hid fun V hV => ⟨(HS1.out.below hV HS1.out.lt).cell 1 |>.trans rfl, (HS2.out.below hV HS2.out.lt).cell 1 |>.trans rfl⟩
      have s0 := HS1.out.cell 0
      have s1 := HS1.out.cell 1
      have u0 := HS2.out.cell 0
      have u1 := HS2.out.cell 1
      have hz1 := HS1.out.lt
      have hz2 := HS2.out.lt
      simp at s0 s1 u0 u1
      have HFALSE : Hid ((SgT.x ⟨xf, xa, xc, xu⟩ ≠ SgT.x ⟨yf, ya, yc, yu⟩) → t = false) := Lib.hid (fun hne => by
        cases t with
        | false => rfl
        | true =>
          have := congrArg (fun l => sx l k) (HLK.out.1 rfl).2.2
          simp only [sx_sgx, HX.out, HY.out] at this
          exact absurd this hne)
      by_cases e : xf = yf
      case neg =>
        have e1 : ((xf : Int) != (yf : Int)) = true := by rw [bne_iff_ne]; omega
        obtain rfl : t = false := HFALSE.out (fun h => e (congrArg Prod.fst h))
        clear e
        go_wp2_with fail
        go_ret
        exact ⟨rfl, HB.out.trans (HB6.out.mono HB.out.size)⟩
      subst e
      by_cases e : xn = yn
      case neg =>
        have e1 : ((xn : Int) != (yn : Int)) = true := by rw [bne_iff_ne]; omega
        obtain rfl : t = false := HFALSE.out (fun h => e (by
          have := congrArg (fun z => List.length (Prod.snd z)) h
          simp only [SgT.x, chx_length, HXN.out, HYN.out] at this
          exact this))
        clear e
        go_wp2_with fail
        go_ret
        exact ⟨rfl, HB.out.trans (HB6.out.mono HB.out.size)⟩
      subst e
      go_wp2_with fail
      clear s0 s1 u0 u1
      go_loopw [8] (fun i wr => ∃ j : Nat, j ≤ xn ∧ i = .int .i64 (j : Int) ∧ Hid (∀ i, i < j → (ct xu i).u = (ct yu i).u) ∧ Hid (Below W6.heap.size W6 wr)) (fun i _ => xn - (Go.RowKit.intOf i).toNat)
      case atStart => exact ⟨0, Nat.zero_le _, rfl, Lib.hid (by omega), Lib.hid (Below.refl _ _)⟩
      case round =>
        obtain ⟨j, hj, rfl, HEj, HBj⟩ := hrel
        rename World => w7
        obtain ⟨v1, v2⟩ := HSG.out w7 HBj.out
        by_cases hlt2 : j < xn
        · have hjA : j < xu.length := by rw [HXN.out]; exact hlt2
          have hjB : j < yu.length := by rw [HYN.out]; exact hlt2
          have HB7 := Lib.hid (HB6.out.trans (HBj.out.mono HB6.out.size))
          have hBW : B0 ≤ W.heap.size := HS.out
          obtain ⟨b, o, rfl, hb, hc⟩ := (HCA.out.1.below HB7.out HS.out).ch (show 0 < xu.length by omega)
          obtain ⟨b', o', rfl, hb', hc'⟩ := (HCB.out.1.below HB7.out HS.out).ch (show 0 < yu.length by omega)
          have p1 := hc j hjA
          have p2 := hc' j hjB
          have HDA := Lib.hid (HCA.out.2 _ (ct_mem hjA))
          have HDB := Lib.hid (HCB.out.2 _ (ct_mem hjB))
          have HPA := Lib.hid (HQA.out.2 _ (ct_mem hjA))
          have HPB := Lib.hid (HQB.out.2 _ (ct_mem hjB))
          clear hc hc'
          obtain ⟨x2, hx2⟩ : ∃ x, ct xu j = x := ⟨_, rfl⟩
          obtain ⟨y2, hy2⟩ : ∃ x, ct yu j = x := ⟨_, rfl⟩
          rw [hx2] at p1 HDA HPA
          rw [hy2] at p2 HDB HPB
          have HX2 := Lib.hid hx2
          have HY2 := Lib.hid hy2
          obtain ⟨ga, gc, gu⟩ := x2
          obtain ⟨ga', gc', gu'⟩ := y2
          simp only at p1 p2 HDA HDB HPA HPB
          have HSC := Lib.hid (fun (V : World) (hV : Below w7.heap.size w7 V) => sameChainW_any gu gu' ga ga' gc gc' B0 V (HDA.out.below (HB7.out.trans (hV.mono HB7.out.size)) HS.out) (HDB.out.below (HB7.out.trans (hV.mono HB7.out.size)) HS.out) (Nat.le_trans HS.out (Nat.le_trans HB7.out.size hV.size)) HPA.out HPB.out)
          obtain ⟨r, hr⟩ : ∃ r, decide (gu = gu') = r := ⟨_, rfl⟩
          rw [hr] at HSC
          have HR := Lib.hid hr
          have hj0 : (0 : Int) ≤ (j : Int) := by omega
          have hj1 : (j : Int) < (xn : Int) := by omega
          clear hx2 hy2 hr hBW
          generalize gu.length = gn at *
          generalize gu'.length = gn' at *
          go_upto_region 13 with fail
          refine wp_region_held_drew (S := (fun V => Below w7.heap.size w7 V ∧ V.cell? ⟨r1, 1, none⟩ = some (.slice (some ⟨b, o, none⟩) xn xc) ∧ V.cell? ⟨r1 + 1, 1, none⟩ = some (.slice (some ⟨b', o', none⟩) xn yc) ∧ V.cell? ⟨b, o + j, none⟩ = some (.slice ga gn gc) ∧ V.cell? ⟨b', o' + j, none⟩ = some (.slice ga' gn' gc'))) (by kernel_rfl) ⟨(Below.refl _ _).drew, v1, v2, p1, p2⟩ (fun hHeld => ?_)
          refine wpAnyH_take (i := 0) (v := ?_) rfl (by kernel_rfl) (by kernel_rfl) (by kernel_rfl) (fun _ _ _ h => h) (Or.inl ⟨by kernel_rfl, ?_⟩) hHeld ?_
          rotate_left
          · (intro w hSw; first | (go_simp; done) | (go_simp; with_reducible rfl))
          (try simp only [Act.put, List.getElem_toArray, List.getElem_cons_succ, List.getElem_cons_zero, List.setIfInBounds_toArray, List.set_cons_zero, List.set_cons_succ])
          refine wpAnyH_take (i := 1) (v := ?_) rfl (by kernel_rfl) (by kernel_rfl) (by kernel_rfl) (fun _ _ _ h => h) (Or.inl ⟨by kernel_rfl, ?_⟩) hHeld ?_
          rotate_left
          · (intro w hSw; first | (go_simp; done) | (go_simp; with_reducible rfl))
          (try simp only [Act.put, List.getElem_toArray, List.getElem_cons_succ, List.getElem_cons_zero, List.setIfInBounds_toArray, List.set_cons_zero, List.set_cons_succ])
          refine wpAnyH_take (i := 2) (v := ?_) rfl (by kernel_rfl) (by kernel_rfl) (by kernel_rfl) (fun _ _ _ h => h) (Or.inl ⟨by kernel_rfl, ?_⟩) hHeld ?_
          rotate_left
          · (intro w hSw; first | (go_simp; done) | (go_simp; with_reducible rfl))
          (try simp only [Act.put, List.getElem_toArray, List.getElem_cons_succ, List.getElem_cons_zero, List.setIfInBounds_toArray, List.set_cons_zero, List.set_cons_succ])
          refine wpAnyH_take (i := 3) (v := ?_) rfl (by kernel_rfl) (by kernel_rfl) (by kernel_rfl) (fun _ _ _ h => h) (Or.inl ⟨by kernel_rfl, ?_⟩) hHeld ?_
          rotate_left
          · (intro w hSw; first | (go_simp; done) | (go_simp; with_reducible rfl))
          (try simp only [Act.put, List.getElem_toArray, List.getElem_cons_succ, List.getElem_cons_zero, List.setIfInBounds_toArray, List.set_cons_zero, List.set_cons_succ])
          refine wpAnyH_take (i := 4) (v := ?_) rfl (by kernel_rfl) (by kernel_rfl) (by kernel_rfl) (fun _ _ _ h => h) (Or.inl ⟨by kernel_rfl, ?_⟩) hHeld ?_
          rotate_left
          · (intro w hSw; first | (go_simp; done) | (go_simp; with_reducible rfl))
          (try simp only [Act.put, List.getElem_toArray, List.getElem_cons_succ, List.getElem_cons_zero, List.setIfInBounds_toArray, List.set_cons_zero, List.set_cons_succ])
          refine wpAnyH_take (i := 5) (v := ?_) rfl (by kernel_rfl) (by kernel_rfl) (by kernel_rfl) (fun _ _ _ h => h) (Or.inl ⟨by kernel_rfl, ?_⟩) hHeld ?_
          rotate_left
          · (intro w hSw; first | (go_simp; done) | (go_simp; with_reducible rfl))
          (try simp only [Act.put, List.getElem_toArray, List.getElem_cons_succ, List.getElem_cons_zero, List.setIfInBounds_toArray, List.set_cons_zero, List.set_cons_succ])
          refine wpAnyH_take (i := 6) (v := ?_) rfl (by kernel_rfl) (by kernel_rfl) (by kernel_rfl) (fun _ _ _ h => h) (Or.inl ⟨by kernel_rfl, ?_⟩) hHeld ?_
          rotate_left
          · (intro w hSw; first | (go_simp; done) | (go_simp; with_reducible rfl))
          (try simp only [Act.put, List.getElem_toArray, List.getElem_cons_succ, List.getElem_cons_zero, List.setIfInBounds_toArray, List.set_cons_zero, List.set_cons_succ])
          refine wpAnyH_take (i := 7) (v := ?_) rfl (by kernel_rfl) (by kernel_rfl) (by kernel_rfl) (fun _ _ _ h => h) (Or.inl ⟨by kernel_rfl, ?_⟩) hHeld ?_
          rotate_left
          · (intro w hSw; first | (go_simp; done) | (go_simp; with_reducible rfl))
          (try simp only [Act.put, List.getElem_toArray, List.getElem_cons_succ, List.getElem_cons_zero, List.setIfInBounds_toArray, List.set_cons_zero, List.set_cons_succ])
          refine wpAnyH_take (i := 8) (v := ?_) rfl (by kernel_rfl) (by kernel_rfl) (by kernel_rfl) (fun _ _ _ h => h) (Or.inl ⟨by kernel_rfl, ?_⟩) hHeld ?_
          rotate_left
          · (intro w hSw; first | (go_simp; done) | (go_simp; with_reducible rfl))
          (try simp only [Act.put, List.getElem_toArray, List.getElem_cons_succ, List.getElem_cons_zero, List.setIfInBounds_toArray, List.set_cons_zero, List.set_cons_succ])
          refine wpAnyH_take (i := 9) (v := ?_) rfl (by kernel_rfl) (by kernel_rfl) (by kernel_rfl) (fun _ _ _ h => h) (Or.inl ⟨by kernel_rfl, ?_⟩) hHeld ?_
          rotate_left
          · (intro w hSw; first | (go_simp; done) | (go_simp; with_reducible rfl))
          (try simp only [Act.put, List.getElem_toArray, List.getElem_cons_succ, List.getElem_cons_zero, List.setIfInBounds_toArray, List.set_cons_zero, List.set_cons_succ])
          refine wpAnyH_ready (rs := [10]) (by kernel_rfl) (by simp) (AllReadyH.cons rfl (fun K hK => ?_) AllReadyH.nil)
          have hH := hHeld
          (go_simp; go_at_call 71; refine (HSC.out _ hH.1).mono ?_; rintro e w9 ⟨rfl, hb9⟩)
          refine hK.out _ _ (by exact ⟨hH.1.trans (hb9.mono hH.1.size), cell_keep hb9 hH.2.1 (World.block_lt_of_cell? _ _ hH.2.1), cell_keep hb9 hH.2.2.1 (World.block_lt_of_cell? _ _ hH.2.2.1), cell_keep hb9 hH.2.2.2.1 (World.block_lt_of_cell? _ _ hH.2.2.2.1), cell_keep hb9 hH.2.2.2.2 (World.block_lt_of_cell? _ _ hH.2.2.2.2)⟩) (fun hHq1 => ?_)
          clear hK K hH 
          (try simp only [Act.put, List.getElem_toArray, List.getElem_cons_succ, List.getElem_cons_zero, List.setIfInBounds_toArray, List.set_cons_zero, List.set_cons_succ])
          refine wpAnyH_take (i := 11) (v := ?_) rfl (by kernel_rfl) (by kernel_rfl) (by kernel_rfl) (fun _ _ _ h => h) (Or.inl ⟨by kernel_rfl, ?_⟩) hHq1 ?_
          rotate_left
          · (intro w hSw; first | (go_simp; done) | (go_simp; with_reducible rfl))
          (try simp only [Act.put, List.getElem_toArray, List.getElem_cons_succ, List.getElem_cons_zero, List.setIfInBounds_toArray, List.set_cons_zero, List.set_cons_succ])
          refine wpAnyH_done (by kernel_rfl) ?_ _
          have hEnd := hHq1
          have HB9 := Lib.hid (HBj.out.trans (hEnd.1.mono HBj.out.size))
          clear hHeld hEnd v1 v2 p1 p2
          cases r with
          | true =>
            go_wp2_with fail
            go_roundw
            case rel =>
              refine ⟨j + 1, by omega, by go_num, Lib.hid fun i hi => ?_, HB9⟩
              by_cases e : i = j
              · subst e
                rw [HX2.out, HY2.out]
                exact of_decide_eq_true HR.out
              · exact HEj.out i (by omega)
            case measure => simp [Go.RowKit.intOf]; omega
          | false =>
            obtain rfl : t = false := HFALSE.out (fun h => by
              have := congrArg (fun z : Sg => cx z.2 j) h
              simp only [SgT.x, cx_chx, HX2.out, HY2.out] at this
              exact of_decide_eq_false HR.out this)
            go_wp2_with fail
            go_ret
            exact ⟨rfl, HB.out.trans ((HB6.out.trans (HB9.out.mono HB6.out.size)).mono HB.out.size)⟩
        · obtain rfl : j = xn := by omega
          go_wp2_with fail
          go_roundw
          case rel =>
            refine ⟨k + 1, by omega, by go_num, Lib.hid fun i hi => ?_, Lib.hid (HB6.out.trans (HBj.out.mono HB6.out.size))⟩
            by_cases e : i = k
            · subst e
              rw [HX.out, HY.out]
              simp only [SgT.x, Prod.mk.injEq, true_and]
              exact chx_ext (by rw [HXN.out, HYN.out]) (by rw [HXN.out]; exact HEj.out)
            · exact HE.out i (by omega)
          case measure => simp [Go.RowKit.intOf]; omega
    · obtain rfl : k = n := by omega
      obtain ⟨k1, k2⟩ := HK.out w6 HBk.out
      obtain rfl : t = true := HLK.out.2 ⟨by trivial, by trivial, sgx_ext (by rw [HN.out, HM.out]) (by rw [HN.out]; exact HE.out)⟩
      go_wp2_with fail
      go_ret
      exact ⟨rfl, HB.out.trans (HBk.out.mono HB.out.size)⟩
end Go.Proofs.YtcadnlilijkneaaGreat
namespace Go.Proofs.YtcadnlilijkneaaGreat
open Go.RowKit Go.Maps Go.Shelf Go.Deep
set_option linter.unusedVariables false
set_option linter.unusedSimpArgs false

theorem told_any (T : EsT) (w : World) : Calls Tryz.prog 54 #[T.val] w fun e w' => e = .returned T.val ∧ Chg [] w w' := by
  obtain ⟨⟨p1, p2⟩, ⟨a1, a2⟩, ⟨ye, ya, yc, ys, yq⟩⟩ := T
  simp only [EsT.val]
  generalize ys.length = yn
  obtain ⟨W, HW⟩ : ∃ W, Hid ((w.alloc (.cells #[.int .i64 p1, .int .i64 p2, .int .i64 a1, .int .i64 a2, .int .u64 (ye : Int), .slice ya yn yc, .int .i64 yq] 116)).alloc (.cells #[.int .i64 0, .int .i64 0, .int .i64 0, .int .i64 0, .int .u64 0, .slice none 0 0, .int .i64 0] 123) = W) := ⟨_, Lib.hid rfl⟩
  have hc : Chg [] w W := by rw [← HW.out]; exact ((Chg.refl [] w).alloc _).alloc _
  have h0 : Own W w.heap.size 116 [.int .i64 p1, .int .i64 p2, .int .i64 a1, .int .i64 a2, .int .u64 (ye : Int), .slice ya yn yc, .int .i64 yq] := by rw [← HW.out]; exact (Own.new w _ _).alloc _
  have h1 : Own W (w.heap.size + 1) 123 zEc := by
    rw [← HW.out]
    have := Own.new (w.alloc (.cells #[.int .i64 p1, .int .i64 p2, .int .i64 a1, .int .i64 a2, .int .u64 (ye : Int), .slice ya yn yc, .int .i64 yq] 116)) 123 zEc
    simpa using this
  have HQ := Lib.hid h1
  have HD := Lib.hid hc
  have c0 := h0.cell 0
  have e0 := h1.cell 0
  have c1 := h0.cell 1
  have e1 := h1.cell 1
  have c2 := h0.cell 2
  have e2 := h1.cell 2
  have c3 := h0.cell 3
  have e3 := h1.cell 3
  have c4 := h0.cell 4
  have e4 := h1.cell 4
  have c5 := h0.cell 5
  have e5 := h1.cell 5
  have c6 := h0.cell 6
  have e6 := h1.cell 6
  have f0 := h1.frozen 0
  have f1 := h1.frozen 1
  have f2 := h1.frozen 2
  have f3 := h1.frozen 3
  have f4 := h1.frozen 4
  have f5 := h1.frozen 5
  have f6 := h1.frozen 6
  simp at c0 c1 c2 c3 c4 c5 c6 e0 e1 e2 e3 e4 e5 e6
  clear h0 h1 hc
  go_enter Tryz.func54, Tryz.ntmps54
  go_upto_region 1 with fail
  rw [HW.out]
  go_wp2_with fail
  have H9 := Lib.hid (Own.put7 HQ.out (.int .i64 p1) (.int .i64 p2) (.int .i64 a1) (.int .i64 a2) (.int .u64 (ye : Int)) (.slice ya yn yc) (.int .i64 yq))
  refine bodyPost_ret (results_cell_row Tryz.results54 _ _ (w.heap.size + 1) 123 _ (0, 0) _ rfl H9.out Tryz.underlying123 rfl (by kernel_rfl)) rfl ?_
  exact ⟨rfl, HD.out.put7 (.inr (by omega)) _ _ _ _ _ _ _⟩
noncomputable def esEq (a b : Es) : Bool := @decide (a = b) (Classical.propDecidable _)
theorem esEq_iff {a b : Es} : esEq a b = true ↔ a = b := by unfold esEq; exact @decide_eq_true_iff _ (Classical.propDecidable _)
def btEq (a b : Bt) : Bool := decide (a = b)
theorem btEq_iff {a b : Bt} : btEq a b = true ↔ a = b := by unfold btEq; exact decide_eq_true_iff
theorem esEq_bool (a b : Es) : esEq a b = ((btEq a.p b.p && btEq a.a b.a) && lalike a.y b.y) := by
  rw [Bool.eq_iff_iff, esEq_iff]
  simp only [Bool.and_eq_true, btEq_iff, lalike_iff]
  constructor
  · rintro rfl; exact ⟨⟨rfl, rfl⟩, rfl⟩
  · rintro ⟨⟨h1, h2⟩, h3⟩
    cases a; cases b
    simp only at h1 h2 h3
    subst h1 h2 h3
    rfl
set_option maxHeartbeats 1000000 in
theorem same12_any (T U : EsT) (w : World) (hT : LyIn w w.heap.size T.y) (hU : LyIn w w.heap.size U.y) (fT : SgFit T.y.sg) (fU : SgFit U.y.sg) : Calls Tryz.prog 53 #[T.val, U.val] w fun e w' => e = .returned (.bool (esEq T.x U.x)) ∧ Chg [] w w' := by
  rw [esEq_bool]
  obtain ⟨W, HW⟩ : ∃ W, Hid ((w.alloc (.cells #[.int .i64 T.p.1, .int .i64 T.p.2, .int .i64 T.a.1, .int .i64 T.a.2, .int .u64 (T.y.e : Int), .slice T.y.a T.y.sg.length T.y.c, .int .i64 T.y.q] 123)).alloc (.cells #[.int .i64 U.p.1, .int .i64 U.p.2, .int .i64 U.a.1, .int .i64 U.a.2, .int .u64 (U.y.e : Int), .slice U.y.a U.y.sg.length U.y.c, .int .i64 U.y.q] 123) = W) := ⟨_, Lib.hid rfl⟩
  have hc : Chg [] w W := by rw [← HW.out]; exact ((Chg.refl [] w).alloc _).alloc _
  have h0 : Own W w.heap.size 123 [.int .i64 T.p.1, .int .i64 T.p.2, .int .i64 T.a.1, .int .i64 T.a.2, .int .u64 (T.y.e : Int), .slice T.y.a T.y.sg.length T.y.c, .int .i64 T.y.q] := by rw [← HW.out]; exact (Own.new w _ _).alloc _
  have h1 : Own W (w.heap.size + 1) 123 [.int .i64 U.p.1, .int .i64 U.p.2, .int .i64 U.a.1, .int .i64 U.a.2, .int .u64 (U.y.e : Int), .slice U.y.a U.y.sg.length U.y.c, .int .i64 U.y.q] := by
    rw [← HW.out]
    have := Own.new (w.alloc (.cells #[.int .i64 T.p.1, .int .i64 T.p.2, .int .i64 T.a.1, .int .i64 T.a.2, .int .u64 (T.y.e : Int), .slice T.y.a T.y.sg.length T.y.c, .int .i64 T.y.q] 123)) 123 [.int .i64 U.p.1, .int .i64 U.p.2, .int .i64 U.a.1, .int .i64 U.a.2, .int .u64 (U.y.e : Int), .slice U.y.a U.y.sg.length U.y.c, .int .i64 U.y.q]
    simpa using this
  have HS := Lib.hid (rlsame_any T.y U.y w.heap.size W (hT.below hc.low (Nat.le_refl _)) (hU.below hc.low (Nat.le_refl _)) fT fU hc.size)
  have HC := Lib.hid hc
  have H0 := Lib.hid h0
  have H1 := Lib.hid h1
  obtain ⟨⟨p1, p2⟩, ⟨a1, a2⟩, ⟨ye, ya, yc, ys, yq⟩⟩ := T
  obtain ⟨⟨r1, r2⟩, ⟨s1, s2⟩, ⟨ze, za, zc, zs, zq⟩⟩ := U
  simp only [EsT.val, LyT.val, EsT.x] at *
  obtain ⟨yn, hyn⟩ : ∃ n, Hid (ys.length = n) := ⟨_, Lib.hid rfl⟩
  obtain ⟨zn, hzn⟩ : ∃ n, Hid (zs.length = n) := ⟨_, Lib.hid rfl⟩
  rw [hyn.out] at h0 H0 HS HW ⊢
  rw [hzn.out] at h1 H1 HS HW ⊢
  obtain ⟨t, ht⟩ : ∃ t, Hid (lalike (LyT.x ⟨ye, ya, yc, ys, yq⟩) (LyT.x ⟨ze, za, zc, zs, zq⟩) = t) := ⟨_, Lib.hid rfl⟩
  rw [ht.out] at HS ⊢
  obtain ⟨t1, ht1⟩ : ∃ t, btEq (p1, p2) (r1, r2) = t := ⟨_, rfl⟩
  obtain ⟨t2, ht2⟩ : ∃ t, btEq (a1, a2) (s1, s2) = t := ⟨_, rfl⟩
  have HE1 : ∀ W', (binOp .eql 48 (.agg #[.int .i64 p1, .int .i64 p2]) (.agg #[.int .i64 r1, .int .i64 r2])).run Tryz.prog W' = .ok (.bool (btEq (p1, p2) (r1, r2))) W' := fun W' => eq_bt p1 p2 r1 r2 W'
  have HE2 : ∀ W', (binOp .eql 48 (.agg #[.int .i64 a1, .int .i64 a2]) (.agg #[.int .i64 s1, .int .i64 s2])).run Tryz.prog W' = .ok (.bool (btEq (a1, a2) (s1, s2))) W' := fun W' => eq_bt a1 a2 s1 s2 W'
  rw [ht1] at HE1 ⊢
  rw [ht2] at HE2 ⊢
  clear ht1 ht2 hT hU fT fU hc
  have c0 := h0.cell 0
  have e0 := h1.cell 0
  have c1 := h0.cell 1
  have e1 := h1.cell 1
  have c2 := h0.cell 2
  have e2 := h1.cell 2
  have c3 := h0.cell 3
  have e3 := h1.cell 3
  have c4 := h0.cell 4
  have e4 := h1.cell 4
  have c5 := h0.cell 5
  have e5 := h1.cell 5
  have c6 := h0.cell 6
  have e6 := h1.cell 6
  simp at c0 c1 c2 c3 c4 c5 c6 e0 e1 e2 e3 e4 e5 e6
  clear h0 h1
  go_enter Tryz.func53, Tryz.ntmps53
  go_upto_region 1 with fail
  rw [HW.out]
  go_wp2_with fail
  refine HS.out.mono ?_
  rintro e w2 ⟨rfl, hb2⟩
  have hc2 := low_chg hb2
  have HC2 := Lib.hid (HC.out.trans hc2)
  have h0 := H0.out.chg hc2 (by simp)
  have h1 := H1.out.chg hc2 (by simp)
  clear c0 c1 c2 c3 c4 c5 c6 e0 e1 e2 e3 e4 e5 e6
  have c0 := h0.cell 0
  have c1 := h0.cell 1
  have c2 := h0.cell 2
  have c3 := h0.cell 3
  have e0 := h1.cell 0
  have e1 := h1.cell 1
  have e2 := h1.cell 2
  have e3 := h1.cell 3
  simp at c0 c1 c2 c3 e0 e1 e2 e3
  clear h0 h1 hc2 hb2
  cases t1 <;> cases t2
  all_goals
    go_wp2_with fail
    go_ret
    exact ⟨by simp, HC2.out⟩
def ActZ.ly (Z : ActZ) : LyT := ⟨if Z.own then Z.e else Z.y.e, Z.y.a, Z.y.c, Z.y.sg, Z.y.q⟩
set_option maxHeartbeats 1000000 in
theorem layout12_any (Z : ActZ) (w : World) : Calls Tryz.prog 51 #[.agg Z.cs.toArray] w fun e w' => e = .returned Z.ly.val ∧ Chg [] w w' := by
  obtain ⟨k, ze, ⟨b1, b2⟩, ⟨ye, ya, yc, ys, yq⟩, own, ka, ks, kc, ra, rs, rc⟩ := Z
  simp only [ActZ.cs, ActZ.ly, LyT.val]
  generalize ys.length = yn
  generalize ks.length = kn
  generalize rs.length = rn
  obtain ⟨W, HW⟩ : ∃ W, Hid ((w.alloc (.cells #[.int .i64 k, .int .u64 (ze : Int), .int .i64 b1, .int .i64 b2, .int .u64 (ye : Int), .slice ya yn yc, .int .i64 yq, .bool own, .slice ka kn kc, .slice ra rn rc] 100)).alloc (.cells #[.int .u64 0, .slice none 0 0, .int .i64 0] 26) = W) := ⟨_, Lib.hid rfl⟩
  have hc : Chg [] w W := by rw [← HW.out]; exact ((Chg.refl [] w).alloc _).alloc _
  have h0 : Own W w.heap.size 100 [.int .i64 k, .int .u64 (ze : Int), .int .i64 b1, .int .i64 b2, .int .u64 (ye : Int), .slice ya yn yc, .int .i64 yq, .bool own, .slice ka kn kc, .slice ra rn rc] := by rw [← HW.out]; exact (Own.new w _ _).alloc _
  have h1 : Own W (w.heap.size + 1) 26 [.int .u64 0, .slice none 0 0, .int .i64 0] := by
    rw [← HW.out]
    have := Own.new (w.alloc (.cells #[.int .i64 k, .int .u64 (ze : Int), .int .i64 b1, .int .i64 b2, .int .u64 (ye : Int), .slice ya yn yc, .int .i64 yq, .bool own, .slice ka kn kc, .slice ra rn rc] 100)) 26 [.int .u64 0, .slice none 0 0, .int .i64 0]
    simpa using this
  have hsz : W.heap.size = w.heap.size + 2 := by rw [← HW.out]; simp
  have H0 := Lib.hid h0
  have H1 := Lib.hid (And.intro h1 hsz)
  have HC := Lib.hid hc
  have c4 := h0.cell 4
  have c5 := h0.cell 5
  have c6 := h0.cell 6
  simp at c4 c5 c6
  clear h0 h1 hc hsz
  go_enter Tryz.func51, Tryz.ntmps51
  go_upto_region 1 with fail
  rw [HW.out]
  go_upto_region 2 with fail
  have hb := Own.new W 26 [.int .u64 (ye : Int), .slice ya yn yc, .int .i64 yq]
  have hcb := (Chg.refl [] W).alloc (.cells #[.int .u64 (ye : Int), .slice ya yn yc, .int .i64 yq] 26)
  generalize W.alloc (.cells #[.int .u64 (ye : Int), .slice ya yn yc, .int .i64 yq] 26) = w2 at hb hcb ⊢
  obtain ⟨gb, hgb⟩ : ∃ x, Hid (W.heap.size = x) := ⟨_, Lib.hid rfl⟩
  rw [hgb.out] at hb ⊢
  have c1 := (H0.out.chg hcb (by simp)).cell 1
  have c7 := (H0.out.chg hcb (by simp)).cell 7
  simp at c1 c7
  have HB := Lib.hid (And.intro hb hcb)
  have d0 := hb.cell 0
  have d1 := hb.cell 1
  have d2 := hb.cell 2
  have g0 := hb.frozen 0
  simp at d0 d1 d2
  have HR := Lib.hid (H1.out.1.chg hcb (by simp))
  clear c4 c5 c6 hb hcb
  cases own with
  | false =>
    have r1 := HR.out
    have e0 := r1.cell 0
    have e1 := r1.cell 1
    have e2 := r1.cell 2
    have f0 := r1.frozen 0
    have f1 := r1.frozen 1
    have f2 := r1.frozen 2
    simp at e0 e1 e2
    clear r1
    go_wp2_with fail
    have H9 := Lib.hid (((HR.out.set 0 (.int .u64 (ye : Int))).set 1 (.slice ya yn yc)).set 2 (.int .i64 yq))
    simp only [List.set_cons_zero, List.set_cons_succ] at H9
    refine bodyPost_ret (results_cell_row Tryz.results51 _ _ (w.heap.size + 1) 26 _ (0, 0) _ rfl H9.out Tryz.underlying26 rfl (by kernel_rfl)) rfl ?_
    exact ⟨rfl, (((HC.out.trans HB.out.2).setCell (.inr (Nat.le_succ _)) _).setCell (.inr (Nat.le_succ _)) _).setCell (.inr (Nat.le_succ _)) _⟩
  | true =>
    go_upto_region 4 with fail
    have hb2 := HB.out.1.set 0 (.int .u64 (ze : Int))
    have hc2 : Chg [gb] w2 (w2.setCell ⟨gb, 0, none⟩ (.int .u64 (ze : Int))) := (Chg.refl [gb] w2).setCell (by simp) _
    simp only [List.set_cons_zero] at hb2
    have hne : w.heap.size + 1 ∉ [gb] := by have := H1.out.2; have := hgb.out; simp; omega
    generalize w2.setCell ⟨gb, 0, none⟩ (.int .u64 (ze : Int)) = w3 at hb2 hc2 ⊢
    have hr3 := HR.out.chg hc2 hne
    have HR3 := Lib.hid (And.intro hr3 hc2)
    clear d0 d1 d2 g0 c1 c7 hne
    have d0 := hb2.cell 0
    have d1 := hb2.cell 1
    have d2 := hb2.cell 2
    have e0 := hr3.cell 0
    have e1 := hr3.cell 1
    have e2 := hr3.cell 2
    have f0 := hr3.frozen 0
    have f1 := hr3.frozen 1
    have f2 := hr3.frozen 2
    simp at d0 d1 d2 e0 e1 e2
    clear hb2 hc2 hr3
    go_wp2_with fail
    have H9 := Lib.hid (((HR3.out.1.set 0 (.int .u64 (ze : Int))).set 1 (.slice ya yn yc)).set 2 (.int .i64 yq))
    simp only [List.set_cons_zero, List.set_cons_succ] at H9
    refine bodyPost_ret (results_cell_row Tryz.results51 _ _ (w.heap.size + 1) 26 _ (0, 0) _ rfl H9.out Tryz.underlying26 rfl (by kernel_rfl)) rfl ?_
    have hgl : w.heap.size ≤ gb := by have := H1.out.2; have := hgb.out; omega
    exact ⟨rfl, ((((HC.out.trans HB.out.2).then HR3.out.2 (fun x hx => .inr (by simp only [List.mem_singleton] at hx; omega))).setCell (.inr (Nat.le_succ _)) _).setCell (.inr (Nat.le_succ _)) _).setCell (.inr (Nat.le_succ _)) _⟩
end Go.Proofs.YtcadnlilijkneaaGreat
namespace Go.Proofs.YtcadnlilijkneaaGreat
open Go.RowKit Go.Maps Go.Shelf Go.Deep
set_option linter.unusedVariables false
set_option linter.unusedSimpArgs false

structure AnI (W wr : World) (u p n k : Nat) (T : AT) : Prop where
  ex : ∃ B : Nat → Prop, Acv wr B u p n T ∧ ∀ x, B x → W.heap.size ≤ x
  fr : (frs T.L).length ≤ k * 66
  c : Chg [] W wr
theorem AnI.kept {W wr w' : World} {u p n k : Nat} {T : AT} (h : AnI W wr u p n k T) (hc : Chg [] wr w') : AnI W w' u p n k T := by
  obtain ⟨B, h1, h2⟩ := h.ex
  exact ⟨⟨B, h1.kept hc, h2⟩, h.fr, h.c.trans hc⟩
theorem AnI.more {W wr : World} {u p n k : Nat} {T : AT} (h : AnI W wr u p n k T) : AnI W wr u p n (k + 1) T := ⟨h.ex, by have := h.fr; omega, h.c⟩
theorem AnI.roomy {W wr : World} {u p k : Nat} {T : AT} (h : AnI W wr u p 500 k T) (hk : k ≤ 100) : Roomy 500 T := by
  have := h.fr
  unfold Roomy hsec
  omega
theorem AcV.chgW {W w w' : World} {B : Nat → Prop} {u p n : Nat} {T2 : AT} {Y : LyT} (hc : Chg [] W w) (hB : ∀ x, B x → W.heap.size ≤ x) (h : AcV w B u p n T2 Y w') : Chg [] W w' := by
  obtain ⟨B', h1, h2, h3, h4, m, h5, h6⟩ := h
  exact hc.then h5 (fun x hx => .inr (hB x (h6 x hx)))
theorem AnI.step {W w1 w' : World} {u p n k : Nat} {T2 : AT} {Y : LyT} {B : Nat → Prop} (hc : Chg [] W w1) (hB : ∀ x, B x → W.heap.size ≤ x) (h : AcV w1 B u p n T2 Y w') (hf : (frs T2.L).length ≤ k * 66) : AnI W w' u p n k T2 := by
  have hcc := AcV.chgW hc hB h
  obtain ⟨B', h1, h2, h3, h4, m, h5, h6⟩ := h
  exact ⟨⟨B', h2, fun x hx => (h1 x hx).elim (hB x) (fun h9 => Nat.le_trans hc.size h9)⟩, hf, hcc⟩
theorem pPr_frs (n : Nat) (T : AT) (e : Nat) (b : Bt) : (frs (pPr n T e b).2.2.L).length ≤ (frs T.L).length + 66 := by
  unfold pPr
  by_cases h0 : ep0 e = false ∨ btOk b = false
  · rw [if_pos h0]; exact Nat.le_add_right _ _
  · rw [if_neg h0]
    by_cases h1 : (T.S.at e).p.less b = false
    · rw [if_pos h1]; exact Nat.le_add_right _ _
    · rw [if_neg h1]
      have h2 : ep0 e = true := by cases hh : ep0 e with | true => rfl | false => exact absurd (.inl hh) h0
      have h3 : btOk b = true := by cases hh : btOk b with | true => rfl | false => exact absurd (.inr hh) h0
      exact frs_app (okA_pr h2 h3)
theorem pAc_frs (n : Nat) (T : AT) (e : Nat) (b : Bt) (y : Ly) : (frs (pAc n T e b y).2.2.L).length ≤ (frs T.L).length + 66 := by
  unfold pAc
  by_cases h0 : ep0 e = false ∨ btOk b = false ∨ (decide (y.e = e) && lright y) = false
  · rw [if_pos h0]; exact Nat.le_add_right _ _
  · rw [if_neg h0]
    by_cases h1 : b.less (T.S.at e).p = true
    · rw [if_pos h1]; exact Nat.le_add_right _ _
    · rw [if_neg h1]
      have h2 : ep0 e = true := by cases hh : ep0 e with | true => rfl | false => exact absurd (.inl hh) h0
      have h3 : btOk b = true := by cases hh : btOk b with | true => rfl | false => exact absurd (.inr (.inl hh)) h0
      have h4 : (decide (y.e = e) && lright y) = true := by cases hh : (decide (y.e = e) && lright y) with | true => rfl | false => exact absurd (.inr (.inr hh)) h0
      rw [Bool.and_eq_true, decide_eq_true_eq] at h4
      exact frs_app (okA_ac h2 h3 h4.1 h4.2)
theorem act_cells {w : World} {a : Option Addr} {L : List ActZ} (h : Ro w w.heap.size a (L.flatMap ActZ.cs)) (h0 : 0 < L.length) : ∃ b off, a = some ⟨b, off, none⟩ ∧ b < w.heap.size ∧ ∀ (k : Nat) (hk : k < L.length) (j : Nat), j < 10 → w.cell? ⟨b, off + k * 10 + j, none⟩ = (L[k]'hk).cs[j]? := by
  have hl := flat_len (cells := ActZ.cs) (c := 10) (fun T => rfl) L
  obtain ⟨b, off, h1, h2, h3⟩ := h.at_ (by intro e; rw [e] at hl; simp at hl; omega)
  refine ⟨b, off, h1, h2, fun k hk j hj => ?_⟩
  have hb : k * 10 + j < (L.flatMap ActZ.cs).length := by rw [hl]; omega
  rw [Nat.add_assoc, h3 _ hb, List.getD_eq_getElem?_getD, flat_at (cells := ActZ.cs) (c := 10) (fun T => rfl) hk hj]
  have : j < (L[k].cs).length := hj
  rw [List.getElem?_eq_getElem this]
  rfl
theorem ActZ.lyIn {w : World} {Z : ActZ} (h : LyIn w w.heap.size Z.y) : LyIn w w.heap.size Z.ly := h
theorem ActZ.lyFit {Z : ActZ} (h : SgFit Z.y.sg) : SgFit Z.ly.sg := h
def ActS (g : Nat) (k : Int) (e : Nat) (b1 b2 : Int) (ye : Nat) (ya : Option Addr) (yn yc : Nat) (yq : Int) (own : Bool) (ka : Option Addr) (kn kc : Nat) (ra : Option Addr) (rn rc : Nat) (W : World) : Prop :=
  W.cell? ⟨g, 0, none⟩ = some (.int .i64 k) ∧ W.cell? ⟨g, 1, none⟩ = some (.int .u64 (e : Int)) ∧ W.cell? ⟨g, 2, none⟩ = some (.int .i64 b1) ∧ W.cell? ⟨g, 3, none⟩ = some (.int .i64 b2) ∧ W.cell? ⟨g, 4, none⟩ = some (.int .u64 (ye : Int)) ∧ W.cell? ⟨g, 5, none⟩ = some (.slice ya yn yc) ∧ W.cell? ⟨g, 6, none⟩ = some (.int .i64 yq) ∧ W.cell? ⟨g, 7, none⟩ = some (.bool own) ∧ W.cell? ⟨g, 8, none⟩ = some (.slice ka kn kc) ∧ W.cell? ⟨g, 9, none⟩ = some (.slice ra rn rc)
theorem ActS.step {g : Nat} {k : Int} {e : Nat} {b1 b2 : Int} {ye : Nat} {ya : Option Addr} {yn yc : Nat} {yq : Int} {own : Bool} {ka : Option Addr} {kn kc : Nat} {ra : Option Addr} {rn rc : Nat} {m : List Nat} {W W' : World} (h : ActS g k e b1 b2 ye ya yn yc yq own ka kn kc ra rn rc W) (hc : Chg m W W') (hg : g ∉ m) : ActS g k e b1 b2 ye ya yn yc yq own ka kn kc ra rn rc W' := by
  obtain ⟨h0, h1, h2, h3, h4, h5, h6, h7, h8, h9⟩ := h
  exact ⟨hc.cell h0 hg, hc.cell h1 hg, hc.cell h2 hg, hc.cell h3 hg, hc.cell h4 hg, hc.cell h5 hg, hc.cell h6 hg, hc.cell h7 hg, hc.cell h8 hg, hc.cell h9 hg⟩
theorem Own.actS {w : World} {g : Nat} {t : TypeId} {k : Int} {e : Nat} {b1 b2 : Int} {ye : Nat} {ya : Option Addr} {yn yc : Nat} {yq : Int} {own : Bool} {ka : Option Addr} {kn kc : Nat} {ra : Option Addr} {rn rc : Nat} (h : Own w g t [.int .i64 k, .int .u64 (e : Int), .int .i64 b1, .int .i64 b2, .int .u64 (ye : Int), .slice ya yn yc, .int .i64 yq, .bool own, .slice ka kn kc, .slice ra rn rc]) : ActS g k e b1 b2 ye ya yn yc yq own ka kn kc ra rn rc w := by
  refine ⟨?_, ?_, ?_, ?_, ?_, ?_, ?_, ?_, ?_, ?_⟩ <;> rw [h.cell] <;> rfl
theorem cells14 {g h : Nat} {a0 a1 a2 a3 a4 a5 a6 b0 b1 b2 b3 b4 b5 b6 : Value} {W W' : World} (H : W.cell? ⟨g, 0, none⟩ = some a0 ∧ W.cell? ⟨g, 1, none⟩ = some a1 ∧ W.cell? ⟨g, 2, none⟩ = some a2 ∧ W.cell? ⟨g, 3, none⟩ = some a3 ∧ W.cell? ⟨g, 4, none⟩ = some a4 ∧ W.cell? ⟨g, 5, none⟩ = some a5 ∧ W.cell? ⟨g, 6, none⟩ = some a6 ∧ W.cell? ⟨h, 0, none⟩ = some b0 ∧ W.cell? ⟨h, 1, none⟩ = some b1 ∧ W.cell? ⟨h, 2, none⟩ = some b2 ∧ W.cell? ⟨h, 3, none⟩ = some b3 ∧ W.cell? ⟨h, 4, none⟩ = some b4 ∧ W.cell? ⟨h, 5, none⟩ = some b5 ∧ W.cell? ⟨h, 6, none⟩ = some b6) (hc : Chg [] W W') :
    W'.cell? ⟨g, 0, none⟩ = some a0 ∧ W'.cell? ⟨g, 1, none⟩ = some a1 ∧ W'.cell? ⟨g, 2, none⟩ = some a2 ∧ W'.cell? ⟨g, 3, none⟩ = some a3 ∧ W'.cell? ⟨g, 4, none⟩ = some a4 ∧ W'.cell? ⟨g, 5, none⟩ = some a5 ∧ W'.cell? ⟨g, 6, none⟩ = some a6 ∧ W'.cell? ⟨h, 0, none⟩ = some b0 ∧ W'.cell? ⟨h, 1, none⟩ = some b1 ∧ W'.cell? ⟨h, 2, none⟩ = some b2 ∧ W'.cell? ⟨h, 3, none⟩ = some b3 ∧ W'.cell? ⟨h, 4, none⟩ = some b4 ∧ W'.cell? ⟨h, 5, none⟩ = some b5 ∧ W'.cell? ⟨h, 6, none⟩ = some b6 := by
  obtain ⟨h0, h1, h2, h3, h4, h5, h6, h7, h8, h9, h10, h11, h12, h13⟩ := H
  exact ⟨hc.cell h0 (by simp), hc.cell h1 (by simp), hc.cell h2 (by simp), hc.cell h3 (by simp), hc.cell h4 (by simp), hc.cell h5 (by simp), hc.cell h6 (by simp), hc.cell h7 (by simp), hc.cell h8 (by simp), hc.cell h9 (by simp), hc.cell h10 (by simp), hc.cell h11 (by simp), hc.cell h12 (by simp), hc.cell h13 (by simp)⟩
theorem pLe_code (T : AT) (e : Nat) : (pLe T e).1 = 0 ∧ ep0 e = true ∧ (pLe T e).2 = T.S.at e ∨ (pLe T e).1 = 1 ∧ ep0 e = false := by
  unfold pLe
  by_cases h : ep0 e = false
  · rw [if_pos h]; exact .inr ⟨rfl, h⟩
  · rw [if_neg h]; exact .inl ⟨rfl, by simpa using h, rfl⟩
theorem pLe_app (n : Nat) (T : AT) (x : Rc) (O : Nat) (h : O ≠ x.e) : (pLe (appT n T x) O).2 = (pLe T O).2 := by
  unfold pLe
  by_cases h0 : ep0 O = false
  · rw [if_pos h0, if_pos h0]
  · rw [if_neg h0, if_neg h0]
    exact at_exec_other T.S x h
structure AnsW (T : AT) (E O : Nat) (b : Bt) (k1 : Bool) (code : Int) (s : Es) (T2 : AT) (gd : Bool) : Prop where
  a : (pLe T E).1 = 1 → code = 1
  b' : (pLe T E).1 = 0 → code = 1 → T2 = T
  c : (pLe T E).1 = 0 → code ≠ 1 → (code = 0 ∨ code = 121) ∧ s = (pLe T2 E).2 ∧ gd = (code == 0) ∧ (O ≠ E → (pLe T2 O).2 = (pLe T O).2)
  d : (pLe T E).1 = 0 → code = 0 → (pLe T2 E).2.p = b ∧ (k1 = true → (pLe T2 E).2.a = (pLe T E).2.a ∧ (pLe T2 E).2.a ≠ b) ∧ (k1 = false → (pLe T2 E).2.a = b)
  e : (pLe T E).1 = 0 → code = 121 → T2 = T
theorem ansW {T T2 : AT} {E O : Nat} {b : Bt} {y : Ly} {k1 : Bool} {code : Int} {s : Es} {gd : Bool} (hG : Gd T.S) (hp : (code, s, T2) = (if k1 then pPr 500 T E b else pAc 500 T E b y)) (hg : gd = (if k1 then (pLe T E).2.p.less b else !b.less (pLe T E).2.p)) : AnsW T E O b k1 code s T2 gd := by
  rcases pLe_code T E with ⟨g1, g2, g3⟩ | ⟨g1, g2⟩
  · rw [g3] at hg
    have hat : ∀ (x : Rc), x.e = E → (pLe (appT 500 T x) E).2 = behind (T.S.at E) x := fun x hx => by
      unfold pLe
      rw [if_neg (by rw [g2]; simp)]
      show (exec T.S x).at E = _
      rw [← hx]
      exact at_exec_same T.S x
    cases k1 with
    | true =>
      simp only [if_true] at hp hg
      unfold pPr at hp
      by_cases h0 : ep0 E = false ∨ btOk b = false
      · rw [if_pos h0] at hp
        simp only [Prod.mk.injEq] at hp
        obtain ⟨rfl, rfl, rfl⟩ := hp
        exact ⟨fun h => rfl, fun _ _ => rfl, fun _ h => absurd rfl h, fun _ h => by omega, fun _ h => by omega⟩
      · rw [if_neg h0] at hp
        have hbt : btOk b = true := by cases hh : btOk b with | true => rfl | false => exact absurd (.inr hh) h0
        by_cases h1 : (T.S.at E).p.less b = false
        · rw [if_pos h1] at hp
          simp only [Prod.mk.injEq] at hp
          obtain ⟨rfl, rfl, rfl⟩ := hp
          exact ⟨fun h => by omega, fun _ h => by omega, fun _ _ => ⟨.inr rfl, g3.symm, by rw [hg, h1]; rfl, fun _ => rfl⟩, fun _ h => by omega, fun _ _ => rfl⟩
        · rw [if_neg h1] at hp
          simp only [Prod.mk.injEq] at hp
          obtain ⟨rfl, rfl, rfl⟩ := hp
          have h1' : (T.S.at E).p.less b = true := by simpa using h1
          have hx := hat ⟨false, E, b, zLy⟩ rfl
          refine ⟨fun h => by omega, fun _ h => by omega, fun _ _ => ⟨.inl rfl, hx.symm, by rw [hg, h1']; rfl, fun h => pLe_app 500 T _ O h⟩, fun _ _ => ?_, fun _ h => by omega⟩
          rw [hx, g3]
          refine ⟨rfl, fun _ => ⟨rfl, fun hab => ?_⟩, fun h => by cases h⟩
          have hab' : (T.S.at E).a = b := hab
          have hle : Bt.less (T.S.at E).p (T.S.at E).a = false := by
            unfold AS.at
            cases hS : T.S E with
            | none => rfl
            | some s => exact (hG E s hS).2.le
          rw [hab', h1'] at hle
          cases hle
    | false =>
      simp only [Bool.false_eq_true, if_false] at hp hg
      unfold pAc at hp
      by_cases h0 : ep0 E = false ∨ btOk b = false ∨ (decide (y.e = E) && lright y) = false
      · rw [if_pos h0] at hp
        simp only [Prod.mk.injEq] at hp
        obtain ⟨rfl, rfl, rfl⟩ := hp
        exact ⟨fun h => rfl, fun _ _ => rfl, fun _ h => absurd rfl h, fun _ h => by omega, fun _ h => by omega⟩
      · rw [if_neg h0] at hp
        by_cases h1 : b.less (T.S.at E).p = true
        · rw [if_pos h1] at hp
          simp only [Prod.mk.injEq] at hp
          obtain ⟨rfl, rfl, rfl⟩ := hp
          exact ⟨fun h => by omega, fun _ h => by omega, fun _ _ => ⟨.inr rfl, g3.symm, by rw [hg, h1]; rfl, fun _ => rfl⟩, fun _ h => by omega, fun _ _ => rfl⟩
        · rw [if_neg h1] at hp
          simp only [Prod.mk.injEq] at hp
          obtain ⟨rfl, rfl, rfl⟩ := hp
          have h1' : b.less (T.S.at E).p = false := by simpa using h1
          have hx := hat ⟨true, E, b, y⟩ rfl
          refine ⟨fun h => by omega, fun _ h => by omega, fun _ _ => ⟨.inl rfl, hx.symm, by rw [hg, h1']; rfl, fun h => pLe_app 500 T _ O h⟩, fun _ _ => ?_, fun _ h => by omega⟩
          rw [hx, g3]
          exact ⟨rfl, fun h => (by cases h), fun _ => rfl⟩
  · have hc : code = 1 := by
      cases k1 with
      | true =>
        simp only [if_true] at hp
        unfold pPr at hp
        rw [if_pos (.inl g2)] at hp
        simp only [Prod.mk.injEq] at hp
        exact hp.1
      | false =>
        simp only [Bool.false_eq_true, if_false] at hp
        unfold pAc at hp
        rw [if_pos (.inl g2)] at hp
        simp only [Prod.mk.injEq] at hp
        exact hp.1
    exact ⟨fun _ => hc, fun h => by omega, fun h => by omega, fun h => by omega, fun h => by omega⟩
def AnJ (W : World) (u p : Nat) (T : AT) (E : Nat) (b : Bt) (y : Ly) (k1 : Bool) (gw gf gt : Nat) (T1 Tf : EsT) (v20 v21 : Value) (wx : World) : Prop :=
  ∃ (B : Nat → Prop) (T2 : AT) (Tt : EsT) (code : Int) (s : Es) (gd : Bool), v20 = .int .i64 code ∧ v21 = .bool gd ∧ Acv wx B u p 500 T2 ∧ (∀ x, B x → W.heap.size ≤ x) ∧ Chg [] W wx ∧
    (Own wx gw 116 T1.cs ∧ ¬ B gw) ∧ (Own wx gf 116 Tf.cs ∧ ¬ B gf) ∧ (Own wx gt 116 Tt.cs ∧ ¬ B gt) ∧
    LyP wx (fun x => ¬ B x) T1.y ∧ LyP wx (fun x => ¬ B x) Tf.y ∧ LyP wx (fun x => ¬ B x) Tt.y ∧ LyS Tt.y ∧ Tt.x = s ∧ (code, s, T2) = (if k1 then pPr 500 T E b else pAc 500 T E b y) ∧ gd = (if k1 then T1.p.less b else !b.less T1.p)
theorem AnJ.mk' {W wr wc wx wy : World} {u p : Nat} {T T2 : AT} {E : Nat} {b : Bt} {y : Ly} {k1 : Bool} {gw gf gt : Nat} {T1 Tf Tt : EsT} {B : Nat → Prop} {code : Int} {s : Es} {gd : Bool}
    (hB : ∀ x, B x → W.heap.size ≤ x) (hBr : ∀ x, B x → x < wr.heap.size) (hWr : W.heap.size ≤ wr.heap.size) (hc : Chg [] W wc)
    (hw : Own wc gw 116 T1.cs) (hf : Own wc gf 116 Tf.cs) (ht : Own wc gt 116 zEc) (gw0 : wr.heap.size ≤ gw ∧ gw < wc.heap.size) (gf0 : wr.heap.size ≤ gf ∧ gf < wc.heap.size) (gt0 : wr.heap.size ≤ gt ∧ gt < wc.heap.size) (hne : gw ≠ gt ∧ gf ≠ gt)
    (hy1 : LyP wc (fun x => wr.heap.size ≤ x ∧ x ≠ gt) T1.y) (hyf : LyP wc (fun x => wr.heap.size ≤ x ∧ x ≠ gt) Tf.y)
    (hA : AcV wc B u p 500 T2 Tt.y wx) (hs : Tt.x = s) (he : (code, s, T2) = (if k1 then pPr 500 T E b else pAc 500 T E b y)) (hg : gd = (if k1 then T1.p.less b else !b.less T1.p))
    (hyx : Chg [gt] wx wy) (hoy : Own wy gt 116 Tt.cs) : AnJ W u p T E b y k1 gw gf gt T1 Tf (.int .i64 code) (.bool gd) wy := by
  have hcc := AcV.chgW hc hB hA
  obtain ⟨B', h1, h2, h3, h4, m, h5, h6⟩ := hA
  have nb : ∀ x, wr.heap.size ≤ x → ¬ B x := fun x hx h => by have := hBr x h; omega
  have nb' : ∀ x, wr.heap.size ≤ x → x < wc.heap.size → ¬ B' x := fun x hx hx2 h => by
    rcases h1 x h with h9 | h9
    · exact nb x hx h9
    · omega
  have hgt : ∀ x ∈ [gt], ¬ B' x := fun x hx => by simp only [List.mem_singleton] at hx; subst hx; exact nb' _ gt0.1 gt0.2
  have hgW : W.heap.size ≤ gt := Nat.le_trans hWr gt0.1
  have hmn : ∀ x, wr.heap.size ≤ x → x ∉ m := fun x hx hm => nb x hx (h6 x hm)
  have cv : ∀ Y : LyT, LyP wc (fun x => wr.heap.size ≤ x ∧ x ≠ gt) Y → LyP wy (fun x => ¬ B' x) Y := fun Y hY => by
    have k1 : LyP wc (fun x => (wr.heap.size ≤ x ∧ x ≠ gt) ∧ x < wc.heap.size) Y := hY.mono (fun x hx hp => ⟨hp, hx⟩)
    have k2 := k1.chg h5 (fun x hx => hmn x hx.1.1)
    have k3 := k2.chg hyx (fun x hx hm => by simp only [List.mem_singleton] at hm; exact hx.1.2 hm)
    exact k3.mono (fun x _ hx => nb' x hx.1.1 hx.2)
  refine ⟨B', T2, Tt, code, s, gd, rfl, rfl, h2.apart hyx hgt, fun x hx => (h1 x hx).elim (hB x) (fun h9 => Nat.le_trans hc.size h9), hcc.then hyx (fun x hx => .inr (by simp only [List.mem_singleton] at hx; omega)), ?_, ?_, ⟨hoy, hgt gt (by simp)⟩, ?_, ?_, ?_, h4, hs, he, hg⟩
  · exact ⟨(hw.chg h5 (hmn gw gw0.1)).chg hyx (by simpa using hne.1), nb' gw gw0.1 gw0.2⟩
  · exact ⟨(hf.chg h5 (hmn gf gf0.1)).chg hyx (by simpa using hne.2), nb' gf gf0.1 gf0.2⟩
  · exact cv _ hy1
  · exact cv _ hyf
  · refine ((h3.mono (P' := fun x => wc.heap.size ≤ x ∧ ¬ B' x) (fun x _ hx => hx)).chg hyx (fun x hx hm => ?_)).mono (fun x _ hx => hx.2)
    simp only [List.mem_singleton] at hm
    have := gt0.2
    omega
end Go.Proofs.YtcadnlilijkneaaGreat
