/-
  messageFrom of package message. No claim of its own.
-/
import Derived.Test.YteenlkmnadjnpaaGreatH16
import Derived.Test.YteenlkmnadjnpaaGreatH13
import Derived.Test.YteenlkmnadjnpaaGreatH14
import Derived.Test.YteenlkmnadjnpaaGreatH6
import Derived.Deep.RegionHeld3
import Derived.Test.YteenlkmnadjnpaaGreatH9
import Derived.Laws.IdiomStrings
import Derived.Test.YteenlkmnadjnpaaGreatH8
import Derived.Laws.StructEq
namespace Go.Proofs.YteenlkmnadjnpaaGreat
open Go.RowKit Go.Deep
set_option linter.unusedVariables false
set_option linter.unusedSimpArgs false

theorem pBk_fit (bs : List UInt8) (k : Nat) : FitB (pB bs k).1 := by
  have h1 := tkN_lt bs k 4
  have h2 := tkN_lt bs (k + 4) 21
  have h3 := tkN_lt bs (k + 4 + 21) 21
  unfold pB FitB lst
  simp only
  refine ⟨by omega, by omega, ?_, ?_⟩
  · split <;> omega
  · split <;> omega
theorem pBks_fit (bs : List UInt8) (k : Nat) : (pBks bs k).1.length ≤ 32 ∧ (∀ b ∈ (pBks bs k).1, FitB b) ∧ (pBks bs k).2 ≤ k + 2000 := by
  have h1 := tkN_lt bs k 5
  refine ⟨?_, rep_mem (P := FitB) (pBk_fit bs) _ _, ?_⟩
  · unfold pBks; rw [rep_length]; omega
  · unfold pBks; rw [pB_at]; omega
theorem pSt_fit (bs : List UInt8) (k : Nat) : (pSt bs k).1.length ≤ 8 ∧ (pSt bs k).2 ≤ k + 100 := by
  have h1 := tkN_lt bs k 3
  refine ⟨?_, ?_⟩
  · unfold pSt; rw [rep_length]; omega
  · unfold pSt; rw [pS_at]; omega
theorem pBy_fit (bs : List UInt8) (k : Nat) : (pBy bs k).1.length ≤ 256 ∧ (pBy bs k).2 ≤ k + 4000 := by
  have h1 := tkN_lt bs k 8
  refine ⟨?_, ?_⟩
  · unfold pBy; rw [rep_length]; omega
  · unfold pBy; rw [pY_at]; omega
set_option maxHeartbeats 4000000 in
set_option maxRecDepth 100000 in
theorem messageF_any (bs : List UInt8) (B s : Nat) (xs : List Nat) (w : World) (h : Src w 98 B s bs 0) (hx : ∀ x ∈ xs, x < w.heap.size) :
    Calls Tryz.prog 52 #[nv s] w fun e w' => ∃ T : MgT, e = .returned (.agg T.cs.toArray) ∧ T.x = pMg bs ∧ MgFit T ∧ MgX w' w.heap.size xs T ∧ Chg [s] w w' := by
  have eg := egT
  obtain ⟨W, HWW⟩ : ∃ W, Hid (w.alloc (.cells #[.int .i64 0, .int .i64 0, .int .i64 0, .int .i64 0, .int .i64 0, .int .i64 0, .int .i64 0, .int .u64 0, .int .u64 0, .int .i64 0, .int .i64 0, .slice none 0 0, .slice none 0 0, .slice none 0 0, .slice none 0 0, .int .i64 0, .int .i64 0, .int .i64 0, .int .i64 0, .int .u64 0, .slice none 0 0, .int .i64 0] 40) = W) := ⟨_, Lib.hid rfl⟩
  have hWc : Chg [] w W := by rw [← HWW.out]; exact (Chg.refl [] w).alloc _
  have hO : Own W w.heap.size 40 zmT.cs := by rw [← HWW.out]; exact Own.new w _ zmT.cs
  have HZ := Lib.hid h.lt
  have HXL := Lib.hid hx
  have HO := Lib.hid (And.intro (hWc.nil1 [s]) hO)
  have H1 := Lib.hid (mheadF_any bs B s W (h.new0 hWc))
  have f1 := pSt_fit bs 130
  have f2 := pBks_fit bs (pSt bs 130).2
  have f3 := pBy_fit bs (pBks bs (pSt bs 130).2).2
  have f4 := pBy_fit bs (pBy bs (pBks bs (pSt bs 130).2).2).2
  have HPM : Hid (pMg bs = { (hdT bs).x with st := (pSt bs 130).1, bk := (pBks bs (pSt bs 130).2).1, c := decC (pBy bs (pBks bs (pSt bs 130).2).2).1, ly := decL (pBy bs (pBy bs (pBks bs (pSt bs 130).2).2).2).1 }) := Lib.hid rfl
  have HS2 := Lib.hid (fun (W : World) (hs : Src W 98 B s bs 130) => mstreamsF_any bs B s 130 W hs (by omega))
  have HS3 := Lib.hid (fun (W : World) (hs : Src W 98 B s bs (pSt bs 130).2) => mbacksF_any bs B s (pSt bs 130).2 W hs (by omega))
  have HS4 := Lib.hid (fun (W : World) (hs : Src W 98 B s bs (pBks bs (pSt bs 130).2).2) => mbytesF_any bs B s (pBks bs (pSt bs 130).2).2 W hs (by omega))
  have HS5 := Lib.hid (fun (W : World) (hs : Src W 98 B s bs (pBy bs (pBks bs (pSt bs 130).2).2).2) => mbytesF_any bs B s (pBy bs (pBks bs (pSt bs 130).2).2).2 W hs (by omega))
  generalize pBy bs (pBy bs (pBks bs (pSt bs 130).2).2).2 = y4 at *
  generalize pBy bs (pBks bs (pSt bs 130).2).2 = y3 at *
  generalize pBks bs (pSt bs 130).2 = y2 at *
  generalize pSt bs 130 = y1 at *
  obtain ⟨st, k1⟩ := y1
  obtain ⟨bk, k2⟩ := y2
  obtain ⟨cb, k3⟩ := y3
  obtain ⟨lb, k4⟩ := y4
  simp only at f1 f2 f3 f4 HPM HS2 HS3 HS4 HS5
  have HF1 := Lib.hid f1.1
  have HF2 := Lib.hid (And.intro f2.1 f2.2.1)
  have HF3 := Lib.hid f3.1
  have HF4 := Lib.hid f4.1
  generalize hdT bs = T0 at *
  clear h hx hWc hO f1 f2 f3 f4
  obtain ⟨n1, hn1⟩ : ∃ n1, st.length = n1 := ⟨_, rfl⟩
  obtain ⟨n2, hn2⟩ : ∃ n2, bk.length = n2 := ⟨_, rfl⟩
  obtain ⟨n3, hn3⟩ : ∃ n3, cb.length = n3 := ⟨_, rfl⟩
  obtain ⟨n4, hn4⟩ : ∃ n4, lb.length = n4 := ⟨_, rfl⟩
  rw [hn1] at HS2
  rw [hn2] at HS3
  rw [hn3] at HS4
  rw [hn4] at HS5
  have HN := Lib.hid (And.intro hn1 (And.intro hn2 (And.intro hn3 hn4)))
  clear hn1 hn2 hn3 hn4
  go_enter Tryz.func52, Tryz.ntmps52
  go_upto_region 1 with fail
  rw [HWW.out]
  go_wp2_with fail
  refine H1.out.mono ?_
  rintro e w1 ⟨rfl, h1, h2⟩
  have HH := Lib.hid (And.intro h1 h2)
  clear h1 h2
  go_wp2_with (refine wpList_storeMg rfl (.tmp 3) (.tmp 5) rfl w1.heap.size rfl T0 rfl zmT.cs (Own.new w1 _ zmT.cs) rfl ?_)
  intro W2 ho hc
  obtain ⟨p, hp⟩ : ∃ p, w1.heap.size = p := ⟨_, rfl⟩
  rw [hp] at ho hc ⊢
  have HPW : Hid (s < w.heap.size ∧ w.heap.size < p) := Lib.hid (by have := HO.out.2.lt; have := HH.out.2.size; have := HZ.out; omega)
  have hF : Fr w B s bs p 130 T0 W2 := by
    have ha : Chg [] w1 (w1.alloc (.cells zmT.cs.toArray 40)) := (Chg.refl [] w1).alloc _
    have hb : Chg [] w1 W2 := ha.then hc (fun x hx => by simp only [List.mem_singleton] at hx; subst hx; exact .inr (by omega))
    exact ⟨HH.out.1.new0 hb, (HO.out.1.trans HH.out.2).trans (hb.nil1 [s]), (HO.out.2.chg HH.out.2 (by have := HZ.out; simp; omega)).chg hb (by simp), ho⟩
  have F2 := Lib.hid hF
  clear ho hc hp hF HH
  go_wp2_with fail
  refine (HS2.out W2 F2.out.1).mono ?_
  rintro e w3 ⟨sa, sc, rfl, h1, h2, h3⟩
  have F3 := Lib.hid (F2.out.step HPW.out h2 h3)
  have HL3 := Lib.hid (F2.out.lt HPW.out HXL.out)
  have R3 : Hid (RoX w3 (s :: w.heap.size :: p :: xs) sa (i64s st)) := Lib.hid (h1.apart2 (fun y hy => .inl (HL3.out y hy)))
  clear h1 h2 h3
  have c1 : w3.cell? ⟨p, 13, none⟩ = some (T0.cs.getD 13 undef) := F3.out.2.2.2.cell 13
  have f1 := F3.out.2.2.2.frozen 13
  have z1 := F3.out.2.2.2.lt
  go_upto_region 3 with fail
  obtain ⟨W3, hW3⟩ : ∃ W3, w3.setCell ⟨p, 13, none⟩ (.slice sa n1 sc) = W3 := ⟨_, rfl⟩
  obtain ⟨T1, hT1⟩ : ∃ T1 : MgT, { T0 with st := st, sa := sa, sc := sc } = T1 := ⟨_, rfl⟩
  have G3 := Lib.hid (F3.out.set HPW.out 13 (.slice sa n1 sc) T1 (by rw [← hT1, ← HN.out.1]; rfl))
  have R3' := Lib.hid (R3.out.chg ((Chg.refl _ w3).setCell (p := ⟨p, 13, none⟩) (.inl (by simp)) (.slice sa n1 sc)))
  rw [hW3] at G3 R3' ⊢
  have HT1 := Lib.hid hT1
  clear hW3 hT1 c1 f1 z1
  go_wp2_with fail
  refine (HS3.out W3 G3.out.1).mono ?_
  rintro e w4 ⟨ka, kc, rfl, h1, h2, h3⟩
  have F4 := Lib.hid (G3.out.step HPW.out h2 h3)
  have HL4 := Lib.hid (G3.out.lt HPW.out HXL.out)
  have R4 : Hid (RoX w4 (s :: w.heap.size :: p :: xs) sa (i64s st) ∧ RoX w4 (s :: w.heap.size :: p :: xs) ka (bcs bk)) := Lib.hid ⟨R3'.out.chg (h3.mono (fun y hy => by simp only [List.mem_singleton] at hy; subst hy; exact .inl (by simp))), h1.apart HL4.out⟩
  clear h1 h2 h3
  have c1 : w4.cell? ⟨p, 14, none⟩ = some (T1.cs.getD 14 undef) := F4.out.2.2.2.cell 14
  have f1 := F4.out.2.2.2.frozen 14
  have z1 := F4.out.2.2.2.lt
  go_upto_region 4 with fail
  obtain ⟨W4, hW4⟩ : ∃ W4, w4.setCell ⟨p, 14, none⟩ (.slice ka n2 kc) = W4 := ⟨_, rfl⟩
  obtain ⟨T2, hT2⟩ : ∃ T2 : MgT, { T1 with bk := bk, ka := ka, kc := kc } = T2 := ⟨_, rfl⟩
  have G4 := Lib.hid (F4.out.set HPW.out 14 (.slice ka n2 kc) T2 (by rw [← hT2, ← HN.out.2.1]; rfl))
  have k4 : Chg (s :: w.heap.size :: p :: xs) w4 (w4.setCell ⟨p, 14, none⟩ (.slice ka n2 kc)) := (Chg.refl _ w4).setCell (p := ⟨p, 14, none⟩) (.inl (by simp)) _
  have R4' := Lib.hid (And.intro (R4.out.1.chg k4) (R4.out.2.chg k4))
  rw [hW4] at G4 R4' ⊢
  have HT2 := Lib.hid hT2
  clear hW4 hT2 k4 c1 f1 z1
  go_wp2_with fail
  refine (HS4.out W4 G4.out.1).mono ?_
  rintro e w5 ⟨da, dc, rfl, h1, h2, h3⟩
  have F5 := Lib.hid (G4.out.step HPW.out h2 h3)
  have k5 : Chg (s :: w.heap.size :: p :: xs) W4 w5 := h3.mono (fun y hy => by simp only [List.mem_singleton] at hy; subst hy; exact .inl (by simp))
  have R5 := Lib.hid (And.intro (R4'.out.1.chg k5) (R4'.out.2.chg k5))
  have HCD : Hid (Calls Tryz.prog 113 #[.slice da n3 dc] w5 fun e w' => ∃ a1 c1 a2 c2 g, e = .returned (.tuple #[cev (decC cb).k a1 (decC cb).d.length c1 a2 (decC cb).b.length c2, .int .i64 g]) ∧ Ro w' w'.heap.size a1 (u8s (decC cb).d) ∧ Ro w' w'.heap.size a2 (bcs (decC cb).b) ∧ Frs w5 a1 ∧ Frs w5 a2 ∧ Below w5.heap.size w5 w') := Lib.hid (by
    obtain ⟨a', c', he, hro, hcl, _⟩ := h1.form
    injection he with g1 g2 g3
    subst g1
    subst g3
    exact cdec_u cb n3 da dc w5.heap.size w5 HN.out.2.2.1 hro (Nat.le_refl _) (by rw [g2]; simpa [u8s] using hcl) h1.cap (by have := HF3.out; have := HN.out.2.2.1; omega))
  clear h1 h2 h3 k5
  have HDF := Lib.hid (decC_fit cb)
  generalize decC cb = ce at *
  obtain ⟨m1, hm1⟩ : ∃ m1, ce.d.length = m1 := ⟨_, rfl⟩
  obtain ⟨m2, hm2⟩ : ∃ m2, ce.b.length = m2 := ⟨_, rfl⟩
  rw [hm1, hm2] at HCD
  have HM := Lib.hid (And.intro hm1 hm2)
  clear hm1 hm2
  go_wp2_with fail
  refine HCD.out.mono ?_
  rintro e w6 ⟨a1, c1, a2, c2, g6, rfl, h1, h2, h3, h4, h5⟩
  have F6 := Lib.hid (F5.out.below h5)
  have HL5 := Lib.hid (F5.out.lt HPW.out HXL.out)
  have k6 : Chg (s :: w.heap.size :: p :: xs) w5 w6 := (Chg.refl _ w5).of_below h5
  have R6 := Lib.hid (And.intro (R5.out.1.chg k6) (And.intro (R5.out.2.chg k6) (And.intro (Frs.apart h1 h3 HL5.out) (Frs.apart h2 h4 HL5.out))))
  clear h1 h2 h3 h4 h5 k6
  have d10 : w6.cell? ⟨p, 10, none⟩ = some (T2.cs.getD 10 undef) := F6.out.2.2.2.cell 10
  have d11 : w6.cell? ⟨p, 11, none⟩ = some (T2.cs.getD 11 undef) := F6.out.2.2.2.cell 11
  have d12 : w6.cell? ⟨p, 12, none⟩ = some (T2.cs.getD 12 undef) := F6.out.2.2.2.cell 12
  have f10 := F6.out.2.2.2.frozen 10
  have f11 := F6.out.2.2.2.frozen 11
  have f12 := F6.out.2.2.2.frozen 12
  have z1 := F6.out.2.2.2.lt
  go_upto_region 5 with fail
  obtain ⟨W6, hW6⟩ : ∃ W6, ((w6.setCell ⟨p, 10, none⟩ (.int .i64 ce.k)).setCell ⟨p, 11, none⟩ (.slice a1 m1 c1)).setCell ⟨p, 12, none⟩ (.slice a2 m2 c2) = W6 := ⟨_, rfl⟩
  obtain ⟨T3, hT3⟩ : ∃ T3 : MgT, { T2 with c := ce, ca := a1, cc := c1, ca2 := a2, cc2 := c2 } = T3 := ⟨_, rfl⟩
  have G6 := Lib.hid (F6.out.set3 HPW.out 10 (.int .i64 ce.k) (.slice a1 m1 c1) (.slice a2 m2 c2) T3 (by rw [← hT3, ← HM.out.1, ← HM.out.2]; rfl))
  have k6 : Chg (s :: w.heap.size :: p :: xs) w6 (((w6.setCell ⟨p, 10, none⟩ (.int .i64 ce.k)).setCell ⟨p, 11, none⟩ (.slice a1 m1 c1)).setCell ⟨p, 12, none⟩ (.slice a2 m2 c2)) := (((Chg.refl _ w6).setCell (p := ⟨p, 10, none⟩) (.inl (by simp)) _).setCell (p := ⟨p, 11, none⟩) (.inl (by simp)) _).setCell (p := ⟨p, 12, none⟩) (.inl (by simp)) _
  have R6' := Lib.hid (And.intro (R6.out.1.chg k6) (And.intro (R6.out.2.1.chg k6) (And.intro (R6.out.2.2.1.chg k6) (R6.out.2.2.2.chg k6))))
  rw [hW6] at G6 R6' ⊢
  have HT3 := Lib.hid hT3
  clear hW6 hT3 k6 d10 d11 d12 f10 f11 f12 z1
  go_wp2_with fail
  refine (HS5.out W6 G6.out.1).mono ?_
  rintro e w7 ⟨ba, bc, rfl, h1, h2, h3⟩
  have F7 := Lib.hid (G6.out.step HPW.out h2 h3)
  have k7 : Chg (s :: w.heap.size :: p :: xs) W6 w7 := h3.mono (fun y hy => by simp only [List.mem_singleton] at hy; subst hy; exact .inl (by simp))
  have R7 := Lib.hid (And.intro (R6'.out.1.chg k7) (And.intro (R6'.out.2.1.chg k7) (And.intro (R6'.out.2.2.1.chg k7) (R6'.out.2.2.2.chg k7))))
  have HLD : Hid (Calls Tryz.prog 115 #[.slice ba n4 bc] w7 fun e w' => ∃ (T : LyT) (g : Int), e = .returned (.tuple #[T.val, .int .i64 g]) ∧ T.x = decL lb ∧ SgFit T.sg ∧ Sl w' w7.heap.size (.slice T.a T.sg.length T.c) T.sg ∧ GwS w' w7.heap.size T.sg ∧ Below w7.heap.size w7 w') := Lib.hid (by
    obtain ⟨a', c', he, hro, hcl, _⟩ := h1.form
    injection he with g1 g2 g3
    subst g1
    exact ldec_u lb n4 ba bc w7.heap.size w7 HN.out.2.2.2 hro (Nat.le_refl _) (by have := HF4.out; have := HN.out.2.2.2; omega))
  clear h1 h2 h3 k7
  go_wp2_with fail
  refine HLD.out.mono ?_
  rintro e w8 ⟨⟨le, la, lc, L, lq⟩, g8, rfl, h1, h2, h3, h4, h5⟩
  simp only [LyT.val] at h3 h4 ⊢
  obtain ⟨m3, hm3⟩ : ∃ m3, L.length = m3 := ⟨_, rfl⟩
  rw [hm3] at h3 ⊢
  have HM3 := Lib.hid hm3
  have HLX := Lib.hid (And.intro h1 h2)
  have F8 := Lib.hid (F7.out.below h5)
  have k8 : Chg (s :: w.heap.size :: p :: xs) w7 w8 := (Chg.refl _ w7).of_below h5
  have R8 := Lib.hid (And.intro (R7.out.1.chg k8) (And.intro (R7.out.2.1.chg k8) (And.intro (R7.out.2.2.1.chg k8) (R7.out.2.2.2.chg k8))))
  have S8 := Lib.hid (And.intro (h3.base F7.out.2.1.size) (h4.base F7.out.2.1.size))
  clear h1 h2 h3 h4 h5 k8 hm3
  have d19 : w8.cell? ⟨p, 19, none⟩ = some (T3.cs.getD 19 undef) := F8.out.2.2.2.cell 19
  have d20 : w8.cell? ⟨p, 20, none⟩ = some (T3.cs.getD 20 undef) := F8.out.2.2.2.cell 20
  have d21 : w8.cell? ⟨p, 21, none⟩ = some (T3.cs.getD 21 undef) := F8.out.2.2.2.cell 21
  have f19 := F8.out.2.2.2.frozen 19
  have f20 := F8.out.2.2.2.frozen 20
  have f21 := F8.out.2.2.2.frozen 21
  have z1 := F8.out.2.2.2.lt
  go_upto_region 6 with fail
  obtain ⟨W8, hW8⟩ : ∃ W8, ((w8.setCell ⟨p, 19, none⟩ (.int .u64 (le : Int))).setCell ⟨p, 20, none⟩ (.slice la m3 lc)).setCell ⟨p, 21, none⟩ (.int .i64 lq) = W8 := ⟨_, rfl⟩
  obtain ⟨T4, hT4⟩ : ∃ T4 : MgT, { T3 with ly := ⟨le, la, lc, L, lq⟩ } = T4 := ⟨_, rfl⟩
  have G8 := Lib.hid (F8.out.set3 HPW.out 19 (.int .u64 (le : Int)) (.slice la m3 lc) (.int .i64 lq) T4 (by rw [← hT4, ← HM3.out]; rfl))
  have kp : Chg [p] w8 (((w8.setCell ⟨p, 19, none⟩ (.int .u64 (le : Int))).setCell ⟨p, 20, none⟩ (.slice la m3 lc)).setCell ⟨p, 21, none⟩ (.int .i64 lq)) := (((Chg.refl _ w8).setCell (p := ⟨p, 19, none⟩) (.inl (by simp)) _).setCell (p := ⟨p, 20, none⟩) (.inl (by simp)) _).setCell (p := ⟨p, 21, none⟩) (.inl (by simp)) _
  have hX8 : MgX w8 w.heap.size (s :: w.heap.size :: p :: xs) T4 := by
    rw [← hT4, ← HT3.out, ← HT2.out, ← HT1.out]
    exact ⟨R8.out.2.2.1, R8.out.2.2.2, R8.out.1, R8.out.2.1, by simp only [HM3.out]; exact S8.out.1, S8.out.2⟩
  have X8 := Lib.hid (hX8.own (l' := (s :: w.heap.size :: p :: xs)) kp (by simp) F8.out.2.2.2 (fun y hy => hy))
  have HFT : Hid (T4.x = pMg bs ∧ MgFit T4) := Lib.hid (by
    rw [← hT4, ← HT3.out, ← HT2.out, ← HT1.out, HPM.out, ← HLX.out.1]
    refine ⟨rfl, ⟨?_, ?_, ?_, ?_, HLX.out.2, HDF.out.2.2, HF2.out.2⟩⟩
    · have := HDF.out.1; simp only; omega
    · have := HDF.out.2.1; simp only; omega
    · have := HF1.out; simp only; omega
    · have := HF2.out.1; simp only; omega)
  rw [hW8] at G8 X8 ⊢
  clear hW8 hT4 kp hX8 d19 d20 d21 f19 f20 f21 z1
  go_wp2_with (first | refine wpList_loadMg rfl (.tmp 3) rfl p rfl T4 G8.out.2.2.2 ?_ | refine wpList_storeMg rfl (.tmp 2) (.tmp 26) rfl w.heap.size rfl T4 rfl zmT.cs G8.out.2.2.1 rfl ?_)
  intro w9 ho hc
  have HO9 := Lib.hid ho
  have X9 := Lib.hid (X8.out.own (l' := xs) hc (by simp) G8.out.2.2.1 (fun y hy => by simp [hy]))
  have HC9 := Lib.hid (G8.out.2.1.then hc (fun y hy => by simp only [List.mem_singleton] at hy; subst hy; exact .inr (Nat.le_refl _)))
  clear ho hc
  go_wp2_with fail
  refine bodyPost_ret (results_cell_row Tryz.results52 _ _ w.heap.size 40 _ (0, 0) _ rfl HO9.out Tryz.underlying40 rfl (by kernel_rfl)) rfl ?_
  exact ⟨T4, rfl, HFT.out.1, HFT.out.2, X9.out, HC9.out⟩
end Go.Proofs.YteenlkmnadjnpaaGreat
namespace Go.Proofs.YteenlkmnadjnpaaGreat
open Go.RowKit Go.Deep Go.Shelf
set_option linter.unusedVariables false
set_option linter.unusedSimpArgs false

/-- what Encode tells, in one form -/
structure MEU (w : World) (x : Mg) (w' : World) (ok : Bool) (g : Int) (a : Option Addr) (cs : List UInt8) : Prop where
  below : Below w.heap.size w w'
  code : (g != 0) = !ok
  yes : ok = true → mright x = true ∧ IsME x cs
  no : ok = false → g = 101 ∧ mright x = false ∧ cs = []
  ro : Ro w' w'.heap.size a (u8s cs)
  nn : ok = true → a ≠ none
theorem menc_u (A : MgT) (B : Nat) (w : World) (h : MgIn w B A) (hB : B ≤ w.heap.size) (hf : MgFit A) :
    Calls Tryz.prog 12 #[.agg A.cs.toArray] w fun e w' => ∃ ok g a cs, e = .returned (.tuple #[.slice a cs.length cs.length, .int .i64 g]) ∧ MEU w A.x w' ok g a cs := by
  cases hr : mright A.x with
  | false =>
    refine (menc_no A B w h hB hf hr).mono ?_
    rintro e w' ⟨rfl, hb⟩
    exact ⟨false, 101, none, [], rfl, hb, by decide, (fun h => by cases h), fun _ => ⟨rfl, hr, rfl⟩, Ro.nil _ _ _, fun h => by cases h⟩
  | true =>
    refine (menc_yes A B w h hB hf hr).mono ?_
    rintro e w' ⟨g, cs, rfl, _, he, ho, hb⟩
    exact ⟨true, 0, _, cs, rfl, hb, by decide, fun _ => ⟨hr, he⟩, (fun h => by cases h), ho.ro _ ho.lt, fun _ h => by cases h⟩
theorem wpList_loadMm {ops : Array Oper} {rest : List Oper} {o : Oper} {a : Act} {w : World} {Q : Exit → Act → World → Prop} (x : Operand) (ho : o.op = .load 40 x) (b off : Nat) (hx : a.eval x = .pointer (some ⟨b, off, none⟩)) (A : MgT) (hr : w.rangeAt b off A.cs) (hw : Region.wanted o (yielded ops a.tmps) = true)
    (h : wpList Tryz.prog ops Q rest (a.put o.dst (.agg A.cs.toArray)) w) : wpList Tryz.prog ops Q (o :: rest) a w :=
  wpList_step fun K hK => by
    rw [if_pos hw]
    exact wp_load_mid _ x ho b off hx A.cs _ hr Tryz.underlying40 rfl infoMg (hK _ _ h)
end Go.Proofs.YteenlkmnadjnpaaGreat
namespace Go.Proofs.YteenlkmnadjnpaaGreat
open Go.RowKit Go.Deep Go.Shelf
set_option linter.unusedVariables false
set_option linter.unusedSimpArgs false

theorem results_row_tmp {P : Program} {fn : Func} {p u : Tmp} {ty : TypeId} (h : fn.results = #[.cell p ty, .tmp u]) (tmps : Array Value) (w : World) (g : Nat) (t : TypeId) (cs : Array Value) (fr : Nat × Nat) (d : TypeDesc)
    (hp : tmps.getD p undef = .pointer (some ⟨g, 0, none⟩)) (hg : w.heap[g]? = some (.cells cs t fr))
    (hu : P.underlying ty = some d) (hd : (match d with | .struct _ | .array _ _ => true | _ => false) = true) (hi : (P.info? ty).map (·.size) = some cs.size) :
    (results fn tmps).run P w = .ok (.tuple #[.agg cs, tmps.getD u undef]) w := by
  have hp' : tmps[p]?.getD undef = .pointer (some ⟨g, 0, none⟩) := by simpa using hp
  simp [results, h, hp', asAddr, run_loadVar_row w g t ty cs fr d hg hu hd hi]

/-- what Decode tells, in one form -/
structure MU (w : World) (bs : List UInt8) (w' : World) (ok : Bool) (g : Int) (T : MgT) : Prop where
  below : Below w.heap.size w w'
  code : (g == 0) = ok
  yes : ok = true → mright (pMg bs) = true ∧ IsME (pMg bs) bs ∧ T.x = pMg bs
  no : ok = false → g = 101 ∧ ∀ x, mright x = true → ¬ IsME x bs
  inn : MgIn w' w'.heap.size T
  fit : MgFit T
theorem zmT_fit : MgFit zmT := ⟨by simp [zmT, noC], by simp [zmT, noC], by simp [zmT], by simp [zmT], ⟨by simp [zmT], (fun s hs => by cases hs)⟩, (fun s hs => by cases hs), (fun s hs => by cases hs)⟩
theorem zmT_in (w : World) (B : Nat) : MgIn w B zmT := ⟨Ro.nil _ _ _, Ro.nil _ _ _, Ro.nil _ _ _, Ro.nil _ _ _, Ro.nil _ _ _, fun s hs => by cases hs⟩
theorem zmT_x (w : World) (B : Nat) (l : List Nat) : MgX w B l zmT := ⟨RoX.nil _ _ _, RoX.nil _ _ _, RoX.nil _ _ _, RoX.nil _ _ _, Sl.nil _ _, fun s hs => by cases hs⟩
theorem noME_of {bs : List UInt8} (h : mright (pMg bs) = true → ¬ IsME (pMg bs) bs) : ∀ x, mright x = true → ¬ IsME x bs := fun x hr he => by
  have := pMg_enc' hr he
  rw [this] at h
  exact h hr he
set_option maxHeartbeats 4000000 in
set_option maxRecDepth 100000 in
theorem mdec_x (xs : List Nat) (bs : List UInt8) (n : Nat) (a : Option Addr) (c B : Nat) (w : World) (hn : bs.length = n) (hro : Ro w B a (u8s bs)) (hB : B ≤ w.heap.size) (hl : n ≤ 1000000) (hxs : ∀ x ∈ xs, x < w.heap.size) :
    Calls Tryz.prog 14 #[.slice a n c] w fun e w' => ∃ ok g T, e = .returned (.tuple #[.agg T.cs.toArray, .int .i64 g]) ∧ MU w bs w' ok g T ∧ MgX w' w.heap.size xs T := by
  obtain ⟨W, HWW⟩ : ∃ W, Hid (w.alloc (.cells #[.int .i64 0, .int .i64 0, .int .i64 0, .int .i64 0, .int .i64 0, .int .i64 0, .int .i64 0, .int .u64 0, .int .u64 0, .int .i64 0, .int .i64 0, .slice none 0 0, .slice none 0 0, .slice none 0 0, .slice none 0 0, .int .i64 0, .int .i64 0, .int .i64 0, .int .i64 0, .int .u64 0, .slice none 0 0, .int .i64 0] 40) = W) := ⟨_, Lib.hid rfl⟩
  obtain ⟨W2, HW2⟩ : ∃ W2, Hid (W.alloc (.cells #[.slice a n c, .int .i64 0] 98) = W2) := ⟨_, Lib.hid rfl⟩
  have hWc : Chg [] w W := by rw [← HWW.out]; exact (Chg.refl [] w).alloc _
  have hWc2 : Chg [] w W2 := by rw [← HW2.out]; exact hWc.alloc _
  have hs : W.heap.size = w.heap.size + 1 := by rw [← HWW.out]; simp
  have o1 : Own W w.heap.size 40 zmT.cs := by rw [← HWW.out]; exact Own.new w _ zmT.cs
  have HO1 : Hid (Own W2 w.heap.size 40 zmT.cs) := Lib.hid (by rw [← HW2.out]; exact o1.alloc _)
  have HSRC : Hid (Src W2 98 B (w.heap.size + 1) bs 0) := Lib.hid ⟨⟨a, c, by rw [hn, ← hs, ← HW2.out]; exact Own.new W _ _, hro.below hWc2.low hB⟩, by omega, by omega⟩
  have HC2 := Lib.hid hWc2
  have HRO := Lib.hid hro
  have HBW := Lib.hid hB
  have HN := Lib.hid hn
  have HS := Lib.hid hs
  have HXS : Hid (∀ x ∈ w.heap.size :: xs, x < W2.heap.size) := Lib.hid (by
    intro x hx
    have h1 := HO1.out.lt
    rcases List.mem_cons.1 hx with rfl | hx
    · omega
    · have := hxs x hx
      have h2 := hWc2.size
      omega)
  have HW2S := Lib.hid hWc2.size
  clear hxs
  have HNoB := Lib.hid (@noME_of bs)
  clear hWc hWc2 hs o1 hro hB hn
  go_enter Tryz.func14, Tryz.ntmps14
  go_upto_region 1 with fail
  rw [HWW.out]
  go_upto_region 2 with fail
  rw [HW2.out, HS.out]
  go_wp2_with fail
  refine (messageF_any bs B (w.heap.size + 1) (w.heap.size :: xs) W2 HSRC.out HXS.out).mono ?_
  rintro e w1 ⟨T, rfl, hx, hf, h1, h2⟩
  have HC1 := Lib.hid ((HC2.out.nil1 [w.heap.size + 1]).trans h2)
  have HO2 := Lib.hid (HO1.out.chg h2 (by simp))
  have HX := Lib.hid hx
  have HF := Lib.hid hf
  have HT1 := Lib.hid h1
  clear h1 h2 hx hf
  go_wp2_with (refine wpList_storeMg rfl (.tmp 5) (.tmp 11) rfl w1.heap.size rfl T rfl zmT.cs (Own.new w1 _ zmT.cs) rfl ?_)
  intro W3 ho hc
  have hb13 : Chg [] w1 W3 := ((Chg.refl [] w1).alloc _).then hc (fun x hx => by simp only [List.mem_singleton] at hx; subst hx; exact .inr (Nat.le_refl _))
  have HM3 := Lib.hid (HT1.out.below hb13.low)
  have HC3 : Hid (Below w.heap.size w W3) := Lib.hid ((HC1.out.below (Nat.le_refl _) (by simp)).trans (hb13.low.mono HC1.out.size))
  have HO3 := Lib.hid (HO2.out.chg hb13 (by simp))
  obtain ⟨p, hp⟩ : ∃ p, w1.heap.size = p := ⟨_, rfl⟩
  rw [hp] at ho ⊢
  have HP3 := Lib.hid ho
  have HEN := Lib.hid (menc_u T W3.heap.size W3 HM3.out.inn (Nat.le_refl _) HF.out)
  clear ho hc hb13 hp
  go_wp2_with (refine wpList_loadMg rfl (.tmp 5) rfl p rfl T HP3.out ?_)
  refine HEN.out.mono ?_
  rintro e w4 ⟨ok, g, a4, cs, rfl, hE⟩
  have HE := Lib.hid hE
  have e4 := hE.code
  have HM4 := Lib.hid (HM3.out.below hE.below)
  have HB4 := Lib.hid (HC3.out.trans (hE.below.mono HC3.out.size))
  have HO4 := Lib.hid (HO3.out.below hE.below HO3.out.lt)
  have HP4 := Lib.hid (HP3.out.below hE.below HP3.out.lt)
  obtain ⟨nc, hnc⟩ : ∃ nc, cs.length = nc := ⟨_, rfl⟩
  have HEQ := Lib.hid (bytesEqual_any cs bs nc n a4 a nc c w4.heap.size w4 hnc HN.out hE.ro ((HRO.out.below HB4.out HBW.out).mono (Nat.le_trans HBW.out HB4.out.size)))
  rw [hnc]
  clear hE hnc
  cases ok with
  | false =>
    have e5 : (g != 0) = true := e4
    clear e4
    go_wp2_with (refine wpList_storeMg rfl (.tmp 2) (.tmp 25) rfl w.heap.size rfl zmT rfl zmT.cs HO4.out rfl ?_)
    intro w5 ho hc
    have HO5 := Lib.hid ho
    have HC5 : Hid (Below w.heap.size w w5) := Lib.hid (HB4.out.trans (hc.below HB4.out.size (by simp)))
    clear ho hc
    go_wp2_with fail
    refine bodyPost_ret (results_row_tmp Tryz.results14 _ _ w.heap.size 40 _ (0, 0) _ rfl HO5.out Tryz.underlying40 rfl (by kernel_rfl)) rfl ?_
    exact ⟨false, 101, zmT, rfl, ⟨HC5.out, by decide, (fun h => by cases h), (fun _ => ⟨rfl, HNoB.out (fun h => by have := (HE.out.no rfl).2.1; rw [HX.out, h] at this; cases this)⟩), zmT_in _ _, zmT_fit⟩, zmT_x _ _ _⟩
  | true =>
    have e5 : (g != 0) = false := e4
    clear e4
    by_cases heq : cs = bs
    · have hE : decide (cs = bs) = true := by simpa using heq
      rw [hE] at HEQ
      have HEQ2 := Lib.hid heq
      clear heq hE
      go_wp2_with fail
      refine HEQ.out.mono ?_
      rintro e w5 ⟨rfl, rfl⟩
      go_wp2_with (first | refine wpList_loadMg rfl (.tmp 5) rfl p rfl T HP4.out ?_ | refine wpList_storeMg rfl (.tmp 2) (.tmp 26) rfl w.heap.size rfl T rfl zmT.cs HO4.out rfl ?_)
      intro w6 ho hc
      have HO6 := Lib.hid ho
      have HM6 := Lib.hid (HM4.out.own (l' := xs) hc (by simp) HO4.out (fun x hx => by simp [hx]))
      have HC6 : Hid (Below w.heap.size w w6) := Lib.hid (HB4.out.trans (hc.below HB4.out.size (by simp)))
      clear ho hc
      go_wp2_with fail
      refine bodyPost_ret (results_row_tmp Tryz.results14 _ _ w.heap.size 40 _ (0, 0) _ rfl HO6.out Tryz.underlying40 rfl (by kernel_rfl)) rfl ?_
      obtain ⟨y1, y2⟩ := HE.out.yes rfl
      rw [HX.out, HEQ2.out] at y2
      rw [HX.out] at y1
      exact ⟨true, 0, T, rfl, ⟨HC6.out, by decide, fun _ => ⟨y1, y2, HX.out⟩, (fun h => by cases h), HM6.out.inn, HF.out⟩, HM6.out.base HW2S.out⟩
    · have hE : decide (cs = bs) = false := by simpa using heq
      rw [hE] at HEQ
      have HEQ2 := Lib.hid heq
      clear heq hE
      go_wp2_with fail
      refine HEQ.out.mono ?_
      rintro e w5 ⟨rfl, rfl⟩
      go_wp2_with (refine wpList_storeMg rfl (.tmp 2) (.tmp 25) rfl w.heap.size rfl zmT rfl zmT.cs HO4.out rfl ?_)
      intro w6 ho hc
      have HO6 := Lib.hid ho
      have HC6 : Hid (Below w.heap.size w w6) := Lib.hid (HB4.out.trans (hc.below HB4.out.size (by simp)))
      clear ho hc
      go_wp2_with fail
      refine bodyPost_ret (results_row_tmp Tryz.results14 _ _ w.heap.size 40 _ (0, 0) _ rfl HO6.out Tryz.underlying40 rfl (by kernel_rfl)) rfl ?_
      exact ⟨false, 101, zmT, rfl, ⟨HC6.out, by decide, (fun h => by cases h), (fun _ => ⟨rfl, HNoB.out (fun _ h => by have := (HE.out.yes rfl).2; rw [HX.out] at this; exact HEQ2.out (this.unique h))⟩), zmT_in _ _, zmT_fit⟩, zmT_x _ _ _⟩
theorem mdec_any (bs : List UInt8) (n : Nat) (a : Option Addr) (c B : Nat) (w : World) (hn : bs.length = n) (hro : Ro w B a (u8s bs)) (hB : B ≤ w.heap.size) (hl : n ≤ 1000000) :
    Calls Tryz.prog 14 #[.slice a n c] w fun e w' => ∃ ok g T, e = .returned (.tuple #[.agg T.cs.toArray, .int .i64 g]) ∧ MU w bs w' ok g T := by
  refine (mdec_x [] bs n a c B w hn hro hB hl (by simp)).mono ?_
  rintro e w' ⟨ok, g, T, h1, h2, _⟩
  exact ⟨ok, g, T, h1, h2⟩
end Go.Proofs.YteenlkmnadjnpaaGreat
namespace Go.Proofs.YteenlkmnadjnpaaGreat
open Go.RowKit Go.Maps Go.Sort Go.Shelf Go.Deep
set_option linter.unusedVariables false
set_option linter.unusedSimpArgs false

/-- []byte(s) -/
theorem conv_str (w : World) (k : Ky) : ∃ c W, (convert 9 29 (sv k)).run Tryz.prog w = .ok (.slice (some ⟨w.heap.size, 0, none⟩) k.length c) W ∧ Ro W W.heap.size (some ⟨w.heap.size, 0, none⟩) (u8s k) ∧ Chg [] w W := by
  have h := run_bytes_of_string w 9 29 5 ⟨k.toArray⟩ Tryz.underlying9 Tryz.underlying29 Tryz.underlying5
  have e1 : (⟨k.toArray⟩ : ByteArray).size = k.length := by show k.toArray.size = _; simp
  rw [e1] at h
  refine ⟨_, _, h, ?_, (Chg.refl [] w).drew.alloc _⟩
  refine .inr ⟨w.heap.size, 0, rfl, by rw [World.size_alloc]; exact Nat.lt_succ_self _, fun i hi => ?_⟩
  have hik : i < k.length := by simpa [u8s] using hi
  have hb := bytesRow_at ⟨k.toArray⟩ (grownCap w k.length 0 5) i (by simpa using hik)
  have hz : w.drew.heap.size = w.heap.size := rfl
  rw [← hz]
  simp only [World.cell?, World.alloc, Array.getElem?_push_size, Nat.zero_add]
  rw [hb]
  simp [u8s, List.getD, hik]
/-- the message of a key -/
theorem messageOf_x (xs : List Nat) (k : Ky) (hk : MOk k) (w : World) (hxs : ∀ x ∈ xs, x < w.heap.size) :
    Calls Tryz.prog 86 #[sv k] w fun e w' => ∃ T : MgT, e = .returned (.agg T.cs.toArray) ∧ T.x = pMg k ∧ MgFit T ∧ MgIn w' w'.heap.size T ∧ MgX w' w.heap.size xs T ∧ Below w.heap.size w w' := by
  obtain ⟨W, HWW⟩ : ∃ W, Hid (w.alloc (.cells #[.int .i64 0, .int .i64 0, .int .i64 0, .int .i64 0, .int .i64 0, .int .i64 0, .int .i64 0, .int .u64 0, .int .u64 0, .int .i64 0, .int .i64 0, .slice none 0 0, .slice none 0 0, .slice none 0 0, .slice none 0 0, .int .i64 0, .int .i64 0, .int .i64 0, .int .i64 0, .int .u64 0, .slice none 0 0, .int .i64 0] 40) = W) := ⟨_, Lib.hid rfl⟩
  have hWc : Chg [] w W := by rw [← HWW.out]; exact (Chg.refl [] w).alloc _
  have o1 : Own W w.heap.size 40 zmT.cs := by rw [← HWW.out]; exact Own.new w _ zmT.cs
  obtain ⟨c, W2, hcv, hro, hc2⟩ := conv_str W k
  have HO1 : Hid (Own W2 w.heap.size 40 zmT.cs) := Lib.hid (o1.chg hc2 (by simp))
  have HC2 := Lib.hid (hWc.trans hc2)
  have hkl := hk.len
  obtain ⟨n, hn⟩ : ∃ n, k.length = n := ⟨_, rfl⟩
  have HD := Lib.hid (mdec_x (w.heap.size :: xs) k n (some ⟨W.heap.size, 0, none⟩) c W2.heap.size W2 hn hro (Nat.le_refl _) (by omega) (fun x hx => by
    have h1 := o1.lt
    have h2 := hc2.size
    rcases List.mem_cons.1 hx with rfl | hx
    · omega
    · have := hxs x hx
      have := hWc.size
      omega))
  rw [hn] at hcv
  have HK := Lib.hid hk
  clear hWc o1 hro hc2 hkl hn hk hxs
  go_enter Tryz.func86, Tryz.ntmps86
  go_upto_region 1 with fail
  rw [HWW.out]
  go_wp2_with fail
  refine HD.out.mono ?_
  rintro e w3 ⟨ok, g, T, rfl, hu, hx⟩
  have HT : Hid (T.x = pMg k) := Lib.hid (by
    cases ok with
    | true => exact (hu.yes rfl).2.2
    | false => exact absurd HK.out.2 ((hu.no rfl).2 _ HK.out.1))
  have HF := Lib.hid hu.fit
  have HIN := Lib.hid hu.inn
  have HX := Lib.hid hx
  have HC3 := Lib.hid (HC2.out.of_below hu.below)
  have HO3 := Lib.hid (HO1.out.below hu.below HO1.out.lt)
  have HW2 := Lib.hid HC2.out.size
  clear hu hx
  have HZ := Lib.hid (Own.new w3 40 zmT.cs)
  go_wp2_with (refine wpList_storeMg rfl (.tmp 3) (.tmp 9) rfl w3.heap.size rfl T rfl zmT.cs HZ.out rfl ?_)
  intro w4 ho hc
  have hc4 : Chg [] w3 w4 := ((Chg.refl [] w3).alloc _).then hc (fun x hx => by simp only [List.mem_singleton] at hx; subst hx; exact .inr (Nat.le_refl _))
  have HX4 := Lib.hid (HX.out.below hc4.low)
  have HIN4 := Lib.hid ((HIN.out.below hc4.low (Nat.le_refl _)).mono hc4.size)
  have HC4 := Lib.hid (HC3.out.trans hc4)
  have HO4 := Lib.hid (HO3.out.chg hc4 (by simp))
  obtain ⟨p, hp⟩ : ∃ p, w3.heap.size = p := ⟨_, rfl⟩
  rw [hp] at ho ⊢
  have HP4 := Lib.hid ho
  clear ho hc hc4 hp HZ
  go_wp2_with (first | refine wpList_loadMg rfl (.tmp 3) rfl p rfl T HP4.out ?_ | refine wpList_storeMg rfl (.tmp 2) (.tmp 11) rfl w.heap.size rfl T rfl zmT.cs HO4.out rfl ?_)
  intro w5 ho hc
  have HO5 := Lib.hid ho
  have HX5 := Lib.hid (HX4.out.own (l' := xs) hc (by simp) HO4.out (fun x hx => by simp [hx]))
  have HC5 := Lib.hid (HC4.out.then hc (fun x hx => by simp only [List.mem_singleton] at hx; subst hx; exact .inr (Nat.le_refl _)))
  clear ho hc
  go_wp2_with fail
  refine bodyPost_ret (results_cell_row Tryz.results86 _ _ w.heap.size 40 _ (0, 0) _ rfl HO5.out Tryz.underlying40 rfl (by kernel_rfl)) rfl ?_
  exact ⟨T, rfl, HT.out, HF.out, HX5.out.inn, HX5.out.base HW2.out, HC5.out.low⟩
end Go.Proofs.YteenlkmnadjnpaaGreat
namespace Go.Proofs.YteenlkmnadjnpaaGreat
open Go.RowKit Go.Maps Go.Sort Go.Shelf Go.Deep
set_option linter.unusedVariables false
set_option linter.unusedSimpArgs false

/-- what Put tells, and leaves -/
structure PutR (S : SpS) (x : Mg) (g : Int) (S' : SpS) : Prop where
  yes : mright x = true → ∃ k, MOk k ∧ IsME x k ∧ g = S.addE ∧ S' = S.add k
  no : mright x = false → g = 101 ∧ S' = S
set_option maxHeartbeats 4000000 in
theorem Put_any {w : World} {p b d : Nat} {S : SpS} (h : Sp w p b d S) (hlo : S.lost ≤ 1000000) (A : MgT) (B : Nat) (hA : MgIn w B A) (hB : B ≤ w.heap.size) (hf : MgFit A) :
    Calls Tryz.prog 33 #[.pointer (some ⟨p, 0, none⟩), .agg A.cs.toArray] w fun e w' => ∃ g, e = .returned (.int .i64 g) ∧ ∃ S', PutR S A.x g S' ∧ Sp w' p b d S' ∧ Chg [p, b] w w' := by
  obtain ⟨W, HWW⟩ : ∃ W, Hid (w.alloc (.cells A.cs.toArray 40) = W) := ⟨_, Lib.hid rfl⟩
  have hWc : Chg [] w W := by rw [← HWW.out]; exact (Chg.refl [] w).alloc _
  have HO := Lib.hid (show Own W w.heap.size 40 A.cs by rw [← HWW.out]; exact Own.new w _ _)
  have HEN := Lib.hid (menc_u A B W (hA.below hWc.low hB) (Nat.le_trans hB hWc.size) hf)
  have HS := Lib.hid (h.kept hWc)
  have HC := Lib.hid hWc
  have HLO := Lib.hid hlo
  have hz := (h.kept hWc).own.lt
  clear h hA hB hf hWc hlo
  go_enter Tryz.func33, Tryz.ntmps33
  go_upto_region 1 with fail
  rw [HWW.out]
  go_wp2_with (refine wpList_loadMg rfl (.tmp 3) rfl w.heap.size rfl A HO.out ?_)
  refine HEN.out.mono ?_
  rintro e w1 ⟨ok, g, a, cs, rfl, hE⟩
  have HE := Lib.hid hE
  have hc1 := (Chg.refl [] W).of_below hE.below
  have HS1 := Lib.hid (HS.out.kept hc1)
  have HC1 := Lib.hid (HC.out.trans hc1)
  have e4 := hE.code
  clear hE hc1
  cases ok with
  | false =>
    have e5 : (g != 0) = true := e4
    clear e4
    go_wp2_with fail
    go_ret
    exact ⟨g, rfl, S, ⟨fun hr => (by rw [(HE.out.no rfl).2.1] at hr; cases hr), fun _ => ⟨(HE.out.no rfl).1, rfl⟩⟩, HS1.out, HC1.out.mono (by simp)⟩
  | true =>
    have e5 : (g != 0) = false := e4
    clear e4
    obtain ⟨y1, y2⟩ := HE.out.yes rfl
    have HK := Lib.hid (MOk.of y1 y2)
    have HAD := Lib.hid (add_any HS1.out cs HK.out HLO.out)
    have hcv := conv_ro (c := cs.length) HE.out.ro rfl
    have HY := Lib.hid (And.intro y1 y2)
    clear y1 y2
    obtain ⟨n, hn⟩ : ∃ n, cs.length = n := ⟨_, rfl⟩
    rw [hn] at hcv ⊢
    clear hn
    go_wp2_with fail
    refine HAD.out.mono ?_
    rintro e w2 ⟨rfl, hs, hc⟩
    have HS2 := Lib.hid hs
    have HC2 := Lib.hid ((HC1.out.mono (l' := [p, b]) (by simp)).trans hc)
    clear hs hc
    go_wp2_with fail
    go_ret
    exact ⟨_, rfl, _, ⟨fun _ => ⟨cs, HK.out, HY.out.2, rfl, rfl⟩, fun hr => (by rw [HY.out.1] at hr; cases hr)⟩, HS2.out, HC2.out⟩
set_option maxHeartbeats 4000000 in
theorem Put_nil (A : MgT) (w : World) :
    Calls Tryz.prog 33 #[.pointer none, .agg A.cs.toArray] w fun e w' => e = .returned (.int .i64 1) ∧ Chg [] w w' := by
  obtain ⟨W, HWW⟩ : ∃ W, Hid (w.alloc (.cells A.cs.toArray 40) = W) := ⟨_, Lib.hid rfl⟩
  have HC : Hid (Chg [] w W) := Lib.hid (by rw [← HWW.out]; exact (Chg.refl [] w).alloc _)
  go_enter Tryz.func33, Tryz.ntmps33
  go_upto_region 1 with fail
  rw [HWW.out]
  go_wp2_with fail
  go_ret
  exact ⟨rfl, HC.out⟩
/-- how many times a message is there -/
structure TimR (L : List Ky) (x : Mg) (n : Nat) : Prop where
  yes : mright x = true → ∃ k, MOk k ∧ IsME x k ∧ n = L.count k
  no : mright x = false → n = 0
theorem not_MOk_nil : ¬ MOk [] := fun h => by
  obtain ⟨_, cb, lb, _, _, h4⟩ := h
  have h5 := h4.1
  rw [nat_fw_sum, fMg_sum] at h5
  simp at h5
  omega
set_option maxHeartbeats 4000000 in
theorem Times_any {w : World} {p b d : Nat} {S : SpS} (h : Sp w p b d S) (A : MgT) (B : Nat) (hA : MgIn w B A) (hB : B ≤ w.heap.size) (hf : MgFit A) :
    Calls Tryz.prog 28 #[.pointer (some ⟨p, 0, none⟩), .agg A.cs.toArray] w fun e w' => ∃ n : Nat, e = .returned (.int .i64 (n : Int)) ∧ TimR S.L A.x n ∧ Chg [] w w' := by
  obtain ⟨W, HWW⟩ : ∃ W, Hid (w.alloc (.cells A.cs.toArray 40) = W) := ⟨_, Lib.hid rfl⟩
  have hWc : Chg [] w W := by rw [← HWW.out]; exact (Chg.refl [] w).alloc _
  have HO := Lib.hid (show Own W w.heap.size 40 A.cs by rw [← HWW.out]; exact Own.new w _ _)
  have HEN := Lib.hid (menc_u A B W (hA.below hWc.low hB) (Nat.le_trans hB hWc.size) hf)
  have HS := Lib.hid (h.kept hWc)
  have HC := Lib.hid hWc
  clear h hA hB hf hWc
  go_enter Tryz.func28, Tryz.ntmps28
  go_upto_region 1 with fail
  rw [HWW.out]
  go_wp2_with (refine wpList_loadMg rfl (.tmp 3) rfl w.heap.size rfl A HO.out ?_)
  refine HEN.out.mono ?_
  rintro e w1 ⟨ok, g, a, cs, rfl, hE⟩
  have hc1 := (Chg.refl [] W).of_below hE.below
  have hS1 := (HS.out.kept hc1).kept (Chg.refl [] w1).drew
  have HC1 := Lib.hid (HC.out.trans hc1).drew
  have hkl : cs.length ≤ maxLen := by
    cases ok with
    | true => obtain ⟨y1, y2⟩ := hE.yes rfl; have := (MOk.of y1 y2).len; unfold maxLen; omega
    | false => rw [(hE.no rfl).2.2]; simp
  have hlk := hS1.tm.look (t := 120) (e := 3) Tryz.underlying120 (by kernel_rfl) hkl
  rw [cntV_get] at hlk
  have hro1 : Ro w1.drew w1.heap.size a (u8s cs) := hE.ro
  have hcv := conv_ro (c := cs.length) hro1 rfl
  have c0 := hS1.own.cell 0
  have hz := hS1.own.lt
  simp at c0 hz
  have HR : Hid (TimR S.L A.x (S.L.count cs)) := Lib.hid (by
    cases ok with
    | true => obtain ⟨y1, y2⟩ := hE.yes rfl; exact ⟨fun _ => ⟨cs, MOk.of y1 y2, y2, rfl⟩, fun hr => (by rw [y1] at hr; cases hr)⟩
    | false =>
      obtain ⟨_, y1, y2⟩ := hE.no rfl
      refine ⟨fun hr => (by rw [y1] at hr; cases hr), fun _ => ?_⟩
      rw [y2]
      exact List.count_eq_zero.2 (fun hm => not_MOk_nil (hS1.enc _ hm)))
  generalize S.L.count cs = m at *
  obtain ⟨n, hn⟩ : ∃ n, cs.length = n := ⟨_, rfl⟩
  rw [hn] at hcv ⊢
  clear hE hc1 hS1 hkl hro1 hn
  go_wp2_with fail
  go_region
  all_goals (go_wp2_with fail; go_ret; exact ⟨m, rfl, HR.out, HC1.out⟩)
theorem Times_nil (A : MgT) (w : World) :
    Calls Tryz.prog 28 #[.pointer none, .agg A.cs.toArray] w fun e w' => e = .returned (.int .i64 0) ∧ Chg [] w w' := by
  obtain ⟨W, HWW⟩ : ∃ W, Hid (w.alloc (.cells A.cs.toArray 40) = W) := ⟨_, Lib.hid rfl⟩
  have HC : Hid (Chg [] w W) := Lib.hid (by rw [← HWW.out]; exact (Chg.refl [] w).alloc _)
  go_enter Tryz.func28, Tryz.ntmps28
  go_upto_region 1 with fail
  rw [HWW.out]
  go_wp2_with fail
  go_ret
  exact ⟨rfl, HC.out⟩
theorem keyAt_mem {L : List Ky} {i : Int} {k : Ky} (h : keyAt L i = some k) : k ∈ L := by
  unfold keyAt at h
  by_cases h0 : i < 0
  · rw [if_pos h0] at h; cases h
  · rw [if_neg h0] at h
    exact dd_mem.1 (List.mem_of_getElem? h)
theorem keyR_some {L : List Ky} {i : Int} {k : Ky} (h : keyAt L i = some k) : keyR L i = .tuple #[sv k, .int .i64 0] := by unfold keyR; rw [h]
theorem keyR_none {L : List Ky} {i : Int} (h : keyAt L i = none) : keyR L i = .tuple #[.string ⟨#[]⟩, .int .i64 1] := by unfold keyR; rw [h]
/-- what Twice tells, and leaves -/
def SpS.twice (S : SpS) (i : Int) : SpS := match keyAt S.L i with | some k => S.add k | none => S
def SpS.twiceE (S : SpS) (i : Int) : Int := match keyAt S.L i with | some _ => S.addE | none => 1
def SpS.lose (S : SpS) (i : Int) : SpS := match keyAt S.L i with | some k => { S.rem k with lost := S.lost + 1 } | none => S
def SpS.loseE (S : SpS) (i : Int) : Int := match keyAt S.L i with | some _ => 0 | none => 1
def SpS.take (S : SpS) (i : Int) : SpS := match keyAt S.L i with | some k => S.rem k | none => S
set_option maxHeartbeats 4000000 in
theorem Twice_any {w : World} {p b d : Nat} {S : SpS} (h : Sp w p b d S) (hlo : S.lost ≤ 1000000) (i : Int) :
    Calls Tryz.prog 35 #[.pointer (some ⟨p, 0, none⟩), .int .i64 i] w fun e w' => e = .returned (.int .i64 (S.twiceE i)) ∧ Sp w' p b d (S.twice i) ∧ Chg [p, b] w w' := by
  have HK := Lib.hid (key_any h i)
  have HS := Lib.hid h
  have HLO := Lib.hid hlo
  unfold SpS.twice SpS.twiceE
  cases hk : keyAt S.L i with
  | none =>
    rw [keyR_none hk] at HK
    clear hk h hlo
    go_enter Tryz.func35, Tryz.ntmps35
    go_wp2_with fail
    refine HK.out.mono ?_
    rintro e w1 ⟨rfl, hc⟩
    have HS1 := Lib.hid (HS.out.kept hc)
    have HC1 := Lib.hid (hc.mono (l' := [p, b]) (by simp))
    clear hc
    go_wp2_with fail
    go_ret
    exact ⟨rfl, HS1.out, HC1.out⟩
  | some k =>
    rw [keyR_some hk] at HK
    have HM := Lib.hid (h.enc k (keyAt_mem hk))
    clear hk h hlo
    go_enter Tryz.func35, Tryz.ntmps35
    go_wp2_with fail
    refine HK.out.mono ?_
    rintro e w1 ⟨rfl, hc⟩
    have HS1 := Lib.hid (HS.out.kept hc)
    have HC1 := Lib.hid (hc.mono (l' := [p, b]) (by simp))
    have HAD := Lib.hid (add_any HS1.out k HM.out HLO.out)
    clear hc
    go_wp2_with fail
    refine HAD.out.mono ?_
    rintro e w2 ⟨rfl, hs, hc⟩
    have HS2 := Lib.hid hs
    have HC2 := Lib.hid (HC1.out.trans hc)
    clear hs hc
    go_wp2_with fail
    go_ret
    exact ⟨rfl, HS2.out, HC2.out⟩
theorem Twice_nil (i : Int) (w : World) :
    Calls Tryz.prog 35 #[.pointer none, .int .i64 i] w fun e w' => e = .returned (.int .i64 1) ∧ w = w' := by
  have HK := Lib.hid (key_nil i w)
  go_enter Tryz.func35, Tryz.ntmps35
  go_wp2_with fail
  refine HK.out.mono ?_
  rintro e w1 ⟨rfl, rfl⟩
  go_wp2_with fail
  go_ret
  exact ⟨rfl, rfl⟩
set_option maxHeartbeats 4000000 in
theorem Lose_any {w : World} {p b d : Nat} {S : SpS} (h : Sp w p b d S) (hlo : S.lost ≤ 1000000) (i : Int) :
    Calls Tryz.prog 36 #[.pointer (some ⟨p, 0, none⟩), .int .i64 i] w fun e w' => e = .returned (.int .i64 (S.loseE i)) ∧ Sp w' p b d (S.lose i) ∧ Chg [p, b] w w' := by
  have HK := Lib.hid (key_any h i)
  have HS := Lib.hid h
  unfold SpS.lose SpS.loseE
  cases hk : keyAt S.L i with
  | none =>
    rw [keyR_none hk] at HK
    clear hk h hlo
    go_enter Tryz.func36, Tryz.ntmps36
    go_wp2_with fail
    refine HK.out.mono ?_
    rintro e w1 ⟨rfl, hc⟩
    have HS1 := Lib.hid (HS.out.kept hc)
    have HC1 := Lib.hid (hc.mono (l' := [p, b]) (by simp))
    clear hc
    go_wp2_with fail
    go_ret
    exact ⟨rfl, HS1.out, HC1.out⟩
  | some k =>
    rw [keyR_some hk] at HK
    have HM := Lib.hid (keyAt_mem hk)
    obtain ⟨lo, hl2⟩ : ∃ lo, S.lost = lo := ⟨_, rfl⟩
    have HL := Lib.hid hl2
    obtain ⟨l1, hl1⟩ : ∃ l1 : Int, ((lo + 1 : Nat) : Int) = l1 := ⟨_, rfl⟩
    have HL1 := Lib.hid hl1
    have hlw : IntKind.i64.wrap ((lo : Int) + 1) = l1 := by rw [IntWalk.i64_in _ (by omega)]; omega
    clear hk h hlo hl2 hl1
    go_enter Tryz.func36, Tryz.ntmps36
    go_wp2_with fail
    refine HK.out.mono ?_
    rintro e w1 ⟨rfl, hc⟩
    have HS1 := Lib.hid (HS.out.kept hc)
    have HC1 := Lib.hid (hc.mono (l' := [p, b]) (by simp))
    have HAD := Lib.hid (remove_any HS1.out k HM.out)
    clear hc
    go_wp2_with fail
    refine HAD.out.mono ?_
    rintro e w2 ⟨rfl, hs, hc⟩
    have HS2 := Lib.hid hs
    have HC2 := Lib.hid (HC1.out.trans hc)
    have c2 := hs.own.cell 2
    have f2 := hs.own.frozen 2
    have hz := hs.own.lt
    simp [SpS.rem, HL.out] at c2
    clear hs hc
    go_wp2_with fail
    go_ret
    have hc2 : Chg [p] w2 (w2.setCell ⟨p, 2, none⟩ (.int .i64 l1)) := (Chg.refl _ w2).setCell (by simp) _
    refine ⟨rfl, ⟨?_, HS2.out.tm.chg hc2 (by have := HS2.out.ne; simp; omega), HS2.out.dn.chg hc2 (by have := HS2.out.ne; simp; omega), HS2.out.srt, HS2.out.len, HS2.out.enc, HS2.out.ne⟩, HC2.out.trans (hc2.mono (by simp))⟩
    have := HS2.out.own.set 2 (.int .i64 l1)
    rw [← HL1.out] at this ⊢
    rw [← HL.out] at this ⊢
    exact this
theorem Lose_nil (i : Int) (w : World) :
    Calls Tryz.prog 36 #[.pointer none, .int .i64 i] w fun e w' => e = .returned (.int .i64 1) ∧ w = w' := by
  have HK := Lib.hid (key_nil i w)
  go_enter Tryz.func36, Tryz.ntmps36
  go_wp2_with fail
  refine HK.out.mono ?_
  rintro e w1 ⟨rfl, rfl⟩
  go_wp2_with fail
  go_ret
  exact ⟨rfl, rfl⟩
end Go.Proofs.YteenlkmnadjnpaaGreat
namespace Go.Proofs.YteenlkmnadjnpaaGreat
open Go.RowKit Go.Deep Go.Shelf
set_option linter.unusedVariables false
set_option linter.unusedSimpArgs false

/-- the cells of a head -/
abbrev hcs (k f fr1 fr2 to1 to2 id : Int) (ep ad : Nat) (er ba1 ba2 pr1 pr2 : Int) : List Value :=
  [.int .i64 k, .int .i64 f, .int .i64 fr1, .int .i64 fr2, .int .i64 to1, .int .i64 to2, .int .i64 id, .int .u64 (ep : Int), .int .u64 (ad : Int), .int .i64 er, .int .i64 ba1, .int .i64 ba2, .int .i64 pr1, .int .i64 pr2]
def MgT.hd (A : MgT) : List Value := hcs A.k A.f A.fr.1 A.fr.2 A.to.1 A.to.2 A.id A.ep A.ad A.er A.ba.1 A.ba.2 A.pr.1 A.pr.2
theorem MgT.hd_one (A : MgT) : ∀ v ∈ A.hd, v.oneCell' = true := by
  intro v hv
  simp only [MgT.hd, List.mem_cons, List.not_mem_nil, or_false] at hv
  rcases hv with rfl | rfl | rfl | rfl | rfl | rfl | rfl | rfl | rfl | rfl | rfl | rfl | rfl | rfl <;> rfl
theorem eqIn_place9 (a b : Int) (w : World) : (Op.equalIn 9999 25 (.agg #[.int .i64 a, .int .i64 b]) (.agg #[.int .i64 a, .int .i64 b])).run Tryz.prog w = .ok true w := by
  have g0 : ∀ (x y : Value), (part 23 #[x, y] 0).run Tryz.prog w = .ok x w := fun x y => run_part_cell Tryz.underlying23 rfl w
  have g1 : ∀ (x y : Value), (part 3 #[x, y] 1).run Tryz.prog w = .ok y w := fun x y => run_part_cell Tryz.underlying3 rfl w
  have gg : ∀ (x y : Value), (part 23 #[x, y] 1).run Tryz.prog w = .ok y w := fun x y => run_part_cell Tryz.underlying23 rfl w
  have ge : ∀ (x y : Int), (Op.equalIn 9998 3 (.int .i64 x) (.int .i64 y)).run Tryz.prog w = .ok (x == y) w := fun x y => run_equalIn_int w 9997 3 .i64 .i64 _ _ Tryz.underlying3
  have gr : ∀ (x y : Int), (Op.equalIn 9998 23 (.int .i64 x) (.int .i64 y)).run Tryz.prog w = .ok (x == y) w := fun x y => run_equalIn_int w 9997 23 .i64 .i64 _ _ Tryz.underlying23
  refine (run_equalIn_struct w 9998 25 _ _ (by kernel_rfl) (by kernel_rfl)).trans ?_
  simp [Program.fieldsOf, Tryz.underlying25, Op.eqFields, g0, g1, gg, ge, gr]
theorem eqIn_ballot9 (a b : Int) (w : World) : (Op.equalIn 9999 35 (.agg #[.int .i64 a, .int .i64 b]) (.agg #[.int .i64 a, .int .i64 b])).run Tryz.prog w = .ok true w := by
  have g0 : ∀ (x y : Value), (part 3 #[x, y] 0).run Tryz.prog w = .ok x w := fun x y => run_part_cell Tryz.underlying3 rfl w
  have g1 : ∀ (x y : Value), (part 3 #[x, y] 1).run Tryz.prog w = .ok y w := fun x y => run_part_cell Tryz.underlying3 rfl w
  have gg : ∀ (x y : Value), (part 3 #[x, y] 1).run Tryz.prog w = .ok y w := fun x y => run_part_cell Tryz.underlying3 rfl w
  have ge : ∀ (x y : Int), (Op.equalIn 9998 3 (.int .i64 x) (.int .i64 y)).run Tryz.prog w = .ok (x == y) w := fun x y => run_equalIn_int w 9997 3 .i64 .i64 _ _ Tryz.underlying3
  have gr : ∀ (x y : Int), (Op.equalIn 9998 3 (.int .i64 x) (.int .i64 y)).run Tryz.prog w = .ok (x == y) w := fun x y => run_equalIn_int w 9997 3 .i64 .i64 _ _ Tryz.underlying3
  refine (run_equalIn_struct w 9998 35 _ _ (by kernel_rfl) (by kernel_rfl)).trans ?_
  simp [Program.fieldsOf, Tryz.underlying35, Op.eqFields, g0, g1, gg, ge, gr]
theorem part_two {t : TypeId} {xs : Array Value} {off : Nat} (ha : ∀ w, (isAgg t).run Tryz.prog w = .ok true w) (hz : ∀ w, (Go.sizeOf t).run Tryz.prog w = .ok 2 w) (w : World) : (part t xs off).run Tryz.prog w = .ok (.agg (xs.extract off (off + 2))) w := by
  unfold part
  rw [Sem.run_bind, ha]
  simp [hz, Sem.run_bind, Result.andThen_ok]
end Go.Proofs.YteenlkmnadjnpaaGreat
