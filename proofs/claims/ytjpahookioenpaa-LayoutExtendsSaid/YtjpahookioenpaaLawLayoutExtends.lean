/-
  The law LayoutExtends, walked. No claim of its own.
-/
import Derived.Test.YtjpahookioenpaaOp9
import Derived.Test.YtjpahookioenpaaAlv9
import Derived.Deep.RegionHeld3
namespace Go.Proofs.Ytjpahookioenpaa
open Go.RowKit Go.Deep Go.Shelf
set_option linter.unusedVariables false
set_option linter.unusedSimpArgs false

theorem seg_mem {x : Ly} (h : right x = true) {s : Sg} {a : Nat} (hs : s ∈ x.s) (h1 : s.1 ≤ a) (h2 : ∀ t ∈ x.s, t.1 ≤ a → t.1 ≤ s.1) : sx x.s (segN x a) = s := by
  obtain ⟨i, hi, rfl⟩ := mem_sx hs
  obtain ⟨g1, g2, g3⟩ := segN_is h a
  have hm := h2 _ (sx_mem g1) g2
  rcases Nat.lt_trichotomy (segN x a) i with hc | hc | hc
  · have := g3 i hc hi; omega
  · rw [hc]
  · have := sg_mono (right_iff.1 h).2.2 hc g1; omega
theorem seg_top {x : Ly} (h : right x = true) {t : Sg} {a : Nat} (ht : t ∈ x.s) (h1 : t.1 ≤ a) : t.1 ≤ (sx x.s (segN x a)).1 := by
  obtain ⟨i, hi, rfl⟩ := mem_sx ht
  obtain ⟨g1, g2, g3⟩ := segN_is h a
  rcases Nat.lt_trichotomy (segN x a) i with hc | hc | hc
  · have := g3 i hc hi; omega
  · rw [hc]; exact Nat.le_refl _
  · have := sg_mono (right_iff.1 h).2.2 hc g1; omega
theorem ext_low {x : Ly} (h : right x = true) {f a : Nat} {ch : List (List Int)} (hn : right (extRaw x f ch) = true) (ha : a < 1048576) (hf : a < f) : chainOf (extRaw x f ch) a = chainOf x a := by
  have e : sx (extRaw x f ch).s (segN (extRaw x f ch) a) = sx x.s (segN x a) := by
    obtain ⟨g1, g2, g3⟩ := segN_is h a
    refine seg_mem hn ?_ g2 (fun t ht hta => ?_)
    · unfold extRaw
      rw [List.mem_append]
      left
      rw [List.mem_filter]
      exact ⟨sx_mem g1, by simp; omega⟩
    · unfold extRaw at ht
      rw [List.mem_append] at ht
      rcases ht with ht | ht
      · exact seg_top h (List.mem_filter.1 ht).1 hta
      · simp only [List.mem_singleton] at ht
        subst ht
        simp only at hta
        omega
  unfold chainOf
  rw [if_pos ⟨hn, ha⟩, if_pos ⟨h, ha⟩, e]
theorem ext_high {x : Ly} {f a : Nat} {ch : List (List Int)} (hn : right (extRaw x f ch) = true) (ha : a < 1048576) (hf : f ≤ a) : segI (extRaw x f ch) a = ((extRaw x f ch).s.length : Int) - 1 ∧ chainOf (extRaw x f ch) a = cx ch ((a - f) % ch.length) ∧ chOk ch = true := by
  have hlen : (extRaw x f ch).s.length = (x.s.filter fun s => decide (s.1 < f)).length + 1 := by simp [extRaw]
  have hlast : sx (extRaw x f ch).s (x.s.filter fun s => decide (s.1 < f)).length = (f, ch) := by
    simp [extRaw, sx, List.getD]
  have e : segN (extRaw x f ch) a = (x.s.filter fun s => decide (s.1 < f)).length := segN_eq hn (by omega) (by rw [hlast]; exact hf) (by omega)
  have hck := right_ch hn (i := (x.s.filter fun s => decide (s.1 < f)).length) (by omega)
  rw [hlast] at hck
  refine ⟨?_, ?_, hck⟩
  · unfold segI
    rw [if_pos ⟨hn, ha⟩, e, hlen]
    omega
  · unfold chainOf
    rw [if_pos ⟨hn, ha⟩, e, hlast]
theorem extOf_code (x : Ly) (f : Nat) (ch : List (List Int)) (h : (extOf x f ch).1 ≠ 0) : (extOf x f ch).1 = 91 := by
  unfold extOf at h ⊢
  by_cases h1 : right x = true
  · rw [if_pos h1] at h ⊢
    by_cases h2 : right (extRaw x f ch) = true
    · rw [if_pos h2] at h; exact absurd rfl h
    · rw [if_neg h2]
  · rw [if_neg h1]
theorem chainOf_len (x : Ly) (a : Nat) : (chainOf x a).length ≤ 4 := by
  unfold chainOf
  by_cases h : right x = true ∧ a < 1048576
  · rw [if_pos h]
    have hk := right_ch h.1 (segN_is h.1 a).1
    exact (ch_small hk (Nat.mod_lt _ (by have := (chOk_iff.1 hk).1; omega))).2
  · rw [if_neg h]; simp
theorem extOf_yes {x : Ly} {f : Nat} {ch : List (List Int)} (h : (extOf x f ch).1 = 0) : right x = true ∧ right (extRaw x f ch) = true ∧ (extOf x f ch).2 = extRaw x f ch := by
  unfold extOf at h ⊢
  split at h
  · rename_i h1
    split at h
    · rename_i h2
      rw [if_pos h1, if_pos h2]
      exact ⟨h1, h2, rfl⟩
    · simp at h
  · simp at h
theorem R4.cases {w w' : World} {r : Int × Ly} {e : Ending} (h : R4 w r e w') : Hid (Below w.heap.size w w') ∧ ((r.1 = 0 ∧ ∃ T : LyT, e = .returned (.tuple #[T.val, .int .i64 0]) ∧ Hid (T.x = r.2) ∧ Hid (right r.2 = true) ∧ Hid (LyIn w' w'.heap.size T)) ∨ (r.1 ≠ 0 ∧ e = .returned (.tuple #[zeroL, .int .i64 r.1]))) := by
  obtain ⟨h1, ⟨h0, h2, T, h3, h4, h5⟩ | h2⟩ := h
  · exact ⟨Lib.hid h1, .inl ⟨h0, T, h3, Lib.hid h4, Lib.hid h2, Lib.hid h5⟩⟩
  · exact ⟨Lib.hid h1, .inr h2⟩
theorem cell_at {w w' : World} {B b o : Nat} {v : Value} (hb : Below B w w') (h : w.cell? ⟨b, o, none⟩ = some v) (hB : B = w.heap.size) : w'.cell? ⟨b, o, none⟩ = some v := cell_keep hb h (by rw [hB]; exact World.block_lt_of_cell? _ _ h)

theorem last_facts (tn : Nat) (h : 1 ≤ tn ∧ tn ≤ 4) : ∃ s1 : Nat, (tn : Int) - 1 = (s1 : Int) ∧ wrap64 (s1 : Int) = (s1 : Int) ∧ IntKind.i64.wrap (s1 : Int) = (s1 : Int) := by
  refine ⟨tn - 1, by omega, ?_, ?_⟩
  · have : tn - 1 ≤ 3 := by omega
    generalize tn - 1 = s at *
    unfold wrap64; omega
  · have : tn - 1 ≤ 3 := by omega
    generalize tn - 1 = s at *
    rw [IntKind.wrap_i64]; omega
set_option maxHeartbeats 8000000 in
set_option maxRecDepth 100000 in
theorem layoutExtends_any (w : World) {A : LyT} (hA : LyOk w A) {F : FoT} (hF : FoOk w F) {a : Int} (ha : (Lit.int .u64 a).wf = true) :
    Calls Try.prog 8 #[A.val, F.val, .int .u64 a] w fun e w' => e = .returned (.bool true) ∧ Below w.heap.size w w' := by
  have hab := bounds_u64 ha
  obtain ⟨a, rfl⟩ := Int.eq_ofNat_of_zero_le hab.1
  clear ha
  obtain ⟨W, HWW⟩ : ∃ W, Hid ((w.alloc (.cells #[.int .u64 (A.e : Int), .slice A.a A.sg.length A.c, .int .i64 A.q] 25)).alloc (.cells #[.slice F.a1 F.dr.length F.c1, .slice F.a2 F.fr.length F.c2, .int .i64 F.q, .int .u64 (F.f : Int), .slice F.a3 F.ch.length F.c3] 43) = W) := ⟨_, Lib.hid rfl⟩
  have hWb : Below w.heap.size w W := by rw [← HWW.out]; exact ((Below.refl _ _).alloc (Nat.le_refl _) _).alloc (by simp) _
  have o1 : Own W w.heap.size 25 [.int .u64 (A.e : Int), .slice A.a A.sg.length A.c, .int .i64 A.q] := by rw [← HWW.out]; exact (Own.new w _ _).alloc _
  have o2 : Own W (w.heap.size + 1) 43 [.slice F.a1 F.dr.length F.c1, .slice F.a2 F.fr.length F.c2, .int .i64 F.q, .int .u64 (F.f : Int), .slice F.a3 F.ch.length F.c3] := by
    rw [← HWW.out]
    have := Own.new (w.alloc (.cells #[.int .u64 (A.e : Int), .slice A.a A.sg.length A.c, .int .i64 A.q] 25)) 43 [.slice F.a1 F.dr.length F.c1, .slice F.a2 F.fr.length F.c2, .int .i64 F.q, .int .u64 (F.f : Int), .slice F.a3 F.ch.length F.c3]
    simpa using this
  have HWB := Lib.hid hWb
  have HAO := Lib.hid hA
  have HFO := Lib.hid hF
  have HO1 := Lib.hid o1
  have HO2 := Lib.hid o2
  have HAL := Lib.hid alive_any
  have HKL := Lib.hid (fun (W' : World) (hb : Below W.heap.size W W') => (hA.inn.below (hWb.trans (hb.mono hWb.size)) (Nat.le_refl _)))
  have HF1 := Lib.hid (fun (W' : World) (hb : Below W.heap.size W W') => fitsL_any A w.heap.size W' (hA.inn.below (hWb.trans (hb.mono hWb.size)) (Nat.le_refl _)) (Nat.le_trans hWb.size hb.size) hA.fit)
  have HF2 := Lib.hid (fun (W' : World) (hb : Below W.heap.size W W') => fitsF_any F.a1 F.dr.length F.c1 F.a2 F.fr.length F.c2 F.q F.f F.a3 F.ch F.c3 w.heap.size W' (hF.ch.below (hWb.trans (hb.mono hWb.size)) (Nat.le_refl _)) (Nat.le_trans hWb.size hb.size) hF.chf.1)
  have HEX := Lib.hid (fun (W' : World) (hb : Below W.heap.size W W') => extend_any A w.heap.size F.f F.ch F.a3 F.c3 W' (hA.inn.below (hWb.trans (hb.mono hWb.size)) (Nat.le_refl _)) (Nat.le_trans hWb.size hb.size) hA.fit (hF.ch.below (hWb.trans (hb.mono hWb.size)) (Nat.le_refl _)) (hF.chi.below (hWb.trans (hb.mono hWb.size)) (Nat.le_refl _)) hF.chf hF.f)
  have HCL := Lib.hid (fun (W' : World) (hb : Below W.heap.size W W') => chain_any A w.heap.size a W' (hA.inn.below (hWb.trans (hb.mono hWb.size)) (Nat.le_refl _)) (Nat.le_trans hWb.size hb.size) hA.fit)
  clear hWb o1 o2 hA hF
  obtain ⟨r, HRR⟩ : ∃ r, Hid (extOf A.x F.f (chx F.ch) = r) := ⟨_, Lib.hid rfl⟩
  have HR91 : Hid (r.1 ≠ 0 → r.1 = 91) := Lib.hid (by rw [← HRR.out]; exact extOf_code _ _ _)
  have HRYES : Hid (r.1 = 0 → right A.x = true ∧ right (extRaw A.x F.f (chx F.ch)) = true ∧ r.2 = extRaw A.x F.f (chx F.ch)) := Lib.hid (by rw [← HRR.out]; exact extOf_yes)
  rw [HRR.out] at HEX
  have HEP : Hid (right A.x = true → A.e ≤ 1048576) := Lib.hid (fun h => (right_iff.1 h).1.2)
  obtain ⟨X, HX⟩ : ∃ X, Hid (A.x = X) := ⟨_, Lib.hid rfl⟩
  have HXE : Hid (X.e = A.e ∧ X.q = A.q) := Lib.hid (by rw [← HX.out]; exact ⟨rfl, rfl⟩)
  rw [HX.out] at HRYES HCL HEP
  obtain ⟨ep, sa, c, L, q⟩ := A
  obtain ⟨a1, c1, dr, a2, c2, fr, fq, ff, a3, c3, M⟩ := F
  simp only [LyT.val, FoT.val] at *
  generalize L.length = n at *
  generalize dr.length = dn at *
  generalize fr.length = fn at *
  obtain ⟨mn, hmn⟩ : ∃ mn, M.length = mn := ⟨_, rfl⟩
  have HMN := Lib.hid hmn
  rw [hmn] at HWW HO2 HF2 HEX ⊢
  clear hmn
  go_enter Try.func8, Try.ntmps8
  go_upto_region 1 with fail
  rw [HWW.out]
  have hz0 := HO1.out.lt
  have hz1 := HO2.out.lt
  have k0 := HO1.out.cell 0
  have k1 := HO1.out.cell 1
  have k2 := HO1.out.cell 2
  have m0 := HO2.out.cell 0
  have m1 := HO2.out.cell 1
  have m2 := HO2.out.cell 2
  have m3 := HO2.out.cell 3
  have m4 := HO2.out.cell 4
  simp at k0 k1 k2 m0 m1 m2 m3 m4
  have HK := Lib.hid (And.intro k0 (And.intro k1 (And.intro k2 (And.intro m0 (And.intro m1 (And.intro m2 (And.intro m3 m4)))))))
  go_wp2_with fail
  refine (HF1.out W (Below.refl _ _)).mono ?_
  rintro e w1 ⟨⟨t1, rfl⟩, hb1⟩
  have HB1 := Lib.hid hb1
  clear hb1 k0 k1 k2 m0 m1 m2 m3 m4
  have m0 := cell_at HB1.out HK.out.2.2.2.1 rfl
  have m1 := cell_at HB1.out HK.out.2.2.2.2.1 rfl
  have m2 := cell_at HB1.out HK.out.2.2.2.2.2.1 rfl
  have m3 := cell_at HB1.out HK.out.2.2.2.2.2.2.1 rfl
  have m4 := cell_at HB1.out HK.out.2.2.2.2.2.2.2 rfl
  have hz2 : w.heap.size + 1 < w1.heap.size := World.block_lt_of_cell? _ _ m0
  go_wp2_with fail
  refine (HF2.out w1 HB1.out).mono ?_
  rintro e w2 ⟨⟨t2, rfl, -⟩, hb2⟩
  have HB2 := Lib.hid (HB1.out.trans (hb2.mono HB1.out.size))
  clear hb2 m0 m1 m2 m3 m4 hz2
  have HEND : Hid (∀ W', Below W.heap.size W W' → Below w.heap.size w W') := Lib.hid (fun W' h => HWB.out.trans (h.mono HWB.out.size))
  cases t1 with
  | false =>
    go_wp2_with fail
    refine (HAL.out _).mono ?_
    rintro e w3 ⟨rfl, hb3⟩
    have HB3 := Lib.hid (HB2.out.trans (hb3.mono HB2.out.size))
    clear hb3
    go_wp2_with fail
    go_ret
    exact ⟨rfl, HEND.out _ HB3.out⟩
  | true =>
  cases t2 with
  | false =>
    go_wp2_with fail
    refine (HAL.out _).mono ?_
    rintro e w3 ⟨rfl, hb3⟩
    have HB3 := Lib.hid (HB2.out.trans (hb3.mono HB2.out.size))
    clear hb3
    go_wp2_with fail
    go_ret
    exact ⟨rfl, HEND.out _ HB3.out⟩
  | true =>
  by_cases hlt : a < 1048576
  rotate_left
  · have hlt' : decide ((1048576 : Int) ≤ (a : Int)) = true := by simp; omega
    clear hlt hab
    go_wp2_with fail
    refine (HAL.out _).mono ?_
    rintro e w3 ⟨rfl, hb3⟩
    have HB3 := Lib.hid (HB2.out.trans (hb3.mono HB2.out.size))
    clear hb3
    go_wp2_with fail
    go_ret
    exact ⟨rfl, HEND.out _ HB3.out⟩
  have hlt' : decide ((1048576 : Int) ≤ (a : Int)) = false := by simp; omega
  have HLT := Lib.hid hlt
  clear hlt hab
  have k0 := cell_at HB2.out HK.out.1 rfl
  have k1 := cell_at HB2.out HK.out.2.1 rfl
  have k2 := cell_at HB2.out HK.out.2.2.1 rfl
  have m3 := cell_at HB2.out HK.out.2.2.2.2.2.2.1 rfl
  have m4 := cell_at HB2.out HK.out.2.2.2.2.2.2.2 rfl
  have hz2 : w.heap.size + 1 < w2.heap.size := World.block_lt_of_cell? _ _ m3
  have hz3 : w.heap.size < w2.heap.size := World.block_lt_of_cell? _ _ k0
  go_wp2_with fail
  refine (HEX.out w2 HB2.out).mono ?_
  intro e w3 hR4
  obtain ⟨HBB3, hcs⟩ := hR4.cases
  clear hR4 k0 k1 k2 m3 m4 hz2 hz3
  have HB3 := Lib.hid (HB2.out.trans (HBB3.out.mono HB2.out.size))
  rcases hcs with ⟨h0, T, rfl, HTX, HRT, HTIN⟩ | ⟨h0, rfl⟩
  rotate_left
  · rw [HR91.out h0]
    clear h0
    have hz3 : w3.heap.size = w3.heap.size := rfl
    go_wp2_with fail
    refine (HAL.out _).mono ?_
    rintro e w4 ⟨rfl, hb4⟩
    have o9 := (Own.new w3 25 [.int .u64 0, .slice none 0 0, .int .i64 0]).below hb4 (by simp)
    have p1 := o9.cell 1
    have hz4 := o9.lt
    simp at p1
    have HB4 := Lib.hid ((HB3.out.alloc HB3.out.size (.cells #[.int .u64 0, .slice none 0 0, .int .i64 0] 25)).trans (hb4.mono (by have := HB3.out.size; simp; omega)))
    clear hb4 o9
    go_wp2_with fail
    go_ret
    exact ⟨rfl, HEND.out _ HB4.out⟩
  obtain ⟨hrx, hrn, hr2⟩ := HRYES.out h0
  rw [hr2] at HTX HRT
  have HXR := Lib.hid hrx
  have HNR := Lib.hid hrn
  have hxe := HXE.out
  have hTe : T.e = ep + 1 := by have h2 : T.e = X.e + 1 := congrArg Ly.e HTX.out; rw [h2, hxe.1]
  have hTq : T.q = q := by have h2 : T.q = X.q := congrArg Ly.q HTX.out; rw [h2, hxe.2]
  have hTn : T.sg.length = (extRaw X ff (chx M)).s.length := by rw [← HTX.out]; simp [LyT.x]
  have hep := HEP.out hrx
  clear h0 hrx hrn hr2 hxe
  have HTF := Lib.hid (right_fit (A := T) (by rw [HTX.out]; exact HRT.out))
  have HRI := Lib.hid (fun (W' : World) (hb : Below w3.heap.size w3 W') => right_any T w3.heap.size W' (HTIN.out.below hb (Nat.le_refl _)) hb.size HTF.out)
  rw [HTX.out, HRT.out] at HRI
  have HCN := Lib.hid (fun (W' : World) (hb : Below w3.heap.size w3 W') => chain_any T w3.heap.size a W' (HTIN.out.below hb (Nat.le_refl _)) hb.size HTF.out)
  have HSN := Lib.hid (fun (W' : World) (hb : Below w3.heap.size w3 W') => segment_any T w3.heap.size a W' (HTIN.out.below hb (Nat.le_refl _)) hb.size HTF.out)
  rw [HTX.out] at HCN HSN
  have HTN := Lib.hid hTn
  clear hTn
  obtain ⟨te, ta, tc, tg, tq⟩ := T
  simp only at hTe hTq HTN
  simp only [LyT.val] at HRI HCN HSN ⊢
  subst hTq
  generalize tg.length = tn at *
  have e5 : (ep : Int) + 1 = (te : Int) := by omega
  have e6 : IntKind.u64.wrap (te : Int) = (te : Int) := wrap_u64_nat _ (by omega)
  clear hTe hep
  obtain ⟨W4, hW4⟩ : ∃ W4, w3.alloc (.cells #[.int .u64 (te : Int), .slice ta tn tc, .int .i64 tq] 25) = W4 := ⟨_, rfl⟩
  have hb4 : Below w3.heap.size w3 W4 := by rw [← hW4]; exact (Below.refl _ _).alloc (Nat.le_refl _) _
  have HO4 : Hid (Own W4 w3.heap.size 25 [.int .u64 (te : Int), .slice ta tn tc, .int .i64 tq]) := Lib.hid (by rw [← hW4]; exact Own.new w3 _ _)
  have HB4 := Lib.hid hb4
  have HBW4 := Lib.hid (HB3.out.trans (hb4.mono HB3.out.size))
  have HW4 := Lib.hid hW4
  clear hb4 hW4
  go_upto_region 8 with fail
  rw [HW4.out]
  have n0 := HO4.out.cell 0
  have n1 := HO4.out.cell 1
  have n2 := HO4.out.cell 2
  have hz4 := HO4.out.lt
  simp at n0 n1 n2
  go_wp2_with fail
  refine (HRI.out W4 HB4.out).mono ?_
  rintro e w5 ⟨rfl, hb5⟩
  have HB5 := Lib.hid (HB4.out.trans (hb5.mono HB4.out.size))
  have HBW5 := Lib.hid (HBW4.out.trans (hb5.mono HBW4.out.size))
  have HO5 := Lib.hid (HO4.out.below hb5 hz4)
  clear hb5 n0 n1 n2 hz4
  have n0 := HO5.out.cell 0
  have n1 := HO5.out.cell 1
  have n2 := HO5.out.cell 2
  have hz5 := HO5.out.lt
  simp at n0 n1 n2
  have k0 := cell_at HBW5.out HK.out.1 rfl
  have k1 := cell_at HBW5.out HK.out.2.1 rfl
  have k2 := cell_at HBW5.out HK.out.2.2.1 rfl
  have hz6 : w.heap.size < w5.heap.size := World.block_lt_of_cell? _ _ k0
  go_wp2_with fail
  refine (HCN.out w5 HB5.out).mono ?_
  rintro e w6 ⟨v6, rfl, hl6, hb6⟩
  have HB6 := Lib.hid (HB5.out.trans (hb6.mono HB5.out.size))
  have HBW6 := Lib.hid (HBW5.out.trans (hb6.mono HBW5.out.size))
  have HO6 := Lib.hid (HO5.out.below hb6 hz5)
  obtain ⟨a6, c6, rfl, hr6, _, _⟩ := hl6.form
  have HR6 := Lib.hid hr6
  obtain ⟨cn, hcn⟩ : ∃ cn, chainOf (extRaw X ff (chx M)) a = cn := ⟨_, rfl⟩
  rw [hcn] at HR6 ⊢
  have HCNE := Lib.hid hcn
  have HCL4 : Hid (cn.length ≤ 1000000) := Lib.hid (by rw [← hcn]; have := chainOf_len (extRaw X ff (chx M)) a; omega)
  rw [i64s_length]
  clear hl6 hb6 hr6 n0 n1 n2 hz5 k0 k1 k2 hz6 hcn
  have m3 := cell_at HBW6.out HK.out.2.2.2.2.2.2.1 rfl
  have hz6 : w.heap.size + 1 < w6.heap.size := World.block_lt_of_cell? _ _ m3
  by_cases hff : a < ff
  · have hff' : (a : Int) < (ff : Int) := by omega
    have HFF := Lib.hid hff
    clear hff
    go_wp2_with fail
    refine (HAL.out _).mono ?_
    rintro e w7 ⟨rfl, hb7⟩
    have HBW7 := Lib.hid (HBW6.out.trans (hb7.mono HBW6.out.size))
    have HR7 := Lib.hid (HR6.out.below hb7 (Nat.le_refl _))
    have HS7 : Hid (w6.heap.size ≤ w7.heap.size) := Lib.hid hb7.size
    clear hb7 m3 hz6
    have k0 := cell_at HBW7.out HK.out.1 rfl
    have k1 := cell_at HBW7.out HK.out.2.1 rfl
    have k2 := cell_at HBW7.out HK.out.2.2.1 rfl
    have hz7 : w.heap.size < w7.heap.size := World.block_lt_of_cell? _ _ k0
    go_wp2_with fail
    refine (HCL.out w7 HBW7.out).mono ?_
    rintro e w8 ⟨v8, rfl, hl8, hb8⟩
    obtain ⟨a8, c8, rfl, hr8, _, _⟩ := hl8.form
    have HSC := Lib.hid (sameChain_any cn (chainOf X a) a6 a8 c6 c8 w8.heap.size w8 ((HR7.out.below hb8 HS7.out).mono (Nat.le_trans HS7.out hb8.size)) hr8 (Nat.le_refl _) HCL4.out (by have := chainOf_len X a; omega))
    have heq : decide (cn = chainOf X a) = true := by
      simp only [decide_eq_true_eq]
      rw [← HCNE.out]
      exact ext_low HXR.out HNR.out HLT.out HFF.out
    rw [heq] at HSC
    have HBW8 := Lib.hid (HBW7.out.trans (hb8.mono HBW7.out.size))
    rw [i64s_length]
    clear heq hl8 hr8 hb8 k0 k1 k2 hz7
    generalize cn.length = cl at *
    generalize (chainOf X a).length = cl2 at *
    go_wp2_with fail
    refine HSC.out.mono ?_
    rintro e w9 ⟨rfl, hb9⟩
    have HBW9 := Lib.hid (HBW8.out.trans (hb9.mono HBW8.out.size))
    clear hb9
    go_wp2_with fail
    go_ret
    exact ⟨rfl, HEND.out _ HBW9.out⟩
  · have hff' : ¬ (a : Int) < (ff : Int) := by omega
    obtain ⟨hh1, hh2, hh3⟩ := ext_high HNR.out HLT.out (Nat.le_of_not_lt hff)
    have hmk := (chOk_iff.1 hh3).1
    rw [chx_length] at hh2 hmk
    obtain ⟨d, hd⟩ : ∃ d, a - ff = d := ⟨_, rfl⟩
    obtain ⟨j, hj⟩ : ∃ j, d % M.length = j := ⟨_, rfl⟩
    rw [hd, hj, cx_chx] at hh2
    have hjl : j < M.length := by rw [← hj]; exact Nat.mod_lt _ (by omega)
    have hmn := HMN.out
    rw [hmn] at hj hmk hjl
    have g1 : (a : Int) - (ff : Int) = (d : Int) := by omega
    have g2 : Int.tmod (d : Int) (mn : Int) = (j : Int) := by rw [Int.tmod_eq_emod_of_nonneg (by omega)]; omega
    have g3 : IntKind.u64.wrap (d : Int) = (d : Int) := wrap_u64_nat _ (by have := HLT.out; omega)
    have g4 : IntKind.u64.wrap (mn : Int) = (mn : Int) := wrap_u64_nat _ (by omega)
    have g5 : ¬ (mn = 0) := by omega
    have HMK := Lib.hid hmk
    have HJL := Lib.hid hjl
    have hjl' : (j : Int) < (mn : Int) := by omega
    have htn := HTN.out
    rw [← htn] at hh1
    have HH1 := Lib.hid hh1
    have HH2 : Hid (cn = (ct M j).u) := Lib.hid (HCNE.out.symm.trans hh2)
    have m4 := cell_at HBW6.out HK.out.2.2.2.2.2.2.2 rfl
    have hjM : j < M.length := by rw [hmn]; exact hjl
    have hch := HFO.out.ch
    simp only at hch
    obtain ⟨b3, off3, ea3, hb3, hcs⟩ := hch.ch (show 0 < M.length by omega)
    have s3 := hcs j hjM
    have hru := HFO.out.chi _ (ct_mem hjM)
    have htn4 : 1 ≤ tn ∧ tn ≤ 4 := by rw [htn]; exact (sgOk_iff.1 (right_iff.1 HNR.out).2.2).1
    obtain ⟨s1, g6, g7, g8⟩ := last_facts tn htn4
    rw [g6] at hh1
    have HSN2 := Lib.hid (fun (W' : World) (hb : Below w6.heap.size w6 W') => HSN.out W' (HB6.out.trans (hb.mono HB6.out.size)))
    rw [hh1] at HSN2
    have s6 := cell_keep (HEND.out _ HBW6.out) s3 hb3
    have n0 := HO6.out.cell 0
    have n1 := HO6.out.cell 1
    have n2 := HO6.out.cell 2
    simp at n0 n1 n2
    have heq : decide (cn = (ct M j).u) = true := by simp only [decide_eq_true_eq]; exact HH2.out
    have HUL : Hid ((ct M j).u.length ≤ 1000000) := Lib.hid (by rw [← HH2.out]; exact HCL4.out)
    subst ea3
    have HRU := Lib.hid hru
    have HSAM := Lib.hid (fun (W' : World) (hb : Below w6.heap.size w6 W') => sameChain_any cn (ct M j).u a6 (ct M j).a c6 (ct M j).c w6.heap.size W' (HR6.out.below hb (Nat.le_refl _)) ((HRU.out.below ((HEND.out _ HBW6.out).trans (hb.mono (HEND.out _ HBW6.out).size)) (Nat.le_refl _)).mono (HEND.out _ HBW6.out).size) hb.size HCL4.out HUL.out)
    rw [heq] at HSAM
    clear heq hh1 htn4 hru hcs hjM hch s3 HSN
    generalize (ct M j).a = x2 at *
    generalize (ct M j).u.length = x3 at *
    generalize (ct M j).c = x4 at *
    generalize cn.length = cl at *
    clear hff hh2 hh3 hmk hd hj hjl hmn htn
    go_wp2_with fail
    have HSS : Hid (Below w6.heap.size w6 w6.drew ∧ w6.drew.cell? ⟨w3.heap.size, 0, none⟩ = some (.int .u64 (te : Int)) ∧ w6.drew.cell? ⟨w3.heap.size, 1, none⟩ = some (.slice ta tn tc) ∧ w6.drew.cell? ⟨w3.heap.size, 2, none⟩ = some (.int .i64 tq) ∧ w6.drew.cell? ⟨w.heap.size + 1, 4, none⟩ = some (.slice (some ⟨b3, off3, none⟩) mn c3) ∧ w6.drew.cell? ⟨b3, off3 + j, none⟩ = some (.slice x2 x3 x4)) := Lib.hid ⟨(Below.refl _ _).drew, n0, n1, n2, m4, s6⟩
    clear n0 n1 n2 m3 m4 s6 hz6
    refine wp_region_held_drew (S := (fun W => Below w6.heap.size w6 W ∧ W.cell? ⟨w3.heap.size, 0, none⟩ = some (.int .u64 (te : Int)) ∧ W.cell? ⟨w3.heap.size, 1, none⟩ = some (.slice ta tn tc) ∧ W.cell? ⟨w3.heap.size, 2, none⟩ = some (.int .i64 tq) ∧ W.cell? ⟨w.heap.size + 1, 4, none⟩ = some (.slice (some ⟨b3, off3, none⟩) mn c3) ∧ W.cell? ⟨b3, off3 + j, none⟩ = some (.slice x2 x3 x4))) (by kernel_rfl) HSS.out (fun hHeld => ?_)
    refine wpAnyH_ready (rs := [0]) (by kernel_rfl) (by simp) (AllReadyH.cons rfl (fun K hK => ?_) AllReadyH.nil)
    have hH := hHeld
    (go_simp; go_at_call 11; refine (HAL.out _).mono ?_; rintro e w7 ⟨rfl, hb7⟩)
    refine hK.out _ _ (by exact ⟨hH.1.trans (hb7.mono hH.1.size), cell_at hb7 hH.2.1 rfl, cell_at hb7 hH.2.2.1 rfl, cell_at hb7 hH.2.2.2.1 rfl, cell_at hb7 hH.2.2.2.2.1 rfl, cell_at hb7 hH.2.2.2.2.2 rfl⟩) (fun hHq1 => ?_)
    clear hK K hH 
    (try simp only [Act.put, List.getElem_toArray, List.getElem_cons_succ, List.getElem_cons_zero, List.setIfInBounds_toArray, List.set_cons_zero, List.set_cons_succ])
    refine wpAnyH_take (i := 1) (v := ?_) rfl (by kernel_rfl) (by kernel_rfl) (by kernel_rfl) (fun _ _ _ h => h) (Or.inl ⟨by kernel_rfl, ?_⟩) hHq1 ?_
    rotate_left
    · (intro w hSw; first | (go_simp; done) | (go_simp; with_reducible rfl))
    (try simp only [Act.put, List.getElem_toArray, List.getElem_cons_succ, List.getElem_cons_zero, List.setIfInBounds_toArray, List.set_cons_zero, List.set_cons_succ])
    refine wpAnyH_take (i := 2) (v := ?_) rfl (by kernel_rfl) (by kernel_rfl) (by kernel_rfl) (fun _ _ _ h => h) (Or.inl ⟨by kernel_rfl, ?_⟩) hHq1 ?_
    rotate_left
    · (intro w hSw; first | (go_simp; done) | (go_simp; with_reducible rfl))
    (try simp only [Act.put, List.getElem_toArray, List.getElem_cons_succ, List.getElem_cons_zero, List.setIfInBounds_toArray, List.set_cons_zero, List.set_cons_succ])
    refine wpAnyH_take (i := 3) (v := ?_) rfl (by kernel_rfl) (by kernel_rfl) (by kernel_rfl) (fun _ _ _ h => h) (Or.inl ⟨by kernel_rfl, ?_⟩) hHq1 ?_
    rotate_left
    · (intro w hSw; first | (go_simp; done) | (go_simp; with_reducible rfl))
    (try simp only [Act.put, List.getElem_toArray, List.getElem_cons_succ, List.getElem_cons_zero, List.setIfInBounds_toArray, List.set_cons_zero, List.set_cons_succ])
    refine wpAnyH_take (i := 5) (v := ?_) rfl (by kernel_rfl) (by kernel_rfl) (by kernel_rfl) (fun _ _ _ h => h) (Or.inl ⟨by kernel_rfl, ?_⟩) hHq1 ?_
    rotate_left
    · (intro w hSw; first | (go_simp; done) | (go_simp; with_reducible rfl))
    (try simp only [Act.put, List.getElem_toArray, List.getElem_cons_succ, List.getElem_cons_zero, List.setIfInBounds_toArray, List.set_cons_zero, List.set_cons_succ])
    refine wpAnyH_take (i := 6) (v := ?_) rfl (by kernel_rfl) (by kernel_rfl) (by kernel_rfl) (fun _ _ _ h => h) (Or.inl ⟨by kernel_rfl, ?_⟩) hHq1 ?_
    rotate_left
    · (intro w hSw; first | (go_simp; done) | (go_simp; with_reducible rfl))
    (try simp only [Act.put, List.getElem_toArray, List.getElem_cons_succ, List.getElem_cons_zero, List.setIfInBounds_toArray, List.set_cons_zero, List.set_cons_succ])
    refine wpAnyH_take (i := 7) (v := ?_) rfl (by kernel_rfl) (by kernel_rfl) (by kernel_rfl) (fun _ _ _ h => h) (Or.inl ⟨by kernel_rfl, ?_⟩) hHq1 ?_
    rotate_left
    · (intro w hSw; first | (go_simp; done) | (go_simp; with_reducible rfl))
    (try simp only [Act.put, List.getElem_toArray, List.getElem_cons_succ, List.getElem_cons_zero, List.setIfInBounds_toArray, List.set_cons_zero, List.set_cons_succ])
    refine wpAnyH_take (i := 8) (v := ?_) rfl (by kernel_rfl) (by kernel_rfl) (by kernel_rfl) (fun _ _ _ h => h) (Or.inl ⟨by kernel_rfl, ?_⟩) hHq1 ?_
    rotate_left
    · (intro w hSw; first | (go_simp; done) | (go_simp; with_reducible rfl))
    (try simp only [Act.put, List.getElem_toArray, List.getElem_cons_succ, List.getElem_cons_zero, List.setIfInBounds_toArray, List.set_cons_zero, List.set_cons_succ])
    refine wpAnyH_ready (rs := [4]) (by kernel_rfl) (by simp) (AllReadyH.cons rfl (fun K hK => ?_) AllReadyH.nil)
    have hH := hHq1
    (go_simp; go_at_call 24; refine (HSN2.out _ hH.1).mono ?_; rintro e w8 ⟨rfl, hb8⟩)
    refine hK.out _ _ (by exact ⟨hH.1.trans (hb8.mono hH.1.size), cell_at hb8 hH.2.1 rfl, cell_at hb8 hH.2.2.1 rfl, cell_at hb8 hH.2.2.2.1 rfl, cell_at hb8 hH.2.2.2.2.1 rfl, cell_at hb8 hH.2.2.2.2.2 rfl⟩) (fun hHq2 => ?_)
    clear hK K hH hHq1
    (try simp only [Act.put, List.getElem_toArray, List.getElem_cons_succ, List.getElem_cons_zero, List.setIfInBounds_toArray, List.set_cons_zero, List.set_cons_succ])
    refine wpAnyH_take (i := 9) (v := ?_) rfl (by kernel_rfl) (by kernel_rfl) (by kernel_rfl) (fun _ _ _ h => h) (Or.inl ⟨by kernel_rfl, ?_⟩) hHq2 ?_
    rotate_left
    · (intro w hSw; first | (go_simp; done) | (go_simp; with_reducible rfl))
    (try simp only [Act.put, List.getElem_toArray, List.getElem_cons_succ, List.getElem_cons_zero, List.setIfInBounds_toArray, List.set_cons_zero, List.set_cons_succ])
    refine wpAnyH_take (i := 10) (v := ?_) rfl (by kernel_rfl) (by kernel_rfl) (by kernel_rfl) (fun _ _ _ h => h) (Or.inl ⟨by kernel_rfl, ?_⟩) hHq2 ?_
    rotate_left
    · (intro w hSw; first | (go_simp; done) | (go_simp; with_reducible rfl))
    (try simp only [Act.put, List.getElem_toArray, List.getElem_cons_succ, List.getElem_cons_zero, List.setIfInBounds_toArray, List.set_cons_zero, List.set_cons_succ])
    refine wpAnyH_take (i := 11) (v := ?_) rfl (by kernel_rfl) (by kernel_rfl) (by kernel_rfl) (fun _ _ _ h => h) (Or.inl ⟨by kernel_rfl, ?_⟩) hHq2 ?_
    rotate_left
    · (intro w hSw; first | (go_simp; done) | (go_simp; with_reducible rfl))
    (try simp only [Act.put, List.getElem_toArray, List.getElem_cons_succ, List.getElem_cons_zero, List.setIfInBounds_toArray, List.set_cons_zero, List.set_cons_succ])
    refine wpAnyH_take (i := 12) (v := ?_) rfl (by kernel_rfl) (by kernel_rfl) (by kernel_rfl) (fun _ _ _ h => h) (Or.inl ⟨by kernel_rfl, ?_⟩) hHq2 ?_
    rotate_left
    · (intro w hSw; first | (go_simp; done) | (go_simp; with_reducible rfl))
    (try simp only [Act.put, List.getElem_toArray, List.getElem_cons_succ, List.getElem_cons_zero, List.setIfInBounds_toArray, List.set_cons_zero, List.set_cons_succ])
    refine wpAnyH_take (i := 13) (v := ?_) rfl (by kernel_rfl) (by kernel_rfl) (by kernel_rfl) (fun _ _ _ h => h) (Or.inl ⟨by kernel_rfl, ?_⟩) hHq2 ?_
    rotate_left
    · (intro w hSw; first | (go_simp; done) | (go_simp; with_reducible rfl))
    (try simp only [Act.put, List.getElem_toArray, List.getElem_cons_succ, List.getElem_cons_zero, List.setIfInBounds_toArray, List.set_cons_zero, List.set_cons_succ])
    refine wpAnyH_take (i := 14) (v := ?_) rfl (by kernel_rfl) (by kernel_rfl) (by kernel_rfl) (fun _ _ _ h => h) (Or.inl ⟨by kernel_rfl, ?_⟩) hHq2 ?_
    rotate_left
    · (intro w hSw; first | (go_simp; done) | (go_simp; with_reducible rfl))
    (try simp only [Act.put, List.getElem_toArray, List.getElem_cons_succ, List.getElem_cons_zero, List.setIfInBounds_toArray, List.set_cons_zero, List.set_cons_succ])
    refine wpAnyH_take (i := 15) (v := ?_) rfl (by kernel_rfl) (by kernel_rfl) (by kernel_rfl) (fun _ _ _ h => h) (Or.inl ⟨by kernel_rfl, ?_⟩) hHq2 ?_
    rotate_left
    · (intro w hSw; first | (go_simp; done) | (go_simp; with_reducible rfl))
    (try simp only [Act.put, List.getElem_toArray, List.getElem_cons_succ, List.getElem_cons_zero, List.setIfInBounds_toArray, List.set_cons_zero, List.set_cons_succ])
    refine wpAnyH_take (i := 16) (v := ?_) rfl (by kernel_rfl) (by kernel_rfl) (by kernel_rfl) (fun _ _ _ h => h) (Or.inl ⟨by kernel_rfl, ?_⟩) hHq2 ?_
    rotate_left
    · (intro w hSw; first | (go_simp; done) | (go_simp; with_reducible rfl))
    (try simp only [Act.put, List.getElem_toArray, List.getElem_cons_succ, List.getElem_cons_zero, List.setIfInBounds_toArray, List.set_cons_zero, List.set_cons_succ])
    refine wpAnyH_take (i := 17) (v := ?_) rfl (by kernel_rfl) (by kernel_rfl) (by kernel_rfl) (fun _ _ _ h => h) (Or.inl ⟨by kernel_rfl, ?_⟩) hHq2 ?_
    rotate_left
    · (intro w hSw; first | (go_simp; done) | (go_simp; with_reducible rfl))
    (try simp only [Act.put, List.getElem_toArray, List.getElem_cons_succ, List.getElem_cons_zero, List.setIfInBounds_toArray, List.set_cons_zero, List.set_cons_succ])
    refine wpAnyH_ready (rs := [18]) (by kernel_rfl) (by simp) (AllReadyH.cons rfl (fun K hK => ?_) AllReadyH.nil)
    have hH := hHq2
    (go_simp; go_at_call 17; refine (HSAM.out _ hH.1).mono ?_; rintro e w9 ⟨rfl, hb9⟩)
    refine hK.out _ _ (by exact ⟨hH.1.trans (hb9.mono hH.1.size), cell_at hb9 hH.2.1 rfl, cell_at hb9 hH.2.2.1 rfl, cell_at hb9 hH.2.2.2.1 rfl, cell_at hb9 hH.2.2.2.2.1 rfl, cell_at hb9 hH.2.2.2.2.2 rfl⟩) (fun hHq3 => ?_)
    clear hK K hH hHq2
    (try simp only [Act.put, List.getElem_toArray, List.getElem_cons_succ, List.getElem_cons_zero, List.setIfInBounds_toArray, List.set_cons_zero, List.set_cons_succ])
    refine wpAnyH_take (i := 19) (v := ?_) rfl (by kernel_rfl) (by kernel_rfl) (by kernel_rfl) (fun _ _ _ h => h) (Or.inl ⟨by kernel_rfl, ?_⟩) hHq3 ?_
    rotate_left
    · (intro w hSw; first | (go_simp; done) | (go_simp; with_reducible rfl))
    (try simp only [Act.put, List.getElem_toArray, List.getElem_cons_succ, List.getElem_cons_zero, List.setIfInBounds_toArray, List.set_cons_zero, List.set_cons_succ])
    refine wpAnyH_take (i := 20) (v := ?_) rfl (by kernel_rfl) (by kernel_rfl) (by kernel_rfl) (fun _ _ _ h => h) (Or.inl ⟨by kernel_rfl, ?_⟩) hHq3 ?_
    rotate_left
    · (intro w hSw; first | (go_simp; done) | (go_simp; with_reducible rfl))
    (try simp only [Act.put, List.getElem_toArray, List.getElem_cons_succ, List.getElem_cons_zero, List.setIfInBounds_toArray, List.set_cons_zero, List.set_cons_succ])
    refine wpAnyH_done (by kernel_rfl) ?_ _
    have hEnd := hHq3
    have HE := Lib.hid (HBW6.out.trans (hEnd.1.mono HBW6.out.size))
    clear hHeld hEnd
    go_wp2_with fail
    go_ret
    exact ⟨rfl, HEND.out _ HE.out⟩
end Go.Proofs.Ytjpahookioenpaa
