/-
  The statement AcceptorNil: the walk of its Go text, by the contracts of what it calls.
-/
import Derived.Test.YtcadnlilijkneaaGreatGb42
namespace Go.Proofs.YtcadnlilijkneaaGreat
open Go.RowKit Go.Maps Go.Shelf Go.Deep
set_option linter.unusedVariables false
set_option linter.unusedSimpArgs false

theorem fits12_any (Z : ActZ) (w : World) (h : LyIn w w.heap.size Z.y) (hf : SgFit Z.y.sg) : Calls Tryz.prog 40 #[.agg Z.cs.toArray] w fun e w' => (∃ t, e = .returned (.bool t)) ∧ Chg [] w w' := by
  obtain ⟨W, HW⟩ : ∃ W, Hid (w.alloc (.cells Z.cs.toArray 100) = W) := ⟨_, Lib.hid rfl⟩
  have hc : Chg [] w W := by rw [← HW.out]; exact (Chg.refl [] w).alloc _
  have ho : Own W w.heap.size 100 Z.cs := by rw [← HW.out]; exact Own.new w _ _
  have HF := Lib.hid (fitsL_any Z.y w.heap.size W (h.below hc.low (Nat.le_refl _)) hc.size hf)
  have c4 := ho.cell 4
  have c5 := ho.cell 5
  have c6 := ho.cell 6
  have c9 := ho.cell 9
  have HC := Lib.hid hc
  obtain ⟨k, ze, ⟨b1, b2⟩, ⟨ye, ya, yc, ys, yq⟩, own, ka, ks, kc, ra, rs, rc⟩ := Z
  simp only [ActZ.cs, LyT.val] at *
  simp at c4 c5 c6 c9
  obtain ⟨yn, hyn⟩ : ∃ n, Hid (ys.length = n) := ⟨_, Lib.hid rfl⟩
  obtain ⟨kn, hkn⟩ : ∃ n, Hid (ks.length = n) := ⟨_, Lib.hid rfl⟩
  obtain ⟨rn, hrn⟩ : ∃ n, Hid (rs.length = n) := ⟨_, Lib.hid rfl⟩
  rw [hyn.out] at c5 HF
  rw [hrn.out] at c9
  simp only [hyn.out, hkn.out, hrn.out] at HW ⊢
  clear h hf hc ho
  go_enter Tryz.func40, Tryz.ntmps40
  go_upto_region 1 with fail
  rw [HW.out]
  go_wp2_with fail
  refine HF.out.mono ?_
  rintro e w2 ⟨⟨t, rfl⟩, hb2⟩
  have HC2 := Lib.hid (HC.out.trans (low_chg hb2))
  have c9' := (low_chg hb2).cell c9 (by simp)
  clear hb2 c4 c5 c6 c9
  cases t
  · go_wp2_with fail
    go_ret
    exact ⟨⟨_, rfl⟩, HC2.out⟩
  · go_wp2_with fail
    go_ret
    exact ⟨⟨_, rfl⟩, HC2.out⟩
set_option maxHeartbeats 8000000 in
set_option maxRecDepth 100000 in
theorem acceptorNil_any (w : World) {Z : ActZ} (hz : ActZk w Z) : Calls Tryz.prog 9 #[.agg Z.cs.toArray] w fun e w' => e = .returned (.bool true) ∧ Below w.heap.size w w' := by
  obtain ⟨W, HW⟩ : ∃ W, Hid (w.alloc (.cells Z.cs.toArray 100) = W) := ⟨_, Lib.hid rfl⟩
  have hc : Chg [] w W := by rw [← HW.out]; exact (Chg.refl [] w).alloc _
  have ho : Own W w.heap.size 100 Z.cs := by rw [← HW.out]; exact Own.new w _ _
  have hyI : LyIn W W.heap.size Z.y := (hz.y.inn.below hc.low (Nat.le_refl _)).mono hc.size
  have HF := Lib.hid (fits12_any Z W hyI hz.y.fit)
  have HPP := Lib.hid (fun W' => Prepare_arg W' none Z.e hz.e Z.b (.inl rfl))
  have HAC := Lib.hid (fun W' (h9 : Chg [] W W') => Accept_arg W' none Z.e hz.e Z.b Z.y ((hyI.below h9.low (Nat.le_refl _)).mono h9.size) hz.y.fit (.inl rfl))
  have HLE := Lib.hid (fun W' => Learn_arg W' none Z.e hz.e (.inl rfl))
  have HAL := Lib.hid (fun W' => alive12_any W')
  have HON := Lib.hid (fun W' => AOpen_nil W')
  have HEN := Lib.hid (fun W' => Epochs_nil W')
  have HOO := Lib.hid (fun W' (h9 : Chg [] W W') => ho.chg h9 (by simp))
  have HC := Lib.hid hc
  obtain ⟨k, ze, ⟨b1, b2⟩, ⟨ye, ya, yc, ys, yq⟩, own, ka, ks, kc, ra, rs, rc⟩ := Z
  simp only [ActZ.cs, LyT.val, zEs, EsT.val, List.length_nil] at *
  obtain ⟨yn, hyn⟩ : ∃ n, Hid (ys.length = n) := ⟨_, Lib.hid rfl⟩
  obtain ⟨kn, hkn⟩ : ∃ n, Hid (ks.length = n) := ⟨_, Lib.hid rfl⟩
  obtain ⟨rn, hrn⟩ : ∃ n, Hid (rs.length = n) := ⟨_, Lib.hid rfl⟩
  simp only [hyn.out, hkn.out, hrn.out] at HW HF HAC HOO ⊢
  clear hz hc ho hyI
  have s0 := (HOO.out W (Chg.refl _ _))
  go_enter Tryz.func9, Tryz.ntmps9
  go_upto_region 1 with fail
  rw [HW.out]
  have c0 := s0.cell 0
  have c1 := s0.cell 1
  have c2 := s0.cell 2
  have c3 := s0.cell 3
  have c4 := s0.cell 4
  have c5 := s0.cell 5
  have c6 := s0.cell 6
  have c7 := s0.cell 7
  have c8 := s0.cell 8
  have c9 := s0.cell 9
  simp at c0 c1 c2 c3 c4 c5 c6 c7 c8 c9
  clear s0
  go_wp2_with fail
  refine HF.out.mono ?_
  rintro e w2 ⟨⟨t, rfl⟩, hc2⟩
  have HC2 := Lib.hid hc2
  clear hc2 c0 c1 c2 c3 c4 c5 c6 c7 c8 c9
  cases t with
  | false =>
    go_wp2_with fail
    refine (HAL.out _).mono ?_
    rintro e w3 ⟨rfl, hc3⟩
    have HC3 := Lib.hid (HC.out.trans (HC2.out.trans hc3))
    go_wp2_with fail
    go_ret
    exact ⟨rfl, HC3.out.low⟩
  | true =>
    go_wp2_with fail
    refine (HON.out _).mono ?_
    rintro e w3 ⟨rfl, hw⟩
    have hw2 := hw.symm
    subst hw2
    have s2 := HOO.out w2 HC2.out
    have c1 := s2.cell 1
    have c2 := s2.cell 2
    have c3 := s2.cell 3
    simp at c1 c2 c3
    clear s2 hw
    go_wp2_with fail
    refine (HPP.out _).mono ?_
    rintro e w4 ⟨rfl, hc4⟩
    have HC4 := Lib.hid ((HC2.out.trans hc4).alloc (.cells #[.int .i64 0, .int .i64 0, .int .i64 0, .int .i64 0, .int .u64 0, .slice none 0 0, .int .i64 0] 116))
    clear hc4 c1 c2 c3
    go_upto_region 7 with fail
    generalize w4.alloc (.cells #[.int .i64 0, .int .i64 0, .int .i64 0, .int .i64 0, .int .u64 0, .slice none 0 0, .int .i64 0] 116) = w5 at HC4 ⊢
    have s2 := HOO.out w5 HC4.out
    have c1 := s2.cell 1
    have c2 := s2.cell 2
    have c3 := s2.cell 3
    have c4 := s2.cell 4
    have c5 := s2.cell 5
    have c6 := s2.cell 6
    simp at c1 c2 c3 c4 c5 c6
    clear s2
    go_wp2_with fail
    refine (HAC.out _ HC4.out).mono ?_
    rintro e w6 ⟨rfl, hc6⟩
    have HC6 := Lib.hid ((HC4.out.trans hc6).alloc (.cells #[.int .i64 0, .int .i64 0, .int .i64 0, .int .i64 0, .int .u64 0, .slice none 0 0, .int .i64 0] 116))
    clear hc6 c1 c2 c3 c4 c5 c6
    go_upto_region 8 with fail
    generalize w6.alloc (.cells #[.int .i64 0, .int .i64 0, .int .i64 0, .int .i64 0, .int .u64 0, .slice none 0 0, .int .i64 0] 116) = w7 at HC6 ⊢
    have s2 := HOO.out w7 HC6.out
    have c1 := s2.cell 1
    simp at c1
    clear s2
    go_wp2_with fail
    refine (HLE.out _).mono ?_
    rintro e w8 ⟨rfl, hc8⟩
    have HC8 := Lib.hid ((HC6.out.trans hc8).alloc (.cells #[.int .i64 0, .int .i64 0, .int .i64 0, .int .i64 0, .int .u64 0, .slice none 0 0, .int .i64 0] 116))
    clear hc8 c1
    go_upto_region 9 with fail
    generalize w8.alloc (.cells #[.int .i64 0, .int .i64 0, .int .i64 0, .int .i64 0, .int .u64 0, .slice none 0 0, .int .i64 0] 116) = w9 at HC8 ⊢
    go_wp2_with (first
      | (go_at_call 35; refine (HAL.out _).mono ?_; rintro e w10 ⟨rfl, hc10⟩; have HC10 := Lib.hid (HC.out.trans (HC8.out.trans hc10)); clear hc10)
      | (go_at_call 55; refine (HEN.out _).mono ?_; rintro e w11 ⟨rfl, hw⟩; have hw2 := hw.symm; subst hw2)
      | fail)
    go_ret
    exact ⟨rfl, HC10.out.low⟩
end Go.Proofs.YtcadnlilijkneaaGreat
