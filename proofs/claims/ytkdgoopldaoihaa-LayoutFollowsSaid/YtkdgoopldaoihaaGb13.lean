/-
  The document's Encode of a layout, by its contract. Lemmas, no claim of their own.
-/
import Derived.Test.YtkdgoopldaoihaaGb12
namespace Go.Proofs.Ytkdgoopldaoihaa
open Go.RowKit Go.Deep
set_option linter.unusedVariables false
set_option linter.unusedSimpArgs false

theorem dlenc_no (A : LyT) (B : Nat) (w : World) (h : LyIn w B A) (hB : B ≤ w.heap.size) (hf : SgFit A.sg) (hr : lright A.x = false) :
    Calls Try.prog 8 #[A.val] w fun e w' => e = .returned (.tuple #[.slice none 0 0, .int .i64 91]) ∧ Below w.heap.size w w' := by
  obtain ⟨W, HWW⟩ : ∃ W, Hid (w.alloc (.cells #[.int .u64 (A.e : Int), .slice A.a A.sg.length A.c, .int .i64 A.q] 25) = W) := ⟨_, Lib.hid rfl⟩
  have hWb : Below w.heap.size w W := by rw [← HWW.out]; exact (Below.refl _ _).alloc (Nat.le_refl _) _
  have HR := Lib.hid (dlright_any A B W (h.below hWb hB) (Nat.le_trans hB hWb.size) hf)
  rw [hr] at HR
  have HB := Lib.hid hWb
  obtain ⟨ep, a, c, L, q⟩ := A
  simp only [LyT.val] at *
  generalize L.length = n at *
  clear hWb h hB hf hr
  go_enter Try.func8, Try.ntmps8
  go_upto_region 1 with fail
  rw [HWW.out]
  have o1 : Own W w.heap.size 25 [.int .u64 (ep : Int), .slice a n c, .int .i64 q] := by rw [← HWW.out]; exact Own.new w _ _
  have c0 := o1.cell 0
  have c1 := o1.cell 1
  have c2 := o1.cell 2
  have hz := o1.lt
  simp at c0 c1 c2
  clear o1
  go_wp2_with fail
  refine HR.out.mono ?_
  rintro e w1 ⟨rfl, hb⟩
  have HB1 := Lib.hid (HB.out.trans (hb.low.mono HB.out.size))
  clear hb
  go_wp2_with fail
  go_ret2
  exact ⟨rfl, HB1.out⟩
set_option maxHeartbeats 8000000 in
set_option maxRecDepth 100000 in
theorem dlenc_yes (A : LyT) (B : Nat) (w : World) (h : LyIn w B A) (hB : B ≤ w.heap.size) (hf : SgFit A.sg) (hr : lright A.x = true) :
    Calls Try.prog 8 #[A.val] w fun e w' => ∃ x cs, e = .returned (.tuple #[x, .int .i64 0]) ∧ IsLE A.x cs ∧ Lst w' w.heap.size 5 x (u8s cs) ∧ Below w.heap.size w w' := by
  obtain ⟨W, HWW⟩ : ∃ W, Hid (w.alloc (.cells #[.int .u64 (A.e : Int), .slice A.a A.sg.length A.c, .int .i64 A.q] 25) = W) := ⟨_, Lib.hid rfl⟩
  have hWb : Below w.heap.size w W := by rw [← HWW.out]; exact (Below.refl _ _).alloc (Nat.le_refl _) _
  have HR := Lib.hid (dlright_any A B W (h.below hWb hB) (Nat.le_trans hB hWb.size) hf)
  rw [hr] at HR
  have HV := Lib.hid (SgV.of hr)
  have HOK := Lib.hid (fLy_ok hr)
  have HLN := Lib.hid (fLy_len hr)
  obtain ⟨⟨_, he2⟩, ⟨hq0, hq1⟩, _⟩ := lright_iff.1 hr
  have hxe : A.x.e = A.e := rfl
  have hxq : A.x.q = A.q := rfl
  rw [hxe] at he2
  rw [hxq] at hq0 hq1
  have HF : Hid (fLy A.x = [(21, A.e), (5, A.q.toNat), (2, A.sg.length - 1)] ++ fSgT A.sg) := Lib.hid (by
    have e1 : A.x.s = sgx A.sg := rfl
    unfold fLy
    rw [e1, sgx_length, fSgT_x]
    rfl)
  have HB := Lib.hid hWb
  have HIN := Lib.hid h
  have HBw := Lib.hid hB
  obtain ⟨x, hx⟩ : ∃ x, A.x = x := ⟨_, rfl⟩
  rw [hx] at HOK HLN HF ⊢
  obtain ⟨ep, a, c, L, q⟩ := A
  simp only [LyT.val] at *
  have HN4 := Lib.hid HV.out.n
  generalize hN : L.length = n at *
  have HN := Lib.hid hN
  have o1 : Own W w.heap.size 25 [.int .u64 (ep : Int), .slice a n c, .int .i64 q] := by rw [← HWW.out]; exact Own.new w _ _
  have c0 := o1.cell 0
  have c1 := o1.cell 1
  have c2 := o1.cell 2
  have hz := o1.lt
  simp at c0 c1 c2
  obtain ⟨qn, rfl⟩ := Int.eq_ofNat_of_zero_le hq0
  rw [Int.toNat_natCast] at HF
  have eq1 : IntKind.u64.wrap (qn : Int) = (qn : Int) := wrap_u64_nat qn (by omega)
  obtain ⟨n1, hn1⟩ : ∃ n1, n - 1 = n1 := ⟨_, rfl⟩
  have HN1 := Lib.hid hn1
  have eq2 : (n : Int) - 1 = (n1 : Int) := by have := HN4.out; omega
  have eq3 : IntKind.i64.wrap ((n : Int) - 1) = (n1 : Int) := by rw [IntWalk.i64_in _ (by have := HN4.out; omega)]; omega
  have eq4 : IntKind.u64.wrap (n1 : Int) = (n1 : Int) := wrap_u64_nat n1 (by have := HN4.out; omega)
  rw [hn1] at HF
  have HO := Lib.hid o1
  have hn4 : (n : Int) ≤ 4 := by have := HN4.out; omega
  clear hWb h hB hf hr o1 hxe hxq he2 hq0 hq1 hx hN hn1
  go_enter Try.func8, Try.ntmps8
  go_upto_region 1 with fail
  rw [HWW.out]
  go_wp2_with fail
  refine HR.out.mono ?_
  rintro e w1 ⟨rfl, hb⟩
  have HB1 := Lib.hid (HB.out.trans (hb.low.mono HB.out.size))
  have HO1 := Lib.hid (HO.out.below hb.low HO.out.lt)
  have hz1 := HO1.out.lt
  have d0 := HO1.out.cell 0
  have d1 := HO1.out.cell 1
  have d2 := HO1.out.cell 2
  simp at d0 d1 d2
  clear hb c0 c1 c2 hz
  go_upto_region 6 with fail
  obtain ⟨g, hg⟩ : ∃ g, w1.heap.size = g := ⟨_, rfl⟩
  obtain ⟨W2, hW2⟩ : ∃ W2, (w1.alloc (.cells #[.int .i64 21, .int .i64 5, .int .i64 2] 3)).alloc (.cells #[.int .u64 (ep : Int), .int .u64 (qn : Int), .int .u64 (n1 : Int)] 22) = W2 := ⟨_, rfl⟩
  have HG : Hid (w.heap.size < g) := Lib.hid (by rw [← hg]; exact HO1.out.lt)
  have HS2 : Hid (W2.heap.size = g + 2) := Lib.hid (by rw [← hW2, ← hg]; simp)
  obtain ⟨F0, hF0⟩ : ∃ F0, [(21, ep), (5, qn), (2, n1)] = F0 := ⟨_, rfl⟩
  have HX0 : Hid (FlI W2 g (.slice (some ⟨g, 0, none⟩) 3 3) (.slice (some ⟨g + 1, 0, none⟩) 3 3) (fw (F0 ++ fSgT (L.take 0))) (fv (F0 ++ fSgT (L.take 0)))) := Lib.hid (by
    rw [← hg, ← hF0]
    exact FlI.two w1 W2 w1.heap.size _ _ [21, 5, 2] [ep, qn, n1] rfl rfl (Nat.le_refl _) hW2.symm (by simp) (by simp))
  have HB2 : Hid (Below w.heap.size w W2) := Lib.hid (by rw [← hW2]; exact (HB1.out.alloc HB1.out.size _).alloc (Nat.le_trans HB1.out.size (by simp)) _)
  have HO2 : Hid (Own W2 w.heap.size 25 [.int .u64 (ep : Int), .slice a n c, .int .i64 (qn : Int)]) := Lib.hid (by rw [← hW2]; exact (HO1.out.alloc _).alloc _)
  rw [hW2, hg]
  rw [hF0] at HF
  have HF0 : Hid (F0.length = 3) := Lib.hid (by rw [← hF0]; rfl)
  clear hW2 hg hz1 hF0 d0 d1 d2
  go_wp2_with fail
  go_loopw [5, 6, 7] (fun v1 v2 i wr => ∃ (k : Nat) (a1 : Option Addr) (m1 c1 : Nat) (a2 : Option Addr) (m2 c2 : Nat), k ≤ n ∧ i = .int .i64 (k : Int) ∧ v1 = .slice a1 m1 c1 ∧ v2 = .slice a2 m2 c2 ∧ Hid (FlI wr g (.slice a1 m1 c1) (.slice a2 m2 c2) (fw (F0 ++ fSgT (L.take k))) (fv (F0 ++ fSgT (L.take k)))) ∧ Hid (Fc g g W2 wr)) (fun _ _ i _ => n - (intOf i).toNat)
  case atStart => exact ⟨0, _, _, _, _, _, _, Nat.zero_le _, rfl, rfl, rfl, HX0, Lib.hid (Fc.refl _ _ _)⟩
  case round =>
    obtain ⟨k, a1, m1, cc1, a2, m2, cc2, hk, rfl, rfl, rfl, HX, HC⟩ := hrel
    rename World => w6
    have HSZ : Hid (g ≤ w6.heap.size) := Lib.hid (by have := HC.out.size; have := HS2.out; omega)
    have HBK : Hid (Below w.heap.size w w6) := Lib.hid (HB2.out.trans (HC.out.below HB2.out.size (by have := HG.out; omega) (by have := HG.out; omega)))
    have HO6 := Lib.hid (HO2.out.fcl HC.out (by have := HG.out; omega) HG.out)
    have d1 := HO6.out.cell 1
    have hz6 := HO6.out.lt
    simp at d1
    by_cases hlt : k < n
    · have hkL : k < L.length := by rw [HN.out]; exact hlt
      obtain ⟨b, off, rfl, hb, hc⟩ := (HIN.out.1.below HBK.out HBw.out).sg (show 0 < L.length by omega)
      obtain ⟨e1, e2⟩ := hc k hkL
      clear hc
      have hk0 : (0 : Int) ≤ (k : Int) := by omega
      have hk1 : (k : Int) < (n : Int) := by omega
      have HT := Lib.hid (fSgT_take hkL)
      have HVk := Lib.hid (HV.out.sg k hkL)
      have HLk := Lib.hid (HV.out.tlen k (by omega))
      have HI2 := Lib.hid (HIN.out.2 _ (st_mem hkL))
      generalize st L k = sg at *
      obtain ⟨fk, ca, cc, M⟩ := sg
      simp only at e1 e2 HT HVk HI2
      obtain ⟨m, hm⟩ : ∃ m, M.length = m := ⟨_, rfl⟩
      rw [hm] at e2 HT HVk
      have HM := Lib.hid hm
      have hm4 : (m : Int) ≤ 4 := by have := HVk.out.2.1; omega
      obtain ⟨mm, hmm⟩ : ∃ mm, m - 1 = mm := ⟨_, rfl⟩
      rw [hmm] at HT
      have eq5 : (m : Int) - 1 = (mm : Int) := by have := HVk.out.2.1; omega
      have eq6 : IntKind.i64.wrap ((m : Int) - 1) = (mm : Int) := by rw [IntWalk.i64_in _ (by omega)]; omega
      have eq7 : IntKind.u64.wrap (mm : Int) = (mm : Int) := wrap_u64_nat mm (by omega)
      clear hm hmm
      go_upto_region 10 with fail
      obtain ⟨gs, hgs⟩ : ∃ gs, w6.heap.size = gs := ⟨_, rfl⟩
      obtain ⟨W7, hW7⟩ : ∃ W7, w6.alloc (.cells #[.int .u64 (fk : Int), .slice ca m cc] 49) = W7 := ⟨_, rfl⟩
      have HGS : Hid (g < gs) := Lib.hid (by rw [← hgs]; have := HC.out.size; have := HS2.out; omega)
      have HX7 : Hid (FlI W7 g (.slice a1 m1 cc1) (.slice a2 m2 cc2) (fw (F0 ++ fSgT (L.take k))) (fv (F0 ++ fSgT (L.take k)))) := Lib.hid (by rw [← hW7]; exact HX.out.alloc _)
      have HC7 : Hid (Fc g g W2 W7) := Lib.hid (by rw [← hW7]; exact HC.out.alloc _)
      have HO7 : Hid (Own W7 gs 49 [.int .u64 (fk : Int), .slice ca m cc]) := Lib.hid (by rw [← hW7, ← hgs]; exact Own.new w6 _ _)
      rw [hW7, hgs]
      clear hW7 hgs e1 e2 d1 hz6
      have HZ7 : Hid (g ≤ W7.heap.size) := Lib.hid (by have := HO7.out.lt; have := HGS.out; omega)
      obtain ⟨F, hF⟩ : ∃ F, F0 ++ fSgT (L.take k) = F := ⟨_, rfl⟩
      have HFE := Lib.hid hF
      have HFL : Hid (F.length ≤ 92) := Lib.hid (by rw [← hF, List.length_append, HF0.out]; have := HLk.out; omega)
      rw [hF] at HX7
      clear hF
      go_wp2_with (at_builtin; refine wpList_appW rfl (.tmp 41) (.tmp 42) rfl g _ _ (fw F) (fv F) rfl HX7.out [20, 2] _ rfl rfl (by have := HFL.out; simp; omega) HZ7.out ?_)
      intro a3 m3 cc3 w8 HX8 hc8
      have HC8 := Lib.hid (HC7.out.trans hc8.out)
      have HO8 := Lib.hid (HO7.out.fc hc8.out (by have := HGS.out; omega) (by decide) (by decide))
      have HZ8 : Hid (g ≤ w8.heap.size) := Lib.hid (Nat.le_trans HZ7.out hc8.out.size)
      have q0 := HO8.out.cell 0
      have q1 := HO8.out.cell 1
      have hz8 := HO8.out.lt
      simp at q0 q1
      clear hc8
      go_wp2_with (at_builtin; refine wpList_appV rfl (.tmp 44) (.tmp 52) rfl g _ _ (fw F ++ [20, 2]) (fv F) rfl HX8.out [fk, mm] _ rfl rfl (by have := HFL.out; simp; omega) HZ8.out ?_)
      intro a4 m4 cc4 w9 hX9 hc9
      obtain ⟨F1, hF1⟩ : ∃ F1, F ++ [(20, fk), (2, mm)] = F1 := ⟨_, rfl⟩
      have HX9 : Hid (FlI w9 g (.slice a3 m3 cc3) (.slice a4 m4 cc4) (fw (F1 ++ fChT (M.take 0))) (fv (F1 ++ fChT (M.take 0)))) := Lib.hid (by
        have := hX9.out
        rw [← hF1]
        simpa [fw, fv, fChT] using this)
      have HF1 := Lib.hid hF1
      have HL1 : Hid (F1.length ≤ 94) := Lib.hid (by rw [← hF1, List.length_append]; have := HFL.out; simp; omega)
      have HC9 := Lib.hid (HC8.out.trans hc9.out)
      have HO9 := Lib.hid (HO8.out.fc hc9.out (by have := HGS.out; omega) (by decide) (by decide))
      have HZ9 : Hid (g ≤ w9.heap.size) := Lib.hid (Nat.le_trans HZ8.out hc9.out.size)
      clear hc9 hX9 q0 q1 hz8 hF1
      go_wp2_with fail
      go_loopw [5, 6, 9] (fun v1 v2 i wr => ∃ (j : Nat) (a1 : Option Addr) (m1 c1 : Nat) (a2 : Option Addr) (m2 c2 : Nat), j ≤ m ∧ i = .int .i64 (j : Int) ∧ v1 = .slice a1 m1 c1 ∧ v2 = .slice a2 m2 c2 ∧ Hid (FlI wr g (.slice a1 m1 c1) (.slice a2 m2 c2) (fw (F1 ++ fChT (M.take j))) (fv (F1 ++ fChT (M.take j)))) ∧ Hid (Fc g g W2 wr) ∧ Hid (Own wr gs 49 [.int .u64 (fk : Int), .slice ca m cc])) (fun _ _ i _ => m - (intOf i).toNat)
      case atStart => exact ⟨0, _, _, _, _, _, _, Nat.zero_le _, rfl, rfl, rfl, HX9, HC9, HO9⟩
      case round =>
        obtain ⟨j, b1, n3, k3, b2, n4, k4, hj, rfl, rfl, rfl, HXj, HCj, HOj⟩ := hrel
        rename World => w10
        have HSj : Hid (g ≤ w10.heap.size) := Lib.hid (by have := HCj.out.size; have := HS2.out; omega)
        have HBj : Hid (Below w.heap.size w w10) := Lib.hid (HB2.out.trans (HCj.out.below HB2.out.size (by have := HG.out; omega) (by have := HG.out; omega)))
        have q1 := HOj.out.cell 1
        have hzj := HOj.out.lt
        simp at q1
        by_cases hlt2 : j < m
        · have hjL : j < M.length := by rw [HM.out]; exact hlt2
          obtain ⟨bb, off2, rfl, hb2, hc2⟩ := (HI2.out.1.below HBj.out HBw.out).ch (show 0 < M.length by omega)
          have e1 := hc2 j hjL
          clear hc2
          have hj0 : (0 : Int) ≤ (j : Int) := by omega
          have hj1 : (j : Int) < (m : Int) := by omega
          have HTj := Lib.hid (fChT_take hjL)
          have HVj := Lib.hid (HVk.out.2.2 j hlt2)
          obtain ⟨F2, hF2⟩ : ∃ F2, F1 ++ fChT (M.take j) = F2 := ⟨_, rfl⟩
          have HF2 := Lib.hid hF2
          have HL2 : Hid (F2.length ≤ 900) := Lib.hid (by
            have := fChT_tlen (L := M) (fun i hi => (HVk.out.2.2 i (by rw [← HM.out]; exact hi)).1.2) j
            rw [← hF2, List.length_append]
            have := HL1.out
            have := HM.out
            omega)
          have HIj := Lib.hid (HI2.out.2 _ (ct_mem hjL))
          rw [hF2] at HXj
          obtain ⟨cm, hcm⟩ : ∃ cm, ct M j = cm := ⟨_, rfl⟩
          have HCMJ := Lib.hid hcm
          rw [hcm] at e1 HTj HVj HIj
          clear hcm
          obtain ⟨a5, c5, u5⟩ := cm
          simp only at e1 HTj HVj HIj
          obtain ⟨n5, hn5⟩ : ∃ n5, u5.length = n5 := ⟨_, rfl⟩
          have HN5 := Lib.hid hn5
          rw [hn5] at e1
          have hn54 : (n5 : Int) ≤ 4 := by have := HVj.out.1; omega
          have hn51 : 1 ≤ n5 := by have := HVj.out.1; omega
          obtain ⟨mn, hmn⟩ : ∃ mn, n5 - 1 = mn := ⟨_, rfl⟩
          have HMN := Lib.hid hmn
          have eq8 : (n5 : Int) - 1 = (mn : Int) := by omega
          have eq9 : IntKind.i64.wrap ((n5 : Int) - 1) = (mn : Int) := by rw [IntWalk.i64_in _ (by omega)]; omega
          have eq0 : IntKind.u64.wrap (mn : Int) = (mn : Int) := wrap_u64_nat mn (by omega)
          have HE1 := Lib.hid (And.intro e1 (World.block_lt_of_cell? _ _ e1))
          clear hF2 hn5 hmn e1
          go_wp2_with (at_builtin; refine wpList_appW rfl (.tmp 61) (.tmp 62) rfl g _ _ (fw F2) (fv F2) rfl HXj.out [2] _ rfl rfl (by have := HL2.out; simp; omega) HSj.out ?_)
          intro a6 n6 k6 w11 HX11 hc11
          have HBB : Hid (bb < w.heap.size) := Lib.hid (Nat.lt_of_lt_of_le hb2 HBw.out)
          have e3 := cell_keep (hc11.out.below (B := w.heap.size) (Nat.le_trans (Nat.le_of_lt HG.out) HSj.out) (Nat.le_of_lt HG.out) (Nat.le_of_lt HG.out)) HE1.out.1 HBB.out
          have HC11 := Lib.hid (HCj.out.trans hc11.out)
          have HO11 := Lib.hid (HOj.out.fc hc11.out (by have := HGS.out; omega) (by decide) (by decide))
          have HZ11 : Hid (g ≤ w11.heap.size) := Lib.hid (Nat.le_trans HSj.out hc11.out.size)
          have q2 := HO11.out.cell 1
          have hz11 := HO11.out.lt
          simp at q2
          clear hc11 q1 hzj
          go_wp2_with (at_builtin; refine wpList_appV rfl (.tmp 64) (.tmp 73) rfl g _ _ (fw F2 ++ [2]) (fv F2) rfl HX11.out [mn] _ rfl rfl (by have := HL2.out; simp; omega) HZ11.out ?_)
          intro a7 n7 k7 w12 hX12 hc12
          obtain ⟨F3, hF3⟩ : ∃ F3, F2 ++ [(2, mn)] = F3 := ⟨_, rfl⟩
          have HX12 : Hid (FlI w12 g (.slice a6 n6 k6) (.slice a7 n7 k7) (fw (F3 ++ (u5.take 0).flatMap fU)) (fv (F3 ++ (u5.take 0).flatMap fU))) := Lib.hid (by
            have := hX12.out
            rw [← hF3]
            simpa [fw, fv] using this)
          have HF3 := Lib.hid hF3
          have HL3 : Hid (F3.length ≤ 901) := Lib.hid (by rw [← hF3, List.length_append]; have := HL2.out; simp; omega)
          have HC12 := Lib.hid (HC11.out.trans hc12.out)
          have HO12 := Lib.hid (HO11.out.fc hc12.out (by have := HGS.out; omega) (by decide) (by decide))
          clear hc12 hX12 q2 hz11 hF3 e3
          go_wp2_with fail
          go_loopw [5, 6, 10] (fun v1 v2 i wr => ∃ (z : Nat) (a1 : Option Addr) (m1 c1 : Nat) (a2 : Option Addr) (m2 c2 : Nat), z ≤ n5 ∧ i = .int .i64 (z : Int) ∧ v1 = .slice a1 m1 c1 ∧ v2 = .slice a2 m2 c2 ∧ Hid (FlI wr g (.slice a1 m1 c1) (.slice a2 m2 c2) (fw (F3 ++ (u5.take z).flatMap fU)) (fv (F3 ++ (u5.take z).flatMap fU))) ∧ Hid (Fc g g W2 wr) ∧ Hid (Own wr gs 49 [.int .u64 (fk : Int), .slice (some ⟨bb, off2, none⟩) m cc])) (fun _ _ i _ => n5 - (intOf i).toNat)
          case atStart => exact ⟨0, _, _, _, _, _, _, Nat.zero_le _, rfl, rfl, rfl, HX12, HC12, HO12⟩
          case round =>
            obtain ⟨z, d1, n8, k8, d2, n9, k9, hz, rfl, rfl, rfl, HXz, HCz, HOz⟩ := hrel
            rename World => w13
            have HSz : Hid (g ≤ w13.heap.size) := Lib.hid (by have := HCz.out.size; have := HS2.out; omega)
            have HBz : Hid (Below w.heap.size w w13) := Lib.hid (HB2.out.trans (HCz.out.below HB2.out.size (by have := HG.out; omega) (by have := HG.out; omega)))
            obtain ⟨bz, oz, hbo, _, hcz⟩ := (HI2.out.1.below HBz.out HBw.out).ch (show 0 < M.length by omega)
            injection hbo with hbo
            injection hbo with hbo1 hbo2 _
            subst hbo1 hbo2
            have e4 := hcz j hjL
            clear hcz
            have HCV : Hid (ct M j = ⟨a5, c5, u5⟩) := HCMJ
            rw [HCV.out] at e4
            simp only at e4
            rw [HN5.out] at e4
            have q3 := HOz.out.cell 1
            have hz13 := HOz.out.lt
            simp at q3
            by_cases hlt3 : z < n5
            · have hzL : z < u5.length := by rw [HN5.out]; exact hlt3
              obtain ⟨b6, off6, rfl, hb6, hc6⟩ := (HIj.out.below HBz.out HBw.out).i64 (show 0 < u5.length by omega)
              have e5 := hc6 z hzL
              clear hc6
              have hur := HVj.out.2 (u5.getD z 0) (by simp [List.getD, hzL])
              have HT6 := Lib.hid (i64_take hzL)
              have hz0 : (0 : Int) ≤ (z : Int) := by omega
              have hz1 : (z : Int) < (n5 : Int) := by omega
              generalize u5.getD z 0 = u at *
              obtain ⟨un, rfl⟩ := Int.eq_ofNat_of_zero_le hur.1
              have eu : IntKind.u64.wrap (un : Int) = (un : Int) := wrap_u64_nat un (by omega)
              have HLE : Hid ((F3 ++ (u5.take z).flatMap fU).length ≤ 1000) := Lib.hid (by
                have := fflat_le (f := fU) (n := 1) (xs := u5.take z) (fun u _ => by simp [fU])
                have := HL3.out
                rw [List.length_append]
                rw [List.length_take] at *
                omega)
              have HB6L : Hid (bb < w.heap.size) := Lib.hid (Nat.lt_of_lt_of_le hb2 HBw.out)
              have HB6M : Hid (b6 < w.heap.size) := Lib.hid (Nat.lt_of_lt_of_le hb6 HBw.out)
              obtain ⟨F4, hF4⟩ : ∃ F4, F3 ++ (u5.take z).flatMap fU = F4 := ⟨_, rfl⟩
              rw [hF4] at HXz HLE
              have HF4 := Lib.hid hF4
              have HE := Lib.hid (And.intro e4 e5)
              clear hur hF4
              go_wp2_with (at_builtin; refine wpList_appW rfl (.tmp 85) (.tmp 86) rfl g _ _ (fw F4) (fv F4) rfl HXz.out [5] _ rfl rfl (by have := HLE.out; simp; omega) HSz.out ?_)
              intro a9 n9' k9' w14 HX14 hc14
              have hbl := hc14.out.below (B := w.heap.size) (Nat.le_trans (Nat.le_of_lt HG.out) HSz.out) (Nat.le_of_lt HG.out) (Nat.le_of_lt HG.out)
              have e6 := cell_keep hbl HE.out.1 HB6L.out
              have e7 := cell_keep hbl HE.out.2 HB6M.out
              have HC14 := Lib.hid (HCz.out.trans hc14.out)
              have HO14 := Lib.hid (HOz.out.fc hc14.out (by have := HGS.out; omega) (by decide) (by decide))
              have HZ14 : Hid (g ≤ w14.heap.size) := Lib.hid (Nat.le_trans HSz.out hc14.out.size)
              have q4 := HO14.out.cell 1
              have hz14 := HO14.out.lt
              simp at q4
              clear hc14 hbl q3 hz13 e4 e5
              go_wp2_with (at_builtin; refine wpList_appV rfl (.tmp 88) (.tmp 98) rfl g _ _ (fw F4 ++ [5]) (fv F4) rfl HX14.out [un] _ rfl rfl (by have := HLE.out; simp; omega) HZ14.out ?_)
              intro a10 n10 k10 w15 hX15 hc15
              have HX15 : Hid (FlI w15 g (.slice a9 n9' k9') (.slice a10 n10 k10) (fw (F3 ++ (u5.take (z + 1)).flatMap fU)) (fv (F3 ++ (u5.take (z + 1)).flatMap fU))) := Lib.hid (by
                have := hX15.out
                rw [HT6.out, List.flatMap_append, ← List.append_assoc, HF4.out]
                simpa [fw, fv, fU] using this)
              have HC15 := Lib.hid (HC14.out.trans hc15.out)
              have HO15 := Lib.hid (HO14.out.fc hc15.out (by have := HGS.out; omega) (by decide) (by decide))
              clear hc15 hX15 q4 hz14 e6 e7
              go_wp2_with fail
              go_roundw
              case rel => exact ⟨z + 1, _, _, _, _, _, _, by omega, by go_num, rfl, rfl, HX15, HC15, HO15⟩
              case measure => simp [intOf]; omega
            · obtain rfl : z = n5 := by omega
              have hXz := HXz.out
              rw [List.take_of_length_le (by rw [HN5.out]; exact Nat.le_refl _)] at hXz
              have HXf : Hid (FlI w13 g (.slice d1 n8 k8) (.slice d2 n9 k9) (fw (F1 ++ fChT (M.take (j + 1)))) (fv (F1 ++ fChT (M.take (j + 1))))) := Lib.hid (by
                have e : F1 ++ fChT (M.take (j + 1)) = F3 ++ u5.flatMap fU := by
                  rw [HTj.out, ← List.append_assoc, HF2.out, ← HF3.out]
                  simp only [fCh, HN5.out, HMN.out, List.append_assoc, List.singleton_append]
                  rfl
                rw [e]
                exact hXz)
              clear hXz
              go_wp2_with fail
              go_roundw
              case rel => exact ⟨j + 1, _, _, _, _, _, _, by omega, by go_num, rfl, rfl, HXf, HCz, HOz⟩
              case measure => simp [intOf]; omega
        · obtain rfl : j = m := by omega
          have hXj := HXj.out
          rw [List.take_of_length_le (by rw [HM.out]; exact Nat.le_refl _), ← HF1.out, ← HFE.out] at hXj
          have HXe : Hid (FlI w10 g (.slice b1 n3 k3) (.slice b2 n4 k4) (fw (F0 ++ fSgT (L.take (k + 1)))) (fv (F0 ++ fSgT (L.take (k + 1))))) := Lib.hid (by rw [HT.out]; simpa using hXj)
          clear hXj
          go_wp2_with fail
          go_roundw
          case rel => exact ⟨k + 1, _, _, _, _, _, _, by omega, by go_num, rfl, rfl, HXe, HCj⟩
          case measure => simp [intOf]; omega
    · obtain rfl : k = n := by omega
      have hX := HX.out
      rw [List.take_of_length_le (by rw [HN.out]; exact Nat.le_refl _), ← HF.out] at hX
      obtain ⟨h2, h3⟩ := hX
      obtain ⟨a3, cc3, hv3, r1, _, _⟩ := h2.form
      obtain ⟨a4, cc4, hv4, r2, _, _⟩ := h3.form
      injection hv3 with g1 g2 g3
      injection hv4 with g4 g5 g6
      subst g1 g2 g3 g4 g5 g6
      have h64 : ∀ i, (fv (fLy x)).getD i 0 < 18446744073709551616 := fun i => by
        rcases Nat.lt_or_ge i (fLy x).length with hi | hi
        · have := HOK.out _ (List.getElem_mem hi)
          have e : (fv (fLy x)).getD i 0 = (fLy x)[i].2 := by simp [fv, List.getD, hi]
          rw [e]
          exact Nat.lt_of_lt_of_le this.2 (Nat.le_trans (Nat.pow_le_pow_right (by omega) this.1) (by decide))
        · simp [fv, List.getD, hi]
      have HP := Lib.hid (refPack_yes (fw (fLy x)) (fv (fLy x)) a1 a2 cc1 cc2 w6.heap.size w6 r1 r2 (Nat.le_refl _) (by rw [fw_length]; have := HLN.out; omega) HOK.out.pack h64)
      simp only [i64s_length, u64s_length, fw_length, fv_length] at HP ⊢
      generalize (fLy x).length = ln at *
      clear h2 h3 r1 r2 h64
      go_wp2_with fail
      refine HP.out.mono ?_
      rintro e w7 ⟨y, cs, rfl, hpk, hl7, hb7⟩
      have HE := Lib.hid (And.intro hpk (And.intro (hl7.base HBK.out.size) (HBK.out.trans (hb7.mono HBK.out.size))))
      clear hpk hl7 hb7
      go_wp2_with fail
      go_ret2
      exact ⟨y, cs, rfl, HE.out.1, HE.out.2.1, HE.out.2.2⟩
/-- Encode of a layout by the document, right or not -/
theorem dlenc_u (A : LyT) (B : Nat) (w : World) (h : LyIn w B A) (hB : B ≤ w.heap.size) (hf : SgFit A.sg) :
    Calls Try.prog 8 #[A.val] w fun e w' => ∃ x cs, e = .returned (.tuple #[x, .int .i64 (if lright A.x then 0 else 91)]) ∧ ((lright A.x = true ∧ IsLE A.x cs) ∨ (lright A.x = false ∧ cs = [])) ∧ Lst w' w.heap.size 5 x (u8s cs) ∧ Below w.heap.size w w' := by
  cases hr : lright A.x with
  | false =>
    refine (dlenc_no A B w h hB hf hr).mono ?_
    rintro e w' ⟨rfl, hb⟩
    exact ⟨_, [], rfl, .inr ⟨rfl, rfl⟩, Lst.nil _ _ _, hb⟩
  | true =>
    refine (dlenc_yes A B w h hB hf hr).mono ?_
    rintro e w' ⟨x, cs, rfl, h1, h2, h3⟩
    exact ⟨x, cs, rfl, .inl ⟨rfl, h1⟩, h2, h3⟩
end Go.Proofs.Ytkdgoopldaoihaa
