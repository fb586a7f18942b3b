/-
  Encode of package layout, by its contracts. No claim of its own.
-/
import Derived.Test.YtdpaofedepnnbaaGreatFb
import Derived.Test.YtdpaofedepnnbaaGreatLyB
import Derived.Test.YtdpaofedepnnbaaGreatBitsD
namespace Go.Proofs.YtdpaofedepnnbaaGreat
open Go.RowKit Go.Deep Go.Shelf
set_option linter.unusedVariables false
set_option linter.unusedSimpArgs false

theorem st_take {L : List SgT} {k : Nat} (h : k < L.length) : L.take (k + 1) = L.take k ++ [st L k] := by
  have e : st L k = L[k] := by simp [st, List.getD, h]
  rw [List.take_succ_eq_append_getElem h, e]
theorem ct_take {L : List ChT} {k : Nat} (h : k < L.length) : L.take (k + 1) = L.take k ++ [ct L k] := by
  have e : ct L k = L[k] := by simp [ct, List.getD, h]
  rw [List.take_succ_eq_append_getElem h, e]
def fSgT (L : List SgT) : List (Nat × Nat) := L.flatMap fun s => fSg s.x
def fChT (L : List ChT) : List (Nat × Nat) := L.flatMap fun c => fCh c.u
theorem fSgT_x (L : List SgT) : fSgT L = (sgx L).flatMap fSg := by simp [fSgT, sgx, List.flatMap_map]
theorem fChT_x (L : List ChT) : fChT L = (chx L).flatMap fCh := by simp [fChT, chx, List.flatMap_map]
theorem fSgT_take {L : List SgT} {k : Nat} (h : k < L.length) : fSgT (L.take (k + 1)) = fSgT (L.take k) ++ ((20, (st L k).f) :: (2, (st L k).ch.length - 1) :: fChT (st L k).ch) := by
  rw [st_take h]
  simp only [fSgT, List.flatMap_append, List.flatMap_cons, List.flatMap_nil, List.append_nil]
  congr 1
  simp only [fSg, SgT.x, fChT_x, chx_length]
theorem fChT_take {L : List ChT} {k : Nat} (h : k < L.length) : fChT (L.take (k + 1)) = fChT (L.take k) ++ fCh (ct L k).u := by
  rw [ct_take h]
  simp [fChT, List.flatMap_append]
/-- segments of a valid layout -/
structure SgV (L : List SgT) : Prop where
  n : 1 ≤ L.length ∧ L.length ≤ 4
  sg : ∀ k, k < L.length → (st L k).f < 1048576 ∧ (1 ≤ (st L k).ch.length ∧ (st L k).ch.length ≤ 4) ∧ ∀ j, j < (st L k).ch.length → (1 ≤ (ct (st L k).ch j).u.length ∧ (ct (st L k).ch j).u.length ≤ 4) ∧ ∀ u ∈ (ct (st L k).ch j).u, 0 ≤ u ∧ u < 32
theorem SgV.of {A : LyT} (h : lright A.x = true) : SgV A.sg := by
  obtain ⟨_, _, h3⟩ := lright_iff.1 h
  obtain ⟨h4, _, h5, _⟩ := sgOk_iff.1 h3
  have hx : A.x.s = sgx A.sg := rfl
  rw [hx, sgx_length] at h4 h5
  refine ⟨h4, fun k hk => ?_⟩
  obtain ⟨h6, h7⟩ := h5 k hk
  rw [sx_sgx] at h6 h7
  obtain ⟨g1, g2, g3, _⟩ := chOk_iff.1 h7
  have hy : (st A.sg k).x.2 = chx (st A.sg k).ch := rfl
  rw [hy] at g1 g2 g3
  rw [chx_length] at g1
  refine ⟨h6, g1, fun j hj => ?_⟩
  have hm : (ct (st A.sg k).ch j).u ∈ chx (st A.sg k).ch := List.mem_map_of_mem (ct_mem hj)
  exact ⟨g2 _ hm, fun u hu => g3 u (List.mem_flatten.2 ⟨_, hm, hu⟩)⟩
theorem fChT_len {L : List ChT} (h : ∀ j, j < L.length → (ct L j).u.length ≤ 4) : (fChT L).length ≤ L.length * 5 := by
  refine fflat_le fun c hc => ?_
  obtain ⟨j, hj, rfl⟩ := List.getElem_of_mem hc
  have := h j hj
  have e : ct L j = L[j] := by simp [ct, List.getD, hj]
  rw [e] at this
  rw [fCh_len]
  omega
theorem ct_take_lt {L : List ChT} {j k : Nat} (h : j < k) : ct (L.take k) j = ct L j := by
  simp [ct, List.getD, List.getElem?_take, h]
theorem fChT_tlen {L : List ChT} (h : ∀ j, j < L.length → (ct L j).u.length ≤ 4) (k : Nat) : (fChT (L.take k)).length ≤ L.length * 5 := by
  have := fChT_len (L := L.take k) (fun j hj => by
    rw [List.length_take] at hj
    rw [ct_take_lt (by omega)]
    exact h j (by omega))
  rw [List.length_take] at this
  omega
theorem SgV.tlen {L : List SgT} (h : SgV L) : ∀ k, k ≤ L.length → (fSgT (L.take k)).length ≤ k * 22
  | 0, _ => by simp [fSgT]
  | k + 1, hk => by
    have ih := h.tlen k (by omega)
    obtain ⟨_, h2, h3⟩ := h.sg k (by omega)
    have := fChT_len (L := (st L k).ch) (fun j hj => by have := (h3 j hj).1; omega)
    rw [fSgT_take (by omega), List.length_append]
    simp only [List.length_cons]
    omega

set_option maxHeartbeats 1000000 in
theorem lenc_no (A : LyT) (B : Nat) (w : World) (h : LyIn w B A) (hB : B ≤ w.heap.size) (hf : SgFit A.sg) (hr : lright A.x = false) :
    Calls Tryz.prog 24 #[A.val] w fun e w' => e = .returned (.tuple #[.slice none 0 0, .int .i64 91]) ∧ Below w.heap.size w w' := by
  obtain ⟨W, HWW⟩ : ∃ W, Hid (w.alloc (.cells #[.int .u64 (A.e : Int), .slice A.a A.sg.length A.c, .int .i64 A.q] 38) = W) := ⟨_, Lib.hid rfl⟩
  have hWb : Below w.heap.size w W := by rw [← HWW.out]; exact (Below.refl _ _).alloc (Nat.le_refl _) _
  have HR := Lib.hid (lright_any A B W (h.below hWb hB) (Nat.le_trans hB hWb.size) hf)
  rw [hr] at HR
  have HB := Lib.hid hWb
  obtain ⟨ep, a, c, L, q⟩ := A
  simp only [LyT.val] at *
  generalize L.length = n at *
  clear hWb h hB hf hr
  go_enter Tryz.func24, Tryz.ntmps24
  go_upto_region 1 with fail
  rw [HWW.out]
  have o1 : Own W w.heap.size 38 [.int .u64 (ep : Int), .slice a n c, .int .i64 q] := by rw [← HWW.out]; exact Own.new w _ _
  have c0 := o1.cell 0
  have c1 := o1.cell 1
  have c2 := o1.cell 2
  have hz := o1.lt
  simp at c0 c1 c2
  clear o1
  go_wp2_with fail
  refine HR.out.mono ?_
  rintro e w1 ⟨rfl, hb⟩
  have HB1 := Lib.hid (HB.out.trans (hb.mono HB.out.size))
  clear hb
  go_wp2_with fail
  go_ret2
  exact ⟨rfl, HB1.out⟩

set_option maxHeartbeats 4000000 in
set_option maxRecDepth 100000 in
theorem lenc_yes (A : LyT) (B : Nat) (w : World) (h : LyIn w B A) (hB : B ≤ w.heap.size) (hf : SgFit A.sg) (hr : lright A.x = true) :
    Calls Tryz.prog 24 #[A.val] w fun e w' => ∃ (g : Nat) (cs : List UInt8), e = .returned (.tuple #[.slice (some ⟨g, 0, none⟩) cs.length cs.length, .int .i64 0]) ∧ w.heap.size ≤ g ∧ IsLE A.x cs ∧ Own w' g 5 (u8s cs) ∧ Below w.heap.size w w' := by
  obtain ⟨W, HWW⟩ : ∃ W, Hid (w.alloc (.cells #[.int .u64 (A.e : Int), .slice A.a A.sg.length A.c, .int .i64 A.q] 38) = W) := ⟨_, Lib.hid rfl⟩
  have hWb : Below w.heap.size w W := by rw [← HWW.out]; exact (Below.refl _ _).alloc (Nat.le_refl _) _
  have HR := Lib.hid (lright_any A B W (h.below hWb hB) (Nat.le_trans hB hWb.size) hf)
  rw [hr] at HR
  have HV := Lib.hid (SgV.of hr)
  have HOK := Lib.hid (fLy_ok hr)
  have HLN := Lib.hid (fLy_len hr)
  obtain ⟨⟨_, he2⟩, ⟨hq0, hq1⟩, _⟩ := lright_iff.1 hr
  have hxe : A.x.e = A.e := rfl
  have hxq : A.x.q = A.q := rfl
  rw [hxe] at he2
  rw [hxq] at hq0 hq1
  have HF : Hid (fLy A.x = [(21, A.e), (5, A.q.toNat), (2, A.sg.length - 1)] ++ fSgT A.sg) := Lib.hid (by
    have e1 : A.x.s = sgx A.sg := rfl
    unfold fLy
    rw [e1, sgx_length, fSgT_x]
    rfl)
  have HB := Lib.hid hWb
  have HIN := Lib.hid h
  have HBw := Lib.hid hB
  obtain ⟨x, hx⟩ : ∃ x, A.x = x := ⟨_, rfl⟩
  rw [hx] at HOK HLN HF ⊢
  obtain ⟨ep, a, c, L, q⟩ := A
  simp only [LyT.val] at *
  have HN4 := Lib.hid HV.out.n
  generalize hN : L.length = n at *
  have HN := Lib.hid hN
  have o1 : Own W w.heap.size 38 [.int .u64 (ep : Int), .slice a n c, .int .i64 q] := by rw [← HWW.out]; exact Own.new w _ _
  have c0 := o1.cell 0
  have c1 := o1.cell 1
  have c2 := o1.cell 2
  have hz := o1.lt
  simp at c0 c1 c2
  obtain ⟨qn, rfl⟩ := Int.eq_ofNat_of_zero_le hq0
  rw [Int.toNat_natCast] at HF
  have eq1 : IntKind.u64.wrap (qn : Int) = (qn : Int) := wrap_u64_nat qn (by omega)
  have HO := Lib.hid o1
  have hn4 : (n : Int) ≤ 4 := by have := HN4.out; omega
  clear hWb h hB hf hr o1 hxe hxq he2 hq0 hq1 hx hN
  go_enter Tryz.func24, Tryz.ntmps24
  go_upto_region 1 with fail
  rw [HWW.out]
  go_wp2_with fail
  refine HR.out.mono ?_
  rintro e w1 ⟨rfl, hb⟩
  have HB1 := Lib.hid (HB.out.trans (hb.mono HB.out.size))
  have HO1 := Lib.hid (HO.out.below hb HO.out.lt)
  have hz1 := HO1.out.lt
  clear hb c0 c1 c2 hz
  go_upto_region 4 with fail
  obtain ⟨g, hg⟩ : ∃ g, w1.heap.size = g := ⟨_, rfl⟩
  obtain ⟨W2, hW2⟩ : ∃ W2, w1.alloc (.cells #[.slice none 0 0, .slice none 0 0] 111) = W2 := ⟨_, rfl⟩
  have HG : Hid (w.heap.size < g) := Lib.hid (by rw [← hg]; exact HO1.out.lt)
  have HS2 : Hid (W2.heap.size = g + 1) := Lib.hid (by rw [← hW2, ← hg]; simp)
  have HX0 : Hid (Fst W2 111 (g + 1) g []) := Lib.hid (by rw [← hW2, ← hg]; exact Fst.new w1 _ _)
  have HB2 : Hid (Below w.heap.size w W2) := Lib.hid (by rw [← hW2]; exact HB1.out.alloc HB1.out.size _)
  have HO2 : Hid (Own W2 w.heap.size 38 [.int .u64 (ep : Int), .slice a n c, .int .i64 (qn : Int)]) := Lib.hid (by rw [← hW2]; exact HO1.out.alloc _)
  rw [hW2, hg]
  clear hW2 hg hz1
  have d0 := HO2.out.cell 0
  simp at d0
  go_wp2_with fail
  refine (ladd_any [] (g + 1) g ep 21 W2 HX0.out (by simp) (by rw [HS2.out]; exact Nat.le_refl _)).mono ?_
  rintro e w3 ⟨rfl, hx3, hc3⟩
  have HX3 := Lib.hid hx3
  have HC3 := Lib.hid hc3
  have HO3 := Lib.hid (HO2.out.fcl hc3 (by have := HG.out; omega) (by have := HG.out; omega))
  have d2 := HO3.out.cell 2
  simp at d2
  clear hx3 hc3 d0
  go_wp2_with fail
  refine (ladd_any _ (g + 1) g qn 5 w3 HX3.out (by simp) (by have := HS2.out; have := HC3.out.size; omega)).mono ?_
  rintro e w4 ⟨rfl, hx4, hc4⟩
  have HX4 := Lib.hid hx4
  have HC4 := Lib.hid (HC3.out.trans hc4)
  have HO4 := Lib.hid (HO3.out.fcl hc4 (by have := HG.out; omega) (by have := HG.out; omega))
  have d1 := HO4.out.cell 1
  simp at d1
  clear hx4 hc4 d2
  go_wp2_with fail
  refine (lcount_any _ (g + 1) g n w4 HX4.out (by simp) (by have := HS2.out; have := HC4.out.size; omega) (by have := HN4.out; omega)).mono ?_
  rintro e w5 ⟨rfl, hx5, hc5⟩
  have HX5 : Hid (Fst w5 111 (g + 1) g ([(21, ep), (5, qn), (2, n - 1)] ++ fSgT (L.take 0))) := Lib.hid (by simpa [fSgT] using hx5)
  have HC5 := Lib.hid (HC4.out.trans hc5)
  have HO5 := Lib.hid (HO4.out.fcl hc5 (by have := HG.out; omega) (by have := HG.out; omega))
  have d1' := HO5.out.cell 1
  simp at d1'
  clear hx5 hc5 d1
  obtain ⟨F0, hF0⟩ : ∃ F0, [(21, ep), (5, qn), (2, n - 1)] = F0 := ⟨_, rfl⟩
  rw [hF0] at HX5 HF
  have HF0 : Hid (F0.length = 3) := Lib.hid (by rw [← hF0]; rfl)
  clear hF0
  go_wp2_with fail
  go_loopw [28] (fun i wr => ∃ k : Nat, k ≤ n ∧ i = .int .i64 (k : Int) ∧ Hid (Fst wr 111 (g + 1) g (F0 ++ fSgT (L.take k))) ∧ Hid (Fc (g + 1) g W2 wr)) (fun i _ => n - (intOf i).toNat)
  case atStart => exact ⟨0, Nat.zero_le _, rfl, HX5, HC5⟩
  case round =>
    obtain ⟨k, hk, rfl, HX, HC⟩ := hrel
    rename World => w6
    have HSZ : Hid (g + 1 ≤ w6.heap.size) := Lib.hid (by have := HC.out.size; have := HS2.out; omega)
    have HBK : Hid (Below w.heap.size w w6) := Lib.hid (HB2.out.trans (HC.out.below HB2.out.size (by have := HG.out; omega) (by have := HG.out; omega)))
    by_cases hlt : k < n
    · have hkL : k < L.length := by rw [HN.out]; exact hlt
      obtain ⟨b, off, rfl, hb, hc⟩ := (HIN.out.1.below HBK.out HBw.out).sg (show 0 < L.length by omega)
      obtain ⟨e1, e2⟩ := hc k hkL
      clear hc
      have hk0 : (0 : Int) ≤ (k : Int) := by omega
      have hk1 : (k : Int) < (n : Int) := by omega
      have HT := Lib.hid (fSgT_take hkL)
      have HVk := Lib.hid (HV.out.sg k hkL)
      have HLk := Lib.hid (HV.out.tlen k (by omega))
      have HI2 := Lib.hid (HIN.out.2 _ (st_mem hkL))
      generalize st L k = sg at *
      obtain ⟨fk, ca, cc, M⟩ := sg
      simp only at e1 e2 HT HVk HI2
      obtain ⟨m, hm⟩ : ∃ m, M.length = m := ⟨_, rfl⟩
      rw [hm] at e2 HT HVk
      have HM := Lib.hid hm
      have hm4 : (m : Int) ≤ 4 := by have := HVk.out.2.1; omega
      clear hm
      go_upto_region 10 with fail
      obtain ⟨gs, hgs⟩ : ∃ gs, w6.heap.size = gs := ⟨_, rfl⟩
      obtain ⟨W7, hW7⟩ : ∃ W7, w6.alloc (.cells #[.int .u64 (fk : Int), .slice ca m cc] 102) = W7 := ⟨_, rfl⟩
      have HGS : Hid (g + 1 ≤ gs) := Lib.hid (by have := HSZ.out; omega)
      have HX7 : Hid (Fst W7 111 (g + 1) g (F0 ++ fSgT (L.take k))) := Lib.hid (by rw [← hW7]; exact HX.out.alloc _)
      have HC7 : Hid (Fc (g + 1) g W2 W7) := Lib.hid (by rw [← hW7]; exact HC.out.alloc _)
      have HO7 : Hid (Own W7 gs 102 [.int .u64 (fk : Int), .slice ca m cc]) := Lib.hid (by rw [← hW7, ← hgs]; exact Own.new w6 _ _)
      rw [hW7, hgs]
      clear hW7 hgs e1 e2
      have q0 := HO7.out.cell 0
      simp at q0
      go_wp2_with fail
      refine (ladd_any _ (g + 1) g fk 20 W7 HX7.out (by rw [List.length_append, HF0.out]; have := HLk.out; omega) (by have := HO7.out.lt; have := HGS.out; omega)).mono ?_
      rintro e w8 ⟨rfl, hx8, hc8⟩
      have HX8 := Lib.hid hx8
      have HC8 := Lib.hid (HC7.out.trans hc8)
      have HO8 := Lib.hid (HO7.out.fc hc8 (by have := HGS.out; omega) (by decide) (by decide))
      have q1 := HO8.out.cell 1
      simp at q1
      clear hx8 hc8 q0
      go_wp2_with fail
      refine (lcount_any _ (g + 1) g m w8 HX8.out (by rw [List.length_append, List.length_append, HF0.out]; have := HLk.out; simp; omega) (by have := HO8.out.lt; have := HGS.out; omega) (by have := HVk.out.2.1; omega)).mono ?_
      rintro e w9 ⟨rfl, hx9, hc9⟩
      obtain ⟨F1, hF1⟩ : ∃ F1, F0 ++ fSgT (L.take k) ++ [(20, fk), (2, m - 1)] = F1 := ⟨_, rfl⟩
      have HX9 : Hid (Fst w9 111 (g + 1) g (F1 ++ fChT (M.take 0))) := Lib.hid (by rw [← hF1]; simpa [fChT] using hx9)
      have HF1 := Lib.hid hF1
      have HL1 : Hid (F1.length ≤ 100) := Lib.hid (by rw [← hF1, List.length_append, List.length_append, HF0.out]; have := HLk.out; simp; omega)
      have HC9 := Lib.hid (HC8.out.trans hc9)
      have HO9 := Lib.hid (HO8.out.fc hc9 (by have := HGS.out; omega) (by decide) (by decide))
      have q1' := HO9.out.cell 1
      simp at q1'
      clear hx9 hc9 q1 hF1
      go_wp2_with fail
      go_loopw [42] (fun i wr => ∃ j : Nat, j ≤ m ∧ i = .int .i64 (j : Int) ∧ Hid (Fst wr 111 (g + 1) g (F1 ++ fChT (M.take j))) ∧ Hid (Fc (g + 1) g W2 wr)) (fun i _ => m - (intOf i).toNat)
      case atStart => exact ⟨0, Nat.zero_le _, rfl, HX9, HC9⟩
      case round =>
        obtain ⟨j, hj, rfl, HXj, HCj⟩ := hrel
        rename World => w10
        have HSj : Hid (g + 1 ≤ w10.heap.size) := Lib.hid (by have := HCj.out.size; have := HS2.out; omega)
        have HBj : Hid (Below w.heap.size w w10) := Lib.hid (HB2.out.trans (HCj.out.below HB2.out.size (by have := HG.out; omega) (by have := HG.out; omega)))
        by_cases hlt2 : j < m
        · have hjL : j < M.length := by rw [HM.out]; exact hlt2
          obtain ⟨b2, off2, rfl, hb2, hc2⟩ := (HI2.out.1.below HBj.out HBw.out).ch (show 0 < M.length by omega)
          have e1 := hc2 j hjL
          clear hc2
          have hj0 : (0 : Int) ≤ (j : Int) := by omega
          have hj1 : (j : Int) < (m : Int) := by omega
          have HTj := Lib.hid (fChT_take hjL)
          have HVj := Lib.hid (HVk.out.2.2 j hlt2)
          have HFj : Hid ((F1 ++ fChT (M.take j)).length ≤ 900) := Lib.hid (by
            have := fChT_tlen (L := M) (fun i hi => (HVk.out.2.2 i (by rw [← HM.out]; exact hi)).1.2) j
            rw [List.length_append]
            have := HL1.out
            have := HM.out
            omega)
          have HIj := Lib.hid (HI2.out.2 _ (ct_mem hjL))
          generalize ct M j = cm at *
          obtain ⟨a3, c3, u3⟩ := cm
          simp only at e1 HTj HVj HIj
          have HCH := Lib.hid (lchain_any _ (g + 1) g u3 a3 c3 B w10 HXj.out HFj.out HSj.out (HIj.out.below HBj.out HBw.out) (by have := HBw.out; have := HG.out; omega) (by have := HBw.out; have := HG.out; omega) HVj.out.1 HVj.out.2)
          generalize u3.length = n3 at *
          go_wp2_with fail
          refine HCH.out.mono ?_
          rintro e w11 ⟨rfl, hx, hc⟩
          have HX11 := Lib.hid hx
          have HC11 := Lib.hid (HCj.out.trans hc)
          clear hx hc
          go_wp2_with fail
          go_roundw
          case rel => exact ⟨j + 1, by omega, by go_num, Lib.hid (by rw [HTj.out, ← List.append_assoc]; exact HX11.out), HC11⟩
          case measure => simp [intOf]; omega
        · obtain rfl : j = m := by omega
          have hXj := HXj.out
          rw [List.take_of_length_le (by rw [HM.out]; exact Nat.le_refl _), ← HF1.out] at hXj
          have HXe : Hid (Fst w10 111 (g + 1) g (F0 ++ fSgT (L.take (k + 1)))) := Lib.hid (by rw [HT.out]; simpa using hXj)
          clear hXj
          go_wp2_with fail
          go_roundw
          case rel => exact ⟨k + 1, by omega, by go_num, HXe, HCj⟩
          case measure => simp [intOf]; omega
    · obtain rfl : k = n := by omega
      have hX := HX.out
      rw [List.take_of_length_le (by rw [HN.out]; exact Nat.le_refl _), ← HF.out] at hX
      obtain ⟨v1, v2, h1, h2, h3⟩ := hX
      have q0 := h1.cell 0
      have q1 := h1.cell 1
      have hzg := h1.lt
      simp at q0 q1
      obtain ⟨a1, cc1, rfl, r1, _, _⟩ := h2.form
      obtain ⟨a2, cc2, rfl, r2, _, _⟩ := h3.form
      have HP := Lib.hid (pack_yes (fw (fLy x)) (fv (fLy x)) a1 a2 cc1 cc2 w6.heap.size w6 r1 r2 (Nat.le_refl _) (by rw [fw_length]; have := HLN.out; omega) HOK.out.pack)
      simp only [i64s_length, u64s_length, fw_length, fv_length] at q0 q1 HP
      generalize (fLy x).length = ln at *
      clear h1 h2 h3 r1 r2
      go_wp2_with fail
      refine HP.out.mono ?_
      rintro e w7 ⟨g7, cs, rfl, hg7, hpk, ho7, hb7⟩
      have HE := Lib.hid (And.intro hg7 (And.intro hpk (And.intro ho7 (HBK.out.trans (hb7.mono HBK.out.size)))))
      clear hg7 hpk ho7 hb7
      go_wp2_with fail
      go_ret2
      exact ⟨g7, cs, rfl, Nat.le_trans HBK.out.size HE.out.1, HE.out.2.1, HE.out.2.2.1, HE.out.2.2.2⟩
end Go.Proofs.YtdpaofedepnnbaaGreat
