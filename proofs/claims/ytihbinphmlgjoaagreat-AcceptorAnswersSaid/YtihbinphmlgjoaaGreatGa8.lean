/-
  Encode of package layout, by its contracts. No claim of its own.
-/
import Derived.Test.YtihbinphmlgjoaaGreatGa7
import Derived.Test.YtihbinphmlgjoaaGreatGa2
import Derived.Test.YtihbinphmlgjoaaGreatGa6
import Derived.Deep.Cut
import Derived.Deep.RegionHeld3
namespace Go.Proofs.YtihbinphmlgjoaaGreat
open Go.RowKit Go.Deep Go.Shelf
set_option linter.unusedVariables false
set_option linter.unusedSimpArgs false

theorem st_take {L : List SgT} {k : Nat} (h : k < L.length) : L.take (k + 1) = L.take k ++ [st L k] := by
  have e : st L k = L[k] := by simp [st, List.getD, h]
  rw [List.take_succ_eq_append_getElem h, e]
theorem ct_take {L : List ChT} {k : Nat} (h : k < L.length) : L.take (k + 1) = L.take k ++ [ct L k] := by
  have e : ct L k = L[k] := by simp [ct, List.getD, h]
  rw [List.take_succ_eq_append_getElem h, e]
def fSgT (L : List SgT) : List (Nat × Nat) := L.flatMap fun s => fSg s.x
def fChT (L : List ChT) : List (Nat × Nat) := L.flatMap fun c => fCh c.u
theorem fSgT_x (L : List SgT) : fSgT L = (sgx L).flatMap fSg := by simp [fSgT, sgx, List.flatMap_map]
theorem fChT_x (L : List ChT) : fChT L = (chx L).flatMap fCh := by simp [fChT, chx, List.flatMap_map]
theorem fSgT_take {L : List SgT} {k : Nat} (h : k < L.length) : fSgT (L.take (k + 1)) = fSgT (L.take k) ++ ((20, (st L k).f) :: (2, (st L k).ch.length - 1) :: fChT (st L k).ch) := by
  rw [st_take h]
  simp only [fSgT, List.flatMap_append, List.flatMap_cons, List.flatMap_nil, List.append_nil]
  congr 1
  simp only [fSg, SgT.x, fChT_x, chx_length]
theorem fChT_take {L : List ChT} {k : Nat} (h : k < L.length) : fChT (L.take (k + 1)) = fChT (L.take k) ++ fCh (ct L k).u := by
  rw [ct_take h]
  simp [fChT, List.flatMap_append]
/-- segments of a valid layout -/
structure SgV (L : List SgT) : Prop where
  n : 1 ≤ L.length ∧ L.length ≤ 4
  sg : ∀ k, k < L.length → (st L k).f < 1048576 ∧ (1 ≤ (st L k).ch.length ∧ (st L k).ch.length ≤ 4) ∧ ∀ j, j < (st L k).ch.length → (1 ≤ (ct (st L k).ch j).u.length ∧ (ct (st L k).ch j).u.length ≤ 4) ∧ ∀ u ∈ (ct (st L k).ch j).u, 0 ≤ u ∧ u < 32
theorem SgV.of {A : LyT} (h : lright A.x = true) : SgV A.sg := by
  obtain ⟨_, _, h3⟩ := lright_iff.1 h
  obtain ⟨h4, _, h5, _⟩ := sgOk_iff.1 h3
  have hx : A.x.s = sgx A.sg := rfl
  rw [hx, sgx_length] at h4 h5
  refine ⟨h4, fun k hk => ?_⟩
  obtain ⟨h6, h7⟩ := h5 k hk
  rw [sx_sgx] at h6 h7
  obtain ⟨g1, g2, g3, _⟩ := chOk_iff.1 h7
  have hy : (st A.sg k).x.2 = chx (st A.sg k).ch := rfl
  rw [hy] at g1 g2 g3
  rw [chx_length] at g1
  refine ⟨h6, g1, fun j hj => ?_⟩
  have hm : (ct (st A.sg k).ch j).u ∈ chx (st A.sg k).ch := List.mem_map_of_mem (ct_mem hj)
  exact ⟨g2 _ hm, fun u hu => g3 u (List.mem_flatten.2 ⟨_, hm, hu⟩)⟩
theorem fChT_len {L : List ChT} (h : ∀ j, j < L.length → (ct L j).u.length ≤ 4) : (fChT L).length ≤ L.length * 5 := by
  refine fflat_le fun c hc => ?_
  obtain ⟨j, hj, rfl⟩ := List.getElem_of_mem hc
  have := h j hj
  have e : ct L j = L[j] := by simp [ct, List.getD, hj]
  rw [e] at this
  rw [fCh_len]
  omega
theorem ct_take_lt {L : List ChT} {j k : Nat} (h : j < k) : ct (L.take k) j = ct L j := by
  simp [ct, List.getD, List.getElem?_take, h]
theorem fChT_tlen {L : List ChT} (h : ∀ j, j < L.length → (ct L j).u.length ≤ 4) (k : Nat) : (fChT (L.take k)).length ≤ L.length * 5 := by
  have := fChT_len (L := L.take k) (fun j hj => by
    rw [List.length_take] at hj
    rw [ct_take_lt (by omega)]
    exact h j (by omega))
  rw [List.length_take] at this
  omega
theorem SgV.tlen {L : List SgT} (h : SgV L) : ∀ k, k ≤ L.length → (fSgT (L.take k)).length ≤ k * 22
  | 0, _ => by simp [fSgT]
  | k + 1, hk => by
    have ih := h.tlen k (by omega)
    obtain ⟨_, h2, h3⟩ := h.sg k (by omega)
    have := fChT_len (L := (st L k).ch) (fun j hj => by have := (h3 j hj).1; omega)
    rw [fSgT_take (by omega), List.length_append]
    simp only [List.length_cons]
    omega

set_option maxHeartbeats 1000000 in
theorem lenc_no (A : LyT) (B : Nat) (w : World) (h : LyIn w B A) (hB : B ≤ w.heap.size) (hf : SgFit A.sg) (hr : lright A.x = false) :
    Calls Tryz.prog 116 #[A.val] w fun e w' => e = .returned (.tuple #[.slice none 0 0, .int .i64 91]) ∧ Below w.heap.size w w' := by
  obtain ⟨W, HWW⟩ : ∃ W, Hid (w.alloc (.cells #[.int .u64 (A.e : Int), .slice A.a A.sg.length A.c, .int .i64 A.q] 42) = W) := ⟨_, Lib.hid rfl⟩
  have hWb : Below w.heap.size w W := by rw [← HWW.out]; exact (Below.refl _ _).alloc (Nat.le_refl _) _
  have HR := Lib.hid (lright_any A B W (h.below hWb hB) (Nat.le_trans hB hWb.size) hf)
  rw [hr] at HR
  have HB := Lib.hid hWb
  obtain ⟨ep, a, c, L, q⟩ := A
  simp only [LyT.val] at *
  generalize L.length = n at *
  clear hWb h hB hf hr
  go_enter Tryz.func116, Tryz.ntmps116
  go_upto_region 1 with fail
  rw [HWW.out]
  have o1 : Own W w.heap.size 42 [.int .u64 (ep : Int), .slice a n c, .int .i64 q] := by rw [← HWW.out]; exact Own.new w _ _
  have c0 := o1.cell 0
  have c1 := o1.cell 1
  have c2 := o1.cell 2
  have hz := o1.lt
  simp at c0 c1 c2
  clear o1
  go_wp2_with fail
  refine HR.out.mono ?_
  rintro e w1 ⟨rfl, hb⟩
  have HB1 := Lib.hid (HB.out.trans (hb.mono HB.out.size))
  clear hb
  go_wp2_with fail
  go_ret2
  exact ⟨rfl, HB1.out⟩

set_option maxHeartbeats 4000000 in
set_option maxRecDepth 100000 in
theorem lenc_yes (A : LyT) (B : Nat) (w : World) (h : LyIn w B A) (hB : B ≤ w.heap.size) (hf : SgFit A.sg) (hr : lright A.x = true) :
    Calls Tryz.prog 116 #[A.val] w fun e w' => ∃ (g : Nat) (cs : List UInt8), e = .returned (.tuple #[.slice (some ⟨g, 0, none⟩) cs.length cs.length, .int .i64 0]) ∧ w.heap.size ≤ g ∧ IsLE A.x cs ∧ Own w' g 5 (u8s cs) ∧ Below w.heap.size w w' := by
  obtain ⟨W, HWW⟩ : ∃ W, Hid (w.alloc (.cells #[.int .u64 (A.e : Int), .slice A.a A.sg.length A.c, .int .i64 A.q] 42) = W) := ⟨_, Lib.hid rfl⟩
  have hWb : Below w.heap.size w W := by rw [← HWW.out]; exact (Below.refl _ _).alloc (Nat.le_refl _) _
  have HR := Lib.hid (lright_any A B W (h.below hWb hB) (Nat.le_trans hB hWb.size) hf)
  rw [hr] at HR
  have HV := Lib.hid (SgV.of hr)
  have HOK := Lib.hid (fLy_ok hr)
  have HLN := Lib.hid (fLy_len hr)
  obtain ⟨⟨_, he2⟩, ⟨hq0, hq1⟩, _⟩ := lright_iff.1 hr
  have hxe : A.x.e = A.e := rfl
  have hxq : A.x.q = A.q := rfl
  rw [hxe] at he2
  rw [hxq] at hq0 hq1
  have HF : Hid (fLy A.x = [(21, A.e), (5, A.q.toNat), (2, A.sg.length - 1)] ++ fSgT A.sg) := Lib.hid (by
    have e1 : A.x.s = sgx A.sg := rfl
    unfold fLy
    rw [e1, sgx_length, fSgT_x]
    rfl)
  have HB := Lib.hid hWb
  have HIN := Lib.hid h
  have HBw := Lib.hid hB
  obtain ⟨x, hx⟩ : ∃ x, A.x = x := ⟨_, rfl⟩
  rw [hx] at HOK HLN HF ⊢
  obtain ⟨ep, a, c, L, q⟩ := A
  simp only [LyT.val] at *
  have HN4 := Lib.hid HV.out.n
  generalize hN : L.length = n at *
  have HN := Lib.hid hN
  have o1 : Own W w.heap.size 42 [.int .u64 (ep : Int), .slice a n c, .int .i64 q] := by rw [← HWW.out]; exact Own.new w _ _
  have c0 := o1.cell 0
  have c1 := o1.cell 1
  have c2 := o1.cell 2
  have hz := o1.lt
  simp at c0 c1 c2
  obtain ⟨qn, rfl⟩ := Int.eq_ofNat_of_zero_le hq0
  rw [Int.toNat_natCast] at HF
  have eq1 : IntKind.u64.wrap (qn : Int) = (qn : Int) := wrap_u64_nat qn (by omega)
  have HO := Lib.hid o1
  have hn4 : (n : Int) ≤ 4 := by have := HN4.out; omega
  clear hWb h hB hf hr o1 hxe hxq he2 hq0 hq1 hx hN
  go_enter Tryz.func116, Tryz.ntmps116
  go_upto_region 1 with fail
  rw [HWW.out]
  go_wp2_with fail
  refine HR.out.mono ?_
  rintro e w1 ⟨rfl, hb⟩
  have HB1 := Lib.hid (HB.out.trans (hb.mono HB.out.size))
  have HO1 := Lib.hid (HO.out.below hb HO.out.lt)
  have hz1 := HO1.out.lt
  clear hb c0 c1 c2 hz
  go_upto_region 4 with fail
  obtain ⟨g, hg⟩ : ∃ g, w1.heap.size = g := ⟨_, rfl⟩
  obtain ⟨W2, hW2⟩ : ∃ W2, w1.alloc (.cells #[.slice none 0 0, .slice none 0 0] 231) = W2 := ⟨_, rfl⟩
  have HG : Hid (w.heap.size < g) := Lib.hid (by rw [← hg]; exact HO1.out.lt)
  have HS2 : Hid (W2.heap.size = g + 1) := Lib.hid (by rw [← hW2, ← hg]; simp)
  have HX0 : Hid (Fst W2 231 (g + 1) g []) := Lib.hid (by rw [← hW2, ← hg]; exact Fst.new w1 _ _)
  have HB2 : Hid (Below w.heap.size w W2) := Lib.hid (by rw [← hW2]; exact HB1.out.alloc HB1.out.size _)
  have HO2 : Hid (Own W2 w.heap.size 42 [.int .u64 (ep : Int), .slice a n c, .int .i64 (qn : Int)]) := Lib.hid (by rw [← hW2]; exact HO1.out.alloc _)
  rw [hW2, hg]
  clear hW2 hg hz1
  have d0 := HO2.out.cell 0
  simp at d0
  go_wp2_with fail
  refine (ladd_any [] (g + 1) g ep 21 W2 HX0.out (by simp) (by rw [HS2.out]; exact Nat.le_refl _)).mono ?_
  rintro e w3 ⟨rfl, hx3, hc3⟩
  have HX3 := Lib.hid hx3
  have HC3 := Lib.hid hc3
  have HO3 := Lib.hid (HO2.out.fcl hc3 (by have := HG.out; omega) (by have := HG.out; omega))
  have d2 := HO3.out.cell 2
  simp at d2
  clear hx3 hc3 d0
  go_wp2_with fail
  refine (ladd_any _ (g + 1) g qn 5 w3 HX3.out (by simp) (by have := HS2.out; have := HC3.out.size; omega)).mono ?_
  rintro e w4 ⟨rfl, hx4, hc4⟩
  have HX4 := Lib.hid hx4
  have HC4 := Lib.hid (HC3.out.trans hc4)
  have HO4 := Lib.hid (HO3.out.fcl hc4 (by have := HG.out; omega) (by have := HG.out; omega))
  have d1 := HO4.out.cell 1
  simp at d1
  clear hx4 hc4 d2
  go_wp2_with fail
  refine (lcount_any _ (g + 1) g n w4 HX4.out (by simp) (by have := HS2.out; have := HC4.out.size; omega) (by have := HN4.out; omega)).mono ?_
  rintro e w5 ⟨rfl, hx5, hc5⟩
  have HX5 : Hid (Fst w5 231 (g + 1) g ([(21, ep), (5, qn), (2, n - 1)] ++ fSgT (L.take 0))) := Lib.hid (by simpa [fSgT] using hx5)
  have HC5 := Lib.hid (HC4.out.trans hc5)
  have HO5 := Lib.hid (HO4.out.fcl hc5 (by have := HG.out; omega) (by have := HG.out; omega))
  have d1' := HO5.out.cell 1
  simp at d1'
  clear hx5 hc5 d1
  obtain ⟨F0, hF0⟩ : ∃ F0, [(21, ep), (5, qn), (2, n - 1)] = F0 := ⟨_, rfl⟩
  rw [hF0] at HX5 HF
  have HF0 : Hid (F0.length = 3) := Lib.hid (by rw [← hF0]; rfl)
  clear hF0
  go_wp2_with fail
  go_loopw [28] (fun i wr => ∃ k : Nat, k ≤ n ∧ i = .int .i64 (k : Int) ∧ Hid (Fst wr 231 (g + 1) g (F0 ++ fSgT (L.take k))) ∧ Hid (Fc (g + 1) g W2 wr)) (fun i _ => n - (Go.RowKit.intOf i).toNat)
  case atStart => exact ⟨0, Nat.zero_le _, rfl, HX5, HC5⟩
  case round =>
    obtain ⟨k, hk, rfl, HX, HC⟩ := hrel
    rename World => w6
    have HSZ : Hid (g + 1 ≤ w6.heap.size) := Lib.hid (by have := HC.out.size; have := HS2.out; omega)
    have HBK : Hid (Below w.heap.size w w6) := Lib.hid (HB2.out.trans (HC.out.below HB2.out.size (by have := HG.out; omega) (by have := HG.out; omega)))
    by_cases hlt : k < n
    · have hkL : k < L.length := by rw [HN.out]; exact hlt
      obtain ⟨b, off, rfl, hb, hc⟩ := (HIN.out.1.below HBK.out HBw.out).sg (show 0 < L.length by omega)
      obtain ⟨e1, e2⟩ := hc k hkL
      clear hc
      have hk0 : (0 : Int) ≤ (k : Int) := by omega
      have hk1 : (k : Int) < (n : Int) := by omega
      have HT := Lib.hid (fSgT_take hkL)
      have HVk := Lib.hid (HV.out.sg k hkL)
      have HLk := Lib.hid (HV.out.tlen k (by omega))
      have HI2 := Lib.hid (HIN.out.2 _ (st_mem hkL))
      generalize st L k = sg at *
      obtain ⟨fk, ca, cc, M⟩ := sg
      simp only at e1 e2 HT HVk HI2
      obtain ⟨m, hm⟩ : ∃ m, M.length = m := ⟨_, rfl⟩
      rw [hm] at e2 HT HVk
      have HM := Lib.hid hm
      have hm4 : (m : Int) ≤ 4 := by have := HVk.out.2.1; omega
      clear hm
      go_upto_region 10 with fail
      obtain ⟨gs, hgs⟩ : ∃ gs, w6.heap.size = gs := ⟨_, rfl⟩
      obtain ⟨W7, hW7⟩ : ∃ W7, w6.alloc (.cells #[.int .u64 (fk : Int), .slice ca m cc] 80) = W7 := ⟨_, rfl⟩
      have HGS : Hid (g + 1 ≤ gs) := Lib.hid (by have := HSZ.out; omega)
      have HX7 : Hid (Fst W7 231 (g + 1) g (F0 ++ fSgT (L.take k))) := Lib.hid (by rw [← hW7]; exact HX.out.alloc _)
      have HC7 : Hid (Fc (g + 1) g W2 W7) := Lib.hid (by rw [← hW7]; exact HC.out.alloc _)
      have HO7 : Hid (Own W7 gs 80 [.int .u64 (fk : Int), .slice ca m cc]) := Lib.hid (by rw [← hW7, ← hgs]; exact Own.new w6 _ _)
      rw [hW7, hgs]
      clear hW7 hgs e1 e2
      have q0 := HO7.out.cell 0
      simp at q0
      go_wp2_with fail
      refine (ladd_any _ (g + 1) g fk 20 W7 HX7.out (by rw [List.length_append, HF0.out]; have := HLk.out; omega) (by have := HO7.out.lt; have := HGS.out; omega)).mono ?_
      rintro e w8 ⟨rfl, hx8, hc8⟩
      have HX8 := Lib.hid hx8
      have HC8 := Lib.hid (HC7.out.trans hc8)
      have HO8 := Lib.hid (HO7.out.fc hc8 (by have := HGS.out; omega) (by decide) (by decide))
      have q1 := HO8.out.cell 1
      simp at q1
      clear hx8 hc8 q0
      go_wp2_with fail
      refine (lcount_any _ (g + 1) g m w8 HX8.out (by rw [List.length_append, List.length_append, HF0.out]; have := HLk.out; simp; omega) (by have := HO8.out.lt; have := HGS.out; omega) (by have := HVk.out.2.1; omega)).mono ?_
      rintro e w9 ⟨rfl, hx9, hc9⟩
      obtain ⟨F1, hF1⟩ : ∃ F1, F0 ++ fSgT (L.take k) ++ [(20, fk), (2, m - 1)] = F1 := ⟨_, rfl⟩
      have HX9 : Hid (Fst w9 231 (g + 1) g (F1 ++ fChT (M.take 0))) := Lib.hid (by rw [← hF1]; simpa [fChT] using hx9)
      have HF1 := Lib.hid hF1
      have HL1 : Hid (F1.length ≤ 100) := Lib.hid (by rw [← hF1, List.length_append, List.length_append, HF0.out]; have := HLk.out; simp; omega)
      have HC9 := Lib.hid (HC8.out.trans hc9)
      have HO9 := Lib.hid (HO8.out.fc hc9 (by have := HGS.out; omega) (by decide) (by decide))
      have q1' := HO9.out.cell 1
      simp at q1'
      clear hx9 hc9 q1 hF1
      go_wp2_with fail
      go_loopw [42] (fun i wr => ∃ j : Nat, j ≤ m ∧ i = .int .i64 (j : Int) ∧ Hid (Fst wr 231 (g + 1) g (F1 ++ fChT (M.take j))) ∧ Hid (Fc (g + 1) g W2 wr)) (fun i _ => m - (Go.RowKit.intOf i).toNat)
      case atStart => exact ⟨0, Nat.zero_le _, rfl, HX9, HC9⟩
      case round =>
        obtain ⟨j, hj, rfl, HXj, HCj⟩ := hrel
        rename World => w10
        have HSj : Hid (g + 1 ≤ w10.heap.size) := Lib.hid (by have := HCj.out.size; have := HS2.out; omega)
        have HBj : Hid (Below w.heap.size w w10) := Lib.hid (HB2.out.trans (HCj.out.below HB2.out.size (by have := HG.out; omega) (by have := HG.out; omega)))
        by_cases hlt2 : j < m
        · have hjL : j < M.length := by rw [HM.out]; exact hlt2
          obtain ⟨b2, off2, rfl, hb2, hc2⟩ := (HI2.out.1.below HBj.out HBw.out).ch (show 0 < M.length by omega)
          have e1 := hc2 j hjL
          clear hc2
          have hj0 : (0 : Int) ≤ (j : Int) := by omega
          have hj1 : (j : Int) < (m : Int) := by omega
          have HTj := Lib.hid (fChT_take hjL)
          have HVj := Lib.hid (HVk.out.2.2 j hlt2)
          have HFj : Hid ((F1 ++ fChT (M.take j)).length ≤ 900) := Lib.hid (by
            have := fChT_tlen (L := M) (fun i hi => (HVk.out.2.2 i (by rw [← HM.out]; exact hi)).1.2) j
            rw [List.length_append]
            have := HL1.out
            have := HM.out
            omega)
          have HIj := Lib.hid (HI2.out.2 _ (ct_mem hjL))
          generalize ct M j = cm at *
          obtain ⟨a3, c3, u3⟩ := cm
          simp only at e1 HTj HVj HIj
          have HCH := Lib.hid (lchain_any _ (g + 1) g u3 a3 c3 B w10 HXj.out HFj.out HSj.out (HIj.out.below HBj.out HBw.out) (by have := HBw.out; have := HG.out; omega) (by have := HBw.out; have := HG.out; omega) HVj.out.1 HVj.out.2)
          generalize u3.length = n3 at *
          go_wp2_with fail
          refine HCH.out.mono ?_
          rintro e w11 ⟨rfl, hx, hc⟩
          have HX11 := Lib.hid hx
          have HC11 := Lib.hid (HCj.out.trans hc)
          clear hx hc
          go_wp2_with fail
          go_roundw
          case rel => exact ⟨j + 1, by omega, by go_num, Lib.hid (by rw [HTj.out, ← List.append_assoc]; exact HX11.out), HC11⟩
          case measure => simp [Go.RowKit.intOf]; omega
        · obtain rfl : j = m := by omega
          have hXj := HXj.out
          rw [List.take_of_length_le (by rw [HM.out]; exact Nat.le_refl _), ← HF1.out] at hXj
          have HXe : Hid (Fst w10 231 (g + 1) g (F0 ++ fSgT (L.take (k + 1)))) := Lib.hid (by rw [HT.out]; simpa using hXj)
          clear hXj
          go_wp2_with fail
          go_roundw
          case rel => exact ⟨k + 1, by omega, by go_num, HXe, HCj⟩
          case measure => simp [Go.RowKit.intOf]; omega
    · obtain rfl : k = n := by omega
      have hX := HX.out
      rw [List.take_of_length_le (by rw [HN.out]; exact Nat.le_refl _), ← HF.out] at hX
      obtain ⟨v1, v2, h1, h2, h3⟩ := hX
      have q0 := h1.cell 0
      have q1 := h1.cell 1
      have hzg := h1.lt
      simp at q0 q1
      obtain ⟨a1, cc1, rfl, r1, _, _⟩ := h2.form
      obtain ⟨a2, cc2, rfl, r2, _, _⟩ := h3.form
      have HP := Lib.hid (pack_yes (fw (fLy x)) (fv (fLy x)) a1 a2 cc1 cc2 w6.heap.size w6 r1 r2 (Nat.le_refl _) (by rw [fw_length]; have := HLN.out; omega) HOK.out.pack)
      simp only [i64s_length, u64s_length, fw_length, fv_length] at q0 q1 HP
      generalize (fLy x).length = ln at *
      clear h1 h2 h3 r1 r2
      go_wp2_with fail
      refine HP.out.mono ?_
      rintro e w7 ⟨g7, cs, rfl, hg7, hpk, ho7, hb7⟩
      have HE := Lib.hid (And.intro hg7 (And.intro hpk (And.intro ho7 (HBK.out.trans (hb7.mono HBK.out.size)))))
      clear hg7 hpk ho7 hb7
      go_wp2_with fail
      go_ret2
      exact ⟨g7, cs, rfl, Nat.le_trans HBK.out.size HE.out.1, HE.out.2.1, HE.out.2.2.1, HE.out.2.2.2⟩
end Go.Proofs.YtihbinphmlgjoaaGreat
namespace Go.Proofs.YtihbinphmlgjoaaGreat
open Go.RowKit Go.Deep
set_option linter.unusedVariables false
set_option linter.unusedSimpArgs false

theorem getN_any (bs : List UInt8) (n : Nat) (a : Option Addr) (c B k m : Nat) (w : World) (hn : bs.length = n) (h : Ro w B a (u8s bs)) (hB : B ≤ w.heap.size) (hl : n ≤ 1000000) (hk : k ≤ 100000000) (hm : m ≤ 64) :
    Calls Tryz.prog 178 #[.slice a n c, .int .i64 (k : Int), .int .i64 (m : Int)] w fun e w' => ∃ ok, e = .returned (.tuple #[.int .u64 (tkN bs k m : Nat), .bool ok]) ∧ Below w.heap.size w w' := by
  subst hn
  by_cases hle : k + m ≤ 8 * bs.length
  · refine (get_yes bs a c B k m w h hB hl (by omega) (by omega) (by omega) (by omega)).mono ?_
    rintro e w' ⟨rfl, hb⟩
    exact ⟨true, by simp [tkN, hle], hb⟩
  · refine (get_no a bs.length c k m w hl (by omega) (by omega) (by omega)).mono ?_
    rintro e w' ⟨rfl, hb⟩
    exact ⟨false, by simp [tkN, hle], hb⟩

/-- bytes that are read from the k-th bit on: a struct in block s, of type T -/
def Src (w : World) (T : TypeId) (B s : Nat) (bs : List UInt8) (k : Nat) : Prop :=
  (∃ a c, Own w s T [.slice a bs.length c, .int .i64 (k : Int)] ∧ Ro w B a (u8s bs)) ∧ B ≤ s ∧ bs.length ≤ 1000000
theorem Src.lt {w : World} {T : TypeId} {B s : Nat} {bs : List UInt8} {k : Nat} (h : Src w T B s bs k) : s < w.heap.size := by
  obtain ⟨⟨a, c, h1, _⟩, _⟩ := h
  exact h1.lt
theorem Src.chg {w w' : World} {T : TypeId} {B s : Nat} {bs : List UInt8} {k : Nat} {l : List Nat} (h : Src w T B s bs k) (hc : Chg l w w') (hs : s ∉ l) (hl : ∀ x ∈ l, B ≤ x) : Src w' T B s bs k := by
  obtain ⟨⟨a, c, h1, h2⟩, h3, h4⟩ := h
  exact ⟨⟨a, c, h1.chg hc hs, h2.below (hc.below (Nat.le_trans h3 (Nat.le_of_lt h1.lt)) hl) (Nat.le_refl _)⟩, h3, h4⟩
theorem Src.new0 {w w' : World} {T : TypeId} {B s : Nat} {bs : List UInt8} {k : Nat} (h : Src w T B s bs k) (hc : Chg [] w w') : Src w' T B s bs k := h.chg hc (by simp) (by simp)
theorem Src.notT {w : World} {T t : TypeId} {B s : Nat} {bs : List UInt8} {k : Nat} (h : Src w T B s bs k) (ht : t ≠ T) : ∀ x ∈ [s], ∀ cur, w.heap[x]? ≠ some (.cells cur t (0, 0)) := by
  obtain ⟨⟨a, c, h1, h2⟩, h3, h4⟩ := h
  exact h1.notT' ht

set_option maxHeartbeats 1000000 in
theorem ltake_any (bs : List UInt8) (B s k m : Nat) (w : World) (h : Src w 196 B s bs k) (hk : k ≤ 1000000) (hm : m ≤ 64) :
    Calls Tryz.prog 151 #[.pointer (some ⟨s, 0, none⟩), .int .i64 (m : Int)] w fun e w' => e = .returned (.int .u64 (tkN bs k m : Nat)) ∧ Src w' 196 B s bs (k + m) ∧ Chg [s] w w' := by
  obtain ⟨⟨a, c, h1, h2⟩, h3, h4⟩ := h
  have HG : Hid (∀ W, Below w.heap.size w W → Calls Tryz.prog 178 #[.slice a bs.length c, .int .i64 (k : Int), .int .i64 (m : Int)] W fun e w' => ∃ ok, e = .returned (.tuple #[.int .u64 (tkN bs k m : Nat), .bool ok]) ∧ Below W.heap.size W w') := Lib.hid fun W hW =>
    getN_any bs bs.length a c B k m W rfl (h2.below hW (by have := h1.lt; omega)) (by have := h1.lt; have := hW.size; omega) h4 (by omega) hm
  obtain ⟨v, hv⟩ : ∃ v, tkN bs k m = v := ⟨_, rfl⟩
  rw [hv] at HG ⊢
  have c0 := h1.cell 0
  have c1 := h1.cell 1
  have hz := h1.lt
  simp at c0 c1
  have HO := Lib.hid h1
  have HR := Lib.hid (And.intro h2 (And.intro h3 h4))
  obtain ⟨n, hn⟩ : ∃ n, bs.length = n := ⟨_, rfl⟩
  rw [hn] at HO HG c0
  have HN := Lib.hid hn
  have e1 : wrap64 ((k : Int) + (m : Int)) = ((k + m : Nat) : Int) := by unfold wrap64; omega
  have HSS : Hid (Below w.heap.size w w.drew ∧ w.drew.cell? ⟨s, 0, none⟩ = some (.slice a n c) ∧ w.drew.cell? ⟨s, 1, none⟩ = some (.int .i64 (k : Int))) := Lib.hid ⟨(Below.refl _ _).drew, c0, c1⟩
  have HZ := Lib.hid hz
  clear h1 h2 h3 h4 hn hv
  go_enter Tryz.func151, Tryz.ntmps151
  go_wp2_with fail
  clear c0 c1 hz
  refine wp_region_held_drew (S := (fun W => Below w.heap.size w W ∧ W.cell? ⟨s, 0, none⟩ = some (.slice a n c) ∧ W.cell? ⟨s, 1, none⟩ = some (.int .i64 (k : Int)))) (by kernel_rfl) HSS.out (fun hHeld => ?_)
  refine wpAnyH_take (i := 0) (v := ?_) rfl (by kernel_rfl) (by kernel_rfl) (by kernel_rfl) (fun _ _ _ h => h) (Or.inl ⟨by kernel_rfl, ?_⟩) hHeld ?_
  rotate_left
  · (intro w hSw; first | (go_simp; done) | (go_simp; with_reducible rfl))
  (try simp only [Act.put, List.getElem_toArray, List.getElem_cons_succ, List.getElem_cons_zero, List.setIfInBounds_toArray, List.set_cons_zero, List.set_cons_succ])
  refine wpAnyH_take (i := 1) (v := ?_) rfl (by kernel_rfl) (by kernel_rfl) (by kernel_rfl) (fun _ _ _ h => h) (Or.inl ⟨by kernel_rfl, ?_⟩) hHeld ?_
  rotate_left
  · (intro w hSw; first | (go_simp; done) | (go_simp; with_reducible rfl))
  (try simp only [Act.put, List.getElem_toArray, List.getElem_cons_succ, List.getElem_cons_zero, List.setIfInBounds_toArray, List.set_cons_zero, List.set_cons_succ])
  refine wpAnyH_take (i := 2) (v := ?_) rfl (by kernel_rfl) (by kernel_rfl) (by kernel_rfl) (fun _ _ _ h => h) (Or.inl ⟨by kernel_rfl, ?_⟩) hHeld ?_
  rotate_left
  · (intro w hSw; first | (go_simp; done) | (go_simp; with_reducible rfl))
  (try simp only [Act.put, List.getElem_toArray, List.getElem_cons_succ, List.getElem_cons_zero, List.setIfInBounds_toArray, List.set_cons_zero, List.set_cons_succ])
  refine wpAnyH_take (i := 3) (v := ?_) rfl (by kernel_rfl) (by kernel_rfl) (by kernel_rfl) (fun _ _ _ h => h) (Or.inl ⟨by kernel_rfl, ?_⟩) hHeld ?_
  rotate_left
  · (intro w hSw; first | (go_simp; done) | (go_simp; with_reducible rfl))
  (try simp only [Act.put, List.getElem_toArray, List.getElem_cons_succ, List.getElem_cons_zero, List.setIfInBounds_toArray, List.set_cons_zero, List.set_cons_succ])
  refine wpAnyH_take (i := 4) (v := ?_) rfl (by kernel_rfl) (by kernel_rfl) (by kernel_rfl) (fun _ _ _ h => h) (Or.inl ⟨by kernel_rfl, ?_⟩) hHeld ?_
  rotate_left
  · (intro w hSw; first | (go_simp; done) | (go_simp; with_reducible rfl))
  (try simp only [Act.put, List.getElem_toArray, List.getElem_cons_succ, List.getElem_cons_zero, List.setIfInBounds_toArray, List.set_cons_zero, List.set_cons_succ])
  refine wpAnyH_take (i := 5) (v := ?_) rfl (by kernel_rfl) (by kernel_rfl) (by kernel_rfl) (fun _ _ _ h => h) (Or.inl ⟨by kernel_rfl, ?_⟩) hHeld ?_
  rotate_left
  · (intro w hSw; first | (go_simp; done) | (go_simp; with_reducible rfl))
  (try simp only [Act.put, List.getElem_toArray, List.getElem_cons_succ, List.getElem_cons_zero, List.setIfInBounds_toArray, List.set_cons_zero, List.set_cons_succ])
  refine wpAnyH_take (i := 6) (v := ?_) rfl (by kernel_rfl) (by kernel_rfl) (by kernel_rfl) (fun _ _ _ h => h) (Or.inl ⟨by kernel_rfl, ?_⟩) hHeld ?_
  rotate_left
  · (intro w hSw; first | (go_simp; done) | (go_simp; with_reducible rfl))
  (try simp only [Act.put, List.getElem_toArray, List.getElem_cons_succ, List.getElem_cons_zero, List.setIfInBounds_toArray, List.set_cons_zero, List.set_cons_succ])
  refine wpAnyH_take (i := 7) (v := ?_) rfl (by kernel_rfl) (by kernel_rfl) (by kernel_rfl) (fun _ _ _ h => h) (Or.inl ⟨by kernel_rfl, ?_⟩) hHeld ?_
  rotate_left
  · (intro w hSw; first | (go_simp; done) | (go_simp; with_reducible rfl))
  (try simp only [Act.put, List.getElem_toArray, List.getElem_cons_succ, List.getElem_cons_zero, List.setIfInBounds_toArray, List.set_cons_zero, List.set_cons_succ])
  refine wpAnyH_take (i := 8) (v := ?_) rfl (by kernel_rfl) (by kernel_rfl) (by kernel_rfl) (fun _ _ _ h => h) (Or.inl ⟨by kernel_rfl, ?_⟩) hHeld ?_
  rotate_left
  · (intro w hSw; first | (go_simp; done) | (go_simp; with_reducible rfl))
  (try simp only [Act.put, List.getElem_toArray, List.getElem_cons_succ, List.getElem_cons_zero, List.setIfInBounds_toArray, List.set_cons_zero, List.set_cons_succ])
  refine wpAnyH_ready (rs := [9]) (by kernel_rfl) (by simp) (AllReadyH.cons rfl (fun K hK => ?_) AllReadyH.nil)
  have hH := hHeld
  (go_simp; go_at_call 178; refine (HG.out _ hH.1).mono ?_; rintro e w6 ⟨ok, rfl, hb6⟩)
  refine hK.out _ _ (by exact ⟨hH.1.trans (hb6.mono hH.1.size), cell_keep hb6 hH.2.1 (World.block_lt_of_cell? _ _ hH.2.1), cell_keep hb6 hH.2.2 (World.block_lt_of_cell? _ _ hH.2.2)⟩) (fun hHq1 => ?_)
  clear hK K hH 
  (try simp only [Act.put, List.getElem_toArray, List.getElem_cons_succ, List.getElem_cons_zero, List.setIfInBounds_toArray, List.set_cons_zero, List.set_cons_succ])
  refine wpAnyH_take (i := 10) (v := ?_) rfl (by kernel_rfl) (by kernel_rfl) (by kernel_rfl) (fun _ _ _ h => h) (Or.inl ⟨by kernel_rfl, ?_⟩) hHq1 ?_
  rotate_left
  · (intro w hSw; first | (go_simp; done) | (go_simp; with_reducible rfl))
  (try simp only [Act.put, List.getElem_toArray, List.getElem_cons_succ, List.getElem_cons_zero, List.setIfInBounds_toArray, List.set_cons_zero, List.set_cons_succ])
  refine wpAnyH_take (i := 11) (v := ?_) rfl (by kernel_rfl) (by kernel_rfl) (by kernel_rfl) (fun _ _ _ h => h) (Or.inl ⟨by kernel_rfl, ?_⟩) hHq1 ?_
  rotate_left
  · (intro w hSw; first | (go_simp; done) | (go_simp; with_reducible rfl))
  (try simp only [Act.put, List.getElem_toArray, List.getElem_cons_succ, List.getElem_cons_zero, List.setIfInBounds_toArray, List.set_cons_zero, List.set_cons_succ])
  refine wpAnyH_take (i := 12) (v := ?_) rfl (by kernel_rfl) (by kernel_rfl) (by kernel_rfl) (fun _ _ _ h => h) (Or.inl ⟨by kernel_rfl, ?_⟩) hHq1 ?_
  rotate_left
  · (intro w hSw; first | (go_simp; done) | (go_simp; with_reducible rfl))
  (try simp only [Act.put, List.getElem_toArray, List.getElem_cons_succ, List.getElem_cons_zero, List.setIfInBounds_toArray, List.set_cons_zero, List.set_cons_succ])
  refine wpAnyH_take (i := 13) (v := ?_) rfl (by kernel_rfl) (by kernel_rfl) (by kernel_rfl) (fun _ _ _ h => h) (Or.inl ⟨by kernel_rfl, ?_⟩) hHq1 ?_
  rotate_left
  · (intro w hSw; first | (go_simp; done) | (go_simp; with_reducible rfl))
  (try simp only [Act.put, List.getElem_toArray, List.getElem_cons_succ, List.getElem_cons_zero, List.setIfInBounds_toArray, List.set_cons_zero, List.set_cons_succ])
  refine wpAnyH_take (i := 14) (v := ?_) rfl (by kernel_rfl) (by kernel_rfl) (by kernel_rfl) (fun _ _ _ h => h) (Or.inl ⟨by kernel_rfl, ?_⟩) hHq1 ?_
  rotate_left
  · (intro w hSw; first | (go_simp; done) | (go_simp; with_reducible rfl))
  (try simp only [Act.put, List.getElem_toArray, List.getElem_cons_succ, List.getElem_cons_zero, List.setIfInBounds_toArray, List.set_cons_zero, List.set_cons_succ])
  refine wpAnyH_done (by kernel_rfl) ?_ _
  have hEnd := hHq1
  have hb := hEnd.1
  have HB := Lib.hid hb
  have HO2 := Lib.hid (HO.out.below hb HZ.out)
  have q1 := HO2.out.cell 1
  have f1 := HO2.out.frozen 1
  have hz2 := HO2.out.lt
  simp at q1
  clear hHeld hEnd hb hb6
  go_wp2_with fail
  go_ret
  refine ⟨rfl, ⟨⟨a, c, ?_, (HR.out.1.below HB.out (by have := HZ.out; have := HR.out.2.1; omega)).below ((Below.refl B _).setCell (by exact HR.out.2.1) _) (Nat.le_refl _)⟩, HR.out.2.1, HR.out.2.2⟩, ?_⟩
  · rw [HN.out]
    exact HO2.out.set 1 _
  · exact ((Chg.refl [s] w).of_below HB.out).setCell (by simp) _

theorem tkN_64 (bs : List UInt8) (k m : Nat) (hm : m ≤ 64) : tkN bs k m < 18446744073709551616 := by
  have h1 := tkN_lt bs k m
  have h2 := pow_le_64 hm
  omega
set_option maxHeartbeats 1000000 in
theorem ltakeC_any (bs : List UInt8) (B s k : Nat) (w : World) (h : Src w 196 B s bs k) (hk : k ≤ 1000000) :
    Calls Tryz.prog 152 #[.pointer (some ⟨s, 0, none⟩)] w fun e w' => e = .returned (.int .u64 (tkN bs k 2 + 1 : Nat)) ∧ Src w' 196 B s bs (k + 2) ∧ Chg [s] w w' := by
  have HT := Lib.hid (ltake_any bs B s k 2 w h hk (by omega))
  have h4 := tkN_lt bs k 2
  generalize tkN bs k 2 = v at *
  have e1 : IntKind.u64.wrap ((v : Int) + 1) = ((v + 1 : Nat) : Int) := wrap_u64_nat (v + 1) (by omega)
  clear h
  go_enter Tryz.func152, Tryz.ntmps152
  go_wp2_with fail
  refine HT.out.mono ?_
  rintro e w1 ⟨rfl, h1, h2⟩
  have H1 := Lib.hid h1
  have H2 := Lib.hid h2
  clear h1 h2
  go_wp2_with fail
  go_ret
  exact ⟨ret_int (by omega), H1.out, H2.out⟩
theorem rep_at {α : Type} {p : Nat → α × Nat} {d : Nat} (h : ∀ k, (p k).2 ≤ k + d) : ∀ n k, (rep p n k).2 ≤ k + n * d
  | 0, k => by simp [rep]
  | n + 1, k => by
    have ih := rep_at h n k
    have := h (rep p n k).2
    rw [rep, Nat.succ_mul]
    simp only
    omega
theorem pCh_at (bs : List UInt8) (k : Nat) : (pCh bs k).2 ≤ k + 22 ∧ (pCh bs k).1.length ≤ 4 := by
  have h1 := rep_at (p := pU bs) (d := 5) (fun k => Nat.le_refl _) (tkN bs k 2 + 1) (k + 2)
  have h2 := tkN_lt bs k 2
  unfold pCh
  rw [rep_length]
  omega
theorem pU_at (bs : List UInt8) (n k : Nat) : (rep (pU bs) n k).2 = k + 5 * n := by
  induction n with
  | zero => rfl
  | succ n ih => simp only [rep, ih, pU]; omega
set_option maxHeartbeats 1000000 in
theorem lpch_any (bs : List UInt8) (B s k : Nat) (w : World) (h : Src w 196 B s bs k) (hk : k ≤ 900000) :
    Calls Tryz.prog 179 #[.pointer (some ⟨s, 0, none⟩)] w fun e w' => ∃ a c, e = .returned (.slice a (pCh bs k).1.length c) ∧ Lst w' w.heap.size 3 (.slice a (pCh bs k).1.length c) (i64s (pCh bs k).1) ∧ Src w' 196 B s bs (pCh bs k).2 ∧ Chg [s] w w' := by
  have HT := Lib.hid (ltakeC_any bs B s k w h (by omega))
  have HZ := Lib.hid h.lt
  obtain ⟨n, hn⟩ : ∃ n, tkN bs k 2 + 1 = n := ⟨_, rfl⟩
  have hn4 : n ≤ 4 := by have := tkN_lt bs k 2; omega
  have HP : Hid (pCh bs k = rep (pU bs) n (k + 2)) := Lib.hid (by unfold pCh; rw [hn])
  rw [hn] at HT
  have hn4' : (n : Int) ≤ 4 := by omega
  have HK := Lib.hid hk
  clear h hn hk
  go_enter Tryz.func179, Tryz.ntmps179
  go_wp2_with fail
  refine HT.out.mono ?_
  rintro e w1 ⟨rfl, h1, h2⟩
  have H1 : Hid (Src w1 196 B s bs (rep (pU bs) 0 (k + 2)).2) := Lib.hid h1
  have H2 := Lib.hid h2
  clear h1 h2
  go_wp2_with fail
  go_loopw [3, 6] (fun v i wr => ∃ (j : Nat) (al : Option Addr) (cl : Nat), j ≤ n ∧ i = .int .u64 (j : Int) ∧ v = .slice al j cl ∧ Hid (Lst wr w.heap.size 3 (.slice al j cl) (i64s (rep (pU bs) j (k + 2)).1)) ∧ Hid (Src wr 196 B s bs (rep (pU bs) j (k + 2)).2) ∧ Hid (Chg [s] w wr)) (fun _ i _ => n - (Go.RowKit.intOf i).toNat)
  case atStart => exact ⟨0, none, 0, Nat.zero_le _, rfl, rfl, Lib.hid (Lst.nil _ _ _), H1, H2⟩
  case round =>
    obtain ⟨j, al, cl, hj, rfl, rfl, HL, HX, HC⟩ := hrel
    rename World => w6
    by_cases hlt : j < n
    · have hj0 : (0 : Int) ≤ (j : Int) := by omega
      have hj1 : (j : Int) < (n : Int) := by omega
      have HR : Hid (rep (pU bs) (j + 1) (k + 2) = ((rep (pU bs) j (k + 2)).1 ++ [(pU bs (rep (pU bs) j (k + 2)).2).1], (pU bs (rep (pU bs) j (k + 2)).2).2)) := Lib.hid rfl
      have HLn : Hid ((i64s (rep (pU bs) j (k + 2)).1).length ≤ 4) := Lib.hid (by simp [i64s, rep_length]; omega)
      have HQ := pU_at bs j (k + 2)
      generalize rep (pU bs) j (k + 2) = r at *
      obtain ⟨xs, q⟩ := r
      simp only [pU] at HR HL HX HLn HQ
      have HTK := Lib.hid (ltake_any bs B s q 5 w6 HX.out (by have := HK.out; omega) (by omega))
      have hv := tkN_lt bs q 5
      generalize tkN bs q 5 = v at *
      have e2 : IntKind.i64.wrap (v : Int) = (v : Int) := by rw [IntKind.wrap_i64]; omega
      clear HQ
      go_wp2_with fail
      refine HTK.out.mono ?_
      rintro e w7 ⟨rfl, h1, h2⟩
      have H1 := Lib.hid h1
      have HC7 := Lib.hid (HC.out.trans h2)
      have HL7 := Lib.hid (HL.out.chgc h2 (HX.out.notT (by decide)))
      clear h1 h2
      go_wp2_with (at_builtin; refine wpList_app1g rfl (.tmp 8) (.tmp 12) 77 rfl w.heap.size 3 (.int .i64 0) 8 Tryz.underlying77 Tryz.info_i64 rfl (.int .i64 (v : Int)) rfl (.slice al j cl) (i64s xs) rfl HL7.out rfl (by have := HLn.out; omega) (by have := HLn.out; omega) HC7.out.size ?_)
      intro v' w8 hl8 hc8
      have hrow := fun x (hx : x ∈ rowOf (.slice al j cl)) => (HL7.out.row x hx).1
      have hns : s ∉ rowOf (.slice al j cl) := fun hx => by have := hrow s hx; have := HZ.out; omega
      have HX8 := Lib.hid (H1.out.chg hc8 hns (fun x hx => by have := hrow x hx; have := H1.out.2.1; have := HZ.out; omega))
      have HC8 : Hid (Chg [s] w w8) := Lib.hid (HC7.out.then hc8 (fun x hx => .inr (hrow x hx)))
      have HL8 : Hid (Lst w8 w.heap.size 3 v' (i64s (xs ++ [(v : Int)]))) := Lib.hid (by have := hl8.out; simpa [i64s] using this)
      have HLen : Hid ((i64s (xs ++ [(v : Int)])).length = j + 1) := Lib.hid (by
        obtain ⟨a', c', he, _⟩ := HL7.out.form
        injection he with _ h2 _
        simp [i64s] at h2 ⊢
        omega)
      clear hrow hns hl8 hc8
      obtain ⟨a8, c8, hv8, _, _, _⟩ := HL8.out.form
      rw [HLen.out] at hv8
      subst hv8
      go_wp2_with fail
      go_roundw
      case rel => exact ⟨j + 1, a8, c8, by omega, by go_num, rfl, by rw [HR.out]; exact HL8, by rw [HR.out]; exact HX8, HC8⟩
      case measure => simp [Go.RowKit.intOf]; omega
    · obtain rfl : j = n := by omega
      go_wp2_with fail
      go_ret
      rw [HP.out]
      have e : (rep (pU bs) j (k + 2)).1.length = j := rep_length _ _ _
      rw [e]
      exact ⟨al, cl, rfl, HL.out, HX.out, HC.out⟩
end Go.Proofs.YtihbinphmlgjoaaGreat
namespace Go.Proofs.YtihbinphmlgjoaaGreat
open Go.RowKit Go.Deep Go.Shelf
set_option linter.unusedVariables false
set_option linter.unusedSimpArgs false

/-- the last one below n whose From is at most a, or 0 -/
def lastLe (L : List Sg) (a : Nat) : Nat → Nat
  | 0 => 0
  | n + 1 => if (sx L n).1 ≤ a then n else lastLe L a n
def segN (x : Ly) (a : Nat) : Nat := lastLe x.s a x.s.length
def segI (x : Ly) (a : Nat) : Int := if lright x = true ∧ a < 1048576 then (segN x a : Int) else -1
theorem lastLe_lt (L : List Sg) (a n : Nat) (h : 0 < n) : lastLe L a n < n := by
  induction n with
  | zero => omega
  | succ n ih =>
    simp only [lastLe]
    split
    · omega
    · rcases Nat.eq_zero_or_pos n with rfl | h0
      · simp [lastLe]
      · have := ih h0; omega
theorem lastLe_is (L : List Sg) (a n : Nat) (hn : 0 < n) (h0 : (sx L 0).1 ≤ a) : (sx L (lastLe L a n)).1 ≤ a ∧ ∀ j, lastLe L a n < j → j < n → a < (sx L j).1 := by
  induction n with
  | zero => omega
  | succ n ih =>
    simp only [lastLe]
    split
    · exact ⟨by assumption, by omega⟩
    · rename_i hc
      rcases Nat.eq_zero_or_pos n with rfl | hp
      · exact absurd h0 hc
      · obtain ⟨g1, g2⟩ := ih hp
        refine ⟨g1, fun j h1 h2 => ?_⟩
        by_cases e : j = n
        · subst e; omega
        · exact g2 j h1 (by omega)
theorem sg_mono {L : List Sg} (h : sgOk L = true) {i j : Nat} (hij : i < j) (hj : j < L.length) : (sx L i).1 < (sx L j).1 := by
  have hs := (sgOk_iff.1 h).2.2.2
  induction j with
  | zero => omega
  | succ j ih =>
    have := hs j hj
    by_cases e : i = j
    · subst e; exact this
    · have := ih (by omega) (by omega); omega
/-- the index is the only one of its kind -/
theorem segN_eq {x : Ly} (h : lright x = true) {a i : Nat} (hi : i < x.s.length) (h1 : (sx x.s i).1 ≤ a) (h2 : ∀ j, i < j → j < x.s.length → a < (sx x.s j).1) : segN x a = i := by
  have hs := (lright_iff.1 h).2.2
  have h0 := (sgOk_iff.1 hs).2.1
  obtain ⟨g1, g2⟩ := lastLe_is x.s a x.s.length (by omega) (by omega)
  have hlt := lastLe_lt x.s a x.s.length (by omega)
  unfold segN
  rcases Nat.lt_trichotomy (lastLe x.s a x.s.length) i with hc | hc | hc
  · have := g2 i hc hi; omega
  · exact hc
  · have := h2 _ hc hlt; omega
theorem segN_is {x : Ly} (h : lright x = true) (a : Nat) : segN x a < x.s.length ∧ (sx x.s (segN x a)).1 ≤ a ∧ ∀ j, segN x a < j → j < x.s.length → a < (sx x.s j).1 := by
  have hs := (lright_iff.1 h).2.2
  have h0 := sgOk_iff.1 hs
  obtain ⟨g1, g2⟩ := lastLe_is x.s a x.s.length (by omega) (by omega)
  exact ⟨lastLe_lt _ _ _ (by omega), g1, g2⟩

end Go.Proofs.YtihbinphmlgjoaaGreat
namespace Go.Proofs.YtihbinphmlgjoaaGreat
open Go.RowKit Go.Deep
set_option linter.unusedVariables false
set_option linter.unusedSimpArgs false

/-- a slice of segments of the call's own -/
def Sl (w : World) (base : Nat) (v : Value) (L : List SgT) : Prop := w.ownsRow base 80 2 v L.length (sgv L)
theorem Sl.nil (w : World) (base : Nat) : Sl w base (.slice none 0 0) [] := World.ownsRow_nil w base _ 2
theorem Sl.alloc {w : World} {base : Nat} {v : Value} {L : List SgT} (h : Sl w base v L) (o : Obj) : Sl (w.alloc o) base v L := World.ownsRow.alloc h o
theorem Sl.lt {w : World} {base : Nat} {v : Value} {L : List SgT} (h : Sl w base v L) : ∀ k, v.ownBlock = some k → base ≤ k ∧ k < w.heap.size := World.ownsRow.lt h
theorem Sl.chgc {w w' : World} {base : Nat} {v : Value} {L : List SgT} {l : List Nat} (h : Sl w base v L) (hc : Chg l w w') (hl : ∀ x ∈ l, ∀ cur, w.heap[x]? ≠ some (.cells cur 80 (0, 0))) : Sl w' base v L := by
  refine ⟨h.1, ?_⟩
  rcases h.2 with h1 | ⟨g, cap, cur, h1, h2, h3, h4⟩
  · exact .inl h1
  · exact .inr ⟨g, cap, cur, h1, h2, (hc.block g (Array.getElem?_eq_some_iff.1 h3).1 (fun hm => hl g hm cur h3)).trans h3, h4⟩
theorem Sl.below {w w' : World} {base : Nat} {v : Value} {L : List SgT} (h : Sl w base v L) (hb : Below w.heap.size w w') : Sl w' base v L := h.chgc ((Chg.refl [] w).of_below hb) (by simp)
theorem Sl.base {w : World} {base base' : Nat} {v : Value} {L : List SgT} (h : Sl w base v L) (hb : base' ≤ base) : Sl w base' v L := by
  refine ⟨h.1, ?_⟩
  rcases h.2 with h1 | ⟨g, cap, cur, h1, h2, h3⟩
  · exact .inl h1
  · exact .inr ⟨g, cap, cur, h1, by omega, h3⟩
theorem Sl.form {w : World} {base : Nat} {v : Value} {L : List SgT} (h : Sl w base v L) : ∃ a c, v = .slice a L.length c ∧ Ro w w.heap.size a (sgv L) ∧ L.length ≤ c := by
  rcases h.2 with ⟨rfl, h0⟩ | ⟨g, cap, cur, rfl, hb, hh, hle, hm, hrest⟩
  · have : L = [] := by simpa using h0
    subst this
    exact ⟨none, 0, rfl, .inl rfl, by simp⟩
  · refine ⟨some ⟨g, 0, none⟩, cap, rfl, .inr ⟨g, 0, rfl, ?_, fun i hi => ?_⟩, hle⟩
    · exact (World.ownsRow.lt h g rfl).2
    · have := World.ownsRow.cellAt h i (by rw [sgv_length] at hi; exact hi)
      rw [Nat.zero_add, this]
      simp only [List.getD, List.getElem?_eq_getElem hi, Option.getD_some]
theorem Tryz.info_seg : (Tryz.prog.info? 80).map (fun i => (i.zero, i.size, i.bytes)) = some (some (.agg #[.int .u64 0, .slice none 0 0]), 2, 32) := by kernel_rfl
theorem Tryz.info_ch : (Tryz.prog.info? 77).map (fun i => (i.zero, i.size, i.bytes)) = some (some (.slice none 0 0), 1, 24) := by kernel_rfl
theorem Sl.grown_below {B base : Nat} {a w w' : World} {v : Value} {L : List SgT} (h : Below B a w) (hl : Sl w base v L) (hg : w.grownBy w' v.ownBlock) (hB : B ≤ base) (hB2 : B ≤ w.heap.size) : Below B a w' :=
  ⟨hg.os.trans h.os, hg.tape.trans h.tape, hg.output.trans h.output, Nat.le_trans h.size hg.size, fun b hb => (hg.block b (by omega) (fun e => by have := (hl.lt b e.symm).1; omega)).trans (h.block b hb)⟩
/-- append of one segment -/
theorem wpList_appSg {ops : Array Oper} {rest : List Oper} {o : Oper} {a : Act} {w : World} {Q : Exit → Act → World → Prop} (hgd : o.guard = none) (s x : Operand)
    (ho : o.op = .call { callee := .builtin .append, args := #[s, x], argTypes := #[40, 40] })
    (base : Nat) (v : Value) (L : List SgT) (hs : a.eval s = v) (hown : Sl w base v L) (g : Nat) (y : SgT) (t : TypeId) (hnew : Own w g t (sgv [y]))
    (hx : a.eval x = .slice (some ⟨g, 0, none⟩) 1 1) (hlen : L.length ≤ 1000000) (hbase : base ≤ w.heap.size)
    (h : ∀ v' w', Hid (Sl w' base v' (L ++ [y])) → w.grownBy w' v.ownBlock → wpList Tryz.prog ops Q rest (a.put o.dst v') w') : wpList Tryz.prog ops Q (o :: rest) a w := by
  obtain ⟨i, hi, hzz⟩ := Option.map_eq_some_iff.1 Tryz.info_seg
  simp only [Prod.mk.injEq] at hzz
  obtain ⟨hz, hsz, hby⟩ := hzz
  refine wpList_append_own w hgd s x 40 ho base 80 i _ 2 32 Tryz.underlying40 hi hz hsz hby rfl (by omega) v L.length (sgv L) hs hown ⟨g, 0, none⟩ 1 1 (sgv [y]) hx (by simp) (fun j u hu => ?_) (sgv_one _) (by unfold maxLen; omega) (by omega) hbase fun v' w' h2 h3 _ => h v' w' ?_ h3
  · rw [add_off, Nat.zero_add, hnew.cell j]; exact hu
  · show w'.ownsRow base 80 2 v' (L ++ [y]).length (sgv (L ++ [y]))
    rw [List.length_append, sgv_append]
    exact h2
theorem Sl.row {w : World} {base : Nat} {v : Value} {L : List SgT} (h : Sl w base v L) : ∀ x ∈ rowOf v, base ≤ x ∧ ∃ cur, w.heap[x]? = some (.cells cur 80 (0, 0)) := by
  intro x hx
  rcases h.2 with ⟨rfl, _⟩ | ⟨g, cap, cur, rfl, h2, h3, _⟩
  · simp [rowOf, Value.ownBlock] at hx
  · simp [rowOf, Value.ownBlock] at hx
    subst hx
    exact ⟨h2, cur, h3⟩
theorem Sl.notT {w : World} {base : Nat} {v : Value} {L : List SgT} {t' : TypeId} (h : Sl w base v L) (ht : 80 ≠ t') : ∀ x ∈ rowOf v, ∀ cur, w.heap[x]? ≠ some (.cells cur t' (0, 0)) := by
  intro x hx cur he
  obtain ⟨_, cur', h2⟩ := h.row x hx
  rw [he] at h2
  injection h2 with h2
  injection h2 with _ h2 _
  exact ht h2.symm
theorem Own.out_row {w : World} {base g : Nat} {t : TypeId} {cs : List Value} {v : Value} {L : List SgT} (h : Own w g t cs) (hv : Sl w base v L) (ht : t ≠ 80) : g ∉ rowOf v := by
  intro hm
  obtain ⟨_, cur, h2⟩ := hv.row g hm
  unfold Own at h
  rw [h] at h2
  injection h2 with h2
  injection h2 with _ h2 _
  exact ht h2
end Go.Proofs.YtihbinphmlgjoaaGreat
