/-
  addHead of package message, by its contracts. No claim of its own.
-/
import Derived.Test.YteenlkmnadjnpaaGreatH12
import Derived.Test.YteenlkmnadjnpaaGreatH6
import Derived.Test.YteenlkmnadjnpaaGreatH11
import Derived.Test.YteenlkmnadjnpaaGreatH2
import Derived.Test.YteenlkmnadjnpaaGreatH4
import Derived.Test.YteenlkmnadjnpaaGreatH5
import Derived.Test.YteenlkmnadjnpaaGreatH9
import Derived.Deep.MidRow
namespace Go.Proofs.YteenlkmnadjnpaaGreat
open Go.RowKit Go.Deep
set_option linter.unusedVariables false
set_option linter.unusedSimpArgs false

set_option maxHeartbeats 8000000 in
set_option maxRecDepth 100000 in
theorem mhead_any (A : MgT) (base g : Nat) (w : World) (h : Fst w 81 base g []) (hb : base ≤ w.heap.size) (hr : MRight A.x) :
    Calls Tryz.prog 40 #[.pointer (some ⟨g, 0, none⟩), A.val] w fun e w' => e = .returned (.tuple #[]) ∧ Fst w' 81 base g (fHd A.x) ∧ Fc base g w w' := by
  obtain ⟨W, HWW⟩ : ∃ W, Hid (w.alloc (.cells A.cs.toArray 40) = W) := ⟨_, Lib.hid rfl⟩
  have HX1 : Hid (Fst W 81 base g []) := Lib.hid (by rw [← HWW.out]; exact h.alloc _)
  have HO1 : Hid (Own W w.heap.size 40 A.cs) := Lib.hid (by rw [← HWW.out]; exact Own.new w _ _)
  have HC1 : Hid (Fc base g w W) := Lib.hid (by rw [← HWW.out]; exact (Fc.refl _ _ _).alloc _)
  have HG : Hid (w.heap.size ≠ g) := Lib.hid (by have := h.lt; omega)
  have HBW := Lib.hid hb
  have HS1 : Hid (base ≤ W.heap.size) := Lib.hid (Nat.le_trans hb HC1.out.size)
  obtain ⟨h1, h2, h3, h4, h5, h6, h7, h8, h9, -, -, -, -⟩ := hr
  obtain ⟨k, ⟨fr1, fr2⟩, ⟨to1, to2⟩, id, f, ep, ad, er, ⟨ck, cd, cb⟩, ca, cc, ca2, cc2, st, sa, sc, bk, ka, kc, ⟨ba1, ba2⟩, ⟨pr1, pr2⟩, ⟨le, la, lc, LL, lq⟩⟩ := A
  simp only [MgT.x, MgT.val, MgT.cs] at *
  obtain ⟨k, rfl⟩ := Int.eq_ofNat_of_zero_le (show 0 ≤ k by omega)
  obtain ⟨f, rfl⟩ := Int.eq_ofNat_of_zero_le (show 0 ≤ f by omega)
  obtain ⟨fr1, rfl⟩ := Int.eq_ofNat_of_zero_le (show 0 ≤ fr1 by omega)
  obtain ⟨fr2, rfl⟩ := Int.eq_ofNat_of_zero_le (show 0 ≤ fr2 by omega)
  obtain ⟨to1, rfl⟩ := Int.eq_ofNat_of_zero_le (show 0 ≤ to1 by omega)
  obtain ⟨to2, rfl⟩ := Int.eq_ofNat_of_zero_le (show 0 ≤ to2 by omega)
  obtain ⟨id, rfl⟩ := Int.eq_ofNat_of_zero_le (show 0 ≤ id by omega)
  obtain ⟨er, rfl⟩ := Int.eq_ofNat_of_zero_le (show 0 ≤ er by omega)
  obtain ⟨ba1, rfl⟩ := Int.eq_ofNat_of_zero_le (show 0 ≤ ba1 by omega)
  obtain ⟨ba2, rfl⟩ := Int.eq_ofNat_of_zero_le (show 0 ≤ ba2 by omega)
  obtain ⟨pr1, rfl⟩ := Int.eq_ofNat_of_zero_le (show 0 ≤ pr1 by omega)
  obtain ⟨pr2, rfl⟩ := Int.eq_ofNat_of_zero_le (show 0 ≤ pr2 by omega)
  have HF : Hid (fHd ⟨(k : Int), ((fr1 : Int), (fr2 : Int)), ((to1 : Int), (to2 : Int)), (id : Int), (f : Int), ep, ad, (er : Int), ⟨ck, cd, cb⟩, st, bk, ((ba1 : Int), (ba2 : Int)), ((pr1 : Int), (pr2 : Int)), LyT.x ⟨le, la, lc, LL, lq⟩⟩ = [(4, k), (4, f), (3, fr1), (5, fr2), (3, to1), (5, to2), (20, id), (21, ep), (21, ad), (8, er), (16, ba1), (2, ba2), (16, pr1), (2, pr2)]) := Lib.hid (by simp [fHd])
  rw [HF.out]
  have ek : IntKind.u64.wrap (k : Int) = (k : Int) := wrap_u64_nat k (by omega)
  have ef : IntKind.u64.wrap (f : Int) = (f : Int) := wrap_u64_nat f (by omega)
  have eid : IntKind.u64.wrap (id : Int) = (id : Int) := wrap_u64_nat id (by omega)
  have eer : IntKind.u64.wrap (er : Int) = (er : Int) := wrap_u64_nat er (by omega)
  have HR := Lib.hid (And.intro h2 (And.intro h3 (And.intro h8 h9)))
  generalize cd.length = cn at *
  generalize cb.length = cn2 at *
  generalize st.length = sn at *
  generalize bk.length = kn at *
  generalize LL.length = ln at *
  clear h hb h1 h2 h3 h4 h5 h6 h7 h8 h9
  go_enter Tryz.func40, Tryz.ntmps40
  go_upto_region 1 with fail
  rw [HWW.out]
  have c0 := HO1.out.cell 0
  have hz := HO1.out.lt
  simp at c0
  go_wp2_with fail
  refine (madd_any _ base g k 4 W HX1.out (by simp) HS1.out).mono ?_
  rintro e w2 ⟨rfl, g1, g2⟩
  have HX2 := Lib.hid g1
  have HC2 := Lib.hid (HC1.out.trans g2)
  have HO2 := Lib.hid (HO1.out.fc g2 HG.out (by decide) (by decide))
  have HS2 : Hid (base ≤ w2.heap.size) := Lib.hid (Nat.le_trans HBW.out HC2.out.size)
  clear g1 g2 hz c0
  have c6 := HO2.out.cell 6
  have hz := HO2.out.lt
  simp at c6
  go_wp2_with fail
  refine (madd_any _ base g f 4 w2 HX2.out (by simp) HS2.out).mono ?_
  rintro e w3 ⟨rfl, g1, g2⟩
  have HX3 := Lib.hid g1
  have HC3 := Lib.hid (HC2.out.trans g2)
  have HO3 := Lib.hid (HO2.out.fc g2 HG.out (by decide) (by decide))
  have HS3 : Hid (base ≤ w3.heap.size) := Lib.hid (Nat.le_trans HBW.out HC3.out.size)
  clear g1 g2 hz c6
  have c1 := HO3.out.cell 1
  have c2 := HO3.out.cell 2
  have hz := HO3.out.lt
  simp at c1 c2
  go_wp2_with fail
  refine (mplace_any _ base g fr1 fr2 w3 HX3.out (by simp) HS3.out (by have := HR.out.1; omega) (by have := HR.out.1; omega)).mono ?_
  rintro e w4 ⟨rfl, g1, g2⟩
  have HX4 := Lib.hid g1
  have HC4 := Lib.hid (HC3.out.trans g2)
  have HO4 := Lib.hid (HO3.out.fc g2 HG.out (by decide) (by decide))
  have HS4 : Hid (base ≤ w4.heap.size) := Lib.hid (Nat.le_trans HBW.out HC4.out.size)
  clear g1 g2 hz c1 c2
  have c3 := HO4.out.cell 3
  have c4 := HO4.out.cell 4
  have hz := HO4.out.lt
  simp at c3 c4
  go_wp2_with fail
  refine (mplace_any _ base g to1 to2 w4 HX4.out (by simp) HS4.out (by have := HR.out.2.1; omega) (by have := HR.out.2.1; omega)).mono ?_
  rintro e w5 ⟨rfl, g1, g2⟩
  have HX5 := Lib.hid g1
  have HC5 := Lib.hid (HC4.out.trans g2)
  have HO5 := Lib.hid (HO4.out.fc g2 HG.out (by decide) (by decide))
  have HS5 : Hid (base ≤ w5.heap.size) := Lib.hid (Nat.le_trans HBW.out HC5.out.size)
  clear g1 g2 hz c3 c4
  have c5 := HO5.out.cell 5
  have hz := HO5.out.lt
  simp at c5
  go_wp2_with fail
  refine (madd_any _ base g id 20 w5 HX5.out (by simp) HS5.out).mono ?_
  rintro e w6 ⟨rfl, g1, g2⟩
  have HX6 := Lib.hid g1
  have HC6 := Lib.hid (HC5.out.trans g2)
  have HO6 := Lib.hid (HO5.out.fc g2 HG.out (by decide) (by decide))
  have HS6 : Hid (base ≤ w6.heap.size) := Lib.hid (Nat.le_trans HBW.out HC6.out.size)
  clear g1 g2 hz c5
  have c7 := HO6.out.cell 7
  have hz := HO6.out.lt
  simp at c7
  go_wp2_with fail
  refine (madd_any _ base g ep 21 w6 HX6.out (by simp) HS6.out).mono ?_
  rintro e w7 ⟨rfl, g1, g2⟩
  have HX7 := Lib.hid g1
  have HC7 := Lib.hid (HC6.out.trans g2)
  have HO7 := Lib.hid (HO6.out.fc g2 HG.out (by decide) (by decide))
  have HS7 : Hid (base ≤ w7.heap.size) := Lib.hid (Nat.le_trans HBW.out HC7.out.size)
  clear g1 g2 hz c7
  have c8 := HO7.out.cell 8
  have hz := HO7.out.lt
  simp at c8
  go_wp2_with fail
  refine (madd_any _ base g ad 21 w7 HX7.out (by simp) HS7.out).mono ?_
  rintro e w8 ⟨rfl, g1, g2⟩
  have HX8 := Lib.hid g1
  have HC8 := Lib.hid (HC7.out.trans g2)
  have HO8 := Lib.hid (HO7.out.fc g2 HG.out (by decide) (by decide))
  have HS8 : Hid (base ≤ w8.heap.size) := Lib.hid (Nat.le_trans HBW.out HC8.out.size)
  clear g1 g2 hz c8
  have c9 := HO8.out.cell 9
  have hz := HO8.out.lt
  simp at c9
  go_wp2_with fail
  refine (madd_any _ base g er 8 w8 HX8.out (by simp) HS8.out).mono ?_
  rintro e w9 ⟨rfl, g1, g2⟩
  have HX9 := Lib.hid g1
  have HC9 := Lib.hid (HC8.out.trans g2)
  have HO9 := Lib.hid (HO8.out.fc g2 HG.out (by decide) (by decide))
  have HS9 : Hid (base ≤ w9.heap.size) := Lib.hid (Nat.le_trans HBW.out HC9.out.size)
  clear g1 g2 hz c9
  have c15 := HO9.out.cell 15
  have c16 := HO9.out.cell 16
  have hz := HO9.out.lt
  simp at c15 c16
  go_wp2_with fail
  refine (mballot_any _ base g ba1 ba2 w9 HX9.out (by simp) HS9.out (by have := HR.out.2.2.1; omega) (by have := HR.out.2.2.1; omega)).mono ?_
  rintro e w10 ⟨rfl, g1, g2⟩
  have HX10 := Lib.hid g1
  have HC10 := Lib.hid (HC9.out.trans g2)
  have HO10 := Lib.hid (HO9.out.fc g2 HG.out (by decide) (by decide))
  have HS10 : Hid (base ≤ w10.heap.size) := Lib.hid (Nat.le_trans HBW.out HC10.out.size)
  clear g1 g2 hz c15 c16
  have c17 := HO10.out.cell 17
  have c18 := HO10.out.cell 18
  have hz := HO10.out.lt
  simp at c17 c18
  go_wp2_with fail
  refine (mballot_any _ base g pr1 pr2 w10 HX10.out (by simp) HS10.out (by have := HR.out.2.2.2; omega) (by have := HR.out.2.2.2; omega)).mono ?_
  rintro e w11 ⟨rfl, g1, g2⟩
  have HX11 := Lib.hid g1
  have HC11 := Lib.hid (HC10.out.trans g2)
  have HO11 := Lib.hid (HO10.out.fc g2 HG.out (by decide) (by decide))
  have HS11 : Hid (base ≤ w11.heap.size) := Lib.hid (Nat.le_trans HBW.out HC11.out.size)
  clear g1 g2 hz c17 c18
  go_wp2_with fail
  go_end0
  exact ⟨rfl, by simpa using HX11.out, HC11.out⟩
end Go.Proofs.YteenlkmnadjnpaaGreat
namespace Go.Proofs.YteenlkmnadjnpaaGreat
open Go.RowKit Go.Deep Go.Shelf
set_option linter.unusedVariables false
set_option linter.unusedSimpArgs false

theorem st_take {L : List SgT} {k : Nat} (h : k < L.length) : L.take (k + 1) = L.take k ++ [st L k] := by
  have e : st L k = L[k] := by simp [st, List.getD, h]
  rw [List.take_succ_eq_append_getElem h, e]
theorem ct_take {L : List ChT} {k : Nat} (h : k < L.length) : L.take (k + 1) = L.take k ++ [ct L k] := by
  have e : ct L k = L[k] := by simp [ct, List.getD, h]
  rw [List.take_succ_eq_append_getElem h, e]
def fSgT (L : List SgT) : List (Nat × Nat) := L.flatMap fun s => fSg s.x
def fChT (L : List ChT) : List (Nat × Nat) := L.flatMap fun c => fCh c.u
theorem fSgT_x (L : List SgT) : fSgT L = (sgx L).flatMap fSg := by simp [fSgT, sgx, List.flatMap_map]
theorem fChT_x (L : List ChT) : fChT L = (chx L).flatMap fCh := by simp [fChT, chx, List.flatMap_map]
theorem fSgT_take {L : List SgT} {k : Nat} (h : k < L.length) : fSgT (L.take (k + 1)) = fSgT (L.take k) ++ ((20, (st L k).f) :: (2, (st L k).ch.length - 1) :: fChT (st L k).ch) := by
  rw [st_take h]
  simp only [fSgT, List.flatMap_append, List.flatMap_cons, List.flatMap_nil, List.append_nil]
  congr 1
  simp only [fSg, SgT.x, fChT_x, chx_length]
theorem fChT_take {L : List ChT} {k : Nat} (h : k < L.length) : fChT (L.take (k + 1)) = fChT (L.take k) ++ fCh (ct L k).u := by
  rw [ct_take h]
  simp [fChT, List.flatMap_append]
/-- segments of a valid layout -/
structure SgV (L : List SgT) : Prop where
  n : 1 ≤ L.length ∧ L.length ≤ 4
  sg : ∀ k, k < L.length → (st L k).f < 1048576 ∧ (1 ≤ (st L k).ch.length ∧ (st L k).ch.length ≤ 4) ∧ ∀ j, j < (st L k).ch.length → (1 ≤ (ct (st L k).ch j).u.length ∧ (ct (st L k).ch j).u.length ≤ 4) ∧ ∀ u ∈ (ct (st L k).ch j).u, 0 ≤ u ∧ u < 32
theorem SgV.of {A : LyT} (h : lright A.x = true) : SgV A.sg := by
  obtain ⟨_, _, h3⟩ := lright_iff.1 h
  obtain ⟨h4, _, h5, _⟩ := sgOk_iff.1 h3
  have hx : A.x.s = sgx A.sg := rfl
  rw [hx, sgx_length] at h4 h5
  refine ⟨h4, fun k hk => ?_⟩
  obtain ⟨h6, h7⟩ := h5 k hk
  rw [sx_sgx] at h6 h7
  obtain ⟨g1, g2, g3, _⟩ := chOk_iff.1 h7
  have hy : (st A.sg k).x.2 = chx (st A.sg k).ch := rfl
  rw [hy] at g1 g2 g3
  rw [chx_length] at g1
  refine ⟨h6, g1, fun j hj => ?_⟩
  have hm : (ct (st A.sg k).ch j).u ∈ chx (st A.sg k).ch := List.mem_map_of_mem (ct_mem hj)
  exact ⟨g2 _ hm, fun u hu => g3 u (List.mem_flatten.2 ⟨_, hm, hu⟩)⟩
theorem fChT_len {L : List ChT} (h : ∀ j, j < L.length → (ct L j).u.length ≤ 4) : (fChT L).length ≤ L.length * 5 := by
  refine fflat_le fun c hc => ?_
  obtain ⟨j, hj, rfl⟩ := List.getElem_of_mem hc
  have := h j hj
  have e : ct L j = L[j] := by simp [ct, List.getD, hj]
  rw [e] at this
  rw [fCh_len]
  omega
theorem ct_take_lt {L : List ChT} {j k : Nat} (h : j < k) : ct (L.take k) j = ct L j := by
  simp [ct, List.getD, List.getElem?_take, h]
theorem fChT_tlen {L : List ChT} (h : ∀ j, j < L.length → (ct L j).u.length ≤ 4) (k : Nat) : (fChT (L.take k)).length ≤ L.length * 5 := by
  have := fChT_len (L := L.take k) (fun j hj => by
    rw [List.length_take] at hj
    rw [ct_take_lt (by omega)]
    exact h j (by omega))
  rw [List.length_take] at this
  omega
theorem SgV.tlen {L : List SgT} (h : SgV L) : ∀ k, k ≤ L.length → (fSgT (L.take k)).length ≤ k * 22
  | 0, _ => by simp [fSgT]
  | k + 1, hk => by
    have ih := h.tlen k (by omega)
    obtain ⟨_, h2, h3⟩ := h.sg k (by omega)
    have := fChT_len (L := (st L k).ch) (fun j hj => by have := (h3 j hj).1; omega)
    rw [fSgT_take (by omega), List.length_append]
    simp only [List.length_cons]
    omega

set_option maxHeartbeats 1000000 in
theorem lenc_no (A : LyT) (B : Nat) (w : World) (h : LyIn w B A) (hB : B ≤ w.heap.size) (hf : SgFit A.sg) (hr : lright A.x = false) :
    Calls Tryz.prog 45 #[A.val] w fun e w' => e = .returned (.tuple #[.slice none 0 0, .int .i64 91]) ∧ Below w.heap.size w w' := by
  obtain ⟨W, HWW⟩ : ∃ W, Hid (w.alloc (.cells #[.int .u64 (A.e : Int), .slice A.a A.sg.length A.c, .int .i64 A.q] 38) = W) := ⟨_, Lib.hid rfl⟩
  have hWb : Below w.heap.size w W := by rw [← HWW.out]; exact (Below.refl _ _).alloc (Nat.le_refl _) _
  have HR := Lib.hid (lright_any A B W (h.below hWb hB) (Nat.le_trans hB hWb.size) hf)
  rw [hr] at HR
  have HB := Lib.hid hWb
  obtain ⟨ep, a, c, L, q⟩ := A
  simp only [LyT.val] at *
  generalize L.length = n at *
  clear hWb h hB hf hr
  go_enter Tryz.func45, Tryz.ntmps45
  go_upto_region 1 with fail
  rw [HWW.out]
  have o1 : Own W w.heap.size 38 [.int .u64 (ep : Int), .slice a n c, .int .i64 q] := by rw [← HWW.out]; exact Own.new w _ _
  have c0 := o1.cell 0
  have c1 := o1.cell 1
  have c2 := o1.cell 2
  have hz := o1.lt
  simp at c0 c1 c2
  clear o1
  go_wp2_with fail
  refine HR.out.mono ?_
  rintro e w1 ⟨rfl, hb⟩
  have HB1 := Lib.hid (HB.out.trans (hb.mono HB.out.size))
  clear hb
  go_wp2_with fail
  go_ret2
  exact ⟨rfl, HB1.out⟩

set_option maxHeartbeats 4000000 in
set_option maxRecDepth 100000 in
theorem lenc_yes (A : LyT) (B : Nat) (w : World) (h : LyIn w B A) (hB : B ≤ w.heap.size) (hf : SgFit A.sg) (hr : lright A.x = true) :
    Calls Tryz.prog 45 #[A.val] w fun e w' => ∃ (g : Nat) (cs : List UInt8), e = .returned (.tuple #[.slice (some ⟨g, 0, none⟩) cs.length cs.length, .int .i64 0]) ∧ w.heap.size ≤ g ∧ IsLE A.x cs ∧ Own w' g 5 (u8s cs) ∧ Below w.heap.size w w' := by
  obtain ⟨W, HWW⟩ : ∃ W, Hid (w.alloc (.cells #[.int .u64 (A.e : Int), .slice A.a A.sg.length A.c, .int .i64 A.q] 38) = W) := ⟨_, Lib.hid rfl⟩
  have hWb : Below w.heap.size w W := by rw [← HWW.out]; exact (Below.refl _ _).alloc (Nat.le_refl _) _
  have HR := Lib.hid (lright_any A B W (h.below hWb hB) (Nat.le_trans hB hWb.size) hf)
  rw [hr] at HR
  have HV := Lib.hid (SgV.of hr)
  have HOK := Lib.hid (fLy_ok hr)
  have HLN := Lib.hid (fLy_len hr)
  obtain ⟨⟨_, he2⟩, ⟨hq0, hq1⟩, _⟩ := lright_iff.1 hr
  have hxe : A.x.e = A.e := rfl
  have hxq : A.x.q = A.q := rfl
  rw [hxe] at he2
  rw [hxq] at hq0 hq1
  have HF : Hid (fLy A.x = [(21, A.e), (5, A.q.toNat), (2, A.sg.length - 1)] ++ fSgT A.sg) := Lib.hid (by
    have e1 : A.x.s = sgx A.sg := rfl
    unfold fLy
    rw [e1, sgx_length, fSgT_x]
    rfl)
  have HB := Lib.hid hWb
  have HIN := Lib.hid h
  have HBw := Lib.hid hB
  obtain ⟨x, hx⟩ : ∃ x, A.x = x := ⟨_, rfl⟩
  rw [hx] at HOK HLN HF ⊢
  obtain ⟨ep, a, c, L, q⟩ := A
  simp only [LyT.val] at *
  have HN4 := Lib.hid HV.out.n
  generalize hN : L.length = n at *
  have HN := Lib.hid hN
  have o1 : Own W w.heap.size 38 [.int .u64 (ep : Int), .slice a n c, .int .i64 q] := by rw [← HWW.out]; exact Own.new w _ _
  have c0 := o1.cell 0
  have c1 := o1.cell 1
  have c2 := o1.cell 2
  have hz := o1.lt
  simp at c0 c1 c2
  obtain ⟨qn, rfl⟩ := Int.eq_ofNat_of_zero_le hq0
  rw [Int.toNat_natCast] at HF
  have eq1 : IntKind.u64.wrap (qn : Int) = (qn : Int) := wrap_u64_nat qn (by omega)
  have HO := Lib.hid o1
  have hn4 : (n : Int) ≤ 4 := by have := HN4.out; omega
  clear hWb h hB hf hr o1 hxe hxq he2 hq0 hq1 hx hN
  go_enter Tryz.func45, Tryz.ntmps45
  go_upto_region 1 with fail
  rw [HWW.out]
  go_wp2_with fail
  refine HR.out.mono ?_
  rintro e w1 ⟨rfl, hb⟩
  have HB1 := Lib.hid (HB.out.trans (hb.mono HB.out.size))
  have HO1 := Lib.hid (HO.out.below hb HO.out.lt)
  have hz1 := HO1.out.lt
  clear hb c0 c1 c2 hz
  go_upto_region 4 with fail
  obtain ⟨g, hg⟩ : ∃ g, w1.heap.size = g := ⟨_, rfl⟩
  obtain ⟨W2, hW2⟩ : ∃ W2, w1.alloc (.cells #[.slice none 0 0, .slice none 0 0] 144) = W2 := ⟨_, rfl⟩
  have HG : Hid (w.heap.size < g) := Lib.hid (by rw [← hg]; exact HO1.out.lt)
  have HS2 : Hid (W2.heap.size = g + 1) := Lib.hid (by rw [← hW2, ← hg]; simp)
  have HX0 : Hid (Fst W2 144 (g + 1) g []) := Lib.hid (by rw [← hW2, ← hg]; exact Fst.new w1 _ _)
  have HB2 : Hid (Below w.heap.size w W2) := Lib.hid (by rw [← hW2]; exact HB1.out.alloc HB1.out.size _)
  have HO2 : Hid (Own W2 w.heap.size 38 [.int .u64 (ep : Int), .slice a n c, .int .i64 (qn : Int)]) := Lib.hid (by rw [← hW2]; exact HO1.out.alloc _)
  rw [hW2, hg]
  clear hW2 hg hz1
  have d0 := HO2.out.cell 0
  simp at d0
  go_wp2_with fail
  refine (ladd_any [] (g + 1) g ep 21 W2 HX0.out (by simp) (by rw [HS2.out]; exact Nat.le_refl _)).mono ?_
  rintro e w3 ⟨rfl, hx3, hc3⟩
  have HX3 := Lib.hid hx3
  have HC3 := Lib.hid hc3
  have HO3 := Lib.hid (HO2.out.fcl hc3 (by have := HG.out; omega) (by have := HG.out; omega))
  have d2 := HO3.out.cell 2
  simp at d2
  clear hx3 hc3 d0
  go_wp2_with fail
  refine (ladd_any _ (g + 1) g qn 5 w3 HX3.out (by simp) (by have := HS2.out; have := HC3.out.size; omega)).mono ?_
  rintro e w4 ⟨rfl, hx4, hc4⟩
  have HX4 := Lib.hid hx4
  have HC4 := Lib.hid (HC3.out.trans hc4)
  have HO4 := Lib.hid (HO3.out.fcl hc4 (by have := HG.out; omega) (by have := HG.out; omega))
  have d1 := HO4.out.cell 1
  simp at d1
  clear hx4 hc4 d2
  go_wp2_with fail
  refine (lcount_any _ (g + 1) g n w4 HX4.out (by simp) (by have := HS2.out; have := HC4.out.size; omega) (by have := HN4.out; omega)).mono ?_
  rintro e w5 ⟨rfl, hx5, hc5⟩
  have HX5 : Hid (Fst w5 144 (g + 1) g ([(21, ep), (5, qn), (2, n - 1)] ++ fSgT (L.take 0))) := Lib.hid (by simpa [fSgT] using hx5)
  have HC5 := Lib.hid (HC4.out.trans hc5)
  have HO5 := Lib.hid (HO4.out.fcl hc5 (by have := HG.out; omega) (by have := HG.out; omega))
  have d1' := HO5.out.cell 1
  simp at d1'
  clear hx5 hc5 d1
  obtain ⟨F0, hF0⟩ : ∃ F0, [(21, ep), (5, qn), (2, n - 1)] = F0 := ⟨_, rfl⟩
  rw [hF0] at HX5 HF
  have HF0 : Hid (F0.length = 3) := Lib.hid (by rw [← hF0]; rfl)
  clear hF0
  go_wp2_with fail
  go_loopw [28] (fun i wr => ∃ k : Nat, k ≤ n ∧ i = .int .i64 (k : Int) ∧ Hid (Fst wr 144 (g + 1) g (F0 ++ fSgT (L.take k))) ∧ Hid (Fc (g + 1) g W2 wr)) (fun i _ => n - (intOf i).toNat)
  case atStart => exact ⟨0, Nat.zero_le _, rfl, HX5, HC5⟩
  case round =>
    obtain ⟨k, hk, rfl, HX, HC⟩ := hrel
    rename World => w6
    have HSZ : Hid (g + 1 ≤ w6.heap.size) := Lib.hid (by have := HC.out.size; have := HS2.out; omega)
    have HBK : Hid (Below w.heap.size w w6) := Lib.hid (HB2.out.trans (HC.out.below HB2.out.size (by have := HG.out; omega) (by have := HG.out; omega)))
    by_cases hlt : k < n
    · have hkL : k < L.length := by rw [HN.out]; exact hlt
      obtain ⟨b, off, rfl, hb, hc⟩ := (HIN.out.1.below HBK.out HBw.out).sg (show 0 < L.length by omega)
      obtain ⟨e1, e2⟩ := hc k hkL
      clear hc
      have hk0 : (0 : Int) ≤ (k : Int) := by omega
      have hk1 : (k : Int) < (n : Int) := by omega
      have HT := Lib.hid (fSgT_take hkL)
      have HVk := Lib.hid (HV.out.sg k hkL)
      have HLk := Lib.hid (HV.out.tlen k (by omega))
      have HI2 := Lib.hid (HIN.out.2 _ (st_mem hkL))
      generalize st L k = sg at *
      obtain ⟨fk, ca, cc, M⟩ := sg
      simp only at e1 e2 HT HVk HI2
      obtain ⟨m, hm⟩ : ∃ m, M.length = m := ⟨_, rfl⟩
      rw [hm] at e2 HT HVk
      have HM := Lib.hid hm
      have hm4 : (m : Int) ≤ 4 := by have := HVk.out.2.1; omega
      clear hm
      go_upto_region 10 with fail
      obtain ⟨gs, hgs⟩ : ∃ gs, w6.heap.size = gs := ⟨_, rfl⟩
      obtain ⟨W7, hW7⟩ : ∃ W7, w6.alloc (.cells #[.int .u64 (fk : Int), .slice ca m cc] 135) = W7 := ⟨_, rfl⟩
      have HGS : Hid (g + 1 ≤ gs) := Lib.hid (by have := HSZ.out; omega)
      have HX7 : Hid (Fst W7 144 (g + 1) g (F0 ++ fSgT (L.take k))) := Lib.hid (by rw [← hW7]; exact HX.out.alloc _)
      have HC7 : Hid (Fc (g + 1) g W2 W7) := Lib.hid (by rw [← hW7]; exact HC.out.alloc _)
      have HO7 : Hid (Own W7 gs 135 [.int .u64 (fk : Int), .slice ca m cc]) := Lib.hid (by rw [← hW7, ← hgs]; exact Own.new w6 _ _)
      rw [hW7, hgs]
      clear hW7 hgs e1 e2
      have q0 := HO7.out.cell 0
      simp at q0
      go_wp2_with fail
      refine (ladd_any _ (g + 1) g fk 20 W7 HX7.out (by rw [List.length_append, HF0.out]; have := HLk.out; omega) (by have := HO7.out.lt; have := HGS.out; omega)).mono ?_
      rintro e w8 ⟨rfl, hx8, hc8⟩
      have HX8 := Lib.hid hx8
      have HC8 := Lib.hid (HC7.out.trans hc8)
      have HO8 := Lib.hid (HO7.out.fc hc8 (by have := HGS.out; omega) (by decide) (by decide))
      have q1 := HO8.out.cell 1
      simp at q1
      clear hx8 hc8 q0
      go_wp2_with fail
      refine (lcount_any _ (g + 1) g m w8 HX8.out (by rw [List.length_append, List.length_append, HF0.out]; have := HLk.out; simp; omega) (by have := HO8.out.lt; have := HGS.out; omega) (by have := HVk.out.2.1; omega)).mono ?_
      rintro e w9 ⟨rfl, hx9, hc9⟩
      obtain ⟨F1, hF1⟩ : ∃ F1, F0 ++ fSgT (L.take k) ++ [(20, fk), (2, m - 1)] = F1 := ⟨_, rfl⟩
      have HX9 : Hid (Fst w9 144 (g + 1) g (F1 ++ fChT (M.take 0))) := Lib.hid (by rw [← hF1]; simpa [fChT] using hx9)
      have HF1 := Lib.hid hF1
      have HL1 : Hid (F1.length ≤ 100) := Lib.hid (by rw [← hF1, List.length_append, List.length_append, HF0.out]; have := HLk.out; simp; omega)
      have HC9 := Lib.hid (HC8.out.trans hc9)
      have HO9 := Lib.hid (HO8.out.fc hc9 (by have := HGS.out; omega) (by decide) (by decide))
      have q1' := HO9.out.cell 1
      simp at q1'
      clear hx9 hc9 q1 hF1
      go_wp2_with fail
      go_loopw [42] (fun i wr => ∃ j : Nat, j ≤ m ∧ i = .int .i64 (j : Int) ∧ Hid (Fst wr 144 (g + 1) g (F1 ++ fChT (M.take j))) ∧ Hid (Fc (g + 1) g W2 wr)) (fun i _ => m - (intOf i).toNat)
      case atStart => exact ⟨0, Nat.zero_le _, rfl, HX9, HC9⟩
      case round =>
        obtain ⟨j, hj, rfl, HXj, HCj⟩ := hrel
        rename World => w10
        have HSj : Hid (g + 1 ≤ w10.heap.size) := Lib.hid (by have := HCj.out.size; have := HS2.out; omega)
        have HBj : Hid (Below w.heap.size w w10) := Lib.hid (HB2.out.trans (HCj.out.below HB2.out.size (by have := HG.out; omega) (by have := HG.out; omega)))
        by_cases hlt2 : j < m
        · have hjL : j < M.length := by rw [HM.out]; exact hlt2
          obtain ⟨b2, off2, rfl, hb2, hc2⟩ := (HI2.out.1.below HBj.out HBw.out).ch (show 0 < M.length by omega)
          have e1 := hc2 j hjL
          clear hc2
          have hj0 : (0 : Int) ≤ (j : Int) := by omega
          have hj1 : (j : Int) < (m : Int) := by omega
          have HTj := Lib.hid (fChT_take hjL)
          have HVj := Lib.hid (HVk.out.2.2 j hlt2)
          have HFj : Hid ((F1 ++ fChT (M.take j)).length ≤ 900) := Lib.hid (by
            have := fChT_tlen (L := M) (fun i hi => (HVk.out.2.2 i (by rw [← HM.out]; exact hi)).1.2) j
            rw [List.length_append]
            have := HL1.out
            have := HM.out
            omega)
          have HIj := Lib.hid (HI2.out.2 _ (ct_mem hjL))
          generalize ct M j = cm at *
          obtain ⟨a3, c3, u3⟩ := cm
          simp only at e1 HTj HVj HIj
          have HCH := Lib.hid (lchain_any _ (g + 1) g u3 a3 c3 B w10 HXj.out HFj.out HSj.out (HIj.out.below HBj.out HBw.out) (by have := HBw.out; have := HG.out; omega) (by have := HBw.out; have := HG.out; omega) HVj.out.1 HVj.out.2)
          generalize u3.length = n3 at *
          go_wp2_with fail
          refine HCH.out.mono ?_
          rintro e w11 ⟨rfl, hx, hc⟩
          have HX11 := Lib.hid hx
          have HC11 := Lib.hid (HCj.out.trans hc)
          clear hx hc
          go_wp2_with fail
          go_roundw
          case rel => exact ⟨j + 1, by omega, by go_num, Lib.hid (by rw [HTj.out, ← List.append_assoc]; exact HX11.out), HC11⟩
          case measure => simp [intOf]; omega
        · obtain rfl : j = m := by omega
          have hXj := HXj.out
          rw [List.take_of_length_le (by rw [HM.out]; exact Nat.le_refl _), ← HF1.out] at hXj
          have HXe : Hid (Fst w10 144 (g + 1) g (F0 ++ fSgT (L.take (k + 1)))) := Lib.hid (by rw [HT.out]; simpa using hXj)
          clear hXj
          go_wp2_with fail
          go_roundw
          case rel => exact ⟨k + 1, by omega, by go_num, HXe, HCj⟩
          case measure => simp [intOf]; omega
    · obtain rfl : k = n := by omega
      have hX := HX.out
      rw [List.take_of_length_le (by rw [HN.out]; exact Nat.le_refl _), ← HF.out] at hX
      obtain ⟨v1, v2, h1, h2, h3⟩ := hX
      have q0 := h1.cell 0
      have q1 := h1.cell 1
      have hzg := h1.lt
      simp at q0 q1
      obtain ⟨a1, cc1, rfl, r1, _, _⟩ := h2.form
      obtain ⟨a2, cc2, rfl, r2, _, _⟩ := h3.form
      have HP := Lib.hid (pack_yes (fw (fLy x)) (fv (fLy x)) a1 a2 cc1 cc2 w6.heap.size w6 r1 r2 (Nat.le_refl _) (by rw [fw_length]; have := HLN.out; omega) HOK.out.pack)
      simp only [i64s_length, u64s_length, fw_length, fv_length] at q0 q1 HP
      generalize (fLy x).length = ln at *
      clear h1 h2 h3 r1 r2
      go_wp2_with fail
      refine HP.out.mono ?_
      rintro e w7 ⟨g7, cs, rfl, hg7, hpk, ho7, hb7⟩
      have HE := Lib.hid (And.intro hg7 (And.intro hpk (And.intro ho7 (HBK.out.trans (hb7.mono HBK.out.size)))))
      clear hg7 hpk ho7 hb7
      go_wp2_with fail
      go_ret2
      exact ⟨g7, cs, rfl, Nat.le_trans HBK.out.size HE.out.1, HE.out.2.1, HE.out.2.2.1, HE.out.2.2.2⟩
end Go.Proofs.YteenlkmnadjnpaaGreat
namespace Go.Proofs.YteenlkmnadjnpaaGreat
open Go.RowKit Go.Deep
set_option linter.unusedVariables false
set_option linter.unusedSimpArgs false

set_option maxHeartbeats 1000000 in
theorem enc_no (x : Ce) (a : Option Addr) (c : Nat) (a2 : Option Addr) (c2 B : Nat) (w : World) (hro : Ro w B a2 (bcs x.b)) (hB : B ≤ w.heap.size) (hl : x.b.length ≤ 9223372036854775807) (hl2 : x.d.length ≤ 9223372036854775807) (hr : right x = false) :
    Calls Tryz.prog 43 #[cev x.k a x.d.length c a2 x.b.length c2] w fun e w' => e = .returned (.tuple #[.slice none 0 0, .int .i64 71]) ∧ Below w.heap.size w w' := by
  have HR := Lib.hid (right_any x a c a2 c2 B (w.alloc (.cells #[.int .i64 x.k, .slice a x.d.length c, .slice a2 x.b.length c2] 32)) (hro.below ((Below.refl B w).alloc hB _) (Nat.le_refl _)) (by simp; omega) hl hl2)
  rw [hr] at HR
  clear hr hro
  go_enter Tryz.func43, Tryz.ntmps43
  go_wp2_with fail
  refine HR.out.mono ?_
  rintro e w1 ⟨rfl, hb⟩
  have HB := Lib.hid hb
  clear hb
  go_wp2_with fail
  go_ret2
  exact ⟨rfl, ((Below.refl _ _).alloc (Nat.le_refl _) _).trans (HB.out.mono (by simp))⟩

set_option maxHeartbeats 1000000 in
theorem enc_junk (a : Option Addr) (c : Nat) (a2 : Option Addr) (c2 : Nat) (w : World) :
    Calls Tryz.prog 43 #[cev 2 a 0 c a2 0 c2] w fun e w' => ∃ g, e = .returned (.tuple #[.slice (some ⟨g, 0, none⟩) 1 1, .int .i64 0]) ∧ Own w' g 5 (u8s [2]) ∧ Below w.heap.size w w' := by
  have HR := Lib.hid (right_any ⟨2, [], []⟩ a c a2 c2 0 (w.alloc (.cells #[.int .i64 2, .slice a 0 c, .slice a2 0 c2] 32)) (Ro.nil _ _ _) (by omega) (by simp) (by simp))
  rw [show right ⟨2, [], []⟩ = true from rfl] at HR
  simp only [List.length_nil] at HR
  go_enter Tryz.func43, Tryz.ntmps43
  go_wp2_with fail
  refine HR.out.mono ?_
  rintro e w1 ⟨rfl, hb⟩
  have HB := Lib.hid hb
  have o1 := (Own.new w 32 [.int .i64 2, .slice a 0 c, .slice a2 0 c2]).below hb (by simp)
  have c0 := o1.cell 0
  simp at c0
  clear hb o1
  go_wp2_with fail
  go_ret2
  exact ⟨w1.heap.size, rfl, Own.new w1 _ _, (((Below.refl _ _).alloc (Nat.le_refl _) _).trans (HB.out.mono (by simp))).alloc (by have := HB.out.size; simp at this; omega) _⟩

theorem Lst.cap_le {w : World} {base : Nat} {e : TypeId} {a : Option Addr} {n c : Nat} {xs : List Value} (h : Lst w base e (.slice a n c) xs) : c ≤ maxLen := by
  unfold Lst at h
  rcases h.2 with ⟨h1, _⟩ | ⟨g, cap, cur, h1, _, _, _, h2, _⟩
  · injection h1 with _ _ h3; subst h3; decide
  · injection h1 with _ _ h3; subst h3; exact h2
theorem vals_take (x : Ce) (k : Nat) (h : k < x.b.length) : (headN x.b.length x.d.length :: (x.b.take (k + 1)).map fieldN) = (headN x.b.length x.d.length :: (x.b.take k).map fieldN) ++ [fieldN (bk x.b k)] := by
  rw [bk_take h]; simp
set_option maxHeartbeats 4000000 in
theorem enc_data (x : Ce) (a : Option Addr) (c : Nat) (a2 : Option Addr) (c2 B : Nat) (w : World) (hro0 : Ro w B a (u8s x.d)) (hro : Ro w B a2 (bcs x.b)) (hB : B ≤ w.heap.size) (hfit : ∀ b ∈ x.b, FitB b) (hk : x.k = 1) (hr : right x = true) :
    Calls Tryz.prog 43 #[cev 1 a x.d.length c a2 x.b.length c2] w fun e w' => ∃ bs a' c', e = .returned (.tuple #[.slice a' bs.length c', .int .i64 0]) ∧ IsEnc x bs ∧ Ro w' w'.heap.size a' (u8s bs) ∧ (bs.length ≤ c' ∧ c' ≤ maxLen) ∧ Below w.heap.size w w' ∧ Lst w' w.heap.size 5 (.slice a' bs.length c') (u8s bs) := by
  obtain ⟨hd, hn, hbk⟩ := right_data hr hk
  have HR := Lib.hid (right_any x a c a2 c2 B (w.alloc (.cells #[.int .i64 x.k, .slice a x.d.length c, .slice a2 x.b.length c2] 32)) (hro.below ((Below.refl B w).alloc hB _) (Nat.le_refl _)) (by simp; omega) (by omega) (by omega))
  rw [hr, hk] at HR
  have HP := Lib.hid (packOk_vals hr hk)
  have HK := Lib.hid hk
  have HBK := Lib.hid hbk
  have HRO0 := Lib.hid hro0
  have HRO := Lib.hid hro
  have HF := Lib.hid hfit
  clear hr hro hro0 hk hbk hfit
  obtain ⟨n, HN⟩ : ∃ n, Hid (x.b.length = n) := ⟨_, Lib.hid rfl⟩
  obtain ⟨m, HM⟩ : ∃ m, Hid (x.d.length = m) := ⟨_, Lib.hid rfl⟩
  rw [HN.out] at hn HR ⊢
  rw [HM.out] at hd HR ⊢
  have HH := Lib.hid (fun W => headOf_any 1 a m c a2 n c2 W (by omega) (by omega))
  go_enter Tryz.func43, Tryz.ntmps43
  go_wp2_with fail
  refine HR.out.mono ?_
  rintro e w1 ⟨rfl, hb⟩
  have HB1 := Lib.hid (((Below.refl w.heap.size w).alloc (Nat.le_refl _) (.cells #[.int .i64 1, .slice a m c, .slice a2 n c2] 32)).trans (hb.mono (by simp)))
  have o1 := (Own.new w 32 [.int .i64 1, .slice a m c, .slice a2 n c2]).below hb (by simp)
  have c0 := o1.cell 0
  have c1 := o1.cell 1
  have c2' := o1.cell 2
  simp at c0 c1 c2'
  have HO1 := Lib.hid o1
  clear hb o1
  go_wp2_with fail
  refine (HH.out _).mono ?_
  rintro e w2 ⟨rfl, hb⟩
  have HB2 := Lib.hid (HB1.out.trans (hb.mono HB1.out.size))
  have HO2 := Lib.hid (HO1.out.below hb HO1.out.lt)
  have c2'' := HO2.out.cell 2
  simp at c2''
  have HZ2 := Lib.hid (Nat.lt_of_lt_of_le HO1.out.lt hb.size)
  have hz2 : w.heap.size < w2.heap.size := Nat.lt_of_lt_of_le HO1.out.lt hb.size
  clear hb c0 c1 c2'
  go_wp2_with fail
  obtain ⟨hd0, HD0⟩ : ∃ h, Hid (headN n m = h) := ⟨_, Lib.hid rfl⟩
  rw [HD0.out]
  have HLst0 : Hid (Lst (w2.alloc (.cells #[.int .u64 (hd0 : Int)] 26)) (w.heap.size + 1) 26 (.slice (some ⟨w2.heap.size, 0, none⟩) 1 1) (u64s (hd0 :: (x.b.take 0).map fieldN))) :=
    Lib.hid ((Own.new w2 26 (u64s [hd0])).lst (by omega) 1 rfl (by decide))
  have hnn : (0 : Int) ≤ (n : Int) := by omega
  go_loopw [4, 22] (fun s4 i wr => ∃ (k : Nat) (al : Option Addr) (nl cl : Nat), k ≤ n ∧ i = .int .i64 (k : Int) ∧ s4 = .slice al nl cl ∧ Hid (Lst wr (w.heap.size + 1) 26 (.slice al nl cl) (u64s (hd0 :: (x.b.take k).map fieldN))) ∧ Hid (Below (w.heap.size + 1) w2 wr)) (fun _ i _ => n - (intOf i).toNat)
  case atStart => exact ⟨0, _, _, _, Nat.zero_le _, rfl, rfl, HLst0, Lib.hid ((Below.refl _ _).alloc (by omega) _)⟩
  case round =>
    obtain ⟨k, al, nl, cl, hk, rfl, rfl, HL, HBr⟩ := hrel
    have hzr : w.heap.size < wr.heap.size := Nat.lt_of_lt_of_le hz2 HBr.out.size
    have HBw : Hid (Below w.heap.size w wr) := Lib.hid (HB2.out.trans (HBr.out.mono (by omega)))
    have HOr := Lib.hid (HO2.out.below HBr.out (Nat.lt_succ_self _))
    by_cases hlt : k < n
    · have hkL : k < x.b.length := by rw [HN.out]; exact hlt
      obtain ⟨b, off, rfl, hb, hc⟩ := (HRO.out.below HBw.out hB).bk (by omega)
      obtain ⟨c1, c2, c3⟩ := hc k hkL
      have HV := Lib.hid (vals_take x k hkL)
      have hat := backsOk_at HBK.out k hkL
      have hft := HF.out _ (bk_mem hkL)
      clear hc
      have HFt := Lib.hid hft
      have HAt := Lib.hid hat
      generalize bk x.b k = y at *
      have HC := Lib.hid (fun W => fieldOf_any y W (by have := HAt.out; omega) HAt.out.2.2.1 (by have := HFt.out; unfold FitB at this; omega) (by have := HFt.out; unfold FitB at this; omega))
      have hk0 : (0 : Int) ≤ (k : Int) := by omega
      have hk1 : (k : Int) < (n : Int) := by omega
      clear hat hft
      go_wp2_with fail
      refine (HC.out _).mono ?_
      rintro e w4 ⟨rfl, hb4⟩
      have HB4 : Hid (Below (w.heap.size + 1) w2 w4) := Lib.hid ((HBr.out.alloc (by omega) _).trans (hb4.mono (by simp; omega)))
      have HL4 := Lib.hid ((HL.out.alloc (.cells #[.int .i64 y.1, .int .u64 (y.2.1 : Int), .int .u64 (y.2.2 : Int)] 96)).below hb4 (Nat.le_refl _))
      have HZ4 : Hid (w.heap.size < w4.heap.size) := Lib.hid (Nat.lt_of_lt_of_le hz2 HB4.out.size)
      have HLen : Hid ((u64s (hd0 :: (x.b.take k).map fieldN)).length ≤ 5) := Lib.hid (by rw [u64s_length, List.length_cons, List.length_map, List.length_take]; omega)
      clear hb4
      go_wp2_with (at_builtin; refine wpList_app1 rfl (.tmp 26) (.tmp 29) 79 rfl (w.heap.size + 1) 26 (.int .u64 0) 8 Tryz.underlying79 Tryz.info_u64 rfl (.int .u64 (fieldN y : Int)) rfl (.slice al nl cl) (u64s (hd0 :: (x.b.take k).map fieldN)) rfl HL4.out rfl (by have := HLen.out; omega) (by have := HLen.out; omega) (w.heap.size + 1) w2 HB4.out (Nat.le_refl _) HZ4.out ?_)
      intro v' w5 hl5 hb5 hs5
      have HL5 := Lib.hid hl5.out
      have HB5 := Lib.hid hb5
      clear hl5 hb5 hs5
      obtain ⟨al', cl', rfl, _, _, _⟩ := HL5.out.form
      go_wp2_with fail
      go_roundw
      case rel =>
        have hV := HV.out
        rw [HN.out, HM.out, HD0.out] at hV
        refine ⟨k + 1, _, _, _, by omega, by go_num, rfl, ?_, HB5⟩
        rw [hV]
        have := HL5.out
        simpa [u64s] using Lib.hid this
      case measure => simp [intOf]; omega
    · obtain rfl : k = n := by omega
      have c2r := HOr.out.cell 2
      simp at c2r
      have hnl : nl = k + 1 := by
        obtain ⟨a', c', he, _, _, _⟩ := HL.out.form
        injection he with _ h2 _
        rw [h2, u64s_length, List.length_cons, List.length_map, List.length_take, HN.out]
        omega
      subst hnl
      have hvals : vals x = hd0 :: (x.b.take k).map fieldN := by
        unfold vals
        rw [List.take_of_length_le (by rw [HN.out]; exact Nat.le_refl _), HN.out, HM.out, HD0.out]
      have HL2 := HL.out
      rw [← hvals] at HL2
      have HL3 := Lib.hid HL2
      have HPK : Hid (∀ W aw cw, Ro W W.heap.size aw (i64s (wid k)) → Ro W W.heap.size al (u64s (vals x)) → Calls Tryz.prog 46 #[.slice aw (k + 1) cw, .slice al (k + 1) cl] W fun e w' => ∃ (g : Nat) (cs : List UInt8) (p : Nat), p = cs.length ∧ e = .returned (.tuple #[.slice (some ⟨g, 0, none⟩) p p, .bool true]) ∧ W.heap.size ≤ g ∧ IsPack (wid k) (vals x) cs ∧ Own w' g 5 (u8s cs) ∧ Below W.heap.size W w') := by
        apply Lib.hid
        intro W aw cw g1 g2
        have := pack_yes (wid k) (vals x) aw al cw cl W.heap.size W g1 g2 (Nat.le_refl _) (by simp; omega) (by have := HP.out; rwa [HN.out] at this)
        rw [wid_length, vals_length, HN.out] at this
        refine this.mono ?_
        rintro e w' ⟨g, cs, h1, h2, h3, h4, h5⟩
        exact ⟨g, cs, _, rfl, h1, h2, h3, h4, h5⟩
      clear HL2 hvals HL
      go_wp2_with fail
      refine (widths_any k _ (by omega)).mono ?_
      rintro e w6 ⟨aw, cw, rfl, hrw, hb6⟩
      have HRW := Lib.hid hrw
      have HL6 := Lib.hid (HL3.out.below hb6 (Nat.le_refl _))
      have HB6 := Lib.hid (HBw.out.trans (hb6.mono HBw.out.size))
      have HO6 := Lib.hid (HOr.out.below hb6 hzr)
      clear hrw hb6
      go_wp2_with fail
      refine (HPK.out _ _ _ HRW.out (by
        obtain ⟨a', c', he, hr, _, _⟩ := HL6.out.form
        injection he with h1 _ _
        subst h1
        exact hr)).mono ?_
      rintro e w7 ⟨g, cs, p, hp, rfl, hg, hpk, hown, hb7⟩
      have HPp := Lib.hid hp
      have HPK2 := Lib.hid hpk
      have HG := Lib.hid (Nat.le_trans HB6.out.size hg)
      have HOwn := Lib.hid hown
      have HB7 := Lib.hid (HB6.out.trans (hb7.mono HB6.out.size))
      have o7 := HO6.out.below hb7 HO6.out.lt
      have d1 := o7.cell 1
      simp at d1
      have hpl : p ≤ 100 := by
        have := hpk.1
        rw [wid_sum] at this
        omega
      clear hp hpk hown hb7 o7 hg
      have HLs : Hid (Lst w7 w.heap.size 5 (.slice (some ⟨g, 0, none⟩) p p) (u8s cs)) := Lib.hid (HOwn.out.lst HG.out p (by rw [u8s_length]; exact HPp.out.symm) (by unfold maxLen; omega))
      have HCl : Hid ((u8s cs).length = p) := Lib.hid (by rw [u8s_length]; exact HPp.out.symm)
      go_wp2_with (at_builtin; refine wpList_appB rfl (.tmp 43) (.tmp 45) 29 rfl w.heap.size 5 (.int .u8 0) 1 Tryz.underlying29 Tryz.info_u8 rfl (.slice (some ⟨g, 0, none⟩) p p) (u8s cs) rfl HLs.out a B m c (u8s x.d) rfl (by rw [u8s_length]; exact HM.out) (HRO0.out.below HB7.out hB) (u8s_oneCell _) (by have := HCl.out; omega) (by have := HCl.out; omega) w.heap.size w HB7.out (Nat.le_refl _) HB7.out.size ?_)
      intro v' w8 hl8 hb8 hs8
      have HL8 := Lib.hid hl8.out
      have HB8 := Lib.hid hb8
      clear hl8 hb8 hs8
      obtain ⟨a8, c8, rfl, hr8, hc8, _⟩ := HL8.out.form
      have HR8 := Lib.hid hr8
      have HC8 := Lib.hid (And.intro hc8 (HL8.out.cap_le))
      clear hr8 hc8
      go_wp2_with fail
      go_ret2
      have e8 : u8s cs ++ u8s x.d = u8s (cs ++ x.d) := by simp [u8s]
      refine ⟨cs ++ x.d, a8, c8, by rw [e8, u8s_length]; rfl, .inr ⟨HK.out, cs, by rw [HN.out]; exact HPK2.out, rfl⟩, by rw [← e8]; exact HR8.out, by have := HC8.out; rw [e8, u8s_length] at this; exact this, HB8.out, by have := HL8.out; rw [e8, u8s_length] at this; exact this⟩
end Go.Proofs.YteenlkmnadjnpaaGreat
namespace Go.Proofs.YteenlkmnadjnpaaGreat
open Go.RowKit Go.Deep Go.Shelf
set_option linter.unusedVariables false
set_option linter.unusedSimpArgs false

theorem Own.roq {w : World} {g b n : Nat} {T : TypeId} {vs cs : List Value} (h : Own w b 5 vs) (hg : Own w g T cs) (hT : T ≠ 5) : RoQ w g (some ⟨b, 0, none⟩) vs := by
  refine .inr ⟨b, 0, rfl, h.lt, fun e => ?_, h.quiT (by decide) (by decide), fun i hi => ?_⟩
  · subst e
    unfold Own at h hg
    rw [h] at hg
    injection hg with hg
    injection hg with _ hg _
    exact hT hg.symm
  · rw [Nat.zero_add, h.cell i]
    simp [List.getD, hi]
theorem Lst.roq {w : World} {base g n c : Nat} {a : Option Addr} {T : TypeId} {vs cs : List Value} (h : Lst w base 5 (.slice a n c) vs) (hg : Own w g T cs) (hT : T ≠ 5) : RoQ w g a vs := by
  obtain ⟨a', c', he, hr, _⟩ := h.form
  injection he with h1 _ _
  subst h1
  rcases hr with hr | ⟨b, off, h1, h2, h3⟩
  · exact .inl hr
  · rcases h.2 with ⟨hv, _⟩ | ⟨k, cap, cur, hv, _, hh, _⟩
    · injection hv with hv _ _
      rw [hv] at h1; cases h1
    · injection hv with hv _ _
      rw [hv] at h1
      injection h1 with h1
      injection h1 with h1 h1' _
      subst h1
      refine .inr ⟨k, off, by rw [hv, h1'], h2, fun e => ?_, fun cur' => ⟨fun e => ?_, fun e => ?_⟩, h3⟩
      · subst e
        unfold Own at hg
        rw [hh] at hg
        injection hg with hg
        injection hg with _ hg _
        exact hT hg.symm
      · rw [hh] at e
        injection e with e
        injection e with _ e _
        exact absurd e (by decide)
      · rw [hh] at e
        injection e with e
        injection e with _ e _
        exact absurd e (by decide)
/-- Encode of a cell, valid or not -/
theorem cenc_u (x : Ce) (a : Option Addr) (c : Nat) (a2 : Option Addr) (c2 B : Nat) (w : World) (hro0 : Ro w B a (u8s x.d)) (hro : Ro w B a2 (bcs x.b)) (hB : B ≤ w.heap.size) (hfit : ∀ b ∈ x.b, FitB b) (hl : x.b.length ≤ 9223372036854775807) (hl2 : x.d.length ≤ 9223372036854775807) :
    Calls Tryz.prog 43 #[cev x.k a x.d.length c a2 x.b.length c2] w fun e w' => ∃ bs a' c' g, e = .returned (.tuple #[.slice a' bs.length c', .int .i64 g]) ∧ CB x bs ∧ (∀ g T cs, Own w' g T cs → T ≠ 5 → RoQ w' g a' (u8s bs)) ∧ Below w.heap.size w w' := by
  cases hr : right x with
  | false =>
    refine (enc_no x a c a2 c2 B w hro hB hl hl2 hr).mono ?_
    rintro e w' ⟨rfl, hb⟩
    exact ⟨[], none, 0, 71, rfl, .inr ⟨hr, rfl⟩, fun _ _ _ _ _ => .inl rfl, hb⟩
  | true =>
    rcases right_kind hr with hk | hk
    · have := enc_data x a c a2 c2 B w hro0 hro hB hfit hk hr
      rw [← hk] at this
      refine this.mono ?_
      rintro e w' ⟨bs, a', c', rfl, he, _, _, hb, hl⟩
      exact ⟨bs, a', c', 0, rfl, .inl ⟨hr, he⟩, fun g T cs hg hT => hl.roq hg hT, hb⟩
    · obtain rfl := right_junk hr hk
      refine (enc_junk a c a2 c2 w).mono ?_
      rintro e w' ⟨g, rfl, ho, hb⟩
      exact ⟨[2], some ⟨g, 0, none⟩, 1, 0, rfl, .inl ⟨rfl, .inl ⟨rfl, rfl⟩⟩, fun g' T cs hg hT => ho.roq (n := 0) hg hT, hb⟩
theorem lenc_b (A : LyT) (B : Nat) (w : World) (h : LyIn w B A) (hB : B ≤ w.heap.size) (hf : SgFit A.sg) :
    Calls Tryz.prog 45 #[A.val] w fun e w' => ∃ bs a' c' g, e = .returned (.tuple #[.slice a' bs.length c', .int .i64 g]) ∧ LB A.x bs ∧ (∀ g T cs, Own w' g T cs → T ≠ 5 → RoQ w' g a' (u8s bs)) ∧ Below w.heap.size w w' := by
  cases hr : lright A.x with
  | false =>
    refine (lenc_no A B w h hB hf hr).mono ?_
    rintro e w' ⟨rfl, hb⟩
    exact ⟨[], none, 0, 91, rfl, .inr ⟨hr, rfl⟩, fun _ _ _ _ _ => .inl rfl, hb⟩
  | true =>
    refine (lenc_yes A B w h hB hf hr).mono ?_
    rintro e w' ⟨g, cs, rfl, _, he, ho, hb⟩
    exact ⟨cs, _, _, 0, rfl, .inl ⟨hr, he⟩, fun g' T cs' hg hT => ho.roq (n := 0) hg hT, hb⟩

theorem infoMg : (Tryz.prog.info? 40).map (·.size) = some 22 := by kernel_rfl
theorem Own.range {w : World} {b : Nat} {t : TypeId} {cs : List Value} (h : Own w b t cs) : w.rangeAt b 0 cs := fun j v hv => by
  rw [Nat.zero_add, h.cell j]; exact hv
/-- a message is loaded whole -/
theorem wpList_loadMg {ops : Array Oper} {rest : List Oper} {o : Oper} {a : Act} {w : World} {Q : Exit → Act → World → Prop} (hgd : o.guard = none) (x : Operand) (ho : o.op = .load 40 x) (b : Nat) (hx : a.eval x = .pointer (some ⟨b, 0, none⟩)) (A : MgT) (hr : Own w b 40 A.cs)
    (h : wpList Tryz.prog ops Q rest (a.put o.dst (.agg A.cs.toArray)) w) : wpList Tryz.prog ops Q (o :: rest) a w :=
  wpList_load_mid hgd _ x ho b 0 hx A.cs _ hr.range Tryz.underlying40 rfl infoMg h

set_option maxHeartbeats 4000000 in
theorem menc_no (A : MgT) (B : Nat) (w : World) (h : MgIn w B A) (hB : B ≤ w.heap.size) (hf : MgFit A) (hr : mright A.x = false) :
    Calls Tryz.prog 12 #[A.val] w fun e w' => e = .returned (.tuple #[.slice none 0 0, .int .i64 101]) ∧ Below w.heap.size w w' := by
  obtain ⟨W, HWW⟩ : ∃ W, Hid (w.alloc (.cells A.cs.toArray 40) = W) := ⟨_, Lib.hid rfl⟩
  have hWb : Below w.heap.size w W := by rw [← HWW.out]; exact (Below.refl _ _).alloc (Nat.le_refl _) _
  have HO := Lib.hid (show Own W w.heap.size 40 A.cs by rw [← HWW.out]; exact Own.new w _ _)
  have HB := Lib.hid hWb
  have HR := Lib.hid (mright_any A B W (h.below hWb hB) (Nat.le_trans hB hWb.size) hf)
  rw [hr] at HR
  simp only [MgT.val] at *
  clear hWb h hB hf hr
  go_enter Tryz.func12, Tryz.ntmps12
  go_upto_region 1 with fail
  rw [HWW.out]
  go_wp2_with (refine wpList_loadMg rfl (.tmp 1) rfl w.heap.size rfl A HO.out ?_)
  refine HR.out.mono ?_
  rintro e w1 ⟨rfl, hb⟩
  have HB1 := Lib.hid (HB.out.trans (hb.mono HB.out.size))
  clear hb
  go_wp2_with fail
  go_ret2
  exact ⟨rfl, HB1.out⟩

set_option maxHeartbeats 8000000 in
set_option maxRecDepth 100000 in
theorem menc_yes (A : MgT) (B : Nat) (w : World) (h : MgIn w B A) (hB : B ≤ w.heap.size) (hf : MgFit A) (hr : mright A.x = true) :
    Calls Tryz.prog 12 #[A.val] w fun e w' => ∃ (g : Nat) (cs : List UInt8), e = .returned (.tuple #[.slice (some ⟨g, 0, none⟩) cs.length cs.length, .int .i64 0]) ∧ w.heap.size ≤ g ∧ IsME A.x cs ∧ Own w' g 5 (u8s cs) ∧ Below w.heap.size w w' := by
  obtain ⟨W, HWW⟩ : ∃ W, Hid (w.alloc (.cells A.cs.toArray 40) = W) := ⟨_, Lib.hid rfl⟩
  have hWb : Below w.heap.size w W := by rw [← HWW.out]; exact (Below.refl _ _).alloc (Nat.le_refl _) _
  have HO := Lib.hid (show Own W w.heap.size 40 A.cs by rw [← HWW.out]; exact Own.new w _ _)
  have HB := Lib.hid hWb
  have HR := Lib.hid (mright_any A B W (h.below hWb hB) (Nat.le_trans hB hWb.size) hf)
  rw [hr] at HR
  have hm := mright_all hr
  have HIN := Lib.hid (fun (W' : World) (hb : Below w.heap.size w W') => h.below hb hB)
  have HBW := Lib.hid hB
  have HHD := Lib.hid (fun (base g : Nat) (W' : World) (h1 : Fst W' 81 base g []) (h2 : base ≤ W'.heap.size) => mhead_any A base g W' h1 h2 hm)
  have HST := Lib.hid (fun (F : List (Nat × Nat)) (base g : Nat) (W' : World) (h1 : Fst W' 81 base g F) (h2 : F.length ≤ 900) (h3 : base ≤ W'.heap.size) (h4 : Below w.heap.size w W') (h5 : B ≤ base) (h6 : B ≤ g) => mstreams_any F base g A.st A.sa A.sc B W' h1 h2 h3 (HIN.out W' h4).st h5 h6 hm.st.1 hm.st.2)
  have HBK := Lib.hid (fun (F : List (Nat × Nat)) (base g : Nat) (W' : World) (h1 : Fst W' 81 base g F) (h2 : F.length ≤ 900) (h3 : base ≤ W'.heap.size) (h4 : Below w.heap.size w W') (h5 : B ≤ base) (h6 : B ≤ g) => mbacks_any F base g A.bk A.ka A.kc B W' h1 h2 h3 (HIN.out W' h4).bk h5 h6 hm.bk.1 (fun b hb => ⟨(hm.bk.2 b hb).1, (hm.bk.2 b hb).2.1⟩) hf.fk)
  have HCE := Lib.hid (fun (W' : World) (hb : Below w.heap.size w W') => cenc_u A.c A.ca A.cc A.ca2 A.cc2 B W' (HIN.out W' hb).d (HIN.out W' hb).b (Nat.le_trans hB hb.size) hf.fb hf.b hf.d)
  have HLE := Lib.hid (fun (W' : World) (hb : Below w.heap.size w W') => lenc_b A.ly B W' (HIN.out W' hb).ly (Nat.le_trans hB hb.size) hf.ly)
  have HMG : Hid (∀ cb lb, CB A.x.c cb → LB A.x.ly lb → FOk (fMg A.x cb lb) ∧ (fMg A.x cb lb).length ≤ 300 ∧ fMg A.x cb lb = fHd A.x ++ fSt A.st ++ fBks A.bk ++ fBy cb ++ fBy lb) := Lib.hid (fun cb lb h1 h2 => ⟨fMg_ok hm h1 h2, fMg_len hm h1 h2, by simp [fMg, MgT.x]⟩)
  have HLN : Hid ((fHd A.x ++ fSt A.st ++ fBks A.bk).length ≤ 200) := Lib.hid (by
    have e1 := fflat_le (f := fun s : Int => [(4, s.toNat)]) (n := 1) (xs := A.st) (fun u _ => by simp)
    have e2 := fflat_le (f := fBk) (n := 3) (xs := A.bk) (fun u _ => by simp [fBk])
    have e3 : A.st.length ≤ 4 := hm.st.1
    have e4 : A.bk.length ≤ 16 := hm.bk.1
    have e5 : (fHd A.x).length = 14 := rfl
    unfold fSt fBks
    simp only [List.length_append, List.length_cons]
    omega)
  simp only [MgT.val] at *
  have HMS : Hid (∀ (W' : World) (b : Nat), Own W' b 40 A.cs → (W'.cell? ⟨b, 13, none⟩ = some (.slice A.sa A.st.length A.sc) ∧ W'.cell? ⟨b, 14, none⟩ = some (.slice A.ka A.bk.length A.kc)) ∧ (W'.cell? ⟨b, 10, none⟩ = some (.int .i64 A.c.k) ∧ W'.cell? ⟨b, 11, none⟩ = some (.slice A.ca A.c.d.length A.cc) ∧ W'.cell? ⟨b, 12, none⟩ = some (.slice A.ca2 A.c.b.length A.cc2)) ∧ W'.cell? ⟨b, 19, none⟩ = some (.int .u64 (A.ly.e : Int)) ∧ W'.cell? ⟨b, 20, none⟩ = some (.slice A.ly.a A.ly.sg.length A.ly.c) ∧ W'.cell? ⟨b, 21, none⟩ = some (.int .i64 A.ly.q)) := Lib.hid (fun W' b h => ⟨⟨h.cell 13, h.cell 14⟩, ⟨h.cell 10, h.cell 11, h.cell 12⟩, h.cell 19, h.cell 20, h.cell 21⟩)
  simp only [LyT.val] at HLE
  have HME : Hid (∀ cb lb bs, CB A.x.c cb → LB A.x.ly lb → IsPack (fw (fMg A.x cb lb)) (fv (fMg A.x cb lb)) bs → IsME A.x bs) := Lib.hid (fun cb lb bs h1 h2 h3 => ⟨cb, lb, h1, h2, h3⟩)
  have HCX : Hid (A.x.c = A.c ∧ A.x.ly = A.ly.x) := Lib.hid ⟨rfl, rfl⟩
  clear hWb h hf hr hm HIN hB
  go_enter Tryz.func12, Tryz.ntmps12
  go_upto_region 1 with fail
  rw [HWW.out]
  go_wp2_with (refine wpList_loadMg rfl (.tmp 1) rfl w.heap.size rfl A HO.out ?_)
  refine HR.out.mono ?_
  rintro e w1 ⟨rfl, hb⟩
  have HB1 := Lib.hid (HB.out.trans (hb.mono HB.out.size))
  have HO1 := Lib.hid (HO.out.below hb HO.out.lt)
  clear hb
  go_upto_region 4 with fail
  obtain ⟨g, hg⟩ : ∃ g, w1.heap.size = g := ⟨_, rfl⟩
  obtain ⟨W2, hW2⟩ : ∃ W2, w1.alloc (.cells #[.slice none 0 0, .slice none 0 0] 81) = W2 := ⟨_, rfl⟩
  have HG : Hid (w.heap.size < g) := Lib.hid (by rw [← hg]; exact HO1.out.lt)
  have HS2 : Hid (W2.heap.size = g + 1) := Lib.hid (by rw [← hW2, ← hg]; simp)
  have HX2 : Hid (Fst W2 81 (g + 1) g []) := Lib.hid (by rw [← hW2, ← hg]; exact Fst.new w1 _ _)
  have HB2 : Hid (Below w.heap.size w W2) := Lib.hid (by rw [← hW2]; exact HB1.out.alloc HB1.out.size _)
  have HO2 : Hid (Own W2 w.heap.size 40 A.cs) := Lib.hid (by rw [← hW2]; exact HO1.out.alloc _)
  have HBG : Hid (B ≤ g) := Lib.hid (by have := HBW.out; have := HG.out; omega)
  have HFB : Hid (∀ W', Fc (g + 1) g W2 W' → Below w.heap.size w W' ∧ g + 1 ≤ W'.heap.size) := Lib.hid (fun W' h => ⟨HB2.out.trans (h.below HB2.out.size (by have := HG.out; omega) (by have := HG.out; omega)), by have := h.size; have := HS2.out; omega⟩)
  rw [hW2, hg]
  clear hW2 hg
  go_wp2_with (refine wpList_loadMg rfl (.tmp 1) rfl w.heap.size rfl A HO2.out ?_)
  refine (HHD.out (g + 1) g W2 HX2.out (by rw [HS2.out]; exact Nat.le_refl _)).mono ?_
  rintro e w3 ⟨rfl, h1, h2⟩
  have HX3 := Lib.hid h1
  have HC3 := Lib.hid h2
  have HO3 := Lib.hid (HO2.out.fcl h2 (by have := HG.out; omega) (by have := HG.out; omega))
  clear h1 h2
  obtain ⟨⟨q0, q1⟩, -, -⟩ := HMS.out w3 _ HO3.out
  go_wp2_with fail
  refine (HST.out _ (g + 1) g w3 HX3.out (by have := HLN.out; simp only [List.length_append] at this; omega) (HFB.out _ HC3.out).2 (HFB.out _ HC3.out).1 (by have := HBG.out; omega) HBG.out).mono ?_
  rintro e w4 ⟨rfl, h1, h2⟩
  have HX4 := Lib.hid h1
  have HC4 := Lib.hid (HC3.out.trans h2)
  have HO4 := Lib.hid (HO3.out.fcl h2 (by have := HG.out; omega) (by have := HG.out; omega))
  clear h1 h2 q0 q1
  obtain ⟨⟨q0, q1⟩, -, -⟩ := HMS.out w4 _ HO4.out
  go_wp2_with fail
  refine (HBK.out _ (g + 1) g w4 HX4.out (by have := HLN.out; simp only [List.length_append] at this ⊢; omega) (HFB.out _ HC4.out).2 (HFB.out _ HC4.out).1 (by have := HBG.out; omega) HBG.out).mono ?_
  rintro e w5 ⟨rfl, h1, h2⟩
  have HX5 := Lib.hid h1
  have HC5 := Lib.hid (HC4.out.trans h2)
  have HO5 := Lib.hid (HO4.out.fcl h2 (by have := HG.out; omega) (by have := HG.out; omega))
  clear h1 h2 q0 q1
  obtain ⟨-, ⟨q0, q1, q2⟩, -⟩ := HMS.out w5 _ HO5.out
  go_wp2_with fail
  refine (HCE.out w5 (HFB.out _ HC5.out).1).mono ?_
  rintro e w6 ⟨cb, a6, c6, g6, rfl, hcb, hroq, hb⟩
  have HX6 := Lib.hid (HX5.out.below hb)
  have HC6 := Lib.hid (HC5.out.trans (.of_below hb))
  have HO6 := Lib.hid (HO5.out.below hb HO5.out.lt)
  have HCB : Hid (CB A.x.c cb) := Lib.hid (by rw [HCX.out.1]; exact hcb)
  have HRQ := Lib.hid (by obtain ⟨v1, v2, o1, _⟩ := HX6.out; exact hroq g 81 _ o1 (by decide))
  clear hb hcb hroq q0 q1 q2
  have HCL := Lib.hid HCB.out.len
  obtain ⟨ncb, hncb⟩ : ∃ n, cb.length = n := ⟨_, rfl⟩
  have HNCB := Lib.hid hncb
  rw [hncb]
  clear hncb
  go_wp2_with fail
  have HAB := Lib.hid (mbytes_any _ (g + 1) g cb a6 c6 w6 HX6.out (by have := HLN.out; omega) (HFB.out _ HC6.out).2 HRQ.out (by have := HCL.out; omega))
  rw [HNCB.out] at HAB
  refine HAB.out.mono ?_
  rintro e w7 ⟨rfl, h1, h2⟩
  have HX7 := Lib.hid h1
  have HC7 := Lib.hid (HC6.out.trans h2)
  have HO7 := Lib.hid (HO6.out.fcl h2 (by have := HG.out; omega) (by have := HG.out; omega))
  clear h1 h2 HAB
  obtain ⟨-, -, q0, q1, q2⟩ := HMS.out w7 _ HO7.out
  go_wp2_with fail
  refine (HLE.out w7 (HFB.out _ HC7.out).1).mono ?_
  rintro e w8 ⟨lb, a8, c8, g8, rfl, hlb, hroq, hb⟩
  have HX8 := Lib.hid (HX7.out.below hb)
  have HC8 := Lib.hid (HC7.out.trans (.of_below hb))
  have HLB : Hid (LB A.x.ly lb) := Lib.hid (by rw [HCX.out.2]; exact hlb)
  have HRQ2 := Lib.hid (by obtain ⟨v1, v2, o1, _⟩ := HX8.out; exact hroq g 81 _ o1 (by decide))
  clear hb hlb hroq q0 q1 q2
  have HLL := Lib.hid HLB.out.len
  obtain ⟨nlb, hnlb⟩ : ∃ n, lb.length = n := ⟨_, rfl⟩
  have HNLB := Lib.hid hnlb
  rw [hnlb]
  clear hnlb
  go_wp2_with fail
  obtain ⟨HOK, HLEN, HEQ⟩ := HMG.out cb lb HCB.out HLB.out
  have HAB := Lib.hid (mbytes_any _ (g + 1) g lb a8 c8 w8 HX8.out (by
    have := HLEN
    rw [HEQ] at this
    rw [List.length_append] at this
    omega) (HFB.out _ HC8.out).2 HRQ2.out (by have := HLL.out; omega))
  rw [HNLB.out] at HAB
  rw [← HEQ] at HAB
  have HPOK := Lib.hid HOK
  have HPLN := Lib.hid HLEN
  clear HOK HLEN HEQ
  refine HAB.out.mono ?_
  rintro e w9 ⟨rfl, h1, h2⟩
  have HC9 := Lib.hid (HC8.out.trans h2)
  obtain ⟨v1, v2, o1, o2, o3⟩ := h1
  have q0 := o1.cell 0
  have q1 := o1.cell 1
  have hzg := o1.lt
  simp at q0 q1
  obtain ⟨b1, cc1, rfl, r1, _, _⟩ := o2.form
  obtain ⟨b2, cc2, rfl, r2, _, _⟩ := o3.form
  have HP := Lib.hid (pack_yes (fw (fMg A.x cb lb)) (fv (fMg A.x cb lb)) b1 b2 cc1 cc2 w9.heap.size w9 r1 r2 (Nat.le_refl _) (by rw [fw_length]; have := HPLN.out; omega) HPOK.out.pack)
  have HME2 := Lib.hid (fun bs => HME.out cb lb bs HCB.out HLB.out)
  simp only [i64s_length, u64s_length, fw_length, fv_length] at q0 q1 HP
  generalize (fMg A.x cb lb).length = ln at *
  clear o1 o2 o3 r1 r2 h2 HAB
  go_wp2_with fail
  refine HP.out.mono ?_
  rintro e w10 ⟨g7, cs, rfl, hg7, hpk, ho7, hb7⟩
  have HE := Lib.hid (And.intro (Nat.le_trans (HFB.out _ HC9.out).1.size hg7) (And.intro (HME2.out cs hpk) (And.intro ho7 ((HFB.out _ HC9.out).1.trans (hb7.mono (HFB.out _ HC9.out).1.size)))))
  clear hg7 hpk ho7 hb7
  go_wp2_with fail
  go_ret2
  exact ⟨g7, cs, rfl, HE.out.1, HE.out.2.1, HE.out.2.2.1, HE.out.2.2.2⟩
end Go.Proofs.YteenlkmnadjnpaaGreat
