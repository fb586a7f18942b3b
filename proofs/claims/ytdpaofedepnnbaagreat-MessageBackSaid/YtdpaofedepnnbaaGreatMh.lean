/-
  addHead of package message, by its contracts. No claim of its own.
-/
import Derived.Test.YtdpaofedepnnbaaGreatMf
import Derived.Test.YtdpaofedepnnbaaGreatMt
namespace Go.Proofs.YtdpaofedepnnbaaGreat
open Go.RowKit Go.Deep
set_option linter.unusedVariables false
set_option linter.unusedSimpArgs false

set_option maxHeartbeats 8000000 in
set_option maxRecDepth 100000 in
theorem mhead_any (A : MgT) (base g : Nat) (w : World) (h : Fst w 55 base g []) (hb : base ≤ w.heap.size) (hr : MRight A.x) :
    Calls Tryz.prog 19 #[.pointer (some ⟨g, 0, none⟩), A.val] w fun e w' => e = .returned (.tuple #[]) ∧ Fst w' 55 base g (fHd A.x) ∧ Fc base g w w' := by
  obtain ⟨W, HWW⟩ : ∃ W, Hid (w.alloc (.cells A.cs.toArray 40) = W) := ⟨_, Lib.hid rfl⟩
  have HX1 : Hid (Fst W 55 base g []) := Lib.hid (by rw [← HWW.out]; exact h.alloc _)
  have HO1 : Hid (Own W w.heap.size 40 A.cs) := Lib.hid (by rw [← HWW.out]; exact Own.new w _ _)
  have HC1 : Hid (Fc base g w W) := Lib.hid (by rw [← HWW.out]; exact (Fc.refl _ _ _).alloc _)
  have HG : Hid (w.heap.size ≠ g) := Lib.hid (by have := h.lt; omega)
  have HBW := Lib.hid hb
  have HS1 : Hid (base ≤ W.heap.size) := Lib.hid (Nat.le_trans hb HC1.out.size)
  obtain ⟨h1, h2, h3, h4, h5, h6, h7, h8, h9, -, -, -, -⟩ := hr
  obtain ⟨k, ⟨fr1, fr2⟩, ⟨to1, to2⟩, id, f, ep, ad, er, ⟨ck, cd, cb⟩, ca, cc, ca2, cc2, st, sa, sc, bk, ka, kc, ⟨ba1, ba2⟩, ⟨pr1, pr2⟩, ⟨le, la, lc, LL, lq⟩⟩ := A
  simp only [MgT.x, MgT.val, MgT.cs] at *
  obtain ⟨k, rfl⟩ := Int.eq_ofNat_of_zero_le (show 0 ≤ k by omega)
  obtain ⟨f, rfl⟩ := Int.eq_ofNat_of_zero_le (show 0 ≤ f by omega)
  obtain ⟨fr1, rfl⟩ := Int.eq_ofNat_of_zero_le (show 0 ≤ fr1 by omega)
  obtain ⟨fr2, rfl⟩ := Int.eq_ofNat_of_zero_le (show 0 ≤ fr2 by omega)
  obtain ⟨to1, rfl⟩ := Int.eq_ofNat_of_zero_le (show 0 ≤ to1 by omega)
  obtain ⟨to2, rfl⟩ := Int.eq_ofNat_of_zero_le (show 0 ≤ to2 by omega)
  obtain ⟨id, rfl⟩ := Int.eq_ofNat_of_zero_le (show 0 ≤ id by omega)
  obtain ⟨er, rfl⟩ := Int.eq_ofNat_of_zero_le (show 0 ≤ er by omega)
  obtain ⟨ba1, rfl⟩ := Int.eq_ofNat_of_zero_le (show 0 ≤ ba1 by omega)
  obtain ⟨ba2, rfl⟩ := Int.eq_ofNat_of_zero_le (show 0 ≤ ba2 by omega)
  obtain ⟨pr1, rfl⟩ := Int.eq_ofNat_of_zero_le (show 0 ≤ pr1 by omega)
  obtain ⟨pr2, rfl⟩ := Int.eq_ofNat_of_zero_le (show 0 ≤ pr2 by omega)
  have HF : Hid (fHd ⟨(k : Int), ((fr1 : Int), (fr2 : Int)), ((to1 : Int), (to2 : Int)), (id : Int), (f : Int), ep, ad, (er : Int), ⟨ck, cd, cb⟩, st, bk, ((ba1 : Int), (ba2 : Int)), ((pr1 : Int), (pr2 : Int)), LyT.x ⟨le, la, lc, LL, lq⟩⟩ = [(4, k), (4, f), (3, fr1), (5, fr2), (3, to1), (5, to2), (20, id), (21, ep), (21, ad), (8, er), (16, ba1), (2, ba2), (16, pr1), (2, pr2)]) := Lib.hid (by simp [fHd])
  rw [HF.out]
  have ek : IntKind.u64.wrap (k : Int) = (k : Int) := wrap_u64_nat k (by omega)
  have ef : IntKind.u64.wrap (f : Int) = (f : Int) := wrap_u64_nat f (by omega)
  have eid : IntKind.u64.wrap (id : Int) = (id : Int) := wrap_u64_nat id (by omega)
  have eer : IntKind.u64.wrap (er : Int) = (er : Int) := wrap_u64_nat er (by omega)
  have HR := Lib.hid (And.intro h2 (And.intro h3 (And.intro h8 h9)))
  generalize cd.length = cn at *
  generalize cb.length = cn2 at *
  generalize st.length = sn at *
  generalize bk.length = kn at *
  generalize LL.length = ln at *
  clear h hb h1 h2 h3 h4 h5 h6 h7 h8 h9
  go_enter Tryz.func19, Tryz.ntmps19
  go_upto_region 1 with fail
  rw [HWW.out]
  have c0 := HO1.out.cell 0
  have hz := HO1.out.lt
  simp at c0
  go_wp2_with fail
  refine (madd_any _ base g k 4 W HX1.out (by simp) HS1.out).mono ?_
  rintro e w2 ⟨rfl, g1, g2⟩
  have HX2 := Lib.hid g1
  have HC2 := Lib.hid (HC1.out.trans g2)
  have HO2 := Lib.hid (HO1.out.fc g2 HG.out (by decide) (by decide))
  have HS2 : Hid (base ≤ w2.heap.size) := Lib.hid (Nat.le_trans HBW.out HC2.out.size)
  clear g1 g2 hz c0
  have c6 := HO2.out.cell 6
  have hz := HO2.out.lt
  simp at c6
  go_wp2_with fail
  refine (madd_any _ base g f 4 w2 HX2.out (by simp) HS2.out).mono ?_
  rintro e w3 ⟨rfl, g1, g2⟩
  have HX3 := Lib.hid g1
  have HC3 := Lib.hid (HC2.out.trans g2)
  have HO3 := Lib.hid (HO2.out.fc g2 HG.out (by decide) (by decide))
  have HS3 : Hid (base ≤ w3.heap.size) := Lib.hid (Nat.le_trans HBW.out HC3.out.size)
  clear g1 g2 hz c6
  have c1 := HO3.out.cell 1
  have c2 := HO3.out.cell 2
  have hz := HO3.out.lt
  simp at c1 c2
  go_wp2_with fail
  refine (mplace_any _ base g fr1 fr2 w3 HX3.out (by simp) HS3.out (by have := HR.out.1; omega) (by have := HR.out.1; omega)).mono ?_
  rintro e w4 ⟨rfl, g1, g2⟩
  have HX4 := Lib.hid g1
  have HC4 := Lib.hid (HC3.out.trans g2)
  have HO4 := Lib.hid (HO3.out.fc g2 HG.out (by decide) (by decide))
  have HS4 : Hid (base ≤ w4.heap.size) := Lib.hid (Nat.le_trans HBW.out HC4.out.size)
  clear g1 g2 hz c1 c2
  have c3 := HO4.out.cell 3
  have c4 := HO4.out.cell 4
  have hz := HO4.out.lt
  simp at c3 c4
  go_wp2_with fail
  refine (mplace_any _ base g to1 to2 w4 HX4.out (by simp) HS4.out (by have := HR.out.2.1; omega) (by have := HR.out.2.1; omega)).mono ?_
  rintro e w5 ⟨rfl, g1, g2⟩
  have HX5 := Lib.hid g1
  have HC5 := Lib.hid (HC4.out.trans g2)
  have HO5 := Lib.hid (HO4.out.fc g2 HG.out (by decide) (by decide))
  have HS5 : Hid (base ≤ w5.heap.size) := Lib.hid (Nat.le_trans HBW.out HC5.out.size)
  clear g1 g2 hz c3 c4
  have c5 := HO5.out.cell 5
  have hz := HO5.out.lt
  simp at c5
  go_wp2_with fail
  refine (madd_any _ base g id 20 w5 HX5.out (by simp) HS5.out).mono ?_
  rintro e w6 ⟨rfl, g1, g2⟩
  have HX6 := Lib.hid g1
  have HC6 := Lib.hid (HC5.out.trans g2)
  have HO6 := Lib.hid (HO5.out.fc g2 HG.out (by decide) (by decide))
  have HS6 : Hid (base ≤ w6.heap.size) := Lib.hid (Nat.le_trans HBW.out HC6.out.size)
  clear g1 g2 hz c5
  have c7 := HO6.out.cell 7
  have hz := HO6.out.lt
  simp at c7
  go_wp2_with fail
  refine (madd_any _ base g ep 21 w6 HX6.out (by simp) HS6.out).mono ?_
  rintro e w7 ⟨rfl, g1, g2⟩
  have HX7 := Lib.hid g1
  have HC7 := Lib.hid (HC6.out.trans g2)
  have HO7 := Lib.hid (HO6.out.fc g2 HG.out (by decide) (by decide))
  have HS7 : Hid (base ≤ w7.heap.size) := Lib.hid (Nat.le_trans HBW.out HC7.out.size)
  clear g1 g2 hz c7
  have c8 := HO7.out.cell 8
  have hz := HO7.out.lt
  simp at c8
  go_wp2_with fail
  refine (madd_any _ base g ad 21 w7 HX7.out (by simp) HS7.out).mono ?_
  rintro e w8 ⟨rfl, g1, g2⟩
  have HX8 := Lib.hid g1
  have HC8 := Lib.hid (HC7.out.trans g2)
  have HO8 := Lib.hid (HO7.out.fc g2 HG.out (by decide) (by decide))
  have HS8 : Hid (base ≤ w8.heap.size) := Lib.hid (Nat.le_trans HBW.out HC8.out.size)
  clear g1 g2 hz c8
  have c9 := HO8.out.cell 9
  have hz := HO8.out.lt
  simp at c9
  go_wp2_with fail
  refine (madd_any _ base g er 8 w8 HX8.out (by simp) HS8.out).mono ?_
  rintro e w9 ⟨rfl, g1, g2⟩
  have HX9 := Lib.hid g1
  have HC9 := Lib.hid (HC8.out.trans g2)
  have HO9 := Lib.hid (HO8.out.fc g2 HG.out (by decide) (by decide))
  have HS9 : Hid (base ≤ w9.heap.size) := Lib.hid (Nat.le_trans HBW.out HC9.out.size)
  clear g1 g2 hz c9
  have c15 := HO9.out.cell 15
  have c16 := HO9.out.cell 16
  have hz := HO9.out.lt
  simp at c15 c16
  go_wp2_with fail
  refine (mballot_any _ base g ba1 ba2 w9 HX9.out (by simp) HS9.out (by have := HR.out.2.2.1; omega) (by have := HR.out.2.2.1; omega)).mono ?_
  rintro e w10 ⟨rfl, g1, g2⟩
  have HX10 := Lib.hid g1
  have HC10 := Lib.hid (HC9.out.trans g2)
  have HO10 := Lib.hid (HO9.out.fc g2 HG.out (by decide) (by decide))
  have HS10 : Hid (base ≤ w10.heap.size) := Lib.hid (Nat.le_trans HBW.out HC10.out.size)
  clear g1 g2 hz c15 c16
  have c17 := HO10.out.cell 17
  have c18 := HO10.out.cell 18
  have hz := HO10.out.lt
  simp at c17 c18
  go_wp2_with fail
  refine (mballot_any _ base g pr1 pr2 w10 HX10.out (by simp) HS10.out (by have := HR.out.2.2.2; omega) (by have := HR.out.2.2.2; omega)).mono ?_
  rintro e w11 ⟨rfl, g1, g2⟩
  have HX11 := Lib.hid g1
  have HC11 := Lib.hid (HC10.out.trans g2)
  have HO11 := Lib.hid (HO10.out.fc g2 HG.out (by decide) (by decide))
  have HS11 : Hid (base ≤ w11.heap.size) := Lib.hid (Nat.le_trans HBW.out HC11.out.size)
  clear g1 g2 hz c17 c18
  go_wp2_with fail
  go_end0
  exact ⟨rfl, by simpa using HX11.out, HC11.out⟩
end Go.Proofs.YtdpaofedepnnbaaGreat
