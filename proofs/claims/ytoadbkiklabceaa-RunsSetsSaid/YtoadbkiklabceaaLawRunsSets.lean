/-
  The statement RunsSets, walked. No condition but the ranges of the arguments.
-/
import Derived.Test.YtoadbkiklabceaaMeet
import Derived.Test.YtoadbkiklabceaaJoin
import Derived.Test.YtoadbkiklabceaaRm2
import Derived.Test.YtoadbkiklabceaaOf
namespace Go.Proofs.Ytoadbkiklabceaa
open Go.RowKit Go.Shelf Go.Deep
set_option linter.unusedVariables false
set_option linter.unusedSimpArgs false

theorem meet_none (X : List Rn) : meetL X [] = [] := by
  unfold meetL
  induction X with
  | nil => rfl
  | cons x X ih => rw [List.flatMap_cons, ih]; rfl
theorem nilW (w : World) : SetV w (.pointer none) [] [] := .inl ⟨rfl, rfl⟩
set_option maxHeartbeats 4000000 in
set_option maxRecDepth 100000 in
theorem runsSets_walk (w : World) (a b : Option Addr) (A B : List Rn) (c d : Nat) (ha : Ro w w.heap.size a (rcs A)) (hfa : ∀ r ∈ A, Fit r) (hla : A.length ≤ 9223372036854775807)
    (hb : Ro w w.heap.size b (rcs B)) (hfb : ∀ r ∈ B, Fit r) (hlb : B.length ≤ 9223372036854775807) :
    Calls Try.prog 4 #[.slice a A.length c, .slice b B.length d] w fun e w' => e = .returned (.bool true) ∧ Below w.heap.size w w' := by
  obtain ⟨n, HAn⟩ : ∃ n, Hid (A.length = n) := ⟨_, Lib.hid rfl⟩
  obtain ⟨m, HBm⟩ : ∃ m, Hid (B.length = m) := ⟨_, Lib.hid rfl⟩
  rw [HAn.out] at hla ⊢
  rw [HBm.out] at hlb ⊢
  by_cases hn60 : 60 < n
  · have hd1 : decide ((60 : Int) < (n : Int)) = true := by simp; omega
    clear ha hb hfa hfb
    go_enter Try.func4, Try.ntmps4
    go_wp2_with fail
    refine (alive_any _).mono ?_
    rintro e w1 ⟨rfl, hb1⟩
    go_wp2_with fail
    go_ret
    exact ⟨rfl, hb1⟩
  by_cases hm60 : 60 < m
  · have hd1 : decide ((60 : Int) < (n : Int)) = false := by simp; omega
    have hd2 : decide ((60 : Int) < (m : Int)) = true := by simp; omega
    clear ha hb hfa hfb
    go_enter Try.func4, Try.ntmps4
    go_wp2_with fail
    refine (alive_any _).mono ?_
    rintro e w1 ⟨rfl, hb1⟩
    go_wp2_with fail
    go_ret
    exact ⟨rfl, hb1⟩
  have hd1 : decide ((60 : Int) < (n : Int)) = false := by simp; omega
  have hd2 : decide ((60 : Int) < (m : Int)) = false := by simp; omega
  have R0_0 := Lib.hid (Below.refl w.heap.size w)
  have HRA := Lib.hid (fun W (hW : Below w.heap.size w W) => show Ro W w.heap.size a (rcs A) from ha.below hW (Nat.le_refl _))
  have HRB := Lib.hid (fun W (hW : Below w.heap.size w W) => show Ro W w.heap.size b (rcs B) from hb.below hW (Nat.le_refl _))
  have HBA := Lib.hid (fun W (hW : Below w.heap.size w W) => built_any W a A c w.heap.size (HRA.out W hW) hW.size hfa (by rw [HAn.out]; exact hla))
  have HBB := Lib.hid (fun W (hW : Below w.heap.size w W) => built_any W b B d w.heap.size (HRB.out W hW) hW.size hfb (by rw [HBm.out]; exact hlb))
  obtain ⟨hXn, hXm, hXl⟩ := builtL_NF (A.take 60)
  obtain ⟨hYn, hYm, hYl⟩ := builtL_NF (B.take 60)
  rw [List.length_take] at hXl hYl
  have htA : A.take 60 = A := List.take_of_length_le (by rw [HAn.out]; omega)
  have htB : B.take 60 = B := List.take_of_length_le (by rw [HBm.out]; omega)
  obtain ⟨X, HXX⟩ : ∃ X, Hid (builtL (A.take 60) = X) := ⟨_, Lib.hid rfl⟩
  obtain ⟨Y, HYY⟩ : ∃ Y, Hid (builtL (B.take 60) = Y) := ⟨_, Lib.hid rfl⟩
  simp only [HXX.out, HAn.out] at HBA
  simp only [HYY.out, HBm.out] at HBB
  rw [HXX.out] at hXn hXl
  rw [HYY.out] at hYn hYl
  have hXm2 : ∀ q, mem X q = mem A q := fun q => by rw [← HXX.out]; exact (hXm q).trans (by rw [htA])
  have hYm2 : ∀ q, mem Y q = mem B q := fun q => by rw [← HYY.out]; exact (hYm q).trans (by rw [htB])
  have HXM := Lib.hid (And.intro hXn hXm2)
  have HYM := Lib.hid (And.intro hYn hYm2)
  clear hXm2 hYm2
  have hX60 : X.length ≤ 60 := by omega
  have hY60 : Y.length ≤ 60 := by omega
  have HTA := Lib.hid (fun W (hW : Below w.heap.size w W) => told_any W a A c w.heap.size (HRA.out W hW) hW.size (by rw [HAn.out]; omega))
  have HTB := Lib.hid (fun W (hW : Below w.heap.size w W) => told_any W b B d w.heap.size (HRB.out W hW) hW.size (by rw [HBm.out]; omega))
  have HOF := Lib.hid (fun W (hW : Below w.heap.size w W) => Of_any W a A c w.heap.size (HRA.out W hW) hW.size hfa (by rw [HAn.out]; omega))
  simp only [HAn.out] at HTA HOF
  simp only [HBm.out] at HTB
  have HNM := Lib.hid (show ∀ (W : World) (u : Option Addr) (D : List Rn) (cu : Nat), Ro W W.heap.size u (rcs D) → D.length ≤ 1000000 → Calls Try.prog 29 #[.slice u D.length cu] W fun e w' => ∃ v M, e = .returned v ∧ Lr w' W.heap.size 31 v M ∧ NF M ∧ (∀ q, mem M q = mem D q) ∧ M.length ≤ D.length ∧ Below W.heap.size W w' from fun W u D cu h hl => Norm_any W u D cu W.heap.size h (Nat.le_refl _) hl)
  clear ha hb hfa hfb hXn hXm hXl hYn hYm hYl htA htB
  go_enter Try.func4, Try.ntmps4
  go_wp2_with fail
  refine (HBA.out w R0_0.out).mono ?_
  rintro e w1 ⟨v1, rfl, hn1, hb⟩
  have R0_1 := Lib.hid (R0_0.out.trans (hb.mono R0_0.out.size))
  obtain ⟨p1, HP1⟩ : ∃ q, Hid (w.heap.size = q) := ⟨_, Lib.hid rfl⟩
  rw [HP1.out] at hn1 ⊢
  have HX1 := Lib.hid hn1
  clear hn1
  clear hb R0_0
  have R1_1 := Lib.hid (Below.refl w1.heap.size w1)
  go_wp2_with fail
  refine (HBB.out w1 R0_1.out).mono ?_
  rintro e w2 ⟨v2, rfl, hn2, hb⟩
  have R0_2 := Lib.hid (R0_1.out.trans (hb.mono R0_1.out.size))
  have R1_2 := Lib.hid (R1_1.out.trans (hb.mono R1_1.out.size))
  obtain ⟨p2, HP2⟩ : ∃ q, Hid (w1.heap.size = q) := ⟨_, Lib.hid rfl⟩
  rw [HP2.out] at hn2 ⊢
  have HY2 := Lib.hid hn2
  clear hn2
  clear hb R0_1 R1_1
  have R2_2 := Lib.hid (Below.refl w2.heap.size w2)
  go_wp2_with fail
  refine (HTA.out w2 R0_2.out).mono ?_
  rintro e w3 ⟨x3, rfl, hr, hb⟩
  have R0_3 := Lib.hid (R0_2.out.trans (hb.mono R0_2.out.size))
  have R1_3 := Lib.hid (R1_2.out.trans (hb.mono R1_2.out.size))
  have R2_3 := Lib.hid (R2_2.out.trans (hb.mono R2_2.out.size))
  obtain ⟨a3, c3, rfl, hro, -, -, -, -⟩ := hr.form
  have HR3 := Lib.hid hro
  clear hr hro
  clear hb R0_2 R1_2 R2_2
  obtain ⟨A2, HA2⟩ : ∃ q, Hid (A.length = q) := ⟨_, Lib.hid rfl⟩
  go_wp2_with fail
  refine (HNM.out w3 a3 A c3 HR3.out (by rw [HAn.out]; omega)).mono ?_
  rintro e w4 ⟨x4, PX, rfl, hr, hnx, hmx, -, hb⟩
  have R0_4 := Lib.hid (R0_3.out.trans (hb.mono R0_3.out.size))
  have R1_4 := Lib.hid (R1_3.out.trans (hb.mono R1_3.out.size))
  have R2_4 := Lib.hid (R2_3.out.trans (hb.mono R2_3.out.size))
  have ePX : PX = X := hnx.ext HXM.out.1 (fun q => by rw [hmx q, HXM.out.2 q])
  subst ePX
  obtain ⟨a4, c4, rfl, hro, -, -, -, -⟩ := hr.form
  have HR4 := Lib.hid hro
  clear hr hro
  clear hnx hmx
  clear hb R0_3 R1_3 R2_3
  have R4_4 := Lib.hid (Below.refl w4.heap.size w4)
  go_wp2_with fail
  refine (HTB.out w4 R0_4.out).mono ?_
  rintro e w5 ⟨x5, rfl, hr, hb⟩
  have R0_5 := Lib.hid (R0_4.out.trans (hb.mono R0_4.out.size))
  have R1_5 := Lib.hid (R1_4.out.trans (hb.mono R1_4.out.size))
  have R2_5 := Lib.hid (R2_4.out.trans (hb.mono R2_4.out.size))
  have R4_5 := Lib.hid (R4_4.out.trans (hb.mono R4_4.out.size))
  obtain ⟨a5, c5, rfl, hro, -, -, -, -⟩ := hr.form
  have HR5 := Lib.hid hro
  clear hr hro
  clear hb R0_4 R1_4 R2_4 R4_4
  go_wp2_with fail
  refine (HNM.out w5 a5 B c5 HR5.out (by rw [HBm.out]; omega)).mono ?_
  rintro e w6 ⟨x6, PY, rfl, hr, hny, hmy, -, hb⟩
  have R0_6 := Lib.hid (R0_5.out.trans (hb.mono R0_5.out.size))
  have R1_6 := Lib.hid (R1_5.out.trans (hb.mono R1_5.out.size))
  have R2_6 := Lib.hid (R2_5.out.trans (hb.mono R2_5.out.size))
  have R4_6 := Lib.hid (R4_5.out.trans (hb.mono R4_5.out.size))
  have ePY : PY = Y := hny.ext HYM.out.1 (fun q => by rw [hmy q, HYM.out.2 q])
  subst ePY
  obtain ⟨a6, c6, rfl, hro, -, -, -, -⟩ := hr.form
  have HR6 := Lib.hid hro
  clear hr hro
  clear hny hmy
  clear hb R0_5 R1_5 R2_5 R4_5
  have R6_6 := Lib.hid (Below.refl w6.heap.size w6)
  have HXs := Lib.hid (fun W (hW : Below w1.heap.size w1 W) => HX1.out.keep hW)
  have HYs := Lib.hid (fun W (hW : Below w2.heap.size w2 W) => HY2.out.keep hW)
  have HRp := Lib.hid (fun W (hW : Below w4.heap.size w4 W) => show Ro W W.heap.size a4 (rcs PX) from (HR4.out.below hW (Nat.le_refl _)).mono hW.size)
  have HRq := Lib.hid (fun W (hW : Below w6.heap.size w6 W) => show Ro W W.heap.size a6 (rcs PY) from (HR6.out.below hW (Nat.le_refl _)).mono hW.size)
  have hfx := fit_el HX1.out.st.fit HX1.out.st.nf
  have hfy := fit_el HY2.out.st.fit HY2.out.st.nf
  have HFXY := Lib.hid (And.intro hfx hfy)
  clear hfx hfy HX1 HY2
  obtain ⟨M, HML⟩ : ∃ q, Hid (meetL PX PY = q) := ⟨_, Lib.hid rfl⟩
  have hM3600 : M.length ≤ 3600 := by
    rw [← HML.out]
    have h1 := meetL_len PX PY
    have h2 : PX.length * PY.length ≤ 60 * 60 := Nat.mul_le_mul hX60 hY60
    omega
  have HME := Lib.hid (Meet_any w6 (some ⟨p1, 0, none⟩) (some ⟨p2, 0, none⟩) (p1 :: rowOf v1) (p2 :: rowOf v2) PX PY (HXs.out _ R1_6.out).st.setV (HYs.out _ R2_6.out).st.setV (HXs.out _ R1_6.out).st.ltF (HYs.out _ R2_6.out).st.ltF HXM.out.1 HYM.out.1 (HXs.out _ R1_6.out).st.fit (HYs.out _ R2_6.out).st.fit (by omega) (by omega))
  rw [HML.out] at HME
  go_wp2_with fail
  refine (HME.out).mono ?_
  rintro e w7 ⟨p3, v3, rfl, hn3, hb⟩
  have R0_7 := Lib.hid (R0_6.out.trans (hb.mono R0_6.out.size))
  have R1_7 := Lib.hid (R1_6.out.trans (hb.mono R1_6.out.size))
  have R2_7 := Lib.hid (R2_6.out.trans (hb.mono R2_6.out.size))
  have R4_7 := Lib.hid (R4_6.out.trans (hb.mono R4_6.out.size))
  have R6_7 := Lib.hid (R6_6.out.trans (hb.mono R6_6.out.size))
  have HM7 := Lib.hid hn3
  clear hn3
  clear hb R0_6 R1_6 R2_6 R4_6 R6_6
  have R7_7 := Lib.hid (Below.refl w7.heap.size w7)
  have HJO := Lib.hid (Join_any w7 (some ⟨p1, 0, none⟩) (some ⟨p2, 0, none⟩) (p1 :: rowOf v1) (p2 :: rowOf v2) PX PY (HXs.out _ R1_7.out).st.setV (HYs.out _ R2_7.out).st.setV HFXY.out.1 HFXY.out.2 (by omega) (by omega))
  go_wp2_with fail
  refine (HJO.out).mono ?_
  rintro e w8 ⟨p4, v4, J, rfl, hn4, ⟨hJm, hJl⟩, hb⟩
  have R0_8 := Lib.hid (R0_7.out.trans (hb.mono R0_7.out.size))
  have R1_8 := Lib.hid (R1_7.out.trans (hb.mono R1_7.out.size))
  have R2_8 := Lib.hid (R2_7.out.trans (hb.mono R2_7.out.size))
  have R4_8 := Lib.hid (R4_7.out.trans (hb.mono R4_7.out.size))
  have R6_8 := Lib.hid (R6_7.out.trans (hb.mono R6_7.out.size))
  have R7_8 := Lib.hid (R7_7.out.trans (hb.mono R7_7.out.size))
  have HJ8 := Lib.hid hn4
  have HJM := Lib.hid hJm
  have hJ120 : J.length ≤ 120 := by omega
  clear hn4 hJm hJl HME HJO
  clear hb R0_7 R1_7 R2_7 R4_7 R6_7 R7_7
  have R8_8 := Lib.hid (Below.refl w8.heap.size w8)
  go_wp2_with fail
  refine (HOF.out w8 R0_8.out).mono ?_
  rintro e w9 ⟨hof, hb⟩
  have R0_9 := Lib.hid (R0_8.out.trans (hb.mono R0_8.out.size))
  have R1_9 := Lib.hid (R1_8.out.trans (hb.mono R1_8.out.size))
  have R2_9 := Lib.hid (R2_8.out.trans (hb.mono R2_8.out.size))
  have R4_9 := Lib.hid (R4_8.out.trans (hb.mono R4_8.out.size))
  have R6_9 := Lib.hid (R6_8.out.trans (hb.mono R6_8.out.size))
  have R7_9 := Lib.hid (R7_8.out.trans (hb.mono R7_8.out.size))
  have R8_9 := Lib.hid (R8_8.out.trans (hb.mono R8_8.out.size))
  clear hb R0_8 R1_8 R2_8 R4_8 R6_8 R7_8 R8_8
  rcases hof with ⟨rfl, hno⟩ | ⟨q9, v9, rfl, hnf, hno⟩
  · have hdec : decide (A = PX) = false := by
      simp only [decide_eq_false_iff_not]
      intro e
      exact hno (by rw [e]; exact HXM.out.1)
    go_wp2_with fail
    refine (HTA.out w9 R0_9.out).mono ?_
    rintro e w10 ⟨x10, rfl, hr, hb⟩
    have R0_10 := Lib.hid (R0_9.out.trans (hb.mono R0_9.out.size))
    have R1_10 := Lib.hid (R1_9.out.trans (hb.mono R1_9.out.size))
    have R2_10 := Lib.hid (R2_9.out.trans (hb.mono R2_9.out.size))
    have R4_10 := Lib.hid (R4_9.out.trans (hb.mono R4_9.out.size))
    have R6_10 := Lib.hid (R6_9.out.trans (hb.mono R6_9.out.size))
    have R7_10 := Lib.hid (R7_9.out.trans (hb.mono R7_9.out.size))
    have R8_10 := Lib.hid (R8_9.out.trans (hb.mono R8_9.out.size))
    obtain ⟨a10, c10, rfl, hro, -, -, -, -⟩ := hr.form
    have HR10 := Lib.hid hro
    have hsa := Same_any w10 a10 a4 A PX c10 c4 hro (HRp.out _ R4_10.out) (by rw [HAn.out]; omega) (by omega)
    rw [hdec] at hsa
    have HSA := Lib.hid hsa
    clear hr hro hsa hdec
    clear hb R0_9 R1_9 R2_9 R4_9 R6_9 R7_9 R8_9
    go_wp2_with fail
    refine (HSA.out).mono ?_
    rintro e w11 ⟨rfl, hb⟩
    have R0_11 := Lib.hid (R0_10.out.trans (hb.mono R0_10.out.size))
    have R1_11 := Lib.hid (R1_10.out.trans (hb.mono R1_10.out.size))
    have R2_11 := Lib.hid (R2_10.out.trans (hb.mono R2_10.out.size))
    have R4_11 := Lib.hid (R4_10.out.trans (hb.mono R4_10.out.size))
    have R6_11 := Lib.hid (R6_10.out.trans (hb.mono R6_10.out.size))
    have R7_11 := Lib.hid (R7_10.out.trans (hb.mono R7_10.out.size))
    have R8_11 := Lib.hid (R8_10.out.trans (hb.mono R8_10.out.size))
    clear HSA
    clear hb R0_10 R1_10 R2_10 R4_10 R6_10 R7_10 R8_10
    go_wp2_with fail
    refine (Runs_some w11 p3 _ M (HM7.out.keep R7_11.out).st).mono ?_
    rintro e w12 ⟨xr, rfl, hr, hb⟩
    have R0_12 := Lib.hid (R0_11.out.trans (hb.mono R0_11.out.size))
    have R1_12 := Lib.hid (R1_11.out.trans (hb.mono R1_11.out.size))
    have R2_12 := Lib.hid (R2_11.out.trans (hb.mono R2_11.out.size))
    have R4_12 := Lib.hid (R4_11.out.trans (hb.mono R4_11.out.size))
    have R6_12 := Lib.hid (R6_11.out.trans (hb.mono R6_11.out.size))
    have R7_12 := Lib.hid (R7_11.out.trans (hb.mono R7_11.out.size))
    have R8_12 := Lib.hid (R8_11.out.trans (hb.mono R8_11.out.size))
    obtain ⟨ar12, cr12, rfl, hro, -, -, -, -⟩ := hr.form
    have HTO := Lib.hid (told_any w12 ar12 M cr12 _ hro (Nat.le_refl _) (by omega))
    clear hr hro
    clear hb R0_11 R1_11 R2_11 R4_11 R6_11 R7_11 R8_11
    go_wp2_with fail
    refine (HTO.out).mono ?_
    rintro e w13 ⟨xt, rfl, hr, hb⟩
    have R0_13 := Lib.hid (R0_12.out.trans (hb.mono R0_12.out.size))
    have R1_13 := Lib.hid (R1_12.out.trans (hb.mono R1_12.out.size))
    have R2_13 := Lib.hid (R2_12.out.trans (hb.mono R2_12.out.size))
    have R4_13 := Lib.hid (R4_12.out.trans (hb.mono R4_12.out.size))
    have R6_13 := Lib.hid (R6_12.out.trans (hb.mono R6_12.out.size))
    have R7_13 := Lib.hid (R7_12.out.trans (hb.mono R7_12.out.size))
    have R8_13 := Lib.hid (R8_12.out.trans (hb.mono R8_12.out.size))
    obtain ⟨a13, c13, rfl, hro, -, -, -, -⟩ := hr.form
    have HR13 := Lib.hid hro
    clear hr hro HTO
    clear hb R0_12 R1_12 R2_12 R4_12 R6_12 R7_12 R8_12
    have R13_13 := Lib.hid (Below.refl w13.heap.size w13)
    have hrm := rMeet_any w13 a4 a6 PX PY c4 c6 (HRp.out _ R4_13.out) (HRq.out _ R6_13.out) HXM.out.1 HYM.out.1 (by omega) (by omega)
    rw [HML.out] at hrm
    have HRM := Lib.hid hrm
    clear hrm
    go_wp2_with fail
    refine (HRM.out).mono ?_
    rintro e w14 ⟨xm, rfl, hr, hb⟩
    have R0_14 := Lib.hid (R0_13.out.trans (hb.mono R0_13.out.size))
    have R1_14 := Lib.hid (R1_13.out.trans (hb.mono R1_13.out.size))
    have R2_14 := Lib.hid (R2_13.out.trans (hb.mono R2_13.out.size))
    have R4_14 := Lib.hid (R4_13.out.trans (hb.mono R4_13.out.size))
    have R6_14 := Lib.hid (R6_13.out.trans (hb.mono R6_13.out.size))
    have R7_14 := Lib.hid (R7_13.out.trans (hb.mono R7_13.out.size))
    have R8_14 := Lib.hid (R8_13.out.trans (hb.mono R8_13.out.size))
    have R13_14 := Lib.hid (R13_13.out.trans (hb.mono R13_13.out.size))
    obtain ⟨a14, c14, rfl, hro, -, -, -, -⟩ := hr.form
    have hsa := Same_any w14 a13 a14 M M c13 c14 ((HR13.out.below R13_14.out (Nat.le_refl _)).mono R13_14.out.size) hro (by omega) (by omega)
    rw [show decide (M = M) = true by simp] at hsa
    have HSA := Lib.hid hsa
    clear hr hro hsa HRM
    clear hb R0_13 R1_13 R2_13 R4_13 R6_13 R7_13 R8_13 R13_13
    go_wp2_with fail
    refine (HSA.out).mono ?_
    rintro e w15 ⟨rfl, hb⟩
    have R0_15 := Lib.hid (R0_14.out.trans (hb.mono R0_14.out.size))
    have R1_15 := Lib.hid (R1_14.out.trans (hb.mono R1_14.out.size))
    have R2_15 := Lib.hid (R2_14.out.trans (hb.mono R2_14.out.size))
    have R4_15 := Lib.hid (R4_14.out.trans (hb.mono R4_14.out.size))
    have R6_15 := Lib.hid (R6_14.out.trans (hb.mono R6_14.out.size))
    have R7_15 := Lib.hid (R7_14.out.trans (hb.mono R7_14.out.size))
    have R8_15 := Lib.hid (R8_14.out.trans (hb.mono R8_14.out.size))
    have R13_15 := Lib.hid (R13_14.out.trans (hb.mono R13_14.out.size))
    clear HSA
    clear hb R0_14 R1_14 R2_14 R4_14 R6_14 R7_14 R8_14 R13_14
    go_wp2_with fail
    refine (Runs_some w15 p4 _ J (HJ8.out.keep R8_15.out).st).mono ?_
    rintro e w16 ⟨xr, rfl, hr, hb⟩
    have R0_16 := Lib.hid (R0_15.out.trans (hb.mono R0_15.out.size))
    have R1_16 := Lib.hid (R1_15.out.trans (hb.mono R1_15.out.size))
    have R2_16 := Lib.hid (R2_15.out.trans (hb.mono R2_15.out.size))
    have R4_16 := Lib.hid (R4_15.out.trans (hb.mono R4_15.out.size))
    have R6_16 := Lib.hid (R6_15.out.trans (hb.mono R6_15.out.size))
    have R7_16 := Lib.hid (R7_15.out.trans (hb.mono R7_15.out.size))
    have R8_16 := Lib.hid (R8_15.out.trans (hb.mono R8_15.out.size))
    have R13_16 := Lib.hid (R13_15.out.trans (hb.mono R13_15.out.size))
    obtain ⟨ar16, cr16, rfl, hro, -, -, -, -⟩ := hr.form
    have HTO := Lib.hid (told_any w16 ar16 J cr16 _ hro (Nat.le_refl _) (by omega))
    clear hr hro
    clear hb R0_15 R1_15 R2_15 R4_15 R6_15 R7_15 R8_15 R13_15
    go_wp2_with fail
    refine (HTO.out).mono ?_
    rintro e w17 ⟨xt, rfl, hr, hb⟩
    have R0_17 := Lib.hid (R0_16.out.trans (hb.mono R0_16.out.size))
    have R1_17 := Lib.hid (R1_16.out.trans (hb.mono R1_16.out.size))
    have R2_17 := Lib.hid (R2_16.out.trans (hb.mono R2_16.out.size))
    have R4_17 := Lib.hid (R4_16.out.trans (hb.mono R4_16.out.size))
    have R6_17 := Lib.hid (R6_16.out.trans (hb.mono R6_16.out.size))
    have R7_17 := Lib.hid (R7_16.out.trans (hb.mono R7_16.out.size))
    have R8_17 := Lib.hid (R8_16.out.trans (hb.mono R8_16.out.size))
    have R13_17 := Lib.hid (R13_16.out.trans (hb.mono R13_16.out.size))
    obtain ⟨a17, c17, rfl, hro, -, -, -, -⟩ := hr.form
    have HR17 := Lib.hid hro
    clear hr hro HTO
    clear hb R0_16 R1_16 R2_16 R4_16 R6_16 R7_16 R8_16 R13_16
    have R17_17 := Lib.hid (Below.refl w17.heap.size w17)
    have HN2 := Lib.hid (Below.refl w.heap.size w)
    go_wp2_with (first
      | (at_builtin; refine wpList_appS rfl _ _ 26 rfl w17.heap.size 31 zR 16 Try.underlying26 Try.infoF rfl _ [] (by rfl) (Lr.lit w17 w17.heap.size 31 [] (Nat.le_refl _) (by simp)) a4 (w17.alloc (.cells #[] 31)).heap.size PX.length c4 PX rfl rfl (HRp.out _ (R4_17.out.alloc R4_17.out.size _)) (by simp; omega) (by simp; omega) (by simp) ?_; intro v40 w40 H40 hg40 hn40; have hb40 : Below w17.heap.size w17 w40 := ((Below.refl _ w17).alloc (Nat.le_refl _) _).trans (belowG hg40 (B := w17.heap.size) (fun q hq => by injection hq with hq; subst hq; exact Nat.le_refl _) (by simp)); have HB40 := Lib.hid hb40; have HQ40 := Lib.hid (HRq.out w40 (R6_17.out.trans (hb40.mono R6_17.out.size))); clear hg40 hn40 hb40)
      | (at_builtin; refine wpList_appS rfl _ _ 26 rfl w17.heap.size 31 zR 16 Try.underlying26 Try.infoF rfl _ ([] ++ PX) (by rfl) H40.out a6 w40.heap.size PY.length c6 PY rfl rfl HQ40.out (by simp; omega) (by simp; omega) HB40.out.size ?_; intro v41 w41 H41 hg41 hn41; have HB41 := Lib.hid (HB40.out.trans (belowG hg41 (B := w17.heap.size) (fun q hq => (H40.out.lt q hq).1) HB40.out.size)); obtain ⟨N41, HN41⟩ : ∃ q, Hid (([] ++ PX ++ PY).length = q) := ⟨_, Lib.hid rfl⟩; obtain ⟨a41, c41, rfl, hro41, -, -, -, -⟩ := H41.out.form; have hno41 := HNM.out w41 a41 ([] ++ PX ++ PY) c41 hro41 (by simp; omega); rw [HN41.out] at hno41 ⊢; have HNO := Lib.hid hno41; clear hg41 hn41 hro41 hno41)
      | fail)
    have R0_41 := Lib.hid (R0_17.out.trans (HB41.out.mono R0_17.out.size))
    have R1_41 := Lib.hid (R1_17.out.trans (HB41.out.mono R1_17.out.size))
    have R2_41 := Lib.hid (R2_17.out.trans (HB41.out.mono R2_17.out.size))
    have R4_41 := Lib.hid (R4_17.out.trans (HB41.out.mono R4_17.out.size))
    have R6_41 := Lib.hid (R6_17.out.trans (HB41.out.mono R6_17.out.size))
    have R7_41 := Lib.hid (R7_17.out.trans (HB41.out.mono R7_17.out.size))
    have R8_41 := Lib.hid (R8_17.out.trans (HB41.out.mono R8_17.out.size))
    have R13_41 := Lib.hid (R13_17.out.trans (HB41.out.mono R13_17.out.size))
    have R17_41 := Lib.hid (R17_17.out.trans (HB41.out.mono R17_17.out.size))
    clear R0_17 R1_17 R2_17 R4_17 R6_17 R7_17 R8_17 R13_17 R17_17
    go_wp2_with fail
    refine (HNO.out).mono ?_
    rintro e w42 ⟨xz, PZ, rfl, hr, hnz, hmz, -, hb⟩
    have R0_42 := Lib.hid (R0_41.out.trans (hb.mono R0_41.out.size))
    have R1_42 := Lib.hid (R1_41.out.trans (hb.mono R1_41.out.size))
    have R2_42 := Lib.hid (R2_41.out.trans (hb.mono R2_41.out.size))
    have R4_42 := Lib.hid (R4_41.out.trans (hb.mono R4_41.out.size))
    have R6_42 := Lib.hid (R6_41.out.trans (hb.mono R6_41.out.size))
    have R7_42 := Lib.hid (R7_41.out.trans (hb.mono R7_41.out.size))
    have R8_42 := Lib.hid (R8_41.out.trans (hb.mono R8_41.out.size))
    have R13_42 := Lib.hid (R13_41.out.trans (hb.mono R13_41.out.size))
    have R17_42 := Lib.hid (R17_41.out.trans (hb.mono R17_41.out.size))
    have ePZ : PZ = J := hnz.ext HJ8.out.st.nf (fun q => by rw [hmz q, List.nil_append, mem_append, HJM.out q])
    subst ePZ
    obtain ⟨a42, c42, rfl, hro, -, -, -, -⟩ := hr.form
    have hsa := Same_any w42 a17 a42 PZ PZ c17 c42 ((HR17.out.below R17_42.out (Nat.le_refl _)).mono R17_42.out.size) hro (by omega) (by omega)
    rw [show decide (PZ = PZ) = true by simp] at hsa
    have HSA := Lib.hid hsa
    clear hr hro hsa hnz hmz HNO
    clear hb R0_41 R1_41 R2_41 R4_41 R6_41 R7_41 R8_41 R13_41 R17_41
    go_wp2_with fail
    refine (HSA.out).mono ?_
    rintro e w43 ⟨rfl, hb⟩
    have R0_43 := Lib.hid (R0_42.out.trans (hb.mono R0_42.out.size))
    have R1_43 := Lib.hid (R1_42.out.trans (hb.mono R1_42.out.size))
    have R2_43 := Lib.hid (R2_42.out.trans (hb.mono R2_42.out.size))
    have R4_43 := Lib.hid (R4_42.out.trans (hb.mono R4_42.out.size))
    have R6_43 := Lib.hid (R6_42.out.trans (hb.mono R6_42.out.size))
    have R7_43 := Lib.hid (R7_42.out.trans (hb.mono R7_42.out.size))
    have R8_43 := Lib.hid (R8_42.out.trans (hb.mono R8_42.out.size))
    have R13_43 := Lib.hid (R13_42.out.trans (hb.mono R13_42.out.size))
    have R17_43 := Lib.hid (R17_42.out.trans (hb.mono R17_42.out.size))
    clear HSA
    clear hb R0_42 R1_42 R2_42 R4_42 R6_42 R7_42 R8_42 R13_42 R17_42
    have hme2 := Meet_any w43 (some ⟨p1, 0, none⟩) none (p1 :: rowOf v1) [] PX [] (HXs.out _ R1_43.out).st.setV (nilW _) (HXs.out _ R1_43.out).st.ltF (by simp) HXM.out.1 trivial (HXs.out _ R1_43.out).st.fit (by simp) (by omega) (by simp)
    rw [meet_none] at hme2
    have HME2 := Lib.hid hme2
    clear hme2
    go_wp2_with fail
    refine (HME2.out).mono ?_
    rintro e w44 ⟨p5, v5, rfl, hn5, hb⟩
    have R0_44 := Lib.hid (R0_43.out.trans (hb.mono R0_43.out.size))
    have R1_44 := Lib.hid (R1_43.out.trans (hb.mono R1_43.out.size))
    have R2_44 := Lib.hid (R2_43.out.trans (hb.mono R2_43.out.size))
    have R4_44 := Lib.hid (R4_43.out.trans (hb.mono R4_43.out.size))
    have R6_44 := Lib.hid (R6_43.out.trans (hb.mono R6_43.out.size))
    have R7_44 := Lib.hid (R7_43.out.trans (hb.mono R7_43.out.size))
    have R8_44 := Lib.hid (R8_43.out.trans (hb.mono R8_43.out.size))
    have R13_44 := Lib.hid (R13_43.out.trans (hb.mono R13_43.out.size))
    have R17_44 := Lib.hid (R17_43.out.trans (hb.mono R17_43.out.size))
    have HN5 := Lib.hid hn5
    clear hn5 HME2
    clear hb R0_43 R1_43 R2_43 R4_43 R6_43 R7_43 R8_43 R13_43 R17_43
    go_wp2_with fail
    refine (Runs_some w44 p5 _ [] HN5.out.st).mono ?_
    rintro e w45 ⟨xr, rfl, hr, hb⟩
    have R0_45 := Lib.hid (R0_44.out.trans (hb.mono R0_44.out.size))
    have R1_45 := Lib.hid (R1_44.out.trans (hb.mono R1_44.out.size))
    have R2_45 := Lib.hid (R2_44.out.trans (hb.mono R2_44.out.size))
    have R4_45 := Lib.hid (R4_44.out.trans (hb.mono R4_44.out.size))
    have R6_45 := Lib.hid (R6_44.out.trans (hb.mono R6_44.out.size))
    have R7_45 := Lib.hid (R7_44.out.trans (hb.mono R7_44.out.size))
    have R8_45 := Lib.hid (R8_44.out.trans (hb.mono R8_44.out.size))
    have R13_45 := Lib.hid (R13_44.out.trans (hb.mono R13_44.out.size))
    have R17_45 := Lib.hid (R17_44.out.trans (hb.mono R17_44.out.size))
    obtain ⟨ar45, cr45, rfl, -, -, -, -, -⟩ := hr.form
    rw [List.length_nil]
    clear hr HN5
    clear hb R0_44 R1_44 R2_44 R4_44 R6_44 R7_44 R8_44 R13_44 R17_44
    have HJO2 := Lib.hid (Join_any w45 none (some ⟨p2, 0, none⟩) [] (p2 :: rowOf v2) [] PY (nilW _) (HYs.out _ R2_45.out).st.setV (by simp) HFXY.out.2 (by simp) (by omega))
    go_wp2_with fail
    refine (HJO2.out).mono ?_
    rintro e w46 ⟨p6, v6, J2, rfl, hn6, ⟨hJ2, -⟩, hb⟩
    have R0_46 := Lib.hid (R0_45.out.trans (hb.mono R0_45.out.size))
    have R1_46 := Lib.hid (R1_45.out.trans (hb.mono R1_45.out.size))
    have R2_46 := Lib.hid (R2_45.out.trans (hb.mono R2_45.out.size))
    have R4_46 := Lib.hid (R4_45.out.trans (hb.mono R4_45.out.size))
    have R6_46 := Lib.hid (R6_45.out.trans (hb.mono R6_45.out.size))
    have R7_46 := Lib.hid (R7_45.out.trans (hb.mono R7_45.out.size))
    have R8_46 := Lib.hid (R8_45.out.trans (hb.mono R8_45.out.size))
    have R13_46 := Lib.hid (R13_45.out.trans (hb.mono R13_45.out.size))
    have R17_46 := Lib.hid (R17_45.out.trans (hb.mono R17_45.out.size))
    have eJ2 : J2 = PY := hn6.st.nf.ext HYM.out.1 (fun q => by rw [hJ2 q]; simp)
    subst eJ2
    have HN6 := Lib.hid hn6
    clear hn6 hJ2 HJO2
    clear hb R0_45 R1_45 R2_45 R4_45 R6_45 R7_45 R8_45 R13_45 R17_45
    go_wp2_with fail
    refine (Runs_some w46 p6 _ J2 HN6.out.st).mono ?_
    rintro e w47 ⟨xr, rfl, hr, hb⟩
    have R0_47 := Lib.hid (R0_46.out.trans (hb.mono R0_46.out.size))
    have R1_47 := Lib.hid (R1_46.out.trans (hb.mono R1_46.out.size))
    have R2_47 := Lib.hid (R2_46.out.trans (hb.mono R2_46.out.size))
    have R4_47 := Lib.hid (R4_46.out.trans (hb.mono R4_46.out.size))
    have R6_47 := Lib.hid (R6_46.out.trans (hb.mono R6_46.out.size))
    have R7_47 := Lib.hid (R7_46.out.trans (hb.mono R7_46.out.size))
    have R8_47 := Lib.hid (R8_46.out.trans (hb.mono R8_46.out.size))
    have R13_47 := Lib.hid (R13_46.out.trans (hb.mono R13_46.out.size))
    have R17_47 := Lib.hid (R17_46.out.trans (hb.mono R17_46.out.size))
    obtain ⟨ar47, cr47, rfl, -, -, -, -, -⟩ := hr.form
    clear hr HN6
    clear hb R0_46 R1_46 R2_46 R4_46 R6_46 R7_46 R8_46 R13_46 R17_46
    go_wp2_with fail
    refine (alive_any _).mono ?_
    rintro e w48 ⟨rfl, hb⟩
    have R0_48 := Lib.hid (R0_47.out.trans (hb.mono R0_47.out.size))
    have R1_48 := Lib.hid (R1_47.out.trans (hb.mono R1_47.out.size))
    have R2_48 := Lib.hid (R2_47.out.trans (hb.mono R2_47.out.size))
    have R4_48 := Lib.hid (R4_47.out.trans (hb.mono R4_47.out.size))
    have R6_48 := Lib.hid (R6_47.out.trans (hb.mono R6_47.out.size))
    have R7_48 := Lib.hid (R7_47.out.trans (hb.mono R7_47.out.size))
    have R8_48 := Lib.hid (R8_47.out.trans (hb.mono R8_47.out.size))
    have R13_48 := Lib.hid (R13_47.out.trans (hb.mono R13_47.out.size))
    have R17_48 := Lib.hid (R17_47.out.trans (hb.mono R17_47.out.size))
    clear hb R0_47 R1_47 R2_47 R4_47 R6_47 R7_47 R8_47 R13_47 R17_47
    go_wp2_with fail
    go_ret
    exact ⟨rfl, R0_48.out⟩
  · have R9_9 := Lib.hid (Below.refl w9.heap.size w9)
    have HO9 := Lib.hid hno
    have eAX0 : A = PX := hnf.ext HXM.out.1 (fun q => (HXM.out.2 q).symm)
    have HEAX := Lib.hid eAX0
    have hdec : decide (A = PX) = true := by simpa using eAX0
    clear hno eAX0 hnf
    go_wp2_with fail
    refine (HTA.out w9 R0_9.out).mono ?_
    rintro e w10 ⟨x10, rfl, hr, hb⟩
    have R0_10 := Lib.hid (R0_9.out.trans (hb.mono R0_9.out.size))
    have R1_10 := Lib.hid (R1_9.out.trans (hb.mono R1_9.out.size))
    have R2_10 := Lib.hid (R2_9.out.trans (hb.mono R2_9.out.size))
    have R4_10 := Lib.hid (R4_9.out.trans (hb.mono R4_9.out.size))
    have R6_10 := Lib.hid (R6_9.out.trans (hb.mono R6_9.out.size))
    have R7_10 := Lib.hid (R7_9.out.trans (hb.mono R7_9.out.size))
    have R8_10 := Lib.hid (R8_9.out.trans (hb.mono R8_9.out.size))
    have R9_10 := Lib.hid (R9_9.out.trans (hb.mono R9_9.out.size))
    obtain ⟨a10, c10, rfl, hro, -, -, -, -⟩ := hr.form
    have HR10 := Lib.hid hro
    have hsa := Same_any w10 a10 a4 A PX c10 c4 hro (HRp.out _ R4_10.out) (by rw [HAn.out]; omega) (by omega)
    rw [hdec] at hsa
    have HSA := Lib.hid hsa
    clear hr hro hsa hdec
    clear hb R0_9 R1_9 R2_9 R4_9 R6_9 R7_9 R8_9 R9_9
    go_wp2_with fail
    refine (HSA.out).mono ?_
    rintro e w11 ⟨rfl, hb⟩
    have R0_11 := Lib.hid (R0_10.out.trans (hb.mono R0_10.out.size))
    have R1_11 := Lib.hid (R1_10.out.trans (hb.mono R1_10.out.size))
    have R2_11 := Lib.hid (R2_10.out.trans (hb.mono R2_10.out.size))
    have R4_11 := Lib.hid (R4_10.out.trans (hb.mono R4_10.out.size))
    have R6_11 := Lib.hid (R6_10.out.trans (hb.mono R6_10.out.size))
    have R7_11 := Lib.hid (R7_10.out.trans (hb.mono R7_10.out.size))
    have R8_11 := Lib.hid (R8_10.out.trans (hb.mono R8_10.out.size))
    have R9_11 := Lib.hid (R9_10.out.trans (hb.mono R9_10.out.size))
    clear HSA
    clear hb R0_10 R1_10 R2_10 R4_10 R6_10 R7_10 R8_10 R9_10
    go_wp2_with fail
    refine (Runs_some w11 p3 _ M (HM7.out.keep R7_11.out).st).mono ?_
    rintro e w12 ⟨xr, rfl, hr, hb⟩
    have R0_12 := Lib.hid (R0_11.out.trans (hb.mono R0_11.out.size))
    have R1_12 := Lib.hid (R1_11.out.trans (hb.mono R1_11.out.size))
    have R2_12 := Lib.hid (R2_11.out.trans (hb.mono R2_11.out.size))
    have R4_12 := Lib.hid (R4_11.out.trans (hb.mono R4_11.out.size))
    have R6_12 := Lib.hid (R6_11.out.trans (hb.mono R6_11.out.size))
    have R7_12 := Lib.hid (R7_11.out.trans (hb.mono R7_11.out.size))
    have R8_12 := Lib.hid (R8_11.out.trans (hb.mono R8_11.out.size))
    have R9_12 := Lib.hid (R9_11.out.trans (hb.mono R9_11.out.size))
    obtain ⟨ar12, cr12, rfl, hro, -, -, -, -⟩ := hr.form
    have HTO := Lib.hid (told_any w12 ar12 M cr12 _ hro (Nat.le_refl _) (by omega))
    clear hr hro
    clear hb R0_11 R1_11 R2_11 R4_11 R6_11 R7_11 R8_11 R9_11
    go_wp2_with fail
    refine (HTO.out).mono ?_
    rintro e w13 ⟨xt, rfl, hr, hb⟩
    have R0_13 := Lib.hid (R0_12.out.trans (hb.mono R0_12.out.size))
    have R1_13 := Lib.hid (R1_12.out.trans (hb.mono R1_12.out.size))
    have R2_13 := Lib.hid (R2_12.out.trans (hb.mono R2_12.out.size))
    have R4_13 := Lib.hid (R4_12.out.trans (hb.mono R4_12.out.size))
    have R6_13 := Lib.hid (R6_12.out.trans (hb.mono R6_12.out.size))
    have R7_13 := Lib.hid (R7_12.out.trans (hb.mono R7_12.out.size))
    have R8_13 := Lib.hid (R8_12.out.trans (hb.mono R8_12.out.size))
    have R9_13 := Lib.hid (R9_12.out.trans (hb.mono R9_12.out.size))
    obtain ⟨a13, c13, rfl, hro, -, -, -, -⟩ := hr.form
    have HR13 := Lib.hid hro
    clear hr hro HTO
    clear hb R0_12 R1_12 R2_12 R4_12 R6_12 R7_12 R8_12 R9_12
    have R13_13 := Lib.hid (Below.refl w13.heap.size w13)
    have hrm := rMeet_any w13 a4 a6 PX PY c4 c6 (HRp.out _ R4_13.out) (HRq.out _ R6_13.out) HXM.out.1 HYM.out.1 (by omega) (by omega)
    rw [HML.out] at hrm
    have HRM := Lib.hid hrm
    clear hrm
    go_wp2_with fail
    refine (HRM.out).mono ?_
    rintro e w14 ⟨xm, rfl, hr, hb⟩
    have R0_14 := Lib.hid (R0_13.out.trans (hb.mono R0_13.out.size))
    have R1_14 := Lib.hid (R1_13.out.trans (hb.mono R1_13.out.size))
    have R2_14 := Lib.hid (R2_13.out.trans (hb.mono R2_13.out.size))
    have R4_14 := Lib.hid (R4_13.out.trans (hb.mono R4_13.out.size))
    have R6_14 := Lib.hid (R6_13.out.trans (hb.mono R6_13.out.size))
    have R7_14 := Lib.hid (R7_13.out.trans (hb.mono R7_13.out.size))
    have R8_14 := Lib.hid (R8_13.out.trans (hb.mono R8_13.out.size))
    have R9_14 := Lib.hid (R9_13.out.trans (hb.mono R9_13.out.size))
    have R13_14 := Lib.hid (R13_13.out.trans (hb.mono R13_13.out.size))
    obtain ⟨a14, c14, rfl, hro, -, -, -, -⟩ := hr.form
    have hsa := Same_any w14 a13 a14 M M c13 c14 ((HR13.out.below R13_14.out (Nat.le_refl _)).mono R13_14.out.size) hro (by omega) (by omega)
    rw [show decide (M = M) = true by simp] at hsa
    have HSA := Lib.hid hsa
    clear hr hro hsa HRM
    clear hb R0_13 R1_13 R2_13 R4_13 R6_13 R7_13 R8_13 R9_13 R13_13
    go_wp2_with fail
    refine (HSA.out).mono ?_
    rintro e w15 ⟨rfl, hb⟩
    have R0_15 := Lib.hid (R0_14.out.trans (hb.mono R0_14.out.size))
    have R1_15 := Lib.hid (R1_14.out.trans (hb.mono R1_14.out.size))
    have R2_15 := Lib.hid (R2_14.out.trans (hb.mono R2_14.out.size))
    have R4_15 := Lib.hid (R4_14.out.trans (hb.mono R4_14.out.size))
    have R6_15 := Lib.hid (R6_14.out.trans (hb.mono R6_14.out.size))
    have R7_15 := Lib.hid (R7_14.out.trans (hb.mono R7_14.out.size))
    have R8_15 := Lib.hid (R8_14.out.trans (hb.mono R8_14.out.size))
    have R9_15 := Lib.hid (R9_14.out.trans (hb.mono R9_14.out.size))
    have R13_15 := Lib.hid (R13_14.out.trans (hb.mono R13_14.out.size))
    clear HSA
    clear hb R0_14 R1_14 R2_14 R4_14 R6_14 R7_14 R8_14 R9_14 R13_14
    go_wp2_with fail
    refine (Runs_some w15 p4 _ J (HJ8.out.keep R8_15.out).st).mono ?_
    rintro e w16 ⟨xr, rfl, hr, hb⟩
    have R0_16 := Lib.hid (R0_15.out.trans (hb.mono R0_15.out.size))
    have R1_16 := Lib.hid (R1_15.out.trans (hb.mono R1_15.out.size))
    have R2_16 := Lib.hid (R2_15.out.trans (hb.mono R2_15.out.size))
    have R4_16 := Lib.hid (R4_15.out.trans (hb.mono R4_15.out.size))
    have R6_16 := Lib.hid (R6_15.out.trans (hb.mono R6_15.out.size))
    have R7_16 := Lib.hid (R7_15.out.trans (hb.mono R7_15.out.size))
    have R8_16 := Lib.hid (R8_15.out.trans (hb.mono R8_15.out.size))
    have R9_16 := Lib.hid (R9_15.out.trans (hb.mono R9_15.out.size))
    have R13_16 := Lib.hid (R13_15.out.trans (hb.mono R13_15.out.size))
    obtain ⟨ar16, cr16, rfl, hro, -, -, -, -⟩ := hr.form
    have HTO := Lib.hid (told_any w16 ar16 J cr16 _ hro (Nat.le_refl _) (by omega))
    clear hr hro
    clear hb R0_15 R1_15 R2_15 R4_15 R6_15 R7_15 R8_15 R9_15 R13_15
    go_wp2_with fail
    refine (HTO.out).mono ?_
    rintro e w17 ⟨xt, rfl, hr, hb⟩
    have R0_17 := Lib.hid (R0_16.out.trans (hb.mono R0_16.out.size))
    have R1_17 := Lib.hid (R1_16.out.trans (hb.mono R1_16.out.size))
    have R2_17 := Lib.hid (R2_16.out.trans (hb.mono R2_16.out.size))
    have R4_17 := Lib.hid (R4_16.out.trans (hb.mono R4_16.out.size))
    have R6_17 := Lib.hid (R6_16.out.trans (hb.mono R6_16.out.size))
    have R7_17 := Lib.hid (R7_16.out.trans (hb.mono R7_16.out.size))
    have R8_17 := Lib.hid (R8_16.out.trans (hb.mono R8_16.out.size))
    have R9_17 := Lib.hid (R9_16.out.trans (hb.mono R9_16.out.size))
    have R13_17 := Lib.hid (R13_16.out.trans (hb.mono R13_16.out.size))
    obtain ⟨a17, c17, rfl, hro, -, -, -, -⟩ := hr.form
    have HR17 := Lib.hid hro
    clear hr hro HTO
    clear hb R0_16 R1_16 R2_16 R4_16 R6_16 R7_16 R8_16 R9_16 R13_16
    have R17_17 := Lib.hid (Below.refl w17.heap.size w17)
    have HN2 := Lib.hid (Below.refl w.heap.size w)
    go_wp2_with (first
      | (at_builtin; refine wpList_appS rfl _ _ 26 rfl w17.heap.size 31 zR 16 Try.underlying26 Try.infoF rfl _ [] (by rfl) (Lr.lit w17 w17.heap.size 31 [] (Nat.le_refl _) (by simp)) a4 (w17.alloc (.cells #[] 31)).heap.size PX.length c4 PX rfl rfl (HRp.out _ (R4_17.out.alloc R4_17.out.size _)) (by simp; omega) (by simp; omega) (by simp) ?_; intro v40 w40 H40 hg40 hn40; have hb40 : Below w17.heap.size w17 w40 := ((Below.refl _ w17).alloc (Nat.le_refl _) _).trans (belowG hg40 (B := w17.heap.size) (fun q hq => by injection hq with hq; subst hq; exact Nat.le_refl _) (by simp)); have HB40 := Lib.hid hb40; have HQ40 := Lib.hid (HRq.out w40 (R6_17.out.trans (hb40.mono R6_17.out.size))); clear hg40 hn40 hb40)
      | (at_builtin; refine wpList_appS rfl _ _ 26 rfl w17.heap.size 31 zR 16 Try.underlying26 Try.infoF rfl _ ([] ++ PX) (by rfl) H40.out a6 w40.heap.size PY.length c6 PY rfl rfl HQ40.out (by simp; omega) (by simp; omega) HB40.out.size ?_; intro v41 w41 H41 hg41 hn41; have HB41 := Lib.hid (HB40.out.trans (belowG hg41 (B := w17.heap.size) (fun q hq => (H40.out.lt q hq).1) HB40.out.size)); obtain ⟨N41, HN41⟩ : ∃ q, Hid (([] ++ PX ++ PY).length = q) := ⟨_, Lib.hid rfl⟩; obtain ⟨a41, c41, rfl, hro41, -, -, -, -⟩ := H41.out.form; have hno41 := HNM.out w41 a41 ([] ++ PX ++ PY) c41 hro41 (by simp; omega); rw [HN41.out] at hno41 ⊢; have HNO := Lib.hid hno41; clear hg41 hn41 hro41 hno41)
      | fail)
    have R0_41 := Lib.hid (R0_17.out.trans (HB41.out.mono R0_17.out.size))
    have R1_41 := Lib.hid (R1_17.out.trans (HB41.out.mono R1_17.out.size))
    have R2_41 := Lib.hid (R2_17.out.trans (HB41.out.mono R2_17.out.size))
    have R4_41 := Lib.hid (R4_17.out.trans (HB41.out.mono R4_17.out.size))
    have R6_41 := Lib.hid (R6_17.out.trans (HB41.out.mono R6_17.out.size))
    have R7_41 := Lib.hid (R7_17.out.trans (HB41.out.mono R7_17.out.size))
    have R8_41 := Lib.hid (R8_17.out.trans (HB41.out.mono R8_17.out.size))
    have R9_41 := Lib.hid (R9_17.out.trans (HB41.out.mono R9_17.out.size))
    have R13_41 := Lib.hid (R13_17.out.trans (HB41.out.mono R13_17.out.size))
    have R17_41 := Lib.hid (R17_17.out.trans (HB41.out.mono R17_17.out.size))
    clear R0_17 R1_17 R2_17 R4_17 R6_17 R7_17 R8_17 R9_17 R13_17 R17_17
    go_wp2_with fail
    refine (HNO.out).mono ?_
    rintro e w42 ⟨xz, PZ, rfl, hr, hnz, hmz, -, hb⟩
    have R0_42 := Lib.hid (R0_41.out.trans (hb.mono R0_41.out.size))
    have R1_42 := Lib.hid (R1_41.out.trans (hb.mono R1_41.out.size))
    have R2_42 := Lib.hid (R2_41.out.trans (hb.mono R2_41.out.size))
    have R4_42 := Lib.hid (R4_41.out.trans (hb.mono R4_41.out.size))
    have R6_42 := Lib.hid (R6_41.out.trans (hb.mono R6_41.out.size))
    have R7_42 := Lib.hid (R7_41.out.trans (hb.mono R7_41.out.size))
    have R8_42 := Lib.hid (R8_41.out.trans (hb.mono R8_41.out.size))
    have R9_42 := Lib.hid (R9_41.out.trans (hb.mono R9_41.out.size))
    have R13_42 := Lib.hid (R13_41.out.trans (hb.mono R13_41.out.size))
    have R17_42 := Lib.hid (R17_41.out.trans (hb.mono R17_41.out.size))
    have ePZ : PZ = J := hnz.ext HJ8.out.st.nf (fun q => by rw [hmz q, List.nil_append, mem_append, HJM.out q])
    subst ePZ
    obtain ⟨a42, c42, rfl, hro, -, -, -, -⟩ := hr.form
    have hsa := Same_any w42 a17 a42 PZ PZ c17 c42 ((HR17.out.below R17_42.out (Nat.le_refl _)).mono R17_42.out.size) hro (by omega) (by omega)
    rw [show decide (PZ = PZ) = true by simp] at hsa
    have HSA := Lib.hid hsa
    clear hr hro hsa hnz hmz HNO
    clear hb R0_41 R1_41 R2_41 R4_41 R6_41 R7_41 R8_41 R9_41 R13_41 R17_41
    go_wp2_with fail
    refine (HSA.out).mono ?_
    rintro e w43 ⟨rfl, hb⟩
    have R0_43 := Lib.hid (R0_42.out.trans (hb.mono R0_42.out.size))
    have R1_43 := Lib.hid (R1_42.out.trans (hb.mono R1_42.out.size))
    have R2_43 := Lib.hid (R2_42.out.trans (hb.mono R2_42.out.size))
    have R4_43 := Lib.hid (R4_42.out.trans (hb.mono R4_42.out.size))
    have R6_43 := Lib.hid (R6_42.out.trans (hb.mono R6_42.out.size))
    have R7_43 := Lib.hid (R7_42.out.trans (hb.mono R7_42.out.size))
    have R8_43 := Lib.hid (R8_42.out.trans (hb.mono R8_42.out.size))
    have R9_43 := Lib.hid (R9_42.out.trans (hb.mono R9_42.out.size))
    have R13_43 := Lib.hid (R13_42.out.trans (hb.mono R13_42.out.size))
    have R17_43 := Lib.hid (R17_42.out.trans (hb.mono R17_42.out.size))
    clear HSA
    clear hb R0_42 R1_42 R2_42 R4_42 R6_42 R7_42 R8_42 R9_42 R13_42 R17_42
    have hme2 := Meet_any w43 (some ⟨p1, 0, none⟩) none (p1 :: rowOf v1) [] PX [] (HXs.out _ R1_43.out).st.setV (nilW _) (HXs.out _ R1_43.out).st.ltF (by simp) HXM.out.1 trivial (HXs.out _ R1_43.out).st.fit (by simp) (by omega) (by simp)
    rw [meet_none] at hme2
    have HME2 := Lib.hid hme2
    clear hme2
    go_wp2_with fail
    refine (HME2.out).mono ?_
    rintro e w44 ⟨p5, v5, rfl, hn5, hb⟩
    have R0_44 := Lib.hid (R0_43.out.trans (hb.mono R0_43.out.size))
    have R1_44 := Lib.hid (R1_43.out.trans (hb.mono R1_43.out.size))
    have R2_44 := Lib.hid (R2_43.out.trans (hb.mono R2_43.out.size))
    have R4_44 := Lib.hid (R4_43.out.trans (hb.mono R4_43.out.size))
    have R6_44 := Lib.hid (R6_43.out.trans (hb.mono R6_43.out.size))
    have R7_44 := Lib.hid (R7_43.out.trans (hb.mono R7_43.out.size))
    have R8_44 := Lib.hid (R8_43.out.trans (hb.mono R8_43.out.size))
    have R9_44 := Lib.hid (R9_43.out.trans (hb.mono R9_43.out.size))
    have R13_44 := Lib.hid (R13_43.out.trans (hb.mono R13_43.out.size))
    have R17_44 := Lib.hid (R17_43.out.trans (hb.mono R17_43.out.size))
    have HN5 := Lib.hid hn5
    clear hn5 HME2
    clear hb R0_43 R1_43 R2_43 R4_43 R6_43 R7_43 R8_43 R9_43 R13_43 R17_43
    go_wp2_with fail
    refine (Runs_some w44 p5 _ [] HN5.out.st).mono ?_
    rintro e w45 ⟨xr, rfl, hr, hb⟩
    have R0_45 := Lib.hid (R0_44.out.trans (hb.mono R0_44.out.size))
    have R1_45 := Lib.hid (R1_44.out.trans (hb.mono R1_44.out.size))
    have R2_45 := Lib.hid (R2_44.out.trans (hb.mono R2_44.out.size))
    have R4_45 := Lib.hid (R4_44.out.trans (hb.mono R4_44.out.size))
    have R6_45 := Lib.hid (R6_44.out.trans (hb.mono R6_44.out.size))
    have R7_45 := Lib.hid (R7_44.out.trans (hb.mono R7_44.out.size))
    have R8_45 := Lib.hid (R8_44.out.trans (hb.mono R8_44.out.size))
    have R9_45 := Lib.hid (R9_44.out.trans (hb.mono R9_44.out.size))
    have R13_45 := Lib.hid (R13_44.out.trans (hb.mono R13_44.out.size))
    have R17_45 := Lib.hid (R17_44.out.trans (hb.mono R17_44.out.size))
    obtain ⟨ar45, cr45, rfl, -, -, -, -, -⟩ := hr.form
    rw [List.length_nil]
    clear hr HN5
    clear hb R0_44 R1_44 R2_44 R4_44 R6_44 R7_44 R8_44 R9_44 R13_44 R17_44
    have HJO2 := Lib.hid (Join_any w45 none (some ⟨p2, 0, none⟩) [] (p2 :: rowOf v2) [] PY (nilW _) (HYs.out _ R2_45.out).st.setV (by simp) HFXY.out.2 (by simp) (by omega))
    go_wp2_with fail
    refine (HJO2.out).mono ?_
    rintro e w46 ⟨p6, v6, J2, rfl, hn6, ⟨hJ2, -⟩, hb⟩
    have R0_46 := Lib.hid (R0_45.out.trans (hb.mono R0_45.out.size))
    have R1_46 := Lib.hid (R1_45.out.trans (hb.mono R1_45.out.size))
    have R2_46 := Lib.hid (R2_45.out.trans (hb.mono R2_45.out.size))
    have R4_46 := Lib.hid (R4_45.out.trans (hb.mono R4_45.out.size))
    have R6_46 := Lib.hid (R6_45.out.trans (hb.mono R6_45.out.size))
    have R7_46 := Lib.hid (R7_45.out.trans (hb.mono R7_45.out.size))
    have R8_46 := Lib.hid (R8_45.out.trans (hb.mono R8_45.out.size))
    have R9_46 := Lib.hid (R9_45.out.trans (hb.mono R9_45.out.size))
    have R13_46 := Lib.hid (R13_45.out.trans (hb.mono R13_45.out.size))
    have R17_46 := Lib.hid (R17_45.out.trans (hb.mono R17_45.out.size))
    have eJ2 : J2 = PY := hn6.st.nf.ext HYM.out.1 (fun q => by rw [hJ2 q]; simp)
    subst eJ2
    have HN6 := Lib.hid hn6
    clear hn6 hJ2 HJO2
    clear hb R0_45 R1_45 R2_45 R4_45 R6_45 R7_45 R8_45 R9_45 R13_45 R17_45
    go_wp2_with fail
    refine (Runs_some w46 p6 _ J2 HN6.out.st).mono ?_
    rintro e w47 ⟨xr, rfl, hr, hb⟩
    have R0_47 := Lib.hid (R0_46.out.trans (hb.mono R0_46.out.size))
    have R1_47 := Lib.hid (R1_46.out.trans (hb.mono R1_46.out.size))
    have R2_47 := Lib.hid (R2_46.out.trans (hb.mono R2_46.out.size))
    have R4_47 := Lib.hid (R4_46.out.trans (hb.mono R4_46.out.size))
    have R6_47 := Lib.hid (R6_46.out.trans (hb.mono R6_46.out.size))
    have R7_47 := Lib.hid (R7_46.out.trans (hb.mono R7_46.out.size))
    have R8_47 := Lib.hid (R8_46.out.trans (hb.mono R8_46.out.size))
    have R9_47 := Lib.hid (R9_46.out.trans (hb.mono R9_46.out.size))
    have R13_47 := Lib.hid (R13_46.out.trans (hb.mono R13_46.out.size))
    have R17_47 := Lib.hid (R17_46.out.trans (hb.mono R17_46.out.size))
    obtain ⟨ar47, cr47, rfl, -, -, -, -, -⟩ := hr.form
    clear hr HN6
    clear hb R0_46 R1_46 R2_46 R4_46 R6_46 R7_46 R8_46 R9_46 R13_46 R17_46
    go_wp2_with fail
    refine (alive_any _).mono ?_
    rintro e w48 ⟨rfl, hb⟩
    have R0_48 := Lib.hid (R0_47.out.trans (hb.mono R0_47.out.size))
    have R1_48 := Lib.hid (R1_47.out.trans (hb.mono R1_47.out.size))
    have R2_48 := Lib.hid (R2_47.out.trans (hb.mono R2_47.out.size))
    have R4_48 := Lib.hid (R4_47.out.trans (hb.mono R4_47.out.size))
    have R6_48 := Lib.hid (R6_47.out.trans (hb.mono R6_47.out.size))
    have R7_48 := Lib.hid (R7_47.out.trans (hb.mono R7_47.out.size))
    have R8_48 := Lib.hid (R8_47.out.trans (hb.mono R8_47.out.size))
    have R9_48 := Lib.hid (R9_47.out.trans (hb.mono R9_47.out.size))
    have R13_48 := Lib.hid (R13_47.out.trans (hb.mono R13_47.out.size))
    have R17_48 := Lib.hid (R17_47.out.trans (hb.mono R17_47.out.size))
    clear hb R0_47 R1_47 R2_47 R4_47 R6_47 R7_47 R8_47 R9_47 R13_47 R17_47
    go_wp2_with fail
    refine (Runs_some w48 q9 _ A (HO9.out.keep R9_48.out).st).mono ?_
    rintro e w49 ⟨xr, rfl, hr, hb⟩
    have R0_49 := Lib.hid (R0_48.out.trans (hb.mono R0_48.out.size))
    have R1_49 := Lib.hid (R1_48.out.trans (hb.mono R1_48.out.size))
    have R2_49 := Lib.hid (R2_48.out.trans (hb.mono R2_48.out.size))
    have R4_49 := Lib.hid (R4_48.out.trans (hb.mono R4_48.out.size))
    have R6_49 := Lib.hid (R6_48.out.trans (hb.mono R6_48.out.size))
    have R7_49 := Lib.hid (R7_48.out.trans (hb.mono R7_48.out.size))
    have R8_49 := Lib.hid (R8_48.out.trans (hb.mono R8_48.out.size))
    have R9_49 := Lib.hid (R9_48.out.trans (hb.mono R9_48.out.size))
    have R13_49 := Lib.hid (R13_48.out.trans (hb.mono R13_48.out.size))
    have R17_49 := Lib.hid (R17_48.out.trans (hb.mono R17_48.out.size))
    obtain ⟨ar49, cr49, rfl, hro, -, -, -, -⟩ := hr.form
    have HTO := Lib.hid (told_any w49 ar49 A cr49 _ hro (Nat.le_refl _) (by rw [HAn.out]; omega))
    clear hr hro
    clear hb R0_48 R1_48 R2_48 R4_48 R6_48 R7_48 R8_48 R9_48 R13_48 R17_48
    go_wp2_with fail
    refine (HTO.out).mono ?_
    rintro e w50 ⟨xt, rfl, hr, hb⟩
    have R0_50 := Lib.hid (R0_49.out.trans (hb.mono R0_49.out.size))
    have R1_50 := Lib.hid (R1_49.out.trans (hb.mono R1_49.out.size))
    have R2_50 := Lib.hid (R2_49.out.trans (hb.mono R2_49.out.size))
    have R4_50 := Lib.hid (R4_49.out.trans (hb.mono R4_49.out.size))
    have R6_50 := Lib.hid (R6_49.out.trans (hb.mono R6_49.out.size))
    have R7_50 := Lib.hid (R7_49.out.trans (hb.mono R7_49.out.size))
    have R8_50 := Lib.hid (R8_49.out.trans (hb.mono R8_49.out.size))
    have R9_50 := Lib.hid (R9_49.out.trans (hb.mono R9_49.out.size))
    have R13_50 := Lib.hid (R13_49.out.trans (hb.mono R13_49.out.size))
    have R17_50 := Lib.hid (R17_49.out.trans (hb.mono R17_49.out.size))
    obtain ⟨a50, c50, rfl, hro, -, -, -, -⟩ := hr.form
    have hsa := Same_any w50 a50 a4 A PX c50 c4 hro (HRp.out _ R4_50.out) (by rw [HAn.out]; omega) (by omega)
    rw [show decide (A = PX) = true by simpa using HEAX.out] at hsa
    have HSA := Lib.hid hsa
    clear hr hro HTO hsa
    clear hb R0_49 R1_49 R2_49 R4_49 R6_49 R7_49 R8_49 R9_49 R13_49 R17_49
    go_wp2_with fail
    refine (HSA.out).mono ?_
    rintro e w51 ⟨rfl, hb⟩
    have R0_51 := Lib.hid (R0_50.out.trans (hb.mono R0_50.out.size))
    have R1_51 := Lib.hid (R1_50.out.trans (hb.mono R1_50.out.size))
    have R2_51 := Lib.hid (R2_50.out.trans (hb.mono R2_50.out.size))
    have R4_51 := Lib.hid (R4_50.out.trans (hb.mono R4_50.out.size))
    have R6_51 := Lib.hid (R6_50.out.trans (hb.mono R6_50.out.size))
    have R7_51 := Lib.hid (R7_50.out.trans (hb.mono R7_50.out.size))
    have R8_51 := Lib.hid (R8_50.out.trans (hb.mono R8_50.out.size))
    have R9_51 := Lib.hid (R9_50.out.trans (hb.mono R9_50.out.size))
    have R13_51 := Lib.hid (R13_50.out.trans (hb.mono R13_50.out.size))
    have R17_51 := Lib.hid (R17_50.out.trans (hb.mono R17_50.out.size))
    clear HSA
    clear hb R0_50 R1_50 R2_50 R4_50 R6_50 R7_50 R8_50 R9_50 R13_50 R17_50
    go_wp2_with fail
    go_ret
    exact ⟨rfl, R0_51.out⟩
end Go.Proofs.Ytoadbkiklabceaa
