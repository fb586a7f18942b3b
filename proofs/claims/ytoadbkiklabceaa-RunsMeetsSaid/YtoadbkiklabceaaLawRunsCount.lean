/-
  The statement RunsCount, walked. No condition but the ranges of the arguments.
-/
import Derived.Test.YtoadbkiklabceaaMeet
import Derived.Test.YtoadbkiklabceaaJoin
namespace Go.Proofs.Ytoadbkiklabceaa
open Go.RowKit Go.Shelf Go.Deep
set_option linter.unusedVariables false
set_option linter.unusedSimpArgs false

theorem sum_counts {X Y J : List Rn} (hX : NF X) (hY : NF Y) (hJ : NF J) (fX : ∀ r ∈ X, r.2 ≤ top64) (fY : ∀ r ∈ Y, r.2 ≤ top64) (fJ : ∀ r ∈ J, r.2 ≤ top64) (hm : ∀ n, mem J n = (mem X n || mem Y n)) :
    cnt (meetL X Y) + cnt J = cnt X + cnt Y := by
  have h := meetL_ok hX hY
  have hf : ∀ x ∈ meetL X Y, x.2 ≤ top64 := bound_of_mem h.1 (fun n hn => by rw [h.2, Bool.and_eq_true] at hn; exact hn.1) fX
  rw [← h.1.cnt_eq hf, ← hJ.cnt_eq fJ, ← hX.cnt_eq fX, ← hY.cnt_eq fY, cP_congr h.2, cP_congr hm]
  have := cP_or top64 (mem X) (mem Y)
  omega
theorem put_again {X : List Rn} (h : NF X) (r : Rn) : putL (putL X r) r = putL X r := by
  obtain ⟨h1, h2⟩ := putL_ok h r
  obtain ⟨h3, h4⟩ := putL_ok h1 r
  exact h3.ext h1 fun n => by rw [h4, h2]; cases mem X n <;> cases inR r n <;> rfl
theorem cut_again {X : List Rn} (h : NF X) (r : Rn) : cutL (cutL X r) r = cutL X r := by
  obtain ⟨h1, h2⟩ := cutL_ok h r
  obtain ⟨h3, h4⟩ := cutL_ok h1 r
  exact h3.ext h1 fun n => by rw [h4, h2]; cases mem X n <;> cases inR r n <;> rfl
theorem putL_fit2 {L : List Rn} {r : Rn} (h : NF L) (hL : ∀ x ∈ L, x.2 ≤ top64) (hr : Fit r) : ∀ x ∈ putL L r, x.2 ≤ top64 := by
  unfold putL
  by_cases hlt : r.1 < r.2
  · rw [if_pos hlt]; exact addL_bound h hlt hL (by have := hr.2; unfold top64; omega)
  · rw [if_neg hlt]; exact hL
/-- what goes in, and what comes out again -/
theorem in_out {X : List Rn} (h : NF X) (fX : ∀ x ∈ X, x.2 ≤ top64) {r : Rn} (hr : Fit r) :
    cnt X ≤ cnt (putL X r) ∧ cnt (cutL (putL X r) r) ≤ cnt (putL X r) ∧ cnt (putL X r) - cnt X ≤ cnt (putL X r) - cnt (cutL (putL X r) r) ∧
    (r.1 < r.2 → cnt (putL X r) - cnt (cutL (putL X r) r) = r.2 - r.1) ∧ (r.2 ≤ r.1 → putL X r = X ∧ cutL (putL X r) r = X) := by
  have hE : r.2 ≤ top64 := by have := hr.2; unfold top64; omega
  by_cases hlt : r.1 < r.2
  · have h1 := (putL_ok h r).1
    have h2 := (putL_ok h r).2
    have f1 := putL_fit2 h fX hr
    have c1 : cnt (putL X r) + cnt (parts X r) = cnt X + (r.2 - r.1) := by unfold putL; rw [if_pos hlt]; exact cnt_add h hlt fX hE
    have c2 : cnt (cutL (putL X r) r) + cnt (parts (putL X r) r) = cnt (putL X r) := by
      have := cnt_drop h1 hlt f1 hE
      unfold cutL; rw [if_pos hlt]; exact this
    have c3 : cnt (parts (putL X r) r) = r.2 - r.1 := by
      rw [cnt_parts h1 hE, cP_congr (q := inR r) (fun n => by rw [h2]; cases mem X n <;> cases inR r n <;> rfl), cP_run r (Nat.le_of_lt hlt)]
      omega
    have c4 := cnt_parts_le h (r := r) (Nat.le_of_lt hlt)
    exact ⟨by omega, by omega, by omega, fun _ => by omega, fun h => by omega⟩
  · have e1 : putL X r = X := by unfold putL; rw [if_neg hlt]
    have e2 : cutL X r = X := by unfold cutL; rw [if_neg hlt]
    rw [e1, e2]
    exact ⟨Nat.le_refl _, Nat.le_refl _, by omega, fun h => absurd h hlt, fun _ => ⟨rfl, rfl⟩⟩
set_option maxHeartbeats 4000000 in
set_option maxRecDepth 100000 in
theorem runsCount_walk (w : World) (a b : Option Addr) (A B : List Rn) (c d : Nat) (r : Rn) (ha : Ro w w.heap.size a (rcs A)) (hfa : ∀ r ∈ A, Fit r) (hla : A.length ≤ 9223372036854775807)
    (hb : Ro w w.heap.size b (rcs B)) (hfb : ∀ r ∈ B, Fit r) (hlb : B.length ≤ 9223372036854775807) (hr : Fit r) :
    Calls Try.prog 6 #[.slice a A.length c, .slice b B.length d, rv r] w fun e w' => e = .returned (.bool true) ∧ Below w.heap.size w w' := by
  obtain ⟨N, HN⟩ : ∃ N, Hid (w.heap.size = N) := ⟨_, Lib.hid rfl⟩
  obtain ⟨w0, HW0⟩ : ∃ w0, Hid (w.alloc (.cells #[.int .u64 (r.1 : Int), .int .u64 (r.2 : Int)] 28) = w0) := ⟨_, Lib.hid rfl⟩
  have ho0 : Own w0 N 28 [.int .u64 (r.1 : Int), .int .u64 (r.2 : Int)] := by rw [← HW0.out, ← HN.out]; exact Own.new w _ _
  have hb0 : Below N w w0 := by rw [← HW0.out, ← HN.out]; exact (Below.refl _ w).alloc (Nat.le_refl _) _
  have hN0 : N + 1 ≤ w0.heap.size := ho0.lt
  rw [HN.out] at ha hb
  have HBA := Lib.hid (built_any w0 a A c N (ha.below hb0 (Nat.le_refl _)) (by omega) hfa hla)
  have HBB := Lib.hid (fun W (hW : Below w0.heap.size w0 W) => built_any W b B d N ((hb.below hb0 (Nat.le_refl _)).below hW (by omega)) (by have := hW.size; omega) hfb hlb)
  obtain ⟨hXn, -, hXl⟩ := builtL_NF (A.take 60)
  obtain ⟨hYn, -, hYl⟩ := builtL_NF (B.take 60)
  rw [List.length_take] at hXl hYl
  obtain ⟨X, HXX⟩ : ∃ X, Hid (builtL (A.take 60) = X) := ⟨_, Lib.hid rfl⟩
  obtain ⟨Y, HYY⟩ : ∃ Y, Hid (builtL (B.take 60) = Y) := ⟨_, Lib.hid rfl⟩
  rw [HXX.out] at HBA hXn hXl
  simp only [HYY.out] at HBB
  rw [HYY.out] at hYn hYl
  obtain ⟨n, HAn⟩ : ∃ n, Hid (A.length = n) := ⟨_, Lib.hid rfl⟩
  obtain ⟨m, HBm⟩ : ∃ m, Hid (B.length = m) := ⟨_, Lib.hid rfl⟩
  rw [HAn.out] at HBA ⊢
  rw [HBm.out] at HBB ⊢
  have HO0 := Lib.hid (And.intro ho0 hb0)
  have hX60 : X.length ≤ 60 := by omega
  have hY60 : Y.length ≤ 60 := by omega
  have HNX := Lib.hid (And.intro hXn hYn)
  have HR := Lib.hid hr
  clear ha hb hfa hfb hla hlb ho0 hb0 hXl hYl hXn hYn hr
  go_enter Try.func6, Try.ntmps6
  go_wp2_with fail
  rw [HW0.out, HN.out]
  refine HBA.out.mono ?_
  rintro e w1 ⟨v1, rfl, hn1, hb1⟩
  have HN1 := Lib.hid hn1
  have HB1 := Lib.hid hb1
  clear hn1 hb1 HBA
  go_wp2_with fail
  refine (HBB.out w1 HB1.out).mono ?_
  rintro e w2 ⟨v2, rfl, hn2, hb2⟩
  obtain ⟨p1, HP1⟩ : ∃ p1, Hid (w0.heap.size = p1) := ⟨_, Lib.hid rfl⟩
  obtain ⟨p2, HP2⟩ : ∃ p2, Hid (w1.heap.size = p2) := ⟨_, Lib.hid rfl⟩
  have hs1 := HB1.out.size
  rw [HP1.out] at HN1 hs1 hN0 ⊢
  rw [HP2.out] at hn2 ⊢
  have HX2 := Lib.hid (HN1.out.keep hb2)
  have HY2 := Lib.hid hn2
  have HB2 := Lib.hid (show Below p1 w0 w2 from by have h := HB1.out; rw [HP1.out] at h; exact h.trans (hb2.mono (by have := HP2.out; omega)))
  clear hn2 hb2 HBB HN1 HB1
  have hfx := fit_el HX2.out.st.fit HX2.out.st.nf
  have hfy := fit_el HY2.out.st.fit HY2.out.st.nf
  have HME := Lib.hid (Meet_any w2 (some ⟨p1, 0, none⟩) (some ⟨p2, 0, none⟩) (p1 :: rowOf v1) (p2 :: rowOf v2) X Y HX2.out.st.setV HY2.out.st.setV HX2.out.st.ltF HY2.out.st.ltF HX2.out.st.nf HY2.out.st.nf HX2.out.st.fit HY2.out.st.fit (by omega) (by omega))
  have HJO := Lib.hid (fun W (hW : Below w2.heap.size w2 W) => Join_any W (some ⟨p1, 0, none⟩) (some ⟨p2, 0, none⟩) (p1 :: rowOf v1) (p2 :: rowOf v2) X Y (HX2.out.keep hW).st.setV (HY2.out.keep hW).st.setV hfx hfy (by omega) (by omega))
  clear hfx hfy
  go_wp2_with fail
  refine HME.out.mono ?_
  rintro e w3 ⟨p3, v3, rfl, hn3, hb3⟩
  have HM3 := Lib.hid hn3
  have HB3 := Lib.hid hb3
  clear hn3 hb3 HME
  go_wp2_with fail
  refine (HJO.out w3 HB3.out).mono ?_
  rintro e w4 ⟨p4, v4, J, rfl, hn4, ⟨hJm, hJl⟩, hb4⟩
  have HX4 := Lib.hid ((HX2.out.keep HB3.out).keep hb4)
  have HY4 := Lib.hid ((HY2.out.keep HB3.out).keep hb4)
  have HM4 := Lib.hid (HM3.out.keep hb4)
  have HJ4 := Lib.hid hn4
  have HB4 := Lib.hid (show Below p1 w0 w4 from HB2.out.trans ((HB3.out.trans (hb4.mono HB3.out.size)).mono (by have := HB2.out.size; have := HP1.out; omega)))
  have hsum := sum_counts HX4.out.st.nf HY4.out.st.nf HJ4.out.st.nf HX4.out.st.fit HY4.out.st.fit HJ4.out.st.fit hJm
  clear hn4 hb4 HJO hJm hJl HB3 HM3 HX2 HY2 HB2
  obtain ⟨cM, HcM⟩ : ∃ x, Hid (cnt (meetL X Y) = x) := ⟨_, Lib.hid rfl⟩
  obtain ⟨cJ, HcJ⟩ : ∃ x, Hid (cnt J = x) := ⟨_, Lib.hid rfl⟩
  obtain ⟨cX, HcX⟩ : ∃ x, Hid (cnt X = x) := ⟨_, Lib.hid rfl⟩
  obtain ⟨cY, HcY⟩ : ∃ x, Hid (cnt Y = x) := ⟨_, Lib.hid rfl⟩
  rw [HcM.out, HcJ.out, HcX.out, HcY.out] at hsum
  have HC3 := Lib.hid (show ∀ W, Below w4.heap.size w4 W → Calls Try.prog 22 #[.pointer (some ⟨p3, 0, none⟩)] W fun e w' => e = .returned (.int .u64 (cM : Int)) ∧ Below W.heap.size W w' from fun W hW => by
    have hs := (HM4.out.keep hW).st
    have := Count_any (some ⟨p3, 0, none⟩) (meetL X Y) W _ hs.setV hs.ltF hs.nf hs.fit
    rw [HcM.out] at this
    exact this)
  have HC4 := Lib.hid (show ∀ W, Below w4.heap.size w4 W → Calls Try.prog 22 #[.pointer (some ⟨p4, 0, none⟩)] W fun e w' => e = .returned (.int .u64 (cJ : Int)) ∧ Below W.heap.size W w' from fun W hW => by
    have hs := (HJ4.out.keep hW).st
    have := Count_any (some ⟨p4, 0, none⟩) J W _ hs.setV hs.ltF hs.nf hs.fit
    rw [HcJ.out] at this
    exact this)
  have HC1 := Lib.hid (show ∀ W, Below w4.heap.size w4 W → Calls Try.prog 22 #[.pointer (some ⟨p1, 0, none⟩)] W fun e w' => e = .returned (.int .u64 (cX : Int)) ∧ Below W.heap.size W w' from fun W hW => by
    have hs := (HX4.out.keep hW).st
    have := Count_any (some ⟨p1, 0, none⟩) X W _ hs.setV hs.ltF hs.nf hs.fit
    rw [HcX.out] at this
    exact this)
  have HC2 := Lib.hid (show ∀ W, Below w4.heap.size w4 W → Calls Try.prog 22 #[.pointer (some ⟨p2, 0, none⟩)] W fun e w' => e = .returned (.int .u64 (cY : Int)) ∧ Below W.heap.size W w' from fun W hW => by
    have hs := (HY4.out.keep hW).st
    have := Count_any (some ⟨p2, 0, none⟩) Y W _ hs.setV hs.ltF hs.nf hs.fit
    rw [HcY.out] at this
    exact this)
  obtain ⟨s, hs⟩ : ∃ s : Nat, s = (cM + cJ) % 18446744073709551616 := ⟨_, rfl⟩
  have hw1 : IntKind.u64.wrap ((cM : Int) + (cJ : Int)) = (s : Int) := by rw [IntKind.wrap_u64]; omega
  have hw2 : IntKind.u64.wrap ((cX : Int) + (cY : Int)) = (s : Int) := by rw [IntKind.wrap_u64]; omega
  clear hs hsum
  go_wp2_with fail
  refine (HC3.out w4 (Below.refl _ _)).mono ?_
  rintro e w5 ⟨rfl, hb5⟩
  go_wp2_with fail
  refine (HC4.out w5 hb5).mono ?_
  rintro e w6 ⟨rfl, hb6⟩
  have HB6 := Lib.hid (hb5.trans (hb6.mono hb5.size))
  clear hb5 hb6
  go_wp2_with fail
  refine (HC1.out w6 HB6.out).mono ?_
  rintro e w7 ⟨rfl, hb7⟩
  have HB7 := Lib.hid (HB6.out.trans (hb7.mono HB6.out.size))
  clear hb7
  go_wp2_with fail
  refine (HC2.out w7 HB7.out).mono ?_
  rintro e w8 ⟨rfl, hb8⟩
  have HB8 := Lib.hid (HB7.out.trans (hb8.mono HB7.out.size))
  clear hb8
  go_wp2_with fail
  refine (HC1.out w8 HB8.out).mono ?_
  rintro e w9 ⟨rfl, hb9⟩
  have HB9 := Lib.hid (HB8.out.trans (hb9.mono HB8.out.size))
  clear hb9
  have HX9 := Lib.hid (HX4.out.keep HB9.out)
  have HL9 := Lib.hid (show Below p1 w0 w9 from HB4.out.trans (HB9.out.mono HX4.out.ltB))
  clear HC3 HC4 HC1 HC2 HM4 HJ4 HY4 hw1 hw2
  obtain ⟨hio1, hio2, hio3, hio4, hio5⟩ := in_out HX9.out.st.nf HX9.out.st.fit HR.out
  have hX1l := putL_len HX9.out.st.nf r
  have hX1n := (putL_ok HX9.out.st.nf r).1
  have hX1m := (putL_ok HX9.out.st.nf r).2
  have hX1f := putL_fit2 HX9.out.st.nf HX9.out.st.fit HR.out
  have hag := put_again HX9.out.st.nf r
  have hag2 := cut_again hX1n r
  have hX3l := cutL_len hX1n r
  have hX3m := (cutL_ok hX1n r).2
  have hA1 := add_any w9 p1 v1 X HX9.out.st r HR.out (by omega)
  obtain ⟨X1, HX1⟩ : ∃ x, Hid (putL X r = x) := ⟨_, Lib.hid rfl⟩
  rw [HX1.out] at hio1 hio2 hio3 hio4 hio5 hX1l hX1n hX1f hag hag2 hX3l hX3m hA1
  simp only [HX1.out] at hX1m
  obtain ⟨X3, HX3⟩ : ∃ x, Hid (cutL X1 r = x) := ⟨_, Lib.hid rfl⟩
  rw [HX3.out] at hio2 hio3 hio4 hio5 hag2 hX3l
  simp only [HX3.out] at hX3m
  have hct1 := cnt_le hX1n hX1f
  obtain ⟨q1, HQ1⟩ : ∃ x, Hid (cnt X1 = x) := ⟨_, Lib.hid rfl⟩
  obtain ⟨q3, HQ3⟩ : ∃ x, Hid (cnt X3 = x) := ⟨_, Lib.hid rfl⟩
  rw [HcX.out] at hio1 hio3 hA1
  rw [HQ1.out] at hio1 hio2 hio3 hio4 hA1 hct1
  rw [HQ3.out] at hio2 hio3 hio4
  obtain ⟨d1, HD1⟩ : ∃ x, Hid (q1 - cX = x) := ⟨_, Lib.hid rfl⟩
  obtain ⟨d2, HD2⟩ : ∃ x, Hid (q1 - q3 = x) := ⟨_, Lib.hid rfl⟩
  rw [HD1.out] at hio3 hA1
  rw [HD2.out] at hio3 hio4
  unfold top64 at hct1
  have hw3 : IntKind.u64.wrap ((cX : Int) + (d1 : Int)) = (q1 : Int) := by rw [IntKind.wrap_u64, ← HD1.out]; omega
  have hw4 : IntKind.u64.wrap ((q1 : Int) - (d2 : Int)) = (q3 : Int) := by rw [IntKind.wrap_u64, ← HD2.out]; omega
  have hlt : decide (d2 < d1) = false := by simp; exact hio3
  have HA2 := Lib.hid (fun (W : World) (v : Value) (h : St W p1 v X1) => by
    have := add_any W p1 v X1 h r HR.out (by omega)
    rw [hag, Nat.sub_self] at this
    exact this)
  have HA3 := Lib.hid (fun (W : World) (v : Value) (h : St W p1 v X1) => by
    have := drop_any W p1 v X1 h r HR.out (by omega)
    rw [HX3.out, HQ1.out, HQ3.out, HD2.out] at this
    exact this)
  have HA4 := Lib.hid (fun (W : World) (v : Value) (h : St W p1 v X3) => by
    have := drop_any W p1 v X3 h r HR.out (by omega)
    rw [hag2, Nat.sub_self] at this
    exact this)
  have HA1 := Lib.hid hA1
  have HIO := Lib.hid (And.intro hio4 (And.intro hio5 hX3m))
  have hNp : N < p1 := by omega
  have c0 := (HL9.out.cell (p := ⟨N, 0, none⟩) hNp).trans (HO0.out.1.cell 0)
  have c1 := (HL9.out.cell (p := ⟨N, 1, none⟩) hNp).trans (HO0.out.1.cell 1)
  simp at c0 c1
  have HP10 := Lib.hid (And.intro HX9.out HL9.out)
  clear hio1 hio2 hio3 hio4 hio5 hX1l hX1n hX1m hX1f hag hag2 hX3l hX3m hA1 hct1 HX9 HL9 HX4 HB9 HB8 HB7 HB6 hN0 hs1
  go_wp2_with fail
  refine HA1.out.mono ?_
  rintro e w10 hp
  obtain ⟨v10, rfl, hn10, hl10, _⟩ := HP10.out.1.post HP10.out.2 hp
  have c0 := (hl10.cell (p := ⟨N, 0, none⟩) hNp).trans (HO0.out.1.cell 0)
  have c1 := (hl10.cell (p := ⟨N, 1, none⟩) hNp).trans (HO0.out.1.cell 1)
  simp at c0 c1
  have H10 := Lib.hid (And.intro hn10 hl10)
  clear hp hn10 hl10 HP10 HA1
  go_wp2_with fail
  refine (HA2.out w10 v10 H10.out.1.st).mono ?_
  rintro e w11 hp
  obtain ⟨v11, he, hn11, hl11, _⟩ := H10.out.1.post H10.out.2 hp
  have he2 : e = .returned (.int .u64 0) := he
  subst he2
  have c0 := (hl11.cell (p := ⟨N, 0, none⟩) hNp).trans (HO0.out.1.cell 0)
  have c1 := (hl11.cell (p := ⟨N, 1, none⟩) hNp).trans (HO0.out.1.cell 1)
  simp at c0 c1
  have hcn := Count_any (some ⟨p1, 0, none⟩) X1 w11 _ hn11.st.setV hn11.st.ltF hn11.st.nf hn11.st.fit
  rw [HQ1.out] at hcn
  have HCN := Lib.hid hcn
  have H11 := Lib.hid (And.intro hn11 hl11)
  clear hp he hn11 hl11 H10 HA2 hcn
  go_wp2_with fail
  refine HCN.out.mono ?_
  rintro e w12 ⟨rfl, hb12⟩
  have H12 := Lib.hid (And.intro (H11.out.1.keep hb12) (H11.out.2.trans (hb12.mono H11.out.1.ltB)))
  have c0 := (H12.out.2.cell (p := ⟨N, 0, none⟩) hNp).trans (HO0.out.1.cell 0)
  have c1 := (H12.out.2.cell (p := ⟨N, 1, none⟩) hNp).trans (HO0.out.1.cell 1)
  simp at c0 c1
  clear hb12 H11 HCN
  go_wp2_with fail
  refine (HA3.out w12 v11 H12.out.1.st).mono ?_
  rintro e w13 hp
  obtain ⟨v13, rfl, hn13, hl13, _⟩ := H12.out.1.post H12.out.2 hp
  have c0 := (hl13.cell (p := ⟨N, 0, none⟩) hNp).trans (HO0.out.1.cell 0)
  have c1 := (hl13.cell (p := ⟨N, 1, none⟩) hNp).trans (HO0.out.1.cell 1)
  simp at c0 c1
  have H13 := Lib.hid (And.intro hn13 hl13)
  clear hp hn13 hl13 H12 HA3
  go_wp2_with fail
  refine (HA4.out w13 v13 H13.out.1.st).mono ?_
  rintro e w14 hp
  obtain ⟨v14, he, hn14, hl14, _⟩ := H13.out.1.post H13.out.2 hp
  have he2 : e = .returned (.int .u64 0) := he
  subst he2
  have c0 := (hl14.cell (p := ⟨N, 0, none⟩) hNp).trans (HO0.out.1.cell 0)
  have c1 := (hl14.cell (p := ⟨N, 1, none⟩) hNp).trans (HO0.out.1.cell 1)
  simp at c0 c1
  have hcn := Count_any (some ⟨p1, 0, none⟩) X3 w14 _ hn14.st.setV hn14.st.ltF hn14.st.nf hn14.st.fit
  rw [HQ3.out] at hcn
  have HCN := Lib.hid hcn
  have H14 := Lib.hid (And.intro hn14 hl14)
  clear hp he hn14 hl14 H13 HA4 hcn
  go_wp2_with fail
  refine HCN.out.mono ?_
  rintro e w15 ⟨rfl, hb15⟩
  have H15 := Lib.hid (And.intro (H14.out.1.keep hb15) (H14.out.2.trans (hb15.mono H14.out.1.ltB)))
  have c0 := (H15.out.2.cell (p := ⟨N, 0, none⟩) hNp).trans (HO0.out.1.cell 0)
  have c1 := (H15.out.2.cell (p := ⟨N, 1, none⟩) hNp).trans (HO0.out.1.cell 1)
  simp at c0 c1
  clear hb15 H14 HCN
  have hfin : ∀ W, Below w15.heap.size w15 W → Below w.heap.size w W := fun W hW => by
    rw [HN.out]
    exact HO0.out.2.trans ((H15.out.2.trans (hW.mono H15.out.1.ltB)).mono (by omega))
  have HFIN := Lib.hid hfin
  clear hfin
  have hal := alive_any
  have HAL := Lib.hid hal
  clear hal
  by_cases hemp : r.2 ≤ r.1
  · have hde : decide (r.2 ≤ r.1) = true := by simpa using hemp
    obtain ⟨z1, z2⟩ := HIO.out.2.1 hemp
    have z3 : d1 = 0 := by rw [← HD1.out, ← HQ1.out, z1, HcX.out]; omega
    have z4 : d2 = 0 := by rw [← HD2.out, ← HQ1.out, ← HQ3.out, z1, z2]; omega
    have hz1 : ((d1 : Int) == 0) = true := by simp; exact z3
    have hz2 : ((d2 : Int) == 0) = true := by simp; exact z4
    clear z1 z2 z3 z4 hemp
    go_wp2_with (first
      | (go_at_call 27; refine (HAL.out _).mono ?_; rintro e w16 ⟨rfl, hb16⟩)
      | fail)
    go_ret
    exact ⟨rfl, HFIN.out _ hb16⟩
  · have hde : decide (r.2 ≤ r.1) = false := by simpa using hemp
    have hlt2 : r.1 < r.2 := by omega
    have hd2 := HIO.out.1 hlt2
    have hX3m := HIO.out.2.2
    have hh1 : mem X3 r.1 = false := by rw [hX3m, inR_iff.2 ⟨Nat.le_refl _, hlt2⟩]; simp
    have hh2 : mem X3 (r.2 - 1) = false := by rw [hX3m, inR_iff.2 (show r.1 ≤ r.2 - 1 ∧ r.2 - 1 < r.2 by omega)]; simp
    have hrf := HR.out
    unfold Fit at hrf
    have hw5 : IntKind.u64.wrap ((r.2 : Int) - (r.1 : Int)) = (d2 : Int) := by rw [IntKind.wrap_u64, hd2]; omega
    have hw6 : IntKind.u64.wrap ((r.2 : Int) - 1) = ((r.2 - 1 : Nat) : Int) := by rw [IntKind.wrap_u64]; omega
    obtain ⟨t, HT⟩ : ∃ t, Hid (r.2 - 1 = t) := ⟨_, Lib.hid rfl⟩
    rw [HT.out] at hw6 hh2
    have htf : t < 18446744073709551616 := by have := HT.out; omega
    have HH1 := Lib.hid (fun W (hW : Below w15.heap.size w15 W) => by
      have hs := (H15.out.1.keep hW).st
      have := Has_any (some ⟨p1, 0, none⟩) X3 r.1 W _ hs.setV hs.ltF hrf.1 hs.nf hs.fit
      rw [hh1] at this
      exact this)
    have HH2 := Lib.hid (fun W (hW : Below w15.heap.size w15 W) => by
      have hs := (H15.out.1.keep hW).st
      have := Has_any (some ⟨p1, 0, none⟩) X3 t W _ hs.setV hs.ltF htf hs.nf hs.fit
      rw [hh2] at this
      exact this)
    clear hemp hlt2 hd2 hX3m hh1 hh2 hrf htf
    have hNs : N < w15.heap.size := by have := H15.out.1.ltB; omega
    go_wp2_with fail
    refine (HAL.out w15).mono ?_
    rintro e w16 ⟨rfl, hb16⟩
    have k0 := (hb16.cell (p := ⟨N, 0, none⟩) hNs).trans c0
    have k1 := (hb16.cell (p := ⟨N, 1, none⟩) hNs).trans c1
    have hNs6 := Nat.lt_of_lt_of_le hNs hb16.size
    have HB16 := Lib.hid hb16
    clear hb16
    go_wp2_with fail
    refine (HH1.out w16 HB16.out).mono ?_
    rintro e w17 ⟨rfl, hb17⟩
    have l0 := (hb17.cell (p := ⟨N, 0, none⟩) hNs6).trans k0
    have l1 := (hb17.cell (p := ⟨N, 1, none⟩) hNs6).trans k1
    have HB17 := Lib.hid (HB16.out.trans (hb17.mono HB16.out.size))
    clear hb17
    go_wp2_with fail
    refine (HH2.out w17 HB17.out).mono ?_
    rintro e w18 ⟨rfl, hb18⟩
    have HB18 := Lib.hid (HB17.out.trans (hb18.mono HB17.out.size))
    clear hb18
    go_wp2_with fail
    go_ret
    exact ⟨rfl, HFIN.out _ HB18.out⟩
end Go.Proofs.Ytoadbkiklabceaa
