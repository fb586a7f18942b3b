/-
  Same of package layout, by its contracts. No claim of its own.
-/
import Derived.Test.YtdpaofedepnnbaaGreatLyB
import Derived.Test.YtdpaofedepnnbaaGreatMg
import Derived.Test.YtdpaofedepnnbaaGreatRw
import Derived.Deep.Cut
namespace Go.Proofs.YtdpaofedepnnbaaGreat
open Go.RowKit Go.Deep Go.Shelf
set_option linter.unusedVariables false
set_option linter.unusedSimpArgs false

set_option maxHeartbeats 2000000 in
theorem equalInts_any (w : World) (a b : Option Addr) (A B : List Int) (c d n m B0 : Nat) (hn : A.length = n) (hm : B.length = m) (ha : Ro w B0 a (i64s A)) (hb : Ro w B0 b (i64s B)) (hl : n ≤ 9223372036854775807) (hl2 : m ≤ 9223372036854775807) :
    Calls Tryz.prog 60 #[.slice a n c, .slice b m d] w fun e w' => e = .returned (.bool (decide (A = B))) ∧ Qt w w' := by
  have HN := Lib.hid hn
  have HM := Lib.hid hm
  have HA := Lib.hid ha
  have HB := Lib.hid hb
  clear ha hb hn hm
  go_enter Tryz.func60, Tryz.ntmps60
  by_cases hnm : n = m
  · subst hnm
    go_wp2_with fail
    go_loopw [13] (fun i wr => ∃ k : Nat, i = .int .i64 k ∧ k ≤ n ∧ Hid (∀ j, j < k → A.getD j 0 = B.getD j 0) ∧ Qt w wr) (fun i _ => n - (intOf i).toNat)
    case atStart => exact ⟨0, rfl, Nat.zero_le _, Lib.hid (by omega), Qt.refl _⟩
    case round =>
      obtain ⟨k, rfl, hk, HT, hq⟩ := hrel
      by_cases hlt : k < n
      · have hkA : k < A.length := by rw [HN.out]; exact hlt
        have hkB : k < B.length := by rw [HM.out]; exact hlt
        obtain ⟨g, off, rfl, hg, hcl⟩ := (HA.out.qt hq).i64 (by omega)
        obtain ⟨g', off', rfl, hg', hcl'⟩ := (HB.out.qt hq).i64 (by omega)
        have h1 := hcl k hkA
        have h4 := hcl' k hkB
        clear hcl hcl'
        obtain ⟨x, hx⟩ : ∃ x, A.getD k 0 = x := ⟨_, rfl⟩
        obtain ⟨y, hy⟩ : ∃ y, B.getD k 0 = y := ⟨_, rfl⟩
        rw [hx] at h1
        rw [hy] at h4
        have HX := Lib.hid hx
        have HY := Lib.hid hy
        have hk0 : (0 : Int) ≤ (k : Int) := by omega
        have hk1 : (k : Int) < (n : Int) := by omega
        have HQ := Lib.hid hq
        clear hq hx hy
        by_cases hxy : x = y
        · have hne : (x != y) = false := by rw [bne_eq_false_iff_eq]; exact hxy
          have HE := Lib.hid hxy
          clear hxy
          go_wp2_with fail
          go_region
          go_wp2_with fail
          go_roundw
          case rel =>
            refine ⟨k + 1, by go_num, by omega, Lib.hid fun j hj => ?_, by first | exact HQ.out | exact HQ.out.trans ⟨1, rfl⟩⟩
            by_cases e : j = k
            · subst e; rw [HX.out, HY.out]; exact HE.out
            · exact HT.out j (by omega)
          case measure => simp [intOf]; omega
        · have hne : (x != y) = true := by rw [bne_iff_ne]; exact hxy
          have HF : Hid (decide (A = B) = false) := Lib.hid (by
            simp only [decide_eq_false_iff_not]
            rintro rfl
            exact hxy (HX.out.symm.trans HY.out))
          clear hxy
          go_wp2_with fail
          go_region
          go_wp2_with fail
          go_ret
          exact ⟨by rw [HF.out]; rfl, by first | exact HQ.out | exact HQ.out.trans ⟨1, rfl⟩⟩
      · obtain rfl : k = n := by omega
        have HF : Hid (decide (A = B) = true) := Lib.hid (by
          simp only [decide_eq_true_eq]
          apply List.ext_getElem (by rw [HN.out, HM.out])
          intro i h1 h2
          have := HT.out i (by rw [HN.out] at h1; exact h1)
          simpa [List.getD, h1, h2] using this)
        go_wp2_with fail
        go_ret
        exact ⟨by rw [HF.out]; rfl, hq⟩
  · have hd0 : ((n : Int) != (m : Int)) = true := by rw [bne_iff_ne]; omega
    have HF := Lib.hid (show decide (A = B) = false by simp only [decide_eq_false_iff_not]; rintro rfl; exact hnm (HN.out.symm.trans HM.out))
    go_wp2_with fail
    go_ret
    exact ⟨by rw [HF.out]; rfl, Qt.refl _⟩

theorem chx_ext {A B : List ChT} (h : A.length = B.length) (he : ∀ j, j < A.length → (ct A j).u = (ct B j).u) : chx A = chx B := by
  apply List.ext_getElem (by simpa using h)
  intro i h1 h2
  have h1' : i < A.length := by simpa using h1
  have h2' : i < B.length := by simpa using h2
  have := he i h1'
  simpa [chx, ct, List.getD, h1', h2'] using this
theorem sgx_ext {A B : List SgT} (h : A.length = B.length) (he : ∀ j, j < A.length → (st A j).x = (st B j).x) : sgx A = sgx B := by
  apply List.ext_getElem (by simpa using h)
  intro i h1 h2
  have h1' : i < A.length := by simpa using h1
  have h2' : i < B.length := by simpa using h2
  have := he i h1'
  simpa [sgx, st, List.getD, h1', h2'] using this

set_option maxHeartbeats 2000000 in
theorem eqChs_any (A B : List ChT) (a b : Option Addr) (c d B0 : Nat) (w : World) (ha : Ro w B0 a (chv A)) (hb : Ro w B0 b (chv B)) (hia : ChIn w B0 A) (hib : ChIn w B0 B) (hfa : ChFit A) (hfb : ChFit B) (hB : B0 ≤ w.heap.size) :
    Calls Tryz.prog 121 #[.slice a A.length c, .slice b B.length d, .func (.func 60) #[] #[]] w fun e w' => e = .returned (.bool (decide (chx A = chx B))) ∧ Below w.heap.size w w' := by
  have eg : ∀ args w, (callFunc 60 args).run Tryz.prog w = .ok (.enter 60 args) w := enters_of Tryz.func60 (by kernel_rfl) rfl
  have HA := Lib.hid (And.intro ha hia)
  have HBb := Lib.hid (And.intro hb hib)
  have HFA := Lib.hid hfa.2
  have HFB := Lib.hid hfb.2
  have hl1 := hfa.1
  have HS := Lib.hid hB
  obtain ⟨n, hn⟩ : ∃ n, A.length = n := ⟨_, rfl⟩
  obtain ⟨m, hm⟩ : ∃ m, B.length = m := ⟨_, rfl⟩
  have hl2 := hfb.1
  rw [hn] at hl1 ⊢
  rw [hm] at hl2 ⊢
  have HN := Lib.hid hn
  have HM := Lib.hid hm
  obtain ⟨t, HT⟩ : ∃ t, Hid (decide (chx A = chx B) = t) := ⟨_, Lib.hid rfl⟩
  rw [HT.out]
  clear ha hb hia hib hfa hfb hB hn hm
  go_enter Tryz.func121, Tryz.ntmps121
  by_cases hnm : n = m
  · subst hnm
    go_wp2_with fail
    go_loopw [17] (fun i wr => ∃ k : Nat, i = .int .i64 k ∧ k ≤ n ∧ Hid (∀ j, j < k → (ct A j).u = (ct B j).u) ∧ Hid (Below w.heap.size w wr)) (fun i _ => n - (intOf i).toNat)
    case atStart => exact ⟨0, rfl, Nat.zero_le _, Lib.hid (by omega), Lib.hid (Below.refl _ _)⟩
    case round =>
      obtain ⟨k, rfl, hk, HE, HBk⟩ := hrel
      rename World => w6
      by_cases hlt : k < n
      · have hkA : k < A.length := by rw [HN.out]; exact hlt
        have hkB : k < B.length := by rw [HM.out]; exact hlt
        obtain ⟨g, off, rfl, hg, hcl⟩ := (HA.out.1.below HBk.out HS.out).ch (show 0 < A.length by omega)
        obtain ⟨g', off', rfl, hg', hcl'⟩ := (HBb.out.1.below HBk.out HS.out).ch (show 0 < B.length by omega)
        have h1 := hcl k hkA
        have h4 := hcl' k hkB
        have HCA := Lib.hid ((HA.out.2 _ (ct_mem hkA)).below HBk.out HS.out)
        have HCB := Lib.hid ((HBb.out.2 _ (ct_mem hkB)).below HBk.out HS.out)
        have HQA := Lib.hid (HFA.out _ (ct_mem hkA))
        have HQB := Lib.hid (HFB.out _ (ct_mem hkB))
        clear hcl hcl'
        obtain ⟨x, hx⟩ : ∃ x, ct A k = x := ⟨_, rfl⟩
        obtain ⟨y, hy⟩ : ∃ y, ct B k = y := ⟨_, rfl⟩
        rw [hx] at h1 HCA HQA
        rw [hy] at h4 HCB HQB
        have HX := Lib.hid hx
        have HY := Lib.hid hy
        obtain ⟨xa, xc, xu⟩ := x
        obtain ⟨ya, yc, yu⟩ := y
        simp only at h1 h4 HCA HCB HQA HQB
        have hk0 : (0 : Int) ≤ (k : Int) := by omega
        have hk1 : (k : Int) < (n : Int) := by omega
        have HEQ : Hid (∀ W, Qt w6 W → Calls Tryz.prog 60 #[.slice xa xu.length xc, .slice ya yu.length yc] W fun e w' => e = .returned (.bool (decide (xu = yu))) ∧ Qt W w') := Lib.hid fun W hW => equalInts_any W xa ya xu yu xc yc _ _ B0 rfl rfl (HCA.out.qt hW) (HCB.out.qt hW) HQA.out HQB.out
        obtain ⟨r, hr⟩ : ∃ r, decide (xu = yu) = r := ⟨_, rfl⟩
        rw [hr] at HEQ
        have HR := Lib.hid hr
        clear hx hy hr
        generalize xu.length = xn at *
        generalize yu.length = yn at *
        go_wp2_with fail
        refine (HEQ.out _ (Qt.refl _)).mono ?_
        rintro e w7 ⟨rfl, hq⟩
        have HB7 : Hid (Below w.heap.size w w7) := Lib.hid (hq.below HBk.out)
        clear hq
        cases r with
        | true =>
          go_wp2_with fail
          go_roundw
          case rel =>
            refine ⟨k + 1, by go_num, by omega, Lib.hid fun j hj => ?_, HB7⟩
            by_cases e : j = k
            · subst e; rw [HX.out, HY.out]; simpa using HR.out
            · exact HE.out j (by omega)
          case measure => simp [intOf]; omega
        | false =>
          obtain rfl : t = false := by
            rw [← HT.out]
            simp only [decide_eq_false_iff_not]
            intro h
            have := congrArg (fun l => cx l k) h
            simp only [cx_chx, HX.out, HY.out] at this
            have h2 := HR.out
            simp only [decide_eq_false_iff_not] at h2
            exact h2 this
          go_wp2_with fail
          go_ret
          exact ⟨rfl, HB7.out⟩
      · obtain rfl : k = n := by omega
        obtain rfl : t = true := by
          rw [← HT.out]
          simp only [decide_eq_true_eq]
          exact chx_ext (by rw [HN.out, HM.out]) (by rw [HN.out]; exact HE.out)
        go_wp2_with fail
        go_ret
        exact ⟨rfl, HBk.out⟩
  · have hd0 : ((n : Int) != (m : Int)) = true := by rw [bne_iff_ne]; omega
    obtain rfl : t = false := by
      rw [← HT.out]
      simp only [decide_eq_false_iff_not]
      intro h
      have := congrArg List.length h
      simp only [chx_length, HN.out, HM.out] at this
      exact hnm this
    go_wp2_with fail
    go_ret
    exact ⟨rfl, Below.refl _ _⟩
set_option maxHeartbeats 2000000 in
theorem sameSeg_any (A B : SgT) (B0 : Nat) (w : World) (ha : Ro w B0 A.a (chv A.ch)) (hb : Ro w B0 B.a (chv B.ch)) (hia : ChIn w B0 A.ch) (hib : ChIn w B0 B.ch) (hfa : ChFit A.ch) (hfb : ChFit B.ch) (hB : B0 ≤ w.heap.size) :
    Calls Tryz.prog 101 #[A.val, B.val] w fun e w' => e = .returned (.bool (decide (A.x = B.x))) ∧ Below w.heap.size w w' := by
  obtain ⟨f, a, c, L⟩ := A
  obtain ⟨f', a', c', L'⟩ := B
  simp only [SgT.val] at *
  obtain ⟨W, HWW⟩ : ∃ W, Hid ((w.alloc (.cells #[.int .u64 (f : Int), .slice a L.length c] 102)).alloc (.cells #[.int .u64 (f' : Int), .slice a' L'.length c'] 102) = W) := ⟨_, Lib.hid rfl⟩
  have hWc : Chg [] w W := by rw [← HWW.out]; exact ((Chg.refl [] w).alloc _).alloc _
  have hWb : Below w.heap.size w W := hWc.low
  have o1 : Own W w.heap.size 102 [.int .u64 (f : Int), .slice a L.length c] := by rw [← HWW.out]; exact (Own.new w _ _).alloc _
  have o2 : Own W (w.heap.size + 1) 102 [.int .u64 (f' : Int), .slice a' L'.length c'] := by
    rw [← HWW.out]
    have := Own.new (w.alloc (.cells #[.int .u64 (f : Int), .slice a L.length c] 102)) 102 [.int .u64 (f' : Int), .slice a' L'.length c']
    simpa using this
  have HE := Lib.hid (eqChs_any L L' a a' c c' B0 W (ha.below hWb hB) (hb.below hWb hB) (hia.below hWb hB) (hib.below hWb hB) hfa hfb (Nat.le_trans hB hWb.size))
  obtain ⟨r, hr⟩ : ∃ r, decide (chx L = chx L') = r := ⟨_, rfl⟩
  rw [hr] at HE
  have HX : Hid (decide (SgT.x ⟨f, a, c, L⟩ = SgT.x ⟨f', a', c', L'⟩) = (decide (f = f') && r)) := Lib.hid (by
    rw [← hr]
    simp only [SgT.x, Prod.mk.injEq, Bool.decide_and])
  rw [HX.out]
  have HB := Lib.hid hWb
  have c0 := o1.cell 0
  have c1 := o1.cell 1
  have d0 := o2.cell 0
  have d1 := o2.cell 1
  simp at c0 c1 d0 d1
  generalize L.length = n at *
  generalize L'.length = n' at *
  clear hWc hWb o1 o2 hr ha hb hia hib hfa hfb hB
  by_cases e : f = f'
  · subst e
    have e0 : decide (f = f) = true := by simp
    rw [e0, Bool.true_and]
    clear e0
    go_enter Tryz.func101, Tryz.ntmps101
    go_upto_region 1 with fail
    rw [HWW.out]
    go_wp2_with fail
    refine HE.out.mono ?_
    rintro e w1 ⟨rfl, hb⟩
    have HB1 := Lib.hid (HB.out.trans (hb.mono HB.out.size))
    clear hb
    go_wp2_with fail
    go_ret
    exact ⟨rfl, HB1.out⟩
  · have e0 : decide (f = f') = false := by simpa using e
    have e1 : ((f : Int) == (f' : Int)) = false := by rw [beq_eq_false_iff_ne]; omega
    rw [e0, Bool.false_and]
    clear e0 e
    go_enter Tryz.func101, Tryz.ntmps101
    go_upto_region 1 with fail
    rw [HWW.out]
    go_wp2_with fail
    go_ret
    exact ⟨rfl, HB.out⟩

set_option maxHeartbeats 2000000 in
theorem eqSgs_any (A B : List SgT) (a b : Option Addr) (c d B0 : Nat) (w : World) (ha : Ro w B0 a (sgv A)) (hb : Ro w B0 b (sgv B)) (hia : SgIn w B0 A) (hib : SgIn w B0 B) (hfa : SgFit A) (hfb : SgFit B) (hB : B0 ≤ w.heap.size) :
    Calls Tryz.prog 100 #[.slice a A.length c, .slice b B.length d, .func (.func 101) #[] #[]] w fun e w' => e = .returned (.bool (decide (sgx A = sgx B))) ∧ Below w.heap.size w w' := by
  have eg : ∀ args w, (callFunc 101 args).run Tryz.prog w = .ok (.enter 101 args) w := enters_of Tryz.func101 (by kernel_rfl) rfl
  have HA := Lib.hid (And.intro ha hia)
  have HBb := Lib.hid (And.intro hb hib)
  have HFA := Lib.hid hfa.2
  have HFB := Lib.hid hfb.2
  have hl1 := hfa.1
  have HS := Lib.hid hB
  obtain ⟨n, hn⟩ : ∃ n, A.length = n := ⟨_, rfl⟩
  obtain ⟨m, hm⟩ : ∃ m, B.length = m := ⟨_, rfl⟩
  have hl2 := hfb.1
  rw [hn] at hl1 ⊢
  rw [hm] at hl2 ⊢
  have HN := Lib.hid hn
  have HM := Lib.hid hm
  obtain ⟨t, HT⟩ : ∃ t, Hid (decide (sgx A = sgx B) = t) := ⟨_, Lib.hid rfl⟩
  rw [HT.out]
  clear ha hb hia hib hfa hfb hB hn hm
  go_enter Tryz.func100, Tryz.ntmps100
  by_cases hnm : n = m
  · subst hnm
    go_wp2_with fail
    go_loopw [17] (fun i wr => ∃ k : Nat, i = .int .i64 k ∧ k ≤ n ∧ Hid (∀ j, j < k → (st A j).x = (st B j).x) ∧ Hid (Below w.heap.size w wr)) (fun i _ => n - (intOf i).toNat)
    case atStart => exact ⟨0, rfl, Nat.zero_le _, Lib.hid (by omega), Lib.hid (Below.refl _ _)⟩
    case round =>
      obtain ⟨k, rfl, hk, HE, HBk⟩ := hrel
      rename World => w6
      by_cases hlt : k < n
      · have hkA : k < A.length := by rw [HN.out]; exact hlt
        have hkB : k < B.length := by rw [HM.out]; exact hlt
        obtain ⟨g, off, rfl, hg, hcl⟩ := (HA.out.1.below HBk.out HS.out).sg (show 0 < A.length by omega)
        obtain ⟨g', off', rfl, hg', hcl'⟩ := (HBb.out.1.below HBk.out HS.out).sg (show 0 < B.length by omega)
        obtain ⟨h1, h2⟩ := hcl k hkA
        obtain ⟨h4, h5⟩ := hcl' k hkB
        have HCA := Lib.hid (HA.out.2 _ (st_mem hkA))
        have HCB := Lib.hid (HBb.out.2 _ (st_mem hkB))
        have HQA := Lib.hid (HFA.out _ (st_mem hkA))
        have HQB := Lib.hid (HFB.out _ (st_mem hkB))
        clear hcl hcl'
        obtain ⟨x, hx⟩ : ∃ x, st A k = x := ⟨_, rfl⟩
        obtain ⟨y, hy⟩ : ∃ y, st B k = y := ⟨_, rfl⟩
        rw [hx] at h1 h2 HCA HQA
        rw [hy] at h4 h5 HCB HQB
        have HX := Lib.hid hx
        have HY := Lib.hid hy
        have HEQ : Hid (∀ W, Below w.heap.size w W → Calls Tryz.prog 101 #[x.val, y.val] W fun e w' => e = .returned (.bool (decide (x.x = y.x))) ∧ Below W.heap.size W w') := Lib.hid fun W hW => sameSeg_any x y B0 W (HCA.out.1.below hW HS.out) (HCB.out.1.below hW HS.out) (HCA.out.2.below hW HS.out) (HCB.out.2.below hW HS.out) HQA.out HQB.out (Nat.le_trans HS.out hW.size)
        obtain ⟨r, hr⟩ : ∃ r, decide (x.x = y.x) = r := ⟨_, rfl⟩
        rw [hr] at HEQ
        have HR := Lib.hid hr
        obtain ⟨xf, xa, xc, xu⟩ := x
        obtain ⟨yf, ya, yc, yu⟩ := y
        simp only [SgT.val] at h1 h2 h4 h5 HEQ
        have hk0 : (0 : Int) ≤ (k : Int) := by omega
        have hk1 : (k : Int) < (n : Int) := by omega
        clear hx hy hr
        generalize xu.length = xn at *
        generalize yu.length = yn at *
        have HK2 : Hid (w.heap.size ≤ w6.heap.size) := Lib.hid HBk.out.size
        have hgz := hg
        have hgz' : g' < w6.heap.size := by have := HS.out; have := HK2.out; omega
        have hgz2 : g < w6.heap.size := by have := HS.out; have := HK2.out; omega
        have h4' : (w6.alloc (.cells #[.int .u64 (xf : Int), .slice xa xn xc] 102)).cell? ⟨g', off' + k * 2, none⟩ = some (.int .u64 (yf : Int)) := (((Chg.refl [] w6).alloc _).cell h4 (by simp))
        have h5' : (w6.alloc (.cells #[.int .u64 (xf : Int), .slice xa xn xc] 102)).cell? ⟨g', off' + k * 2 + 1, none⟩ = some (.slice ya yn yc) := (((Chg.refl [] w6).alloc _).cell h5 (by simp))
        go_wp2_with fail
        refine (HEQ.out _ ((HBk.out.alloc HBk.out.size _).alloc (by have := HK2.out; simp; omega) _)).mono ?_
        rintro e w7 ⟨rfl, hq⟩
        have HB7 : Hid (Below w.heap.size w w7) := Lib.hid (((HBk.out.alloc HBk.out.size _).alloc (by have := HK2.out; simp; omega) _).trans (hq.mono (by have := HK2.out; simp; omega)))
        clear hq h4' h5'
        cases r with
        | true =>
          go_wp2_with fail
          go_roundw
          case rel =>
            refine ⟨k + 1, by go_num, by omega, Lib.hid fun j hj => ?_, HB7⟩
            by_cases e : j = k
            · subst e; rw [HX.out, HY.out]; simpa using HR.out
            · exact HE.out j (by omega)
          case measure => simp [intOf]; omega
        | false =>
          obtain rfl : t = false := by
            rw [← HT.out]
            simp only [decide_eq_false_iff_not]
            intro h
            have := congrArg (fun l => sx l k) h
            simp only [sx_sgx, HX.out, HY.out] at this
            have h2 := HR.out
            simp only [decide_eq_false_iff_not] at h2
            exact h2 this
          go_wp2_with fail
          go_ret
          exact ⟨rfl, HB7.out⟩
      · obtain rfl : k = n := by omega
        obtain rfl : t = true := by
          rw [← HT.out]
          simp only [decide_eq_true_eq]
          exact sgx_ext (by rw [HN.out, HM.out]) (by rw [HN.out]; exact HE.out)
        go_wp2_with fail
        go_ret
        exact ⟨rfl, HBk.out⟩
  · have hd0 : ((n : Int) != (m : Int)) = true := by rw [bne_iff_ne]; omega
    obtain rfl : t = false := by
      rw [← HT.out]
      simp only [decide_eq_false_iff_not]
      intro h
      have := congrArg List.length h
      simp only [sgx_length, HN.out, HM.out] at this
      exact hnm this
    go_wp2_with fail
    go_ret
    exact ⟨rfl, Below.refl _ _⟩

set_option maxHeartbeats 2000000 in
theorem lsame_any (A B : LyT) (B0 : Nat) (w : World) (ha : LyIn w B0 A) (hb : LyIn w B0 B) (hfa : SgFit A.sg) (hfb : SgFit B.sg) (hB : B0 ≤ w.heap.size) :
    Calls Tryz.prog 63 #[A.val, B.val] w fun e w' => e = .returned (.bool (lalike A.x B.x)) ∧ Below w.heap.size w w' := by
  obtain ⟨f, a, c, L, q⟩ := A
  obtain ⟨f', a', c', L', q'⟩ := B
  simp only [LyT.val] at *
  obtain ⟨W, HWW⟩ : ∃ W, Hid ((w.alloc (.cells #[.int .u64 (f : Int), .slice a L.length c, .int .i64 q] 38)).alloc (.cells #[.int .u64 (f' : Int), .slice a' L'.length c', .int .i64 q'] 38) = W) := ⟨_, Lib.hid rfl⟩
  have hWc : Chg [] w W := by rw [← HWW.out]; exact ((Chg.refl [] w).alloc _).alloc _
  have hWb : Below w.heap.size w W := hWc.low
  have o1 : Own W w.heap.size 38 [.int .u64 (f : Int), .slice a L.length c, .int .i64 q] := by rw [← HWW.out]; exact (Own.new w _ _).alloc _
  have o2 : Own W (w.heap.size + 1) 38 [.int .u64 (f' : Int), .slice a' L'.length c', .int .i64 q'] := by
    rw [← HWW.out]
    have := Own.new (w.alloc (.cells #[.int .u64 (f : Int), .slice a L.length c, .int .i64 q] 38)) 38 [.int .u64 (f' : Int), .slice a' L'.length c', .int .i64 q']
    simpa using this
  have HE := Lib.hid (eqSgs_any L L' a a' c c' B0 W (ha.1.below hWb hB) (hb.1.below hWb hB) (ha.2.below hWb hB) (hb.2.below hWb hB) hfa hfb (Nat.le_trans hB hWb.size))
  obtain ⟨r, hr⟩ : ∃ r, decide (sgx L = sgx L') = r := ⟨_, rfl⟩
  rw [hr] at HE
  have HX : Hid (lalike (LyT.x ⟨f, a, c, L, q⟩) (LyT.x ⟨f', a', c', L', q'⟩) = (decide (f = f') && (decide (q = q') && r))) := Lib.hid (by
    rw [← hr]
    rfl)
  rw [HX.out]
  have HB := Lib.hid hWb
  have c0 := o1.cell 0
  have c1 := o1.cell 1
  have c2 := o1.cell 2
  have d0 := o2.cell 0
  have d1 := o2.cell 1
  have d2 := o2.cell 2
  simp at c0 c1 c2 d0 d1 d2
  generalize L.length = n at *
  generalize L'.length = n' at *
  clear hWc hWb o1 o2 hr ha hb hfa hfb hB
  by_cases e : f = f'
  · subst e
    have e0 : decide (f = f) = true := by simp
    rw [e0, Bool.true_and]
    clear e0
    by_cases e : q = q'
    · subst e
      have e0 : decide (q = q) = true := by simp
      rw [e0, Bool.true_and]
      clear e0
      go_enter Tryz.func63, Tryz.ntmps63
      go_upto_region 1 with fail
      rw [HWW.out]
      go_wp2_with fail
      refine HE.out.mono ?_
      rintro e w1 ⟨rfl, hb⟩
      have HB1 := Lib.hid (HB.out.trans (hb.mono HB.out.size))
      clear hb
      go_wp2_with fail
      go_ret
      exact ⟨rfl, HB1.out⟩
    · have e0 : decide (q = q') = false := by simpa using e
      have e1 : (q == q') = false := by rw [beq_eq_false_iff_ne]; exact e
      rw [e0, Bool.false_and]
      clear e0 e
      go_enter Tryz.func63, Tryz.ntmps63
      go_upto_region 1 with fail
      rw [HWW.out]
      go_wp2_with fail
      go_ret
      exact ⟨rfl, HB.out⟩
  · have e0 : decide (f = f') = false := by simpa using e
    have e1 : ((f : Int) == (f' : Int)) = false := by rw [beq_eq_false_iff_ne]; omega
    rw [e0, Bool.false_and]
    clear e0 e
    go_enter Tryz.func63, Tryz.ntmps63
    go_upto_region 1 with fail
    rw [HWW.out]
    go_wp2_with fail
    go_ret
    exact ⟨rfl, HB.out⟩
end Go.Proofs.YtdpaofedepnnbaaGreat
