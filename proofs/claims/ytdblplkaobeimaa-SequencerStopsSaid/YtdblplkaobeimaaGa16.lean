/-
  The statement SequencerStops: the walk of its Go text, by the contracts of what it calls.
-/
import Derived.Test.YtdblplkaobeimaaGa15
namespace Go.Proofs.Ytdblplkaobeimaa
open Go.RowKit Go.Deep Go.Shelf
set_option linter.unusedVariables false
set_option linter.unusedSimpArgs false

set_option maxHeartbeats 16000000 in
set_option maxRecDepth 100000 in
theorem sequencerStops_any (w0 : World) {A : MgT} (hA : MgOk w0 A) {ab : Option Addr} {nb cb : Nat} {zs : List Int} (hrow : IsRow .u64 w0 ab nb cb zs) :
    Calls Try.prog 5 #[.agg A.cs.toArray, .slice ab nb cb] w0 fun z w' => z = .returned (.bool true) ∧ Below w0.heap.size w0 w' := by
  obtain ⟨E, hEl, -, -, hE, hEb⟩ := hrow.u64s
  have hnl := hrow.len_le
  subst hEl
  obtain ⟨W, HWW⟩ : ∃ W, Hid (w0.alloc (.cells A.cs.toArray 40) = W) := ⟨_, Lib.hid rfl⟩
  have hWb : Below w0.heap.size w0 W := by rw [← HWW.out]; exact (Below.refl _ _).alloc (Nat.le_refl _) _
  have HO := Lib.hid (show Own W w0.heap.size 40 A.cs by rw [← HWW.out]; exact Own.new w0 _ _)
  have HBW := Lib.hid hWb
  have HAL := Lib.hid alive15_any
  have HAK := Lib.hid hA
  have HR := Lib.hid (fun (W' : World) (hb : Below w0.heap.size w0 W') => mright_any A w0.heap.size W' (hA.inn.below hb (Nat.le_refl _)) hb.size hA.fit)
  have HE := Lib.hid hE
  have HEB := Lib.hid hEb
  have HN := Lib.hid (SqNew_any 0 W (by omega) (by omega))
  obtain ⟨n, hn⟩ : ∃ n, E.length = n := ⟨_, rfl⟩
  have HNN := Lib.hid hn
  rw [hn] at hnl ⊢
  obtain ⟨r, hr⟩ : ∃ r, mright A.x = r := ⟨_, rfl⟩
  rw [hr] at HR
  have HRX := Lib.hid hr
  simp only [MgT.val] at HR
  clear hWb hA hE hEb hrow hn hr
  go_enter Try.func5, Try.ntmps5
  go_upto_region 1 with fail
  rw [HWW.out]
  go_wp2_with fail
  refine HN.out.mono ?_
  rintro z w1 ⟨ps, rfl, hp, hs, hb⟩
  have HP1 := Lib.hid hs
  have HPG := Lib.hid hp
  have HB1 := Lib.hid (HBW.out.trans (hb.mono HBW.out.size))
  have HO1 := Lib.hid (HO.out.below hb HO.out.lt)
  have HPW : Hid (w0.heap.size < ps) := Lib.hid (Nat.lt_of_lt_of_le HO.out.lt hp)
  clear hs hb hp
  go_wp2_with (refine wpList_loadMgQ (.tmp 2) rfl w0.heap.size rfl A HO1.out rfl ?_)
  refine (HR.out w1 HB1.out).mono ?_
  rintro z w2 ⟨rfl, hb⟩
  have HB2 := Lib.hid (HB1.out.trans (hb.mono HB1.out.size))
  have HO2 := Lib.hid (HO1.out.below hb HO1.out.lt)
  have HP2 := Lib.hid (HP1.out.below hb HP1.out.lt)
  clear hb
  have c0 : w2.cell? ⟨w0.heap.size, 0, none⟩ = some (.int .i64 A.k) := HO2.out.cell 0
  have c7 : w2.cell? ⟨w0.heap.size, 7, none⟩ = some (.int .u64 (A.ep : Int)) := HO2.out.cell 7
  have hz := HO2.out.lt
  cases r with
  | false =>
    go_wp2_with fail
    refine (HAL.out w2).mono ?_
    rintro z w3 ⟨rfl, hb⟩
    have HB3 := Lib.hid (HB2.out.trans (hb.mono HB2.out.size))
    clear hb
    go_wp2_with fail
    go_ret
    exact ⟨rfl, HB3.out⟩
  | true =>
  by_cases hk : A.k = 10
  rotate_left
  · have hk1 : (A.k != 10) = true := by rw [bne_iff_ne]; exact hk
    clear hk
    go_wp2_with fail
    refine (HAL.out w2).mono ?_
    rintro z w3 ⟨rfl, hb⟩
    have HB3 := Lib.hid (HB2.out.trans (hb.mono HB2.out.size))
    clear hb
    go_wp2_with fail
    go_ret
    exact ⟨rfl, HB3.out⟩
  have hk1 : (A.k != 10) = false := by rw [bne_eq_false_iff_eq]; exact hk
  have HK := Lib.hid hk
  by_cases he : A.ep = 0
  · have he1 : ((A.ep : Int) == 0) = true := by rw [beq_iff_eq]; omega
    clear hk he
    go_wp2_with fail
    refine (HAL.out w2).mono ?_
    rintro z w3 ⟨rfl, hb⟩
    have HB3 := Lib.hid (HB2.out.trans (hb.mono HB2.out.size))
    clear hb
    go_wp2_with fail
    go_ret
    exact ⟨rfl, HB3.out⟩
  have he1 : ((A.ep : Int) == 0) = false := by rw [beq_eq_false_iff_ne]; omega
  have HEP := Lib.hid he
  have HM := Lib.hid (mright_all HRX.out)
  have HPF : Hid (plOk A.fr = true) := Lib.hid (by
    have h := HRX.out
    unfold mright at h
    simp only [Bool.and_eq_true] at h
    exact h.2.1)
  clear hk he
  go_upto_region 4 with fail
  clear c0 c7 hk1 he1
  have c3 : w2.cell? ⟨w0.heap.size, 3, none⟩ = some (.int .i64 A.to.1) := HO2.out.cell 3
  have c4 : w2.cell? ⟨w0.heap.size, 4, none⟩ = some (.int .i64 A.to.2) := HO2.out.cell 4
  have f3 := HO2.out.frozen 3
  have f4 := HO2.out.frozen 4
  go_upto_region 5 with fail
  obtain ⟨w3, hw3⟩ : ∃ w3, (w2.setCell ⟨w0.heap.size, 3, none⟩ (.int .i64 2)).setCell ⟨w0.heap.size, 4, none⟩ (.int .i64 0) = w3 := ⟨_, rfl⟩
  have HOb_3 : Hid (Own w3 w0.heap.size 40 (toQ A).cs) := Lib.hid (by rw [← hw3]; exact (HO2.out.set 3 _).set 4 _)
  have HQs_3 : Hid (Sqn w3 ps (newS 0)) := Lib.hid (by rw [← hw3]; exact Own.far (Own.far HP2.out (by have := HPW.out; show ps ≠ w0.heap.size; omega) _) (by have := HPW.out; show ps ≠ w0.heap.size; omega) _)
  have HB3 : Hid (Below w0.heap.size w0 w3) := Lib.hid (by rw [← hw3]; exact (HB2.out.setCell (Nat.le_refl _) _).setCell (Nat.le_refl _) _)
  rw [hw3]
  clear hw3 c3 c4 f3 f4 hz
  obtain ⟨gb, hgb⟩ : ∃ g, w0.heap.size = g := ⟨_, rfl⟩
  have HC_3 : Hid (Chg [ps] w3 w3) := Lib.hid (Chg.refl _ _)
  have HNbs : Hid (w0.heap.size ∉ [ps]) := Lib.hid (by have := HPW.out; simp only [List.mem_singleton]; omega)
  have HIN := Lib.hid (fun (V : World) (hc : Chg [ps] w3 V) => (show Below w0.heap.size w0 V from HB3.out.trans (hc.below HB3.out.size (by have := HPW.out; simp only [List.mem_singleton, forall_eq]; omega))))
  have HSF := Lib.hid (fun (V : World) (hc : Chg [ps] w3 V) (h : Sqn V ps (newS 0)) => Serve_first ps A V h HRX.out HK.out HEP.out ((HAK.out.inn.below (HIN.out V hc) (Nat.le_refl _)).mono (HIN.out V hc).size) HAK.out.fit ((HAK.out.inn.st.below (HIN.out V hc) (Nat.le_refl _)).apart (HIN.out V hc).size (by have := HPW.out; simp only [List.mem_singleton, forall_eq]; omega)))
  have HSG := Lib.hid (fun (V : World) (hc : Chg [ps] w3 V) (h : Sqn V ps (fstS A)) => Serve_again ps A V h HRX.out HK.out ((HAK.out.inn.below (HIN.out V hc) (Nat.le_refl _)).mono (HIN.out V hc).size) HAK.out.fit ((HAK.out.inn.st.below (HIN.out V hc) (Nat.le_refl _)).apart (HIN.out V hc).size (by have := HPW.out; simp only [List.mem_singleton, forall_eq]; omega)))
  have HSE := Lib.hid (fun (V : World) (h : Sqn V ps (newS 0)) => Serve_late (newS 0) (by simp [newS]) (by simp [newS]) (by simp [newS]) ps 9 (.inl rfl) A.fr HPF.out A.ep HM.out.ep HEP.out V h)
  have HSL := Lib.hid (fun (V : World) (h : Sqn V ps (fstS A)) (k : Int) (hk : k = 9 ∨ k = 7) (x : Nat) (hx : x ≤ 1048576) (hne : x ≠ A.ep) => Serve_late (fstS A) (by simp [fstS]) HM.out.ad (by simp [fstS]) ps k hk A.fr HPF.out x hx hne V h)
  have HTL : Hid (∀ (V : World) (h : Sqn V ps (fstS A)), Calls Try.prog 12 #[.pointer (some ⟨ps, 0, none⟩)] V fun e w' => e = .returned (.int .u64 (A.ad : Int)) ∧ w' = V) := Lib.hid (fun V h => Tail_same (fstS A) ps V h)
  have HEC : Hid (∀ (V : World) (h : Sqn V ps (fstS A)), Calls Try.prog 10 #[.pointer (some ⟨ps, 0, none⟩)] V fun e w' => e = .returned (.int .u64 (A.ep : Int)) ∧ w' = V) := Lib.hid (fun V h => Epoch_same (fstS A) ps V h)
  have x1 : w3.cell? ⟨w0.heap.size, 1, none⟩ = some (.int .i64 A.fr.1) := HOb_3.out.cell 1
  have x2 : w3.cell? ⟨w0.heap.size, 2, none⟩ = some (.int .i64 A.fr.2) := HOb_3.out.cell 2
  have x3 : w3.cell? ⟨w0.heap.size, 3, none⟩ = some (.int .i64 2) := HOb_3.out.cell 3
  have x4 : w3.cell? ⟨w0.heap.size, 4, none⟩ = some (.int .i64 0) := HOb_3.out.cell 4
  have x7 : w3.cell? ⟨w0.heap.size, 7, none⟩ = some (.int .u64 (A.ep : Int)) := HOb_3.out.cell 7
  have hz := HOb_3.out.lt
  clear hgb
  obtain ⟨bl, hbl⟩ : ∃ bl, before ⟨0, [], A.bk⟩ A.ad = bl := ⟨_, rfl⟩
  rw [hbl] at HSF
  clear hbl
  go_wp2_with fail
  refine (HSE.out w3 HQs_3.out).mono ?_
  rintro e w4 ⟨rfl, hs, hc⟩
  have HOb_4 := Lib.hid (HOb_3.out.chg hc HNbs.out)
  have HC_4 := Lib.hid (HC_3.out.trans (hc.mono (by simp)))
  have HQs_4 := Lib.hid hs
  clear hs hc
  clear x1 x2 x3 x4 x7 hz
  go_wp2_with (refine wpList_storeMg rfl (.tmp 7) (.tmp 61) rfl w4.heap.size rfl (refT (newS 0) (tkM 9 A.fr 0 A.ep none [] 0)) rfl zmT.cs (zm_new w4) rfl ?_)
  intro w5 ho hc
  have hc2 : Chg [] w4 w5 := ((Chg.refl [] w4).alloc _).then hc (fun x hx => by simp only [List.mem_singleton] at hx; subst hx; exact .inr (Nat.le_refl _))
  obtain ⟨ge, hg⟩ : ∃ g, w4.heap.size = g := ⟨_, rfl⟩
  have HNes : Hid (ge ∉ [ps]) := Lib.hid (by have h1 := HQs_4.out.lt; simp only [List.mem_singleton]; omega)
  rw [hg] at ho ⊢
  have HOe_5 := Lib.hid ho
  have HOb_5 := Lib.hid (HOb_4.out.chg hc2 (by simp))
  have HQs_5 := Lib.hid (HQs_4.out.chg hc2 (by simp))
  have HC_5 := Lib.hid (HC_4.out.trans (hc2.mono (by simp)))
  clear ho hc hc2 hg
  cases bl with
  | false =>
    simp only [Bool.false_eq_true, if_false] at HSF
    go_wp2_with (refine wpList_loadMg rfl (.tmp 2) rfl w0.heap.size rfl (toQ A) HOb_5.out ?_)
    refine (HSF.out w5 HC_5.out HQs_5.out).mono ?_
    rintro e w6 ⟨rfl, hs, hc⟩
    have HOb_6 := Lib.hid (HOb_5.out.chg hc HNbs.out)
    have HOe_6 := Lib.hid (HOe_5.out.chg hc HNes.out)
    have HC_6 := Lib.hid (HC_5.out.trans (hc.mono (by simp)))
    have HQs_6 := Lib.hid hs
    clear hs hc
    go_wp2_with (refine wpList_storeMg rfl (.tmp 9) (.tmp 67) rfl w6.heap.size rfl (ansT (toQ A) 151) rfl zmT.cs (zm_new w6) rfl ?_)
    intro w7 ho hc
    have hc2 : Chg [] w6 w7 := ((Chg.refl [] w6).alloc _).then hc (fun x hx => by simp only [List.mem_singleton] at hx; subst hx; exact .inr (Nat.le_refl _))
    obtain ⟨ga, hg⟩ : ∃ g, w6.heap.size = g := ⟨_, rfl⟩
    have HNas : Hid (ga ∉ [ps]) := Lib.hid (by have h1 := HQs_6.out.lt; simp only [List.mem_singleton]; omega)
    rw [hg] at ho ⊢
    have HOa_7 := Lib.hid ho
    have HOb_7 := Lib.hid (HOb_6.out.chg hc2 (by simp))
    have HOe_7 := Lib.hid (HOe_6.out.chg hc2 (by simp))
    have HQs_7 := Lib.hid (HQs_6.out.chg hc2 (by simp))
    have HC_7 := Lib.hid (HC_6.out.trans (hc2.mono (by simp)))
    clear ho hc hc2 hg
    have a9 : w7.cell? ⟨ga, 9, none⟩ = some (.int .i64 151) := HOa_7.out.cell 9
    have e9 : w7.cell? ⟨ge, 9, none⟩ = some (.int .i64 84) := HOe_7.out.cell 9
    have e7 : w7.cell? ⟨ge, 7, none⟩ = some (.int .u64 0) := HOe_7.out.cell 7
    have z1 := HOa_7.out.lt
    have z2 := HOe_7.out.lt
    go_wp2_with fail
    refine (HAL.out w7).mono ?_
    rintro z w20 ⟨rfl, hb⟩
    have a9' : w20.cell? ⟨ga, 9, none⟩ = some (.int .i64 151) := (HOa_7.out.below hb HOa_7.out.lt).cell 9
    have z3 := Nat.lt_of_lt_of_le z1 hb.size
    have HB20 := Lib.hid ((HIN.out _ HC_7.out).trans (hb.mono (HIN.out _ HC_7.out).size))
    clear hb a9 e9 e7 z1 z2
    go_wp2_with fail
    go_ret
    exact ⟨rfl, HB20.out⟩
  | true =>
  simp only [if_true] at HSF
  go_wp2_with (refine wpList_loadMg rfl (.tmp 2) rfl w0.heap.size rfl (toQ A) HOb_5.out ?_)
  refine (HSF.out w5 HC_5.out HQs_5.out).mono ?_
  rintro e w6 ⟨rfl, hs, hc⟩
  have HOb_6 := Lib.hid (HOb_5.out.chg hc HNbs.out)
  have HOe_6 := Lib.hid (HOe_5.out.chg hc HNes.out)
  have HC_6 := Lib.hid (HC_5.out.trans (hc.mono (by simp)))
  have HQs_6 := Lib.hid hs
  clear hs hc
  go_wp2_with (refine wpList_storeMg rfl (.tmp 9) (.tmp 67) rfl w6.heap.size rfl (ansT (toQ A) 0) rfl zmT.cs (zm_new w6) rfl ?_)
  intro w7 ho hc
  have hc2 : Chg [] w6 w7 := ((Chg.refl [] w6).alloc _).then hc (fun x hx => by simp only [List.mem_singleton] at hx; subst hx; exact .inr (Nat.le_refl _))
  obtain ⟨ga, hg⟩ : ∃ g, w6.heap.size = g := ⟨_, rfl⟩
  have HNas : Hid (ga ∉ [ps]) := Lib.hid (by have h1 := HQs_6.out.lt; simp only [List.mem_singleton]; omega)
  rw [hg] at ho ⊢
  have HOa_7 := Lib.hid ho
  have HOb_7 := Lib.hid (HOb_6.out.chg hc2 (by simp))
  have HOe_7 := Lib.hid (HOe_6.out.chg hc2 (by simp))
  have HQs_7 := Lib.hid (HQs_6.out.chg hc2 (by simp))
  have HC_7 := Lib.hid (HC_6.out.trans (hc2.mono (by simp)))
  clear ho hc hc2 hg
  have a9 : w7.cell? ⟨ga, 9, none⟩ = some (.int .i64 0) := HOa_7.out.cell 9
  have e9 : w7.cell? ⟨ge, 9, none⟩ = some (.int .i64 84) := HOe_7.out.cell 9
  have e7 : w7.cell? ⟨ge, 7, none⟩ = some (.int .u64 0) := HOe_7.out.cell 7
  have z1 := HOa_7.out.lt
  have z2 := HOe_7.out.lt
  go_upto_region 11 with fail
  clear a9 e9 e7 z1 z2
  go_wp2_with fail
  go_loopw [11] (fun i wr => ∃ k : Nat, k ≤ n ∧ k ≤ 60 ∧ i = .int .i64 (k : Int) ∧ Hid (Own wr w0.heap.size 40 (toQ A).cs) ∧ Hid (Sqn wr ps (fstS A)) ∧ Hid (Chg [ps] w3 wr)) (fun i _ => 60 - (intOf i).toNat)
  case atStart => exact ⟨0, Nat.zero_le _, Nat.zero_le _, rfl, HOb_7, HQs_7, HC_7⟩
  case round =>
    obtain ⟨k, hkn, hk60, rfl, HOb_30, HQs_30, HC_30⟩ := hrel
    rename World => w30
    by_cases hlt : k < n
    · by_cases h60 : k < 60
      · have hk0 : (0 : Int) ≤ (k : Int) := by omega
        have hk1 : (k : Int) < (n : Int) := by omega
        have hk2 : (k : Int) < 60 := by omega
        obtain ⟨b0, off, hab, _, hcl⟩ := (HE.out.below (HIN.out w30 HC_30.out) (Nat.le_refl _)).u64 (show 0 < E.length by have := HNN.out; omega)
        have e1 := hcl k (by have := HNN.out; omega)
        have hx := HEB.out k
        generalize E.getD k 0 = x at *
        subst hab
        clear hcl
        have HY : Hid (x % 1048576 ≤ 1048576) := Lib.hid (by omega)
        have hxm : ((x : Int) % 1048576) = ((x % 1048576 : Nat) : Int) := by omega
        have HXM := Lib.hid hxm
        generalize x % 1048576 = y at *
        have c7 : w30.cell? ⟨w0.heap.size, 7, none⟩ = some (.int .u64 (A.ep : Int)) := HOb_30.out.cell 7
        have hz := HOb_30.out.lt
        go_upto_region 15 with fail
        rw [HXM.out]
        clear hxm e1 hx
        by_cases hy : y = A.ep
        · have e2 : ((y : Int) == (A.ep : Int)) = true := by rw [beq_iff_eq]; omega
          clear hy
          go_wp2_with fail
          go_roundw
          case rel => exact ⟨k + 1, by omega, by omega, by go_num, HOb_30, HQs_30, HC_30⟩
          case measure => simp [intOf]; omega
        have e2 : ((y : Int) == (A.ep : Int)) = false := by rw [beq_eq_false_iff_ne]; omega
        have HYN := Lib.hid hy
        clear hy
        go_upto_region 16 with fail
        have x1 : w30.cell? ⟨w0.heap.size, 1, none⟩ = some (.int .i64 A.fr.1) := HOb_30.out.cell 1
        have x2 : w30.cell? ⟨w0.heap.size, 2, none⟩ = some (.int .i64 A.fr.2) := HOb_30.out.cell 2
        have x3 : w30.cell? ⟨w0.heap.size, 3, none⟩ = some (.int .i64 2) := HOb_30.out.cell 3
        have x4 : w30.cell? ⟨w0.heap.size, 4, none⟩ = some (.int .i64 0) := HOb_30.out.cell 4
        clear c7 e2
        go_wp2_with fail
        refine (HSL.out w30 HQs_30.out 9 (.inl rfl) y HY.out HYN.out).mono ?_
        rintro e w31 ⟨rfl, hs, hc⟩
        have HOb_31 := Lib.hid (HOb_30.out.chg hc HNbs.out)
        have HC_31 := Lib.hid (HC_30.out.trans (hc.mono (by simp)))
        have HQs_31 := Lib.hid hs
        clear hs hc
        clear x1 x2 x3 x4 hz
        go_wp2_with (refine wpList_storeMg rfl (.tmp 13) (.tmp 118) rfl w31.heap.size rfl (refT (fstS A) (tkM 9 A.fr 0 y none [] 0)) rfl zmT.cs (zm_new w31) rfl ?_)
        intro w32 ho hc
        have hc2 : Chg [] w31 w32 := ((Chg.refl [] w31).alloc _).then hc (fun x hx => by simp only [List.mem_singleton] at hx; subst hx; exact .inr (Nat.le_refl _))
        obtain ⟨gt, hg⟩ : ∃ g, w31.heap.size = g := ⟨_, rfl⟩
        have HNts : Hid (gt ∉ [ps]) := Lib.hid (by have h1 := HQs_31.out.lt; simp only [List.mem_singleton]; omega)
        rw [hg] at ho ⊢
        have HOt_32 := Lib.hid ho
        have HOb_32 := Lib.hid (HOb_31.out.chg hc2 (by simp))
        have HQs_32 := Lib.hid (HQs_31.out.chg hc2 (by simp))
        have HC_32 := Lib.hid (HC_31.out.trans (hc2.mono (by simp)))
        clear ho hc hc2 hg
        have x1 : w32.cell? ⟨w0.heap.size, 1, none⟩ = some (.int .i64 A.fr.1) := HOb_32.out.cell 1
        have x2 : w32.cell? ⟨w0.heap.size, 2, none⟩ = some (.int .i64 A.fr.2) := HOb_32.out.cell 2
        have x3 : w32.cell? ⟨w0.heap.size, 3, none⟩ = some (.int .i64 2) := HOb_32.out.cell 3
        have x4 : w32.cell? ⟨w0.heap.size, 4, none⟩ = some (.int .i64 0) := HOb_32.out.cell 4
        have hz := HOb_32.out.lt
        go_wp2_with fail
        refine (HSL.out w32 HQs_32.out 7 (.inr rfl) y HY.out HYN.out).mono ?_
        rintro e w33 ⟨rfl, hs, hc⟩
        have HOb_33 := Lib.hid (HOb_32.out.chg hc HNbs.out)
        have HOt_33 := Lib.hid (HOt_32.out.chg hc HNts.out)
        have HC_33 := Lib.hid (HC_32.out.trans (hc.mono (by simp)))
        have HQs_33 := Lib.hid hs
        clear hs hc
        clear x1 x2 x3 x4 hz
        go_wp2_with (refine wpList_storeMg rfl (.tmp 15) (.tmp 129) rfl w33.heap.size rfl (refT (fstS A) (tkM 7 A.fr 0 y none [] 0)) rfl zmT.cs (zm_new w33) rfl ?_)
        intro w34 ho hc
        have hc2 : Chg [] w33 w34 := ((Chg.refl [] w33).alloc _).then hc (fun x hx => by simp only [List.mem_singleton] at hx; subst hx; exact .inr (Nat.le_refl _))
        obtain ⟨gu, hg⟩ : ∃ g, w33.heap.size = g := ⟨_, rfl⟩
        have HNus : Hid (gu ∉ [ps]) := Lib.hid (by have h1 := HQs_33.out.lt; simp only [List.mem_singleton]; omega)
        rw [hg] at ho ⊢
        have HOu_34 := Lib.hid ho
        have HOb_34 := Lib.hid (HOb_33.out.chg hc2 (by simp))
        have HOt_34 := Lib.hid (HOt_33.out.chg hc2 (by simp))
        have HQs_34 := Lib.hid (HQs_33.out.chg hc2 (by simp))
        have HC_34 := Lib.hid (HC_33.out.trans (hc2.mono (by simp)))
        clear ho hc hc2 hg
        have t9 : w34.cell? ⟨gt, 9, none⟩ = some (.int .i64 84) := HOt_34.out.cell 9
        have t7 : w34.cell? ⟨gt, 7, none⟩ = some (.int .u64 (A.ep : Int)) := HOt_34.out.cell 7
        have u9 : w34.cell? ⟨gu, 9, none⟩ = some (.int .i64 84) := HOu_34.out.cell 9
        have c7 : w34.cell? ⟨w0.heap.size, 7, none⟩ = some (.int .u64 (A.ep : Int)) := HOb_34.out.cell 7
        have c8 : w34.cell? ⟨w0.heap.size, 8, none⟩ = some (.int .u64 (A.ad : Int)) := HOb_34.out.cell 8
        have z1 := HOt_34.out.lt
        have z2 := HOu_34.out.lt
        have hz := HOb_34.out.lt
        go_wp2_with fail
        go_quiet ((go_at_call 12; exact Calls.quiet_of_same (HTL.out _ (show Sqn _ ps (fstS A) from HQs_34.out))))
        go_wp2_with fail
        go_roundw
        case rel => exact ⟨k + 1, by omega, by omega, by go_num, Lib.hid HOb_34.out, Lib.hid HQs_34.out, Lib.hid (HC_34.out.drewN _)⟩
        case measure => simp [intOf]; omega
      · obtain rfl : k = 60 := by omega
        have hk1 : ((60 : Nat) : Int) < (n : Int) := by omega
        go_upto_region 20 with fail
        go_wp2_with (refine wpList_loadMg rfl (.tmp 2) rfl w0.heap.size rfl (toQ A) HOb_30.out ?_)
        refine (HSG.out w30 HC_30.out HQs_30.out).mono ?_
        rintro e w31 ⟨rfl, hs, hc⟩
        have HOb_31 := Lib.hid (HOb_30.out.chg hc HNbs.out)
        have HC_31 := Lib.hid (HC_30.out.trans (hc.mono (by simp)))
        have HQs_31 := Lib.hid hs
        clear hs hc
        go_wp2_with (refine wpList_storeMg rfl (.tmp 17) (.tmp 165) rfl w31.heap.size rfl (refT (fstS A) (toQ A)) rfl zmT.cs (zm_new w31) rfl ?_)
        intro w32 ho hc
        have hc2 : Chg [] w31 w32 := ((Chg.refl [] w31).alloc _).then hc (fun x hx => by simp only [List.mem_singleton] at hx; subst hx; exact .inr (Nat.le_refl _))
        obtain ⟨gz, hg⟩ : ∃ g, w31.heap.size = g := ⟨_, rfl⟩
        have HNzs : Hid (gz ∉ [ps]) := Lib.hid (by have h1 := HQs_31.out.lt; simp only [List.mem_singleton]; omega)
        rw [hg] at ho ⊢
        have HOz_32 := Lib.hid ho
        have HOb_32 := Lib.hid (HOb_31.out.chg hc2 (by simp))
        have HQs_32 := Lib.hid (HQs_31.out.chg hc2 (by simp))
        have HC_32 := Lib.hid (HC_31.out.trans (hc2.mono (by simp)))
        clear ho hc hc2 hg
        have HST : Hid (Own w32.drew w0.heap.size 40 (toQ A).cs ∧ Own w32.drew gz 40 (refT (fstS A) (toQ A)).cs ∧ Sqn w32.drew ps (fstS A) ∧ Chg [ps] w3 w32.drew) := Lib.hid ⟨HOb_32.out, HOz_32.out, HQs_32.out, HC_32.out.drew⟩
        go_upto_region 21 with fail
        refine wp_region_held_drew (S := (fun w' => Own w' w0.heap.size 40 (toQ A).cs ∧ Own w' gz 40 (refT (fstS A) (toQ A)).cs ∧ Sqn w' ps (fstS A) ∧ Chg [ps] w3 w')) (by kernel_rfl) HST.out (fun hHeld => ?_)
        refine wpAnyH_ready (rs := [0]) (by kernel_rfl) (by simp) (AllReadyH.cons rfl (fun K hK => ?_) AllReadyH.nil)
        have hH := hHeld
        (go_simp; go_at_call 8; refine (HAL.out _).mono ?_; rintro e w40 ⟨rfl, hb⟩)
        refine hK.out _ _ (by exact ⟨hH.1.below hb hH.1.lt, hH.2.1.below hb hH.2.1.lt, hH.2.2.1.below hb hH.2.2.1.lt, hH.2.2.2.of_below hb⟩) (fun hHq1 => ?_)
        clear hK K hH 
        (try simp only [Act.put, List.getElem_toArray, List.getElem_cons_succ, List.getElem_cons_zero, List.setIfInBounds_toArray, List.set_cons_zero, List.set_cons_succ])
        refine wpAnyH_take (i := 1) (v := ?_) rfl (by kernel_rfl) (by kernel_rfl) (by kernel_rfl) (fun _ _ _ h => h) (Or.inl ⟨by kernel_rfl, ?_⟩) hHq1 ?_
        rotate_left
        · (intro w hSw; first | (go_simp; done) | (go_simp; with_reducible rfl))
        (try simp only [Act.put, List.getElem_toArray, List.getElem_cons_succ, List.getElem_cons_zero, List.setIfInBounds_toArray, List.set_cons_zero, List.set_cons_succ])
        refine wpAnyH_take (i := 2) (v := ?_) rfl (by kernel_rfl) (by kernel_rfl) (by kernel_rfl) (fun _ _ _ h => h) (Or.inl ⟨by kernel_rfl, ?_⟩) hHq1 ?_
        rotate_left
        · (intro w hSw; first | (go_simp; done) | (go_simp; with_reducible rfl))
        (try simp only [Act.put, List.getElem_toArray, List.getElem_cons_succ, List.getElem_cons_zero, List.setIfInBounds_toArray, List.set_cons_zero, List.set_cons_succ])
        refine wpAnyH_take (i := 3) (v := .int .i64 84) rfl (by kernel_rfl) (by kernel_rfl) (by kernel_rfl) (fun _ _ _ h => h) (Or.inl ⟨by kernel_rfl, ?_⟩) hHq1 ?_
        · (intro w hSw; have c : w.cell? ⟨gz, 9, none⟩ = some (.int .i64 84) := hSw.2.1.cell 9; go_simp)
        (try simp only [Act.put, List.getElem_toArray, List.getElem_cons_succ, List.getElem_cons_zero, List.setIfInBounds_toArray, List.set_cons_zero, List.set_cons_succ])
        refine wpAnyH_take (i := 4) (v := ?_) rfl (by kernel_rfl) (by kernel_rfl) (by kernel_rfl) (fun _ _ _ h => h) (Or.inl ⟨by kernel_rfl, ?_⟩) hHq1 ?_
        rotate_left
        · (intro w hSw; first | (go_simp; done) | (go_simp; with_reducible rfl))
        (try simp only [Act.put, List.getElem_toArray, List.getElem_cons_succ, List.getElem_cons_zero, List.setIfInBounds_toArray, List.set_cons_zero, List.set_cons_succ])
        refine wpAnyH_take (i := 5) (v := ?_) rfl (by kernel_rfl) (by kernel_rfl) (by kernel_rfl) (fun _ _ _ h => h) (Or.inl ⟨by kernel_rfl, ?_⟩) hHq1 ?_
        rotate_left
        · (intro w hSw; first | (go_simp; done) | (go_simp; with_reducible rfl))
        (try simp only [Act.put, List.getElem_toArray, List.getElem_cons_succ, List.getElem_cons_zero, List.setIfInBounds_toArray, List.set_cons_zero, List.set_cons_succ])
        refine wpAnyH_take (i := 6) (v := ?_) rfl (by kernel_rfl) (by kernel_rfl) (by kernel_rfl) (fun _ _ _ h => h) (Or.inl ⟨by kernel_rfl, ?_⟩) hHq1 ?_
        rotate_left
        · (intro w hSw; first | (go_simp; done) | (go_simp; with_reducible rfl))
        (try simp only [Act.put, List.getElem_toArray, List.getElem_cons_succ, List.getElem_cons_zero, List.setIfInBounds_toArray, List.set_cons_zero, List.set_cons_succ])
        refine wpAnyH_take (i := 7) (v := ?_) rfl (by kernel_rfl) (by kernel_rfl) (by kernel_rfl) (fun _ _ _ h => h) (Or.inl ⟨by kernel_rfl, ?_⟩) hHq1 ?_
        rotate_left
        · (intro w hSw; first | (go_simp; done) | (go_simp; with_reducible rfl))
        (try simp only [Act.put, List.getElem_toArray, List.getElem_cons_succ, List.getElem_cons_zero, List.setIfInBounds_toArray, List.set_cons_zero, List.set_cons_succ])
        refine wpAnyH_take (i := 9) (v := ?_) rfl (by kernel_rfl) (by kernel_rfl) (by kernel_rfl) (fun _ _ _ h => h) (Or.inl ⟨by kernel_rfl, ?_⟩) hHq1 ?_
        rotate_left
        · (intro w hSw; first | (go_simp; done) | (go_simp; with_reducible rfl))
        (try simp only [Act.put, List.getElem_toArray, List.getElem_cons_succ, List.getElem_cons_zero, List.setIfInBounds_toArray, List.set_cons_zero, List.set_cons_succ])
        refine wpAnyH_take (i := 10) (v := .int .u64 (A.ep : Int)) rfl (by kernel_rfl) (by kernel_rfl) (by kernel_rfl) (fun _ _ _ h => h) (Or.inl ⟨by kernel_rfl, ?_⟩) hHq1 ?_
        · (intro w hSw; have c : w.cell? ⟨w0.heap.size, 7, none⟩ = some (.int .u64 (A.ep : Int)) := hSw.1.cell 7; go_simp)
        (try simp only [Act.put, List.getElem_toArray, List.getElem_cons_succ, List.getElem_cons_zero, List.setIfInBounds_toArray, List.set_cons_zero, List.set_cons_succ])
        refine wpAnyH_ready (rs := [8]) (by kernel_rfl) (by simp) (AllReadyH.cons rfl (fun K hK => ?_) AllReadyH.nil)
        have hH := hHq1
        (go_simp; go_at_call 10; refine (HEC.out _ hH.2.2.1).mono ?_; rintro e w41 ⟨rfl, rfl⟩)
        refine hK.out _ _ (by exact hH) (fun hHq2 => ?_)
        clear hK K hH hHq1
        (try simp only [Act.put, List.getElem_toArray, List.getElem_cons_succ, List.getElem_cons_zero, List.setIfInBounds_toArray, List.set_cons_zero, List.set_cons_succ])
        refine wpAnyH_take (i := 11) (v := ?_) rfl (by kernel_rfl) (by kernel_rfl) (by kernel_rfl) (fun _ _ _ h => h) (Or.inl ⟨by kernel_rfl, ?_⟩) hHq2 ?_
        rotate_left
        · (intro w hSw; first | (go_simp; done) | (go_simp; with_reducible rfl))
        (try simp only [Act.put, List.getElem_toArray, List.getElem_cons_succ, List.getElem_cons_zero, List.setIfInBounds_toArray, List.set_cons_zero, List.set_cons_succ])
        refine wpAnyH_take (i := 12) (v := ?_) rfl (by kernel_rfl) (by kernel_rfl) (by kernel_rfl) (fun _ _ _ h => h) (Or.inl ⟨by kernel_rfl, ?_⟩) hHq2 ?_
        rotate_left
        · (intro w hSw; first | (go_simp; done) | (go_simp; with_reducible rfl))
        (try simp only [Act.put, List.getElem_toArray, List.getElem_cons_succ, List.getElem_cons_zero, List.setIfInBounds_toArray, List.set_cons_zero, List.set_cons_succ])
        refine wpAnyH_take (i := 13) (v := ?_) rfl (by kernel_rfl) (by kernel_rfl) (by kernel_rfl) (fun _ _ _ h => h) (Or.inl ⟨by kernel_rfl, ?_⟩) hHq2 ?_
        rotate_left
        · (intro w hSw; first | (go_simp; done) | (go_simp; with_reducible rfl))
        (try simp only [Act.put, List.getElem_toArray, List.getElem_cons_succ, List.getElem_cons_zero, List.setIfInBounds_toArray, List.set_cons_zero, List.set_cons_succ])
        refine wpAnyH_take (i := 14) (v := ?_) rfl (by kernel_rfl) (by kernel_rfl) (by kernel_rfl) (fun _ _ _ h => h) (Or.inl ⟨by kernel_rfl, ?_⟩) hHq2 ?_
        rotate_left
        · (intro w hSw; first | (go_simp; done) | (go_simp; with_reducible rfl))
        (try simp only [Act.put, List.getElem_toArray, List.getElem_cons_succ, List.getElem_cons_zero, List.setIfInBounds_toArray, List.set_cons_zero, List.set_cons_succ])
        refine wpAnyH_take (i := 16) (v := ?_) rfl (by kernel_rfl) (by kernel_rfl) (by kernel_rfl) (fun _ _ _ h => h) (Or.inl ⟨by kernel_rfl, ?_⟩) hHq2 ?_
        rotate_left
        · (intro w hSw; first | (go_simp; done) | (go_simp; with_reducible rfl))
        (try simp only [Act.put, List.getElem_toArray, List.getElem_cons_succ, List.getElem_cons_zero, List.setIfInBounds_toArray, List.set_cons_zero, List.set_cons_succ])
        refine wpAnyH_take (i := 17) (v := .int .u64 (A.ad : Int)) rfl (by kernel_rfl) (by kernel_rfl) (by kernel_rfl) (fun _ _ _ h => h) (Or.inl ⟨by kernel_rfl, ?_⟩) hHq2 ?_
        · (intro w hSw; have c : w.cell? ⟨w0.heap.size, 8, none⟩ = some (.int .u64 (A.ad : Int)) := hSw.1.cell 8; go_simp)
        (try simp only [Act.put, List.getElem_toArray, List.getElem_cons_succ, List.getElem_cons_zero, List.setIfInBounds_toArray, List.set_cons_zero, List.set_cons_succ])
        refine wpAnyH_ready (rs := [15]) (by kernel_rfl) (by simp) (AllReadyH.cons rfl (fun K hK => ?_) AllReadyH.nil)
        have hH := hHq2
        (go_simp; go_at_call 12; refine (HTL.out _ hH.2.2.1).mono ?_; rintro e w42 ⟨rfl, rfl⟩)
        refine hK.out _ _ (by exact hH) (fun hHq3 => ?_)
        clear hK K hH hHq2
        (try simp only [Act.put, List.getElem_toArray, List.getElem_cons_succ, List.getElem_cons_zero, List.setIfInBounds_toArray, List.set_cons_zero, List.set_cons_succ])
        refine wpAnyH_take (i := 18) (v := ?_) rfl (by kernel_rfl) (by kernel_rfl) (by kernel_rfl) (fun _ _ _ h => h) (Or.inl ⟨by kernel_rfl, ?_⟩) hHq3 ?_
        rotate_left
        · (intro w hSw; first | (go_simp; done) | (go_simp; with_reducible rfl))
        (try simp only [Act.put, List.getElem_toArray, List.getElem_cons_succ, List.getElem_cons_zero, List.setIfInBounds_toArray, List.set_cons_zero, List.set_cons_succ])
        refine wpAnyH_take (i := 19) (v := ?_) rfl (by kernel_rfl) (by kernel_rfl) (by kernel_rfl) (fun _ _ _ h => h) (Or.inl ⟨by kernel_rfl, ?_⟩) hHq3 ?_
        rotate_left
        · (intro w hSw; first | (go_simp; done) | (go_simp; with_reducible rfl))
        (try simp only [Act.put, List.getElem_toArray, List.getElem_cons_succ, List.getElem_cons_zero, List.setIfInBounds_toArray, List.set_cons_zero, List.set_cons_succ])
        refine wpAnyH_take (i := 20) (v := ?_) rfl (by kernel_rfl) (by kernel_rfl) (by kernel_rfl) (fun _ _ _ h => h) (Or.inl ⟨by kernel_rfl, ?_⟩) hHq3 ?_
        rotate_left
        · (intro w hSw; first | (go_simp; done) | (go_simp; with_reducible rfl))
        (try simp only [Act.put, List.getElem_toArray, List.getElem_cons_succ, List.getElem_cons_zero, List.setIfInBounds_toArray, List.set_cons_zero, List.set_cons_succ])
        refine wpAnyH_done (by kernel_rfl) ?_ _
        have hEnd := hHq3
        have HEN := Lib.hid (HIN.out _ hEnd.2.2.2)
        clear hEnd hHeld
        go_wp2_with fail
        go_ret
        exact ⟨by simp [fstS], HEN.out⟩
    · have hk1 : ¬ ((k : Int) < (n : Int)) := by omega
      go_upto_region 20 with fail
      go_wp2_with (refine wpList_loadMg rfl (.tmp 2) rfl w0.heap.size rfl (toQ A) HOb_30.out ?_)
      refine (HSG.out w30 HC_30.out HQs_30.out).mono ?_
      rintro e w31 ⟨rfl, hs, hc⟩
      have HOb_31 := Lib.hid (HOb_30.out.chg hc HNbs.out)
      have HC_31 := Lib.hid (HC_30.out.trans (hc.mono (by simp)))
      have HQs_31 := Lib.hid hs
      clear hs hc
      go_wp2_with (refine wpList_storeMg rfl (.tmp 17) (.tmp 165) rfl w31.heap.size rfl (refT (fstS A) (toQ A)) rfl zmT.cs (zm_new w31) rfl ?_)
      intro w32 ho hc
      have hc2 : Chg [] w31 w32 := ((Chg.refl [] w31).alloc _).then hc (fun x hx => by simp only [List.mem_singleton] at hx; subst hx; exact .inr (Nat.le_refl _))
      obtain ⟨gz, hg⟩ : ∃ g, w31.heap.size = g := ⟨_, rfl⟩
      have HNzs : Hid (gz ∉ [ps]) := Lib.hid (by have h1 := HQs_31.out.lt; simp only [List.mem_singleton]; omega)
      rw [hg] at ho ⊢
      have HOz_32 := Lib.hid ho
      have HOb_32 := Lib.hid (HOb_31.out.chg hc2 (by simp))
      have HQs_32 := Lib.hid (HQs_31.out.chg hc2 (by simp))
      have HC_32 := Lib.hid (HC_31.out.trans (hc2.mono (by simp)))
      clear ho hc hc2 hg
      have HST : Hid (Own w32.drew w0.heap.size 40 (toQ A).cs ∧ Own w32.drew gz 40 (refT (fstS A) (toQ A)).cs ∧ Sqn w32.drew ps (fstS A) ∧ Chg [ps] w3 w32.drew) := Lib.hid ⟨HOb_32.out, HOz_32.out, HQs_32.out, HC_32.out.drew⟩
      go_upto_region 21 with fail
      refine wp_region_held_drew (S := (fun w' => Own w' w0.heap.size 40 (toQ A).cs ∧ Own w' gz 40 (refT (fstS A) (toQ A)).cs ∧ Sqn w' ps (fstS A) ∧ Chg [ps] w3 w')) (by kernel_rfl) HST.out (fun hHeld => ?_)
      refine wpAnyH_ready (rs := [0]) (by kernel_rfl) (by simp) (AllReadyH.cons rfl (fun K hK => ?_) AllReadyH.nil)
      have hH := hHeld
      (go_simp; go_at_call 8; refine (HAL.out _).mono ?_; rintro e w40 ⟨rfl, hb⟩)
      refine hK.out _ _ (by exact ⟨hH.1.below hb hH.1.lt, hH.2.1.below hb hH.2.1.lt, hH.2.2.1.below hb hH.2.2.1.lt, hH.2.2.2.of_below hb⟩) (fun hHq1 => ?_)
      clear hK K hH 
      (try simp only [Act.put, List.getElem_toArray, List.getElem_cons_succ, List.getElem_cons_zero, List.setIfInBounds_toArray, List.set_cons_zero, List.set_cons_succ])
      refine wpAnyH_take (i := 1) (v := ?_) rfl (by kernel_rfl) (by kernel_rfl) (by kernel_rfl) (fun _ _ _ h => h) (Or.inl ⟨by kernel_rfl, ?_⟩) hHq1 ?_
      rotate_left
      · (intro w hSw; first | (go_simp; done) | (go_simp; with_reducible rfl))
      (try simp only [Act.put, List.getElem_toArray, List.getElem_cons_succ, List.getElem_cons_zero, List.setIfInBounds_toArray, List.set_cons_zero, List.set_cons_succ])
      refine wpAnyH_take (i := 2) (v := ?_) rfl (by kernel_rfl) (by kernel_rfl) (by kernel_rfl) (fun _ _ _ h => h) (Or.inl ⟨by kernel_rfl, ?_⟩) hHq1 ?_
      rotate_left
      · (intro w hSw; first | (go_simp; done) | (go_simp; with_reducible rfl))
      (try simp only [Act.put, List.getElem_toArray, List.getElem_cons_succ, List.getElem_cons_zero, List.setIfInBounds_toArray, List.set_cons_zero, List.set_cons_succ])
      refine wpAnyH_take (i := 3) (v := .int .i64 84) rfl (by kernel_rfl) (by kernel_rfl) (by kernel_rfl) (fun _ _ _ h => h) (Or.inl ⟨by kernel_rfl, ?_⟩) hHq1 ?_
      · (intro w hSw; have c : w.cell? ⟨gz, 9, none⟩ = some (.int .i64 84) := hSw.2.1.cell 9; go_simp)
      (try simp only [Act.put, List.getElem_toArray, List.getElem_cons_succ, List.getElem_cons_zero, List.setIfInBounds_toArray, List.set_cons_zero, List.set_cons_succ])
      refine wpAnyH_take (i := 4) (v := ?_) rfl (by kernel_rfl) (by kernel_rfl) (by kernel_rfl) (fun _ _ _ h => h) (Or.inl ⟨by kernel_rfl, ?_⟩) hHq1 ?_
      rotate_left
      · (intro w hSw; first | (go_simp; done) | (go_simp; with_reducible rfl))
      (try simp only [Act.put, List.getElem_toArray, List.getElem_cons_succ, List.getElem_cons_zero, List.setIfInBounds_toArray, List.set_cons_zero, List.set_cons_succ])
      refine wpAnyH_take (i := 5) (v := ?_) rfl (by kernel_rfl) (by kernel_rfl) (by kernel_rfl) (fun _ _ _ h => h) (Or.inl ⟨by kernel_rfl, ?_⟩) hHq1 ?_
      rotate_left
      · (intro w hSw; first | (go_simp; done) | (go_simp; with_reducible rfl))
      (try simp only [Act.put, List.getElem_toArray, List.getElem_cons_succ, List.getElem_cons_zero, List.setIfInBounds_toArray, List.set_cons_zero, List.set_cons_succ])
      refine wpAnyH_take (i := 6) (v := ?_) rfl (by kernel_rfl) (by kernel_rfl) (by kernel_rfl) (fun _ _ _ h => h) (Or.inl ⟨by kernel_rfl, ?_⟩) hHq1 ?_
      rotate_left
      · (intro w hSw; first | (go_simp; done) | (go_simp; with_reducible rfl))
      (try simp only [Act.put, List.getElem_toArray, List.getElem_cons_succ, List.getElem_cons_zero, List.setIfInBounds_toArray, List.set_cons_zero, List.set_cons_succ])
      refine wpAnyH_take (i := 7) (v := ?_) rfl (by kernel_rfl) (by kernel_rfl) (by kernel_rfl) (fun _ _ _ h => h) (Or.inl ⟨by kernel_rfl, ?_⟩) hHq1 ?_
      rotate_left
      · (intro w hSw; first | (go_simp; done) | (go_simp; with_reducible rfl))
      (try simp only [Act.put, List.getElem_toArray, List.getElem_cons_succ, List.getElem_cons_zero, List.setIfInBounds_toArray, List.set_cons_zero, List.set_cons_succ])
      refine wpAnyH_take (i := 9) (v := ?_) rfl (by kernel_rfl) (by kernel_rfl) (by kernel_rfl) (fun _ _ _ h => h) (Or.inl ⟨by kernel_rfl, ?_⟩) hHq1 ?_
      rotate_left
      · (intro w hSw; first | (go_simp; done) | (go_simp; with_reducible rfl))
      (try simp only [Act.put, List.getElem_toArray, List.getElem_cons_succ, List.getElem_cons_zero, List.setIfInBounds_toArray, List.set_cons_zero, List.set_cons_succ])
      refine wpAnyH_take (i := 10) (v := .int .u64 (A.ep : Int)) rfl (by kernel_rfl) (by kernel_rfl) (by kernel_rfl) (fun _ _ _ h => h) (Or.inl ⟨by kernel_rfl, ?_⟩) hHq1 ?_
      · (intro w hSw; have c : w.cell? ⟨w0.heap.size, 7, none⟩ = some (.int .u64 (A.ep : Int)) := hSw.1.cell 7; go_simp)
      (try simp only [Act.put, List.getElem_toArray, List.getElem_cons_succ, List.getElem_cons_zero, List.setIfInBounds_toArray, List.set_cons_zero, List.set_cons_succ])
      refine wpAnyH_ready (rs := [8]) (by kernel_rfl) (by simp) (AllReadyH.cons rfl (fun K hK => ?_) AllReadyH.nil)
      have hH := hHq1
      (go_simp; go_at_call 10; refine (HEC.out _ hH.2.2.1).mono ?_; rintro e w41 ⟨rfl, rfl⟩)
      refine hK.out _ _ (by exact hH) (fun hHq2 => ?_)
      clear hK K hH hHq1
      (try simp only [Act.put, List.getElem_toArray, List.getElem_cons_succ, List.getElem_cons_zero, List.setIfInBounds_toArray, List.set_cons_zero, List.set_cons_succ])
      refine wpAnyH_take (i := 11) (v := ?_) rfl (by kernel_rfl) (by kernel_rfl) (by kernel_rfl) (fun _ _ _ h => h) (Or.inl ⟨by kernel_rfl, ?_⟩) hHq2 ?_
      rotate_left
      · (intro w hSw; first | (go_simp; done) | (go_simp; with_reducible rfl))
      (try simp only [Act.put, List.getElem_toArray, List.getElem_cons_succ, List.getElem_cons_zero, List.setIfInBounds_toArray, List.set_cons_zero, List.set_cons_succ])
      refine wpAnyH_take (i := 12) (v := ?_) rfl (by kernel_rfl) (by kernel_rfl) (by kernel_rfl) (fun _ _ _ h => h) (Or.inl ⟨by kernel_rfl, ?_⟩) hHq2 ?_
      rotate_left
      · (intro w hSw; first | (go_simp; done) | (go_simp; with_reducible rfl))
      (try simp only [Act.put, List.getElem_toArray, List.getElem_cons_succ, List.getElem_cons_zero, List.setIfInBounds_toArray, List.set_cons_zero, List.set_cons_succ])
      refine wpAnyH_take (i := 13) (v := ?_) rfl (by kernel_rfl) (by kernel_rfl) (by kernel_rfl) (fun _ _ _ h => h) (Or.inl ⟨by kernel_rfl, ?_⟩) hHq2 ?_
      rotate_left
      · (intro w hSw; first | (go_simp; done) | (go_simp; with_reducible rfl))
      (try simp only [Act.put, List.getElem_toArray, List.getElem_cons_succ, List.getElem_cons_zero, List.setIfInBounds_toArray, List.set_cons_zero, List.set_cons_succ])
      refine wpAnyH_take (i := 14) (v := ?_) rfl (by kernel_rfl) (by kernel_rfl) (by kernel_rfl) (fun _ _ _ h => h) (Or.inl ⟨by kernel_rfl, ?_⟩) hHq2 ?_
      rotate_left
      · (intro w hSw; first | (go_simp; done) | (go_simp; with_reducible rfl))
      (try simp only [Act.put, List.getElem_toArray, List.getElem_cons_succ, List.getElem_cons_zero, List.setIfInBounds_toArray, List.set_cons_zero, List.set_cons_succ])
      refine wpAnyH_take (i := 16) (v := ?_) rfl (by kernel_rfl) (by kernel_rfl) (by kernel_rfl) (fun _ _ _ h => h) (Or.inl ⟨by kernel_rfl, ?_⟩) hHq2 ?_
      rotate_left
      · (intro w hSw; first | (go_simp; done) | (go_simp; with_reducible rfl))
      (try simp only [Act.put, List.getElem_toArray, List.getElem_cons_succ, List.getElem_cons_zero, List.setIfInBounds_toArray, List.set_cons_zero, List.set_cons_succ])
      refine wpAnyH_take (i := 17) (v := .int .u64 (A.ad : Int)) rfl (by kernel_rfl) (by kernel_rfl) (by kernel_rfl) (fun _ _ _ h => h) (Or.inl ⟨by kernel_rfl, ?_⟩) hHq2 ?_
      · (intro w hSw; have c : w.cell? ⟨w0.heap.size, 8, none⟩ = some (.int .u64 (A.ad : Int)) := hSw.1.cell 8; go_simp)
      (try simp only [Act.put, List.getElem_toArray, List.getElem_cons_succ, List.getElem_cons_zero, List.setIfInBounds_toArray, List.set_cons_zero, List.set_cons_succ])
      refine wpAnyH_ready (rs := [15]) (by kernel_rfl) (by simp) (AllReadyH.cons rfl (fun K hK => ?_) AllReadyH.nil)
      have hH := hHq2
      (go_simp; go_at_call 12; refine (HTL.out _ hH.2.2.1).mono ?_; rintro e w42 ⟨rfl, rfl⟩)
      refine hK.out _ _ (by exact hH) (fun hHq3 => ?_)
      clear hK K hH hHq2
      (try simp only [Act.put, List.getElem_toArray, List.getElem_cons_succ, List.getElem_cons_zero, List.setIfInBounds_toArray, List.set_cons_zero, List.set_cons_succ])
      refine wpAnyH_take (i := 18) (v := ?_) rfl (by kernel_rfl) (by kernel_rfl) (by kernel_rfl) (fun _ _ _ h => h) (Or.inl ⟨by kernel_rfl, ?_⟩) hHq3 ?_
      rotate_left
      · (intro w hSw; first | (go_simp; done) | (go_simp; with_reducible rfl))
      (try simp only [Act.put, List.getElem_toArray, List.getElem_cons_succ, List.getElem_cons_zero, List.setIfInBounds_toArray, List.set_cons_zero, List.set_cons_succ])
      refine wpAnyH_take (i := 19) (v := ?_) rfl (by kernel_rfl) (by kernel_rfl) (by kernel_rfl) (fun _ _ _ h => h) (Or.inl ⟨by kernel_rfl, ?_⟩) hHq3 ?_
      rotate_left
      · (intro w hSw; first | (go_simp; done) | (go_simp; with_reducible rfl))
      (try simp only [Act.put, List.getElem_toArray, List.getElem_cons_succ, List.getElem_cons_zero, List.setIfInBounds_toArray, List.set_cons_zero, List.set_cons_succ])
      refine wpAnyH_take (i := 20) (v := ?_) rfl (by kernel_rfl) (by kernel_rfl) (by kernel_rfl) (fun _ _ _ h => h) (Or.inl ⟨by kernel_rfl, ?_⟩) hHq3 ?_
      rotate_left
      · (intro w hSw; first | (go_simp; done) | (go_simp; with_reducible rfl))
      (try simp only [Act.put, List.getElem_toArray, List.getElem_cons_succ, List.getElem_cons_zero, List.setIfInBounds_toArray, List.set_cons_zero, List.set_cons_succ])
      refine wpAnyH_done (by kernel_rfl) ?_ _
      have hEnd := hHq3
      have HEN := Lib.hid (HIN.out _ hEnd.2.2.2)
      clear hEnd hHeld
      go_wp2_with fail
      go_ret
      exact ⟨by simp [fstS], HEN.out⟩
end Go.Proofs.Ytdblplkaobeimaa
