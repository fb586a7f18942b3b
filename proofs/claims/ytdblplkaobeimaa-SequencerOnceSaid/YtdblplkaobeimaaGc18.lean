/-
  The statement SequencerOnce: the walk of its Go text, by the contracts of what it calls.
-/
import Derived.Test.YtdblplkaobeimaaGc17
namespace Go.Proofs.Ytdblplkaobeimaa
open Go.RowKit Go.Deep Go.Shelf
set_option linter.unusedVariables false
set_option linter.unusedSimpArgs false

/-- last addresses that are asked one after the other -/
def lsV (L : List La) (j : Nat) : List La := L.take j ++ List.replicate (16 - j) (0, 0)
theorem lsV_length {L : List La} (hL : L.length = 16) {j : Nat} (h : j ≤ 16) : (lsV L j).length = 16 := by simp [lsV, hL]; omega
theorem lsV_set {L : List La} (hL : L.length = 16) {j : Nat} (h : j < 16) : (lsV L j).set j (la L j) = lsV L (j + 1) := by
  have h2 : List.replicate (16 - j) ((0, 0) : La) = (0, 0) :: List.replicate (16 - (j + 1)) (0, 0) := by rw [show 16 - j = (16 - (j + 1)) + 1 by omega]; rfl
  have h3 : L.take (j + 1) = L.take j ++ [la L j] := by
    rw [List.take_succ_eq_append_getElem (by omega)]
    simp [la, List.getD, show j < L.length by omega]
  unfold lsV
  rw [h3, h2, List.set_append, List.length_take, if_neg (by omega), show j - min j L.length = 0 by omega]
  simp
theorem lsV_full {L : List La} (hL : L.length = 16) : lsV L 16 = L := by simp [lsV, ← hL]
theorem lastQ_at (L : List La) {j : Nat} (h : j < 16) : lastQ L ((j : Nat) : Int) = la L j := by
  unfold lastQ isSt
  rw [decide_eq_true (show (0 : Int) ≤ (j : Int) by omega), decide_eq_true (show (j : Int) < 16 by omega)]
  simp
/-- the state behind some tokens -/
def onS (A : MgT) (t : Nat) (L : List La) : SqS := ⟨0, A.ep, t, L⟩

set_option maxHeartbeats 16000000 in
set_option maxRecDepth 100000 in
theorem sequencerOnce_any (w0 : World) {A : MgT} (hA : MgOk w0 A) {ab : Option Addr} {M : List ChT} {cb : Nat} (hrow : ChsOk w0 ab M cb) :
    Calls Try.prog 3 #[.agg A.cs.toArray, .slice ab M.length cb] w0 fun z w' => z = .returned (.bool true) ∧ Below w0.heap.size w0 w' := by
  obtain ⟨W, HWW⟩ : ∃ W, Hid (w0.alloc (.cells A.cs.toArray 40) = W) := ⟨_, Lib.hid rfl⟩
  have hWb : Below w0.heap.size w0 W := by rw [← HWW.out]; exact (Below.refl _ _).alloc (Nat.le_refl _) _
  have HO := Lib.hid (show Own W w0.heap.size 40 A.cs by rw [← HWW.out]; exact Own.new w0 _ _)
  have HBW := Lib.hid hWb
  have HAL := Lib.hid alive15_any
  have HAK := Lib.hid hA
  have HR := Lib.hid (fun (W' : World) (hb : Below w0.heap.size w0 W') => mright_any A w0.heap.size W' (hA.inn.below hb (Nat.le_refl _)) hb.size hA.fit)
  have HE := Lib.hid hrow.ro
  have HEI := Lib.hid hrow.inn
  have HEF := Lib.hid hrow.fit
  have hnl := hrow.fit.1
  have HN := Lib.hid (SqNew_any 0 W (by omega) (by omega))
  obtain ⟨n, hn⟩ : ∃ n, M.length = n := ⟨_, rfl⟩
  have HNN := Lib.hid hn
  rw [hn] at hnl ⊢
  obtain ⟨r, hr⟩ : ∃ r, mright A.x = r := ⟨_, rfl⟩
  rw [hr] at HR
  have HRX := Lib.hid hr
  simp only [MgT.val] at HR
  clear hWb hA hrow hn hr
  go_enter Try.func3, Try.ntmps3
  go_upto_region 1 with fail
  rw [HWW.out]
  go_wp2_with fail
  refine HN.out.mono ?_
  rintro z w1 ⟨ps, rfl, hp, hs, hb⟩
  have HP1 := Lib.hid hs
  have HB1 := Lib.hid (HBW.out.trans (hb.mono HBW.out.size))
  have HO1 := Lib.hid (HO.out.below hb HO.out.lt)
  have HPW : Hid (w0.heap.size < ps) := Lib.hid (Nat.lt_of_lt_of_le HO.out.lt hp)
  clear hs hb hp
  go_wp2_with (refine wpList_loadMgQ (.tmp 2) rfl w0.heap.size rfl A HO1.out rfl ?_)
  refine (HR.out w1 HB1.out).mono ?_
  rintro z w2 ⟨rfl, hb⟩
  have HB2 := Lib.hid (HB1.out.trans (hb.mono HB1.out.size))
  have HO2 := Lib.hid (HO1.out.below hb HO1.out.lt)
  have HP2 := Lib.hid (HP1.out.below hb HP1.out.lt)
  clear hb
  have c0 : w2.cell? ⟨w0.heap.size, 0, none⟩ = some (.int .i64 A.k) := HO2.out.cell 0
  have c7 : w2.cell? ⟨w0.heap.size, 7, none⟩ = some (.int .u64 (A.ep : Int)) := HO2.out.cell 7
  have hz := HO2.out.lt
  cases r with
  | false =>
    go_wp2_with fail
    refine (HAL.out w2).mono ?_
    rintro z w3 ⟨rfl, hb⟩
    have HB3 := Lib.hid (HB2.out.trans (hb.mono HB2.out.size))
    clear hb
    go_wp2_with fail
    go_ret
    exact ⟨rfl, HB3.out⟩
  | true =>
  by_cases hk : A.k = 10
  rotate_left
  · have hk1 : (A.k != 10) = true := by rw [bne_iff_ne]; exact hk
    clear hk
    go_wp2_with fail
    refine (HAL.out w2).mono ?_
    rintro z w3 ⟨rfl, hb⟩
    have HB3 := Lib.hid (HB2.out.trans (hb.mono HB2.out.size))
    clear hb
    go_wp2_with fail
    go_ret
    exact ⟨rfl, HB3.out⟩
  have hk1 : (A.k != 10) = false := by rw [bne_eq_false_iff_eq]; exact hk
  have HK := Lib.hid hk
  by_cases he : A.ep = 0
  · have he1 : ((A.ep : Int) == 0) = true := by rw [beq_iff_eq]; omega
    clear hk he
    go_wp2_with fail
    refine (HAL.out w2).mono ?_
    rintro z w3 ⟨rfl, hb⟩
    have HB3 := Lib.hid (HB2.out.trans (hb.mono HB2.out.size))
    clear hb
    go_wp2_with fail
    go_ret
    exact ⟨rfl, HB3.out⟩
  have he1 : ((A.ep : Int) == 0) = false := by rw [beq_eq_false_iff_ne]; omega
  have HEP := Lib.hid he
  have HM := Lib.hid (mright_all HRX.out)
  have HPF : Hid (plOk A.fr = true) := Lib.hid (by
    have h := HRX.out
    unfold mright at h
    simp only [Bool.and_eq_true] at h
    exact h.2.1)
  clear hk he
  go_upto_region 4 with fail
  clear c0 c7 hk1 he1
  have c3 : w2.cell? ⟨w0.heap.size, 3, none⟩ = some (.int .i64 A.to.1) := HO2.out.cell 3
  have c4 : w2.cell? ⟨w0.heap.size, 4, none⟩ = some (.int .i64 A.to.2) := HO2.out.cell 4
  have f3 := HO2.out.frozen 3
  have f4 := HO2.out.frozen 4
  go_upto_region 5 with fail
  obtain ⟨w3, hw3⟩ : ∃ w3, (w2.setCell ⟨w0.heap.size, 3, none⟩ (.int .i64 2)).setCell ⟨w0.heap.size, 4, none⟩ (.int .i64 0) = w3 := ⟨_, rfl⟩
  have HOb_3 : Hid (Own w3 w0.heap.size 40 (toQ A).cs) := Lib.hid (by rw [← hw3]; exact (HO2.out.set 3 _).set 4 _)
  have HQs_3 : Hid (Sqn w3 ps (newS 0)) := Lib.hid (by rw [← hw3]; exact Own.far (Own.far HP2.out (by have := HPW.out; show ps ≠ w0.heap.size; omega) _) (by have := HPW.out; show ps ≠ w0.heap.size; omega) _)
  have HB3 : Hid (Below w0.heap.size w0 w3) := Lib.hid (by rw [← hw3]; exact (HB2.out.setCell (Nat.le_refl _) _).setCell (Nat.le_refl _) _)
  rw [hw3]
  clear hw3 c3 c4 f3 f4 hz
  have HC_3 : Hid (Chg [ps] w3 w3) := Lib.hid (Chg.refl _ _)
  have HNbs : Hid (w0.heap.size ∉ [ps]) := Lib.hid (by have := HPW.out; simp only [List.mem_singleton]; omega)
  have HIN := Lib.hid (fun (V : World) (hc : Chg [ps] w3 V) => (show Below w0.heap.size w0 V from HB3.out.trans (hc.below HB3.out.size (by have := HPW.out; simp only [List.mem_singleton, forall_eq]; omega))))
  have HSF := Lib.hid (fun (V : World) (hc : Chg [ps] w3 V) (h : Sqn V ps (newS 0)) => Serve_first ps A V h HRX.out HK.out HEP.out ((HAK.out.inn.below (HIN.out V hc) (Nat.le_refl _)).mono (HIN.out V hc).size) HAK.out.fit ((HAK.out.inn.st.below (HIN.out V hc) (Nat.le_refl _)).apart (HIN.out V hc).size (by have := HPW.out; simp only [List.mem_singleton, forall_eq]; omega)))
  have HTL : Hid (∀ (V : World) (t : Nat) (L : List La) (h : Sqn V ps (onS A t L)), Calls Try.prog 12 #[.pointer (some ⟨ps, 0, none⟩)] V fun e w' => e = .returned (.int .u64 (t : Int)) ∧ w' = V) := Lib.hid (fun V t L h => Tail_same (onS A t L) ps V h)
  have HEC : Hid (∀ (V : World) (h : Sqn V ps (newS 0)), Calls Try.prog 10 #[.pointer (some ⟨ps, 0, none⟩)] V fun e w' => e = .returned (.int .u64 0) ∧ w' = V) := Lib.hid (fun V h => Epoch_same (newS 0) ps V h)
  have HLS := Lib.hid (fun (V : World) (k : Int) (h : Sqn V ps (fstS A)) => Last_any (fstS A) (by simp [fstS]) ps k V h)
  have HSY := Lib.hid (fun (V : World) (t : Nat) (L : List La) (hL : L.length = 16) (ht : t < 1048576) (h : Sqn V ps (onS A t L)) (a : Option Addr) (st : List Int) (c : Nat) (hs : stOk st = true) (hro : Ro V V.heap.size a (i64s st)) (hx : RoX V [ps] a (i64s st)) => Serve_tokR (onS A t L) hL ht (by simp [onS]) HM.out.ep HEP.out ps A.fr HPF.out a st c hs V h hro hx)
  have HSZ := Lib.hid (fun (V : World) (t : Nat) (L : List La) (hL : L.length = 16) (ht : t = 1048576) (h : Sqn V ps (onS A t L)) (a : Option Addr) (st : List Int) (c : Nat) (hs : stOk st = true) (hro : Ro V V.heap.size a (i64s st)) (hx : RoX V [ps] a (i64s st)) => Serve_tokF (onS A t L) hL ht (by simp [onS]) HM.out.ep HEP.out ps A.fr HPF.out a st c hs V h hro hx)
  obtain ⟨bl, hbl⟩ : ∃ bl, before ⟨0, [], A.bk⟩ A.ad = bl := ⟨_, rfl⟩
  rw [hbl] at HSF
  clear hbl
  cases bl with
  | false =>
    simp only [Bool.false_eq_true, if_false] at HSF
    go_wp2_with (refine wpList_loadMg rfl (.tmp 2) rfl w0.heap.size rfl (toQ A) HOb_3.out ?_)
    refine (HSF.out w3 HC_3.out HQs_3.out).mono ?_
    rintro e w4 ⟨rfl, hs, hc⟩
    have HOb_4 := Lib.hid (HOb_3.out.chg hc HNbs.out)
    have HC_4 := Lib.hid (HC_3.out.trans (hc.mono (by simp)))
    have HQs_4 := Lib.hid hs
    clear hs hc
    go_wp2_with (refine wpList_storeMg rfl (.tmp 7) (.tmp 54) rfl w4.heap.size rfl (ansT (toQ A) 151) rfl zmT.cs (zm_new w4) rfl ?_)
    intro w5 ho hc
    have hc2 : Chg [] w4 w5 := ((Chg.refl [] w4).alloc _).then hc (fun x hx => by simp only [List.mem_singleton] at hx; subst hx; exact .inr (Nat.le_refl _))
    obtain ⟨ga, hg⟩ : ∃ g, w4.heap.size = g := ⟨_, rfl⟩
    have HNas : Hid (ga ∉ [ps]) := Lib.hid (by have h1 := HQs_4.out.lt; simp only [List.mem_singleton]; omega)
    rw [hg] at ho ⊢
    have HOa_5 := Lib.hid ho
    have HOb_5 := Lib.hid (HOb_4.out.chg hc2 (by simp))
    have HQs_5 := Lib.hid (HQs_4.out.chg hc2 (by simp))
    have HC_5 := Lib.hid (HC_4.out.trans (hc2.mono (by simp)))
    clear ho hc hc2 hg
    have a9 : w5.cell? ⟨ga, 9, none⟩ = some (.int .i64 151) := HOa_5.out.cell 9
    have z1 := HOa_5.out.lt
    go_wp2_with fail
    refine (HAL.out w5).mono ?_
    rintro z w20 ⟨rfl, hb⟩
    have a9' : w20.cell? ⟨ga, 9, none⟩ = some (.int .i64 151) := (HOa_5.out.below hb HOa_5.out.lt).cell 9
    have z3 := Nat.lt_of_lt_of_le z1 hb.size
    have HB20 := Lib.hid ((HIN.out _ HC_5.out).trans (hb.mono (HIN.out _ HC_5.out).size))
    have HQ20 := Lib.hid (HQs_5.out.below hb HQs_5.out.lt)
    clear hb a9 z1
    go_wp2_with fail
    refine (HEC.out w20 HQ20.out).mono ?_
    rintro z w21 ⟨rfl, rfl⟩
    go_wp2_with fail
    go_ret
    exact ⟨rfl, HB20.out⟩
  | true =>
  simp only [if_true] at HSF
  go_wp2_with (refine wpList_loadMg rfl (.tmp 2) rfl w0.heap.size rfl (toQ A) HOb_3.out ?_)
  refine (HSF.out w3 HC_3.out HQs_3.out).mono ?_
  rintro e w4 ⟨rfl, hs, hc⟩
  have HOb_4 := Lib.hid (HOb_3.out.chg hc HNbs.out)
  have HC_4 := Lib.hid (HC_3.out.trans (hc.mono (by simp)))
  have HQs_4 := Lib.hid hs
  clear hs hc
  go_wp2_with (refine wpList_storeMg rfl (.tmp 7) (.tmp 54) rfl w4.heap.size rfl (ansT (toQ A) 0) rfl zmT.cs (zm_new w4) rfl ?_)
  intro w5 ho hc
  have hc2 : Chg [] w4 w5 := ((Chg.refl [] w4).alloc _).then hc (fun x hx => by simp only [List.mem_singleton] at hx; subst hx; exact .inr (Nat.le_refl _))
  obtain ⟨ga, hg⟩ : ∃ g, w4.heap.size = g := ⟨_, rfl⟩
  have HNas : Hid (ga ∉ [ps]) := Lib.hid (by have h1 := HQs_4.out.lt; simp only [List.mem_singleton]; omega)
  rw [hg] at ho ⊢
  have HOa_5 := Lib.hid ho
  have HOb_5 := Lib.hid (HOb_4.out.chg hc2 (by simp))
  have HQs_5 := Lib.hid (HQs_4.out.chg hc2 (by simp))
  have HC_5 := Lib.hid (HC_4.out.trans (hc2.mono (by simp)))
  clear ho hc hc2 hg
  have a9 : w5.cell? ⟨ga, 9, none⟩ = some (.int .i64 0) := HOa_5.out.cell 9
  have z1 := HOa_5.out.lt
  go_upto_region 9 with fail
  clear a9 z1
  go_wp2_with fail
  obtain ⟨L0, hL0⟩ : ∃ L0, lastsM A.bk 16 = L0 := ⟨_, rfl⟩
  have HL0 : Hid (L0.length = 16) := Lib.hid (by rw [← hL0]; simp)
  have HQ0 : Hid (Sqn w5 ps (onS A A.ad L0)) := Lib.hid (by rw [← hL0]; exact HQs_5.out)
  have HLS0 : Hid (∀ (V : World) (j : Nat) (hj : j < 16) (h : Sqn V ps (onS A A.ad L0)), Calls Try.prog 11 #[.pointer (some ⟨ps, 0, none⟩), .int .i64 (j : Int)] V fun e w' => e = .returned (lav (la L0 j)) ∧ Below V.heap.size V w') := Lib.hid (fun V j hj h => by
    have h2 := HLS.out V (j : Int) (by have := h; rw [← hL0] at this; exact this)
    rw [show (fstS A).L = L0 from hL0, lastQ_at L0 hj] at h2
    exact h2)
  obtain ⟨gl, hgl⟩ : ∃ g, w5.heap.size = g := ⟨_, rfl⟩
  refine wp_worldQ (fun w6 hw6 => ?_)
  have HOl_6 : Hid (Own w6 gl 51 ([] ++ lcs (lsV L0 0))) := Lib.hid (by
    have h := Own.new w5 51 (lcs (List.replicate 16 (0, 0)))
    have e : lsV L0 0 = List.replicate 16 (0, 0) := by simp [lsV]
    rw [e, hw6, ← hgl]
    exact h)
  have HOb_6 : Hid (Own w6 w0.heap.size 40 (toQ A).cs) := Lib.hid (by rw [hw6]; exact HOb_5.out.alloc _)
  have HQ_6 : Hid (Sqn w6 ps (onS A A.ad L0)) := Lib.hid (by rw [hw6]; exact Own.alloc HQ0.out _)
  have HC_6 : Hid (Chg [ps] w3 w6) := Lib.hid (by rw [hw6]; exact HC_5.out.alloc _)
  have HGL : Hid (w0.heap.size < gl ∧ ps < gl ∧ w3.heap.size ≤ gl) := Lib.hid ⟨by rw [← hgl]; exact HOb_5.out.lt, by rw [← hgl]; exact HQs_5.out.lt, by rw [← hgl]; exact HC_5.out.size⟩
  rw [hgl]
  clear hw6 hgl hL0
  go_loopw [10] (fun i wr => ∃ j : Nat, j ≤ 16 ∧ i = .int .i64 (j : Int) ∧ Hid (Own wr gl 51 ([] ++ lcs (lsV L0 j))) ∧ Hid (Own wr w0.heap.size 40 (toQ A).cs) ∧ Hid (Sqn wr ps (onS A A.ad L0)) ∧ Hid (Chg [ps] w3 wr)) (fun i _ => 16 - (intOf i).toNat)
  case atStart => exact ⟨0, Nat.zero_le _, rfl, HOl_6, HOb_6, HQ_6, HC_6⟩
  case round =>
    obtain ⟨j, hj, rfl, HOl_7, HOb_7, HQ_7, HC_7⟩ := hrel
    rename World => w7
    by_cases hlt : j < 16
    · have hj0 : (0 : Int) ≤ (j : Int) := by omega
      have hj1 : (j : Int) < 16 := by omega
      go_wp2_with fail
      refine (HLS0.out w7 j hlt HQ_7.out).mono ?_
      rintro e w8 ⟨rfl, hb⟩
      have ol := HOl_7.out.below hb HOl_7.out.lt
      have HOl_8 := Lib.hid ol
      have HOb_8 := Lib.hid (HOb_7.out.below hb HOb_7.out.lt)
      have HQ_8 := Lib.hid (HQ_7.out.below hb HQ_7.out.lt)
      have HC_8 := Lib.hid (HC_7.out.of_below hb)
      obtain ⟨k1, k2⟩ := ol.lapair (i := j) (by rw [lsV_length HL0.out hj]; exact hlt)
      have f1 := ol.frozen (j * 2)
      have f2 := ol.frozen (j * 2 + 1)
      simp only [List.length_nil, Nat.zero_add] at k1 k2
      have HST := Lib.hid (lsV_set HL0.out hlt)
      obtain ⟨l, hl⟩ : ∃ l, la L0 j = l := ⟨_, rfl⟩
      rw [hl] at HST ⊢
      have hz := ol.lt
      clear hb ol hl
      go_wp2_with fail
      have o9 := HOl_8.out.laset j l
      simp only [List.length_nil, Nat.zero_add] at o9
      rw [HST.out] at o9
      go_roundw
      case rel => exact ⟨j + 1, by omega, by go_num, Lib.hid o9, Lib.hid ((HOb_8.out.far (by have := HGL.out; show w0.heap.size ≠ gl; omega) _).far (by have := HGL.out; show w0.heap.size ≠ gl; omega) _), Lib.hid (Own.far (Own.far HQ_8.out (by have := HGL.out; show ps ≠ gl; omega) _) (by have := HGL.out; show ps ≠ gl; omega) _), Lib.hid ((HC_8.out.setCell (.inr HGL.out.2.2) _).setCell (.inr HGL.out.2.2) _)⟩
      case measure => simp [intOf]; omega
    · obtain rfl : j = 16 := by omega
      have c8 : w7.cell? ⟨w0.heap.size, 8, none⟩ = some (.int .u64 (A.ad : Int)) := HOb_7.out.cell 8
      have hz := HOb_7.out.lt
      have HOl_8 : Hid (Own w7 gl 51 ([] ++ lcs L0)) := Lib.hid (by have h := HOl_7.out; rw [lsV_full HL0.out] at h; exact h)
      go_wp2_with fail
      clear c8 hz
      go_loopw [11, 12] (fun t i wr => ∃ (k tl : Nat) (L : List La), k ≤ n ∧ k ≤ 60 ∧ t = .int .u64 (tl : Int) ∧ i = .int .i64 (k : Int) ∧ Hid (tl ≤ 1048576) ∧ Hid (L.length = 16) ∧ Hid (Own wr gl 51 ([] ++ lcs L)) ∧ Hid (Own wr w0.heap.size 40 (toQ A).cs) ∧ Hid (Sqn wr ps (onS A tl L)) ∧ Hid (Chg [ps] w3 wr)) (fun _ i _ => 60 - (intOf i).toNat)
      case atStart => exact ⟨0, A.ad, L0, Nat.zero_le _, Nat.zero_le _, rfl, rfl, Lib.hid HM.out.ad, HL0, HOl_8, HOb_7, HQ_7, HC_7⟩
      case round =>
        obtain ⟨k, tl, L, hkn, hk60, rfl, rfl, HTB, HLL, HOl_30, HOb_30, HQ_30, HC_30⟩ := hrel
        rename World => w30
        by_cases hlt : k < n
        · by_cases h60 : k < 60
          · have hk0 : (0 : Int) ≤ (k : Int) := by omega
            have hk1 : (k : Int) < (n : Int) := by omega
            have hk2 : (k : Int) < 60 := by omega
            obtain ⟨b0, off, hab, hb0, hcl⟩ := (HE.out.below (HIN.out w30 HC_30.out) (Nat.le_refl _)).ch (show 0 < M.length by have := HNN.out; omega)
            have e1 := hcl k (by have := HNN.out; omega)
            have HAX := Lib.hid (fun (V : World) (hc : Chg [ps] w3 V) => (HEI.out.below (HIN.out V hc) (Nat.le_refl _)) (ct M k) (ct_mem (by have := HNN.out; omega)))
            have HCF := Lib.hid (HEF.out.2 (ct M k) (ct_mem (by have := HNN.out; omega)))
            obtain ⟨sa, sc, st, hct⟩ : ∃ sa sc st, ct M k = ⟨sa, sc, st⟩ := ⟨_, _, _, rfl⟩
            rw [hct] at e1 HAX HCF
            simp only at e1 HAX HCF
            subst hab
            have hb1 : b0 < w30.heap.size := Nat.lt_of_lt_of_le hb0 (HIN.out w30 HC_30.out).size
            clear hcl hct hb0
            go_upto_region 17 with fail
            have HST : Hid (Own w30.drew w0.heap.size 40 (toQ A).cs ∧ w30.drew.cell? ⟨b0, off + k, none⟩ = some (.slice sa st.length sc) ∧ Own w30.drew gl 51 ([] ++ lcs L) ∧ Sqn w30.drew ps (onS A tl L) ∧ Chg [ps] w3 w30.drew) := Lib.hid ⟨HOb_30.out, e1, HOl_30.out, HQ_30.out, HC_30.out.drew⟩
            obtain ⟨gm, hgm⟩ : ∃ g, w30.heap.size = g := ⟨_, rfl⟩
            have HGM : Hid (w0.heap.size < gm ∧ ps < gm ∧ gl < gm ∧ w3.heap.size ≤ gm ∧ b0 < gm) := Lib.hid (by rw [← hgm]; exact ⟨HOb_30.out.lt, HQ_30.out.lt, HOl_30.out.lt, HC_30.out.size, hb1⟩)
            have HGN : Hid (w30.drew.heap.size = gm) := Lib.hid hgm
            clear e1 hb1 hgm
            refine wp_region_held_drew (S := (fun w' => Own w' w0.heap.size 40 (toQ A).cs ∧ w'.cell? ⟨b0, off + k, none⟩ = some (.slice sa st.length sc) ∧ Own w' gl 51 ([] ++ lcs L) ∧ Sqn w' ps (onS A tl L) ∧ Chg [ps] w3 w')) (by kernel_rfl) HST.out (fun hHeld => ?_)
            refine wpAnyH_take (i := 0) (v := ?_) rfl (by kernel_rfl) (by kernel_rfl) (by kernel_rfl) (fun _ _ _ h => h) (Or.inl ⟨by kernel_rfl, ?_⟩) hHeld ?_
            rotate_left
            · (intro w hSw; first | (go_simp; done) | (go_simp; with_reducible rfl))
            (try simp only [Act.put, List.getElem_toArray, List.getElem_cons_succ, List.getElem_cons_zero, List.setIfInBounds_toArray, List.set_cons_zero, List.set_cons_succ])
            refine wpAnyH_take (i := 1) (v := .agg #[.int .i64 A.fr.1, .int .i64 A.fr.2]) rfl (by kernel_rfl) (by kernel_rfl) (by kernel_rfl) (fun _ _ _ h => h) (Or.inl ⟨by kernel_rfl, ?_⟩) hHeld ?_
            · (intro w hSw; have c1 : w.cell? ⟨w0.heap.size, 1, none⟩ = some (.int .i64 A.fr.1) := hSw.1.cell 1; have c2 : w.cell? ⟨w0.heap.size, 2, none⟩ = some (.int .i64 A.fr.2) := hSw.1.cell 2; go_simp)
            (try simp only [Act.put, List.getElem_toArray, List.getElem_cons_succ, List.getElem_cons_zero, List.setIfInBounds_toArray, List.set_cons_zero, List.set_cons_succ])
            refine wpAnyH_take (i := 2) (v := ?_) rfl (by kernel_rfl) (by kernel_rfl) (by kernel_rfl) (fun _ _ _ h => h) (Or.inl ⟨by kernel_rfl, ?_⟩) hHeld ?_
            rotate_left
            · (intro w hSw; first | (go_simp; done) | (go_simp; with_reducible rfl))
            (try simp only [Act.put, List.getElem_toArray, List.getElem_cons_succ, List.getElem_cons_zero, List.setIfInBounds_toArray, List.set_cons_zero, List.set_cons_succ])
            refine wpAnyH_take (i := 3) (v := .agg #[.int .i64 2, .int .i64 0]) rfl (by kernel_rfl) (by kernel_rfl) (by kernel_rfl) (fun _ _ _ h => h) (Or.inl ⟨by kernel_rfl, ?_⟩) hHeld ?_
            · (intro w hSw; have c1 : w.cell? ⟨w0.heap.size, 3, none⟩ = some (.int .i64 2) := hSw.1.cell 3; have c2 : w.cell? ⟨w0.heap.size, 4, none⟩ = some (.int .i64 0) := hSw.1.cell 4; go_simp)
            (try simp only [Act.put, List.getElem_toArray, List.getElem_cons_succ, List.getElem_cons_zero, List.setIfInBounds_toArray, List.set_cons_zero, List.set_cons_succ])
            refine wpAnyH_take (i := 4) (v := ?_) rfl (by kernel_rfl) (by kernel_rfl) (by kernel_rfl) (fun _ _ _ h => h) (Or.inl ⟨by kernel_rfl, ?_⟩) hHeld ?_
            rotate_left
            · (intro w hSw; first | (go_simp; done) | (go_simp; with_reducible rfl))
            (try simp only [Act.put, List.getElem_toArray, List.getElem_cons_succ, List.getElem_cons_zero, List.setIfInBounds_toArray, List.set_cons_zero, List.set_cons_succ])
            refine wpAnyH_take (i := 5) (v := .int .u64 (A.ep : Int)) rfl (by kernel_rfl) (by kernel_rfl) (by kernel_rfl) (fun _ _ _ h => h) (Or.inl ⟨by kernel_rfl, ?_⟩) hHeld ?_
            · (intro w hSw; have c1 : w.cell? ⟨w0.heap.size, 7, none⟩ = some (.int .u64 (A.ep : Int)) := hSw.1.cell 7; go_simp)
            (try simp only [Act.put, List.getElem_toArray, List.getElem_cons_succ, List.getElem_cons_zero, List.setIfInBounds_toArray, List.set_cons_zero, List.set_cons_succ])
            refine wpAnyH_take (i := 6) (v := ?_) rfl (by kernel_rfl) (by kernel_rfl) (by kernel_rfl) (fun _ _ _ h => h) (Or.inl ⟨by kernel_rfl, ?_⟩) hHeld ?_
            rotate_left
            · (intro w hSw; first | (go_simp; done) | (go_simp; with_reducible rfl))
            (try simp only [Act.put, List.getElem_toArray, List.getElem_cons_succ, List.getElem_cons_zero, List.setIfInBounds_toArray, List.set_cons_zero, List.set_cons_succ])
            refine wpAnyH_take (i := 7) (v := ?_) rfl (by kernel_rfl) (by kernel_rfl) (by kernel_rfl) (fun _ _ _ h => h) (Or.inl ⟨by kernel_rfl, ?_⟩) hHeld ?_
            rotate_left
            · (intro w hSw; first | (go_simp; done) | (go_simp; with_reducible rfl))
            (try simp only [Act.put, List.getElem_toArray, List.getElem_cons_succ, List.getElem_cons_zero, List.setIfInBounds_toArray, List.set_cons_zero, List.set_cons_succ])
            refine wpAnyH_take (i := 8) (v := ?_) rfl (by kernel_rfl) (by kernel_rfl) (by kernel_rfl) (fun _ _ _ h => h) (Or.inl ⟨by kernel_rfl, ?_⟩) hHeld ?_
            rotate_left
            · (intro w hSw; first | (go_simp; done) | (go_simp; with_reducible rfl))
            (try simp only [Act.put, List.getElem_toArray, List.getElem_cons_succ, List.getElem_cons_zero, List.setIfInBounds_toArray, List.set_cons_zero, List.set_cons_succ])
            refine wpAnyH_take (i := 9) (v := .slice sa st.length sc) rfl (by kernel_rfl) (by kernel_rfl) (by kernel_rfl) (fun _ _ _ h => h) (Or.inl ⟨by kernel_rfl, ?_⟩) hHeld ?_
            · (intro w hSw; have c1 := hSw.2.1; go_simp)
            (try simp only [Act.put, List.getElem_toArray, List.getElem_cons_succ, List.getElem_cons_zero, List.setIfInBounds_toArray, List.set_cons_zero, List.set_cons_succ])
            refine wpAnyH_take (i := 10) (v := ?_) rfl (by kernel_rfl) (by kernel_rfl) (by kernel_rfl) (fun _ _ _ h => h) (Or.inl ⟨by kernel_rfl, ?_⟩) hHeld ?_
            rotate_left
            · (intro w hSw; first | (go_simp; done) | (go_simp; with_reducible rfl))
            (try simp only [Act.put, List.getElem_toArray, List.getElem_cons_succ, List.getElem_cons_zero, List.setIfInBounds_toArray, List.set_cons_zero, List.set_cons_succ])
            refine wpAnyH_ready (rs := [11]) (by kernel_rfl) (by simp) (AllReadyH.cons rfl (fun K hK => ?_) AllReadyH.nil)
            have hH := hHeld
            (go_simp; skip)
            refine hK.out _ _ (by exact ⟨hH.1.alloc _, cell_keep ((Below.refl _ _).alloc (Nat.le_refl _) _) hH.2.1 (by rw [HGN.out]; exact HGM.out.2.2.2.2), hH.2.2.1.alloc _, Own.alloc hH.2.2.2.1 _, hH.2.2.2.2.alloc _⟩) (fun hHq1 => ?_)
            clear hK K hH 
            have hzm := zm_new w30.drew; rw [HGN.out] at hzm
            (try simp only [Act.put, List.getElem_toArray, List.getElem_cons_succ, List.getElem_cons_zero, List.setIfInBounds_toArray, List.set_cons_zero, List.set_cons_succ])
            refine wpAnyH_ready (rs := [12]) (by kernel_rfl) (by simp) (AllReadyH.cons rfl (fun K hK => ?_) AllReadyH.nil)
            have hH := hHq1
            (refine wp_storeMgQ (.tmp 13) (.tmp 108) rfl gm (by rw [← HGN.out]; rfl) (tkM 9 A.fr 0 A.ep sa st sc) rfl zmT.cs hzm rfl ?_; intro w31 ho31 hc31)
            refine hK.out _ _ (by exact ⟨hH.1.chg hc31 (by have := HGM.out; simp; omega), hc31.cell hH.2.1 (by have := HGM.out; simp; omega), hH.2.2.1.chg hc31 (by have := HGM.out; simp; omega), hH.2.2.2.1.chg hc31 (by have := HGM.out; simp; omega), hH.2.2.2.2.then hc31 (fun x hx => by have := HGM.out; simp only [List.mem_singleton] at hx; subst hx; exact .inr this.2.2.2.1)⟩) (fun hHq2 => ?_)
            clear hK K hH hHq1
            (try simp only [Act.put, List.getElem_toArray, List.getElem_cons_succ, List.getElem_cons_zero, List.setIfInBounds_toArray, List.set_cons_zero, List.set_cons_succ])
            refine wpAnyH_done (by kernel_rfl) ?_ _
            have hEnd := hHq2
            have HEV := Lib.hid hEnd
            have HOm_31 := Lib.hid ho31
            clear hEnd hHeld ho31 hc31 hzm
            go_upto_region 18 with fail
            rw [show w30.heap.size = gm from HGN.out]
            have HOl_31 := Lib.hid HEV.out.2.2.1
            have HOb_31 := Lib.hid HEV.out.1
            have HQ_31 := Lib.hid HEV.out.2.2.2.1
            have HC_31 := Lib.hid HEV.out.2.2.2.2
            obtain ⟨r, hr⟩ : ∃ r, stOk st = r := ⟨_, rfl⟩
            have HRM : Hid (∀ (V : World) (hc : Chg [ps] w3 V), Calls Try.prog 7 #[.agg (tkM 9 A.fr 0 A.ep sa st sc).cs.toArray] V fun e w' => e = .returned (.bool r) ∧ Below V.heap.size V w') := Lib.hid (fun V hc => by
              have h2 := mright_any (tkM 9 A.fr 0 A.ep sa st sc) w0.heap.size V (tkM_in (HAX.out V hc)) (HIN.out V hc).size (tkM_fit HCF.out)
              rw [show mright (tkM 9 A.fr 0 A.ep sa st sc).x = r from (tkM_right (.inl rfl) HPF.out (by omega) HM.out.ep).trans hr] at h2
              exact h2)
            have HRR := Lib.hid hr
            clear hr
            go_wp2_with (refine wpList_loadMg rfl (.tmp 13) rfl gm rfl (tkM 9 A.fr 0 A.ep sa st sc) HOm_31.out ?_)
            refine (HRM.out w31 HC_31.out).mono ?_
            rintro e w32 ⟨rfl, hb⟩
            have HOm_32 := Lib.hid (HOm_31.out.below hb HOm_31.out.lt)
            have HOl_32 := Lib.hid (HOl_31.out.below hb HOl_31.out.lt)
            have HOb_32 := Lib.hid (HOb_31.out.below hb HOb_31.out.lt)
            have HQ_32 := Lib.hid (HQ_31.out.below hb HQ_31.out.lt)
            have HC_32 := Lib.hid (HC_31.out.of_below hb)
            clear hb
            cases r with
            | false =>
              go_wp2_with fail
              go_roundw
              case rel =>
                refine ⟨_, _, _, _, _, _, _, _, _, _, _, _, _, _, _, _, _, _, _, _, _, _, _, _, _, _, _, _, _, _, _, _, _, _, _, _, _, _, _, _, _, _, _, _, _, _, _, _, _, _, _, _, _, _, _, _, _, _, _, _, _, _, _, _, _, _, _, _, _, _, _, _, _, _, _, _, _, _, _, _, _, _, _, _, _, _, _, _, _, _, _, _, _, _, _, _, _, _, _, _, _, _, _, _, _, _, _, _, _, _, _, _, _, _, _, _, _, _, _, ?rel2, rfl⟩
                exact ⟨k + 1, tl, L, by omega, by omega, rfl, by go_num, HTB, HLL, HOl_32, HOb_32, HQ_32, HC_32⟩
              case measure => simp [intOf]; omega
            | true =>
            have HROW := Lib.hid (fun (V : World) (hc : Chg [ps] w3 V) => And.intro ((HAX.out V hc).mono (HIN.out V hc).size) ((HAX.out V hc).apart (l := [ps]) (HIN.out V hc).size (by have := HPW.out; simp only [List.mem_singleton, forall_eq]; omega)))
            by_cases htl : tl = 1048576
            · have HF := Lib.hid htl
              have e2 : decide ((tl : Int) ≥ 1048576) = true := by simp; omega
              have e3 : decide ((1048576 : Int) ≤ (tl : Int)) = true := by simp; omega
              clear htl
              go_wp2_with (refine wpList_loadMg rfl (.tmp 13) rfl gm rfl (tkM 9 A.fr 0 A.ep sa st sc) HOm_32.out ?_)
              refine (HSZ.out w32 tl L HLL.out HF.out HQ_32.out sa st sc HRR.out (HROW.out w32 HC_32.out).1 (HROW.out w32 HC_32.out).2).mono ?_
              rintro e w33 ⟨rfl, hs, hc⟩
              have HQ_33 := Lib.hid hs
              have HC_33 := Lib.hid (HC_32.out.trans hc)
              clear hs hc
              go_wp2_with (refine wpList_storeMg rfl (.tmp 14) (.tmp 116) rfl w33.heap.size rfl (ansT (tkM 9 A.fr 0 A.ep sa st sc) 152) rfl zmT.cs (zm_new w33) rfl ?_)
              intro w34 ho hc
              have hc2 : Chg [] w33 w34 := ((Chg.refl [] w33).alloc _).then hc (fun x hx => by simp only [List.mem_singleton] at hx; subst hx; exact .inr (Nat.le_refl _))
              obtain ⟨gt, hgt⟩ : ∃ g, w33.heap.size = g := ⟨_, rfl⟩
              rw [hgt] at ho ⊢
              have HOt_34 := Lib.hid ho
              have HQ_34 := Lib.hid (HQ_33.out.chg hc2 (by simp))
              have HC_34 := Lib.hid (HC_33.out.trans (hc2.mono (by simp)))
              clear ho hc hc2 hgt
              go_wp2_with fail
              refine (HAL.out w34).mono ?_
              rintro z w35 ⟨rfl, hb⟩
              have t9 : w35.cell? ⟨gt, 9, none⟩ = some (.int .i64 152) := (HOt_34.out.below hb HOt_34.out.lt).cell 9
              have z3 := Nat.lt_of_lt_of_le HOt_34.out.lt hb.size
              have HQ_35 := Lib.hid (HQ_34.out.below hb HQ_34.out.lt)
              have HB35 := Lib.hid ((HIN.out _ HC_34.out).trans (hb.mono (HIN.out _ HC_34.out).size))
              clear hb
              go_wp2_with fail
              refine (HTL.out w35 tl L HQ_35.out).mono ?_
              rintro z w36 ⟨rfl, rfl⟩
              go_wp2_with fail
              go_ret
              exact ⟨rfl, HB35.out⟩
            have HTL1 : Hid (tl < 1048576) := Lib.hid (by have := HTB.out; omega)
            have e2 : decide ((tl : Int) ≥ 1048576) = false := by have := HTL1.out; simp; omega
            have e3 : decide ((1048576 : Int) ≤ (tl : Int)) = false := by have := HTL1.out; simp; omega
            clear htl
            go_wp2_with (refine wpList_loadMg rfl (.tmp 13) rfl gm rfl (tkM 9 A.fr 0 A.ep sa st sc) HOm_32.out ?_)
            refine (HSY.out w32 tl L HLL.out HTL1.out HQ_32.out sa st sc HRR.out (HROW.out w32 HC_32.out).1 (HROW.out w32 HC_32.out).2).mono ?_
            rintro e w33 ⟨a1, c1, a2, c2, rfl, hs, hl, hc⟩
            have HQ_33 : Hid (Sqn w33 ps (onS A (tl + 1) (pushS tl st L))) := Lib.hid hs
            have HC_33 := Lib.hid (HC_32.out.trans hc)
            have HOm_33 := Lib.hid (HOm_32.out.chg hc (by have := HGM.out; simp; omega))
            have HOl_33 := Lib.hid (HOl_32.out.chg hc (by have := HGL.out; simp; omega))
            have HOb_33 := Lib.hid (HOb_32.out.chg hc HNbs.out)
            have HLB_33 := Lib.hid hl
            clear hs hc hl
            obtain ⟨R, hR⟩ : ∃ R, tokT (onS A tl L) (tkM 9 A.fr (onS A tl L).n (onS A tl L).e sa st sc) a1 c1 a2 c2 = R := ⟨_, rfl⟩
            rw [hR]
            have HRE := Lib.hid hR
            clear hR
            go_wp2_with (refine wpList_storeMg rfl (.tmp 14) (.tmp 116) rfl w33.heap.size rfl R rfl zmT.cs (zm_new w33) rfl ?_)
            intro w34 ho hc
            have hc2 : Chg [] w33 w34 := ((Chg.refl [] w33).alloc _).then hc (fun x hx => by simp only [List.mem_singleton] at hx; subst hx; exact .inr (Nat.le_refl _))
            obtain ⟨gt, hgt⟩ : ∃ g, w33.heap.size = g := ⟨_, rfl⟩
            have HGT : Hid (gm < gt) := Lib.hid (by rw [← hgt]; exact HOm_33.out.lt)
            rw [hgt] at ho ⊢
            have HOt_34 := Lib.hid ho
            have HQ_34 := Lib.hid (HQ_33.out.chg hc2 (by simp))
            have HC_34 := Lib.hid (HC_33.out.trans (hc2.mono (by simp)))
            have HOm_34 := Lib.hid (HOm_33.out.chg hc2 (by simp))
            have HOl_34 := Lib.hid (HOl_33.out.chg hc2 (by simp))
            have HOb_34 := Lib.hid (HOb_33.out.chg hc2 (by simp))
            have HLB_34 := Lib.hid (HLB_33.out.chgQ hc2 (by simp))
            have hst4 := (stOk_iff HRR.out).1
            obtain ⟨m, hm⟩ : ∃ m, st.length = m := ⟨_, rfl⟩
            have HMM := Lib.hid hm
            have t9 : w34.cell? ⟨gt, 9, none⟩ = some (.int .i64 0) := by rw [ho.cell 9, ← HRE.out]; rfl
            have t8 : w34.cell? ⟨gt, 8, none⟩ = some (.int .u64 (tl : Int)) := by rw [ho.cell 8, ← HRE.out]; rfl
            have t14 : w34.cell? ⟨gt, 14, none⟩ = some (.slice a2 m c2) := by
              rw [ho.cell 14, ← HRE.out, ← hm]
              show some (Value.slice a2 (backsL L st).length c2) = _
              rw [backsL_length]
            have m13 : w34.cell? ⟨gm, 13, none⟩ = some (.slice sa m sc) := by rw [← hm]; exact HOm_34.out.cell 13
            have z1 := ho.lt
            have z2 := HOm_34.out.lt
            rw [hm] at HLB_34
            clear ho hc hc2 hgt hm
            go_upto_region 24 with fail
            clear e2 e3 t9 t8 t14 m13 z1 z2
            go_wp2_with fail
            go_loopw [16] (fun u wr => ∃ q : Nat, q ≤ m ∧ u = .int .i64 (q : Int) ∧ Hid (Own wr gl 51 ([] ++ lcs (pushS tl (st.take q) L))) ∧ Hid (Own wr w0.heap.size 40 (toQ A).cs) ∧ Hid (Own wr gm 40 (tkM 9 A.fr 0 A.ep sa st sc).cs) ∧ Hid (Own wr gt 40 R.cs) ∧ Hid (Sqn wr ps (onS A (tl + 1) (pushS tl st L))) ∧ Hid (Lb wr w32.heap.size (.slice a2 m c2) (backsL L st)) ∧ Hid (Chg [ps] w3 wr)) (fun u _ => m - (intOf u).toNat)
            case atStart => exact ⟨0, Nat.zero_le _, rfl, HOl_34, HOb_34, HOm_34, HOt_34, HQ_34, HLB_34, HC_34⟩
            case round =>
              obtain ⟨q, hq, rfl, HOl_40, HOb_40, HOm_40, HOt_40, HQ_40, HLB_40, HC_40⟩ := hrel
              rename World => w40
              have m13 : w40.cell? ⟨gm, 13, none⟩ = some (.slice sa m sc) := by rw [← HMM.out]; exact HOm_40.out.cell 13
              have z2 := HOm_40.out.lt
              by_cases hqm : q < m
              · have hq0 : (0 : Int) ≤ (q : Int) := by omega
                have hq1 : (q : Int) < (m : Int) := by omega
                have hqs : q < st.length := by rw [HMM.out]; exact hqm
                obtain ⟨b1, o1, hb1, _, hc1⟩ := (HAX.out w40 HC_40.out).i64 (show 0 < st.length by omega)
                have e4 := hc1 q hqs
                have hur := (stOk_iff HRR.out).2 (st.getD q 0) (by
                  have : st.getD q 0 = st[q] := by simp [List.getD, hqs]
                  rw [this]; exact List.getElem_mem _)
                have hlt := la_take (a := tl) HLL.out HRR.out hqs
                have hbk := backsL_at (L := L) hqs
                have HPT := Lib.hid (pushS_take (a := tl) (L := L) hqs)
                generalize st.getD q 0 = s at *
                obtain ⟨i, rfl⟩ := Int.eq_ofNat_of_zero_le hur.1
                rw [Int.toNat_natCast] at hlt hbk HPT
                have hiL : i < (pushS tl (st.take q) L).length := by rw [pushS_length, HLL.out]; omega
                obtain ⟨p1, p2⟩ := HOl_40.out.lapair hiL
                have f1 := HOl_40.out.frozen (i * 2)
                have f2 := HOl_40.out.frozen (i * 2 + 1)
                have hzl := HOl_40.out.lt
                simp only [List.length_nil, Nat.zero_add] at p1 p2
                rw [hlt] at p1 p2 HPT
                obtain ⟨a5, c5, hv5, hr5, -, -⟩ := HLB_40.out.form
                injection hv5 with hv6 hv7 hv8
                subst hv6
                clear hv7 hv8
                obtain ⟨b2, o2, hb2, -, hc2⟩ := hr5.bk (by rw [backsL_length]; omega)
                obtain ⟨v1, v2, v3⟩ := hc2 q (by rw [backsL_length]; exact hqs)
                rw [hbk] at v1 v2 v3
                obtain ⟨l, hl⟩ : ∃ l, la L i = l := ⟨_, rfl⟩
                rw [hl] at p1 p2 v2 v3 HPT
                have t14 : w40.cell? ⟨gt, 14, none⟩ = some (.slice (some ⟨b2, o2, none⟩) m c2) := by
                  rw [HOt_40.out.cell 14, ← HRE.out, ← HMM.out, ← hb2]
                  show some (Value.slice a2 (backsL L st).length c2) = _
                  rw [backsL_length]
                have z3 := HOt_40.out.lt
                have hi0 : (0 : Int) ≤ (i : Int) := by omega
                have hi1 : (i : Int) < 16 := by omega
                have hneq : ∀ w, (binOp .neq 50 (.agg #[.int .u64 (l.1 : Int), .int .u64 (l.2 : Int)]) (.agg #[.int .u64 (l.1 : Int), .int .u64 (l.2 : Int)])).run Try.prog w = .ok (.bool false) w := fun w => (neq_two l.1 l.2 l.1 l.2 w).trans (by simp)
                rw [hb1] at m13
                clear hc1 hur hlt hbk hiL hr5 hc2 hl hb2 hb1
                go_wp2_with fail
                go_quiet (fail)
                go_wp2_with fail
                have ow := (show Own (w40.drewN nq) gl 51 ([] ++ lcs (pushS tl (st.take q) L)) from HOl_40.out).laset i (pushA l tl)
                simp only [List.length_nil, Nat.zero_add] at ow
                rw [← HPT.out] at ow
                have cv : Chg [gl] w40 (((w40.drewN nq).setCell ⟨gl, i * 2, none⟩ (.int .u64 (tl : Int))).setCell ⟨gl, i * 2 + 1, none⟩ (.int .u64 (l.1 : Int))) := (((Chg.refl [gl] w40).drewN nq).setCell (.inl (by simp)) _).setCell (.inl (by simp)) _
                have h1 := HGL.out
                have h2 := HGM.out
                have h3 := HGT.out
                refine ⟨⟨q + 1, by omega, by go_num, Lib.hid ow, Lib.hid (HOb_40.out.chg cv (by simp; omega)), Lib.hid (HOm_40.out.chg cv (by simp; omega)), Lib.hid (HOt_40.out.chg cv (by simp; omega)), Lib.hid (HQ_40.out.chg cv (by simp; omega)), Lib.hid (HLB_40.out.chgQ cv (HOl_40.out.notQ (by decide))), Lib.hid (HC_40.out.then cv (fun x hx => by simp only [List.mem_singleton] at hx; subst hx; exact .inr h1.2.2))⟩, by simp [intOf]; omega⟩
              · obtain rfl : q = m := by omega
                have HOl_41 : Hid (Own w40 gl 51 ([] ++ lcs (pushS tl st L))) := Lib.hid (by
                  have h := HOl_40.out
                  rw [List.take_of_length_le (by rw [HMM.out]; exact Nat.le_refl _)] at h
                  exact h)
                have hw1 : IntKind.u64.wrap ((tl : Int) + 1) = ((tl + 1 : Nat) : Int) := by
                  rw [show ((tl : Int) + 1) = ((tl + 1 : Nat) : Int) by omega]
                  exact wrap_u64_nat _ (by have := HTL1.out; omega)
                have HLP : Hid ((pushS tl st L).length = 16) := Lib.hid (by rw [pushS_length]; exact HLL.out)
                go_wp2_with fail
                go_roundw
                case rel =>
                  refine ⟨_, _, _, _, _, _, _, _, _, _, _, _, _, _, _, _, _, _, _, _, _, _, _, _, _, _, _, _, _, _, _, _, _, _, _, _, _, _, _, _, _, _, _, _, _, _, _, _, _, _, _, _, _, _, _, _, _, _, _, _, _, _, _, _, _, _, _, _, _, _, _, _, _, _, _, _, _, _, _, _, _, _, _, _, _, _, _, _, _, _, _, _, _, _, _, _, _, _, _, _, _, _, _, _, _, _, _, _, _, _, _, _, _, _, _, _, _, _, _, ?rel3, rfl⟩
                  exact ⟨k + 1, tl + 1, pushS tl st L, by omega, by omega, by go_num, by go_num, Lib.hid (by have := HTL1.out; omega), HLP, HOl_41, HOb_40, HQ_40, HC_40⟩
                case measure => simp [intOf]; omega
          · obtain rfl : k = 60 := by omega
            have hk1 : ((60 : Nat) : Int) < (n : Int) := by omega
            go_wp2_with fail
            refine (HAL.out w30).mono ?_
            rintro z w50 ⟨rfl, hb⟩
            have HQ_50 := Lib.hid (HQ_30.out.below hb HQ_30.out.lt)
            have HB50 := Lib.hid ((HIN.out _ HC_30.out).trans (hb.mono (HIN.out _ HC_30.out).size))
            clear hb
            go_wp2_with fail
            refine (HTL.out w50 tl L HQ_50.out).mono ?_
            rintro z w51 ⟨rfl, rfl⟩
            go_wp2_with fail
            go_ret
            exact ⟨rfl, HB50.out⟩
        · have hk1 : ¬ ((k : Int) < (n : Int)) := by omega
          go_wp2_with fail
          refine (HAL.out w30).mono ?_
          rintro z w50 ⟨rfl, hb⟩
          have HQ_50 := Lib.hid (HQ_30.out.below hb HQ_30.out.lt)
          have HB50 := Lib.hid ((HIN.out _ HC_30.out).trans (hb.mono (HIN.out _ HC_30.out).size))
          clear hb
          go_wp2_with fail
          refine (HTL.out w50 tl L HQ_50.out).mono ?_
          rintro z w51 ⟨rfl, rfl⟩
          go_wp2_with fail
          go_ret
          exact ⟨rfl, HB50.out⟩
end Go.Proofs.Ytdblplkaobeimaa
