/-
  What a sequencer answers to a Begin: begin of package sequencer, by its contract. No claim of its own.
-/
import Derived.Test.YtdblplkaobeimaaGc13
namespace Go.Proofs.Ytdblplkaobeimaa
open Go.RowKit Go.Deep Go.Shelf
set_option linter.unusedVariables false
set_option linter.unusedSimpArgs false

theorem there_pre {w : World} {b : Nat} {t : TypeId} {pre : List Value} {L : List La} {off : Nat} (h : Own w b t (pre ++ lcs L)) (hL : L.length = 16) (hp : pre.length = off) : w.there b off 32 := fun j hj => by
  subst hp
  rw [h.cell (pre.length + j), List.getElem?_append_right (by omega), Nat.add_sub_cancel_left]
  exact ⟨by simp [hL, hj], h.frozen _⟩
/-- the answer to a Begin, and the state behind it -/
def begT (S : SqS) (A : MgT) : MgT := if A.ep ≤ S.e then refT S A else if before ⟨0, [], A.bk⟩ A.ad then ansT A 0 else ansT A 151
def begS (S : SqS) (A : MgT) : SqS := if A.ep ≤ S.e then S else if before ⟨0, [], A.bk⟩ A.ad then ⟨S.n, A.ep, A.ad, lastsM A.bk 16⟩ else S
set_option maxHeartbeats 8000000 in
set_option maxRecDepth 100000 in
theorem begin_any (S : SqS) (hSL : S.L.length = 16) (p : Nat) (A : MgT) (w0 : World) (ho : Sqn w0 p S) (hin : MgIn w0 w0.heap.size A) (hk : A.bk.length ≤ 1000000) :
    Calls Try.prog 24 #[.pointer (some ⟨p, 0, none⟩), .agg A.cs.toArray] w0 fun e w' => e = .returned (.agg (begT S A).cs.toArray) ∧ Sqn w' p (begS S A) ∧ Chg [p] w0 w' := by
  obtain ⟨W, HWW, HO1, HO2, HC⟩ := two_new A w0
  have HS := Lib.hid (ho.chg HC.out (by simp))
  have HAN := Lib.hid (fun (V : World) (e : Int) => answer_any A e V)
  have HRF := Lib.hid (fun (V : World) (h : Sqn V p S) => refuse_any S p A V h)
  have HBF := Lib.hid (fun (V : World) (hc : Chg [] w0 V) => before_any ⟨0, [], A.bk⟩ none 0 0 A.ka A.kc w0.heap.size A.ad V (hin.bk.below hc.low (Nat.le_refl _)) hc.size hk)
  have HLO := Lib.hid (fun (V : World) (hc : Chg [] w0 V) => lastsOf_any A.bk A.ka A.kc w0.heap.size V (hin.bk.below hc.low (Nat.le_refl _)) hc.size hk)
  have HPG : Hid (p < w0.heap.size) := Lib.hid ho.lt
  have HSL := Lib.hid hSL
  have s1 := HS.out.c1
  have hz := HO1.out.lt
  have hp := HS.out.lt
  have m7 := HO1.out.cell 7
  have m8 := HO1.out.cell 8
  have m14 := HO1.out.cell 14
  simp [MgT.cs] at m7 m8 m14
  simp only at HBF
  unfold begT begS
  clear ho hin hk hSL
  rcases Decidable.em (A.ep ≤ S.e) with h1 | h1
  · simp only [if_pos h1]
    have e1 : decide (A.ep ≤ S.e) = true := by simpa using h1
    have e2 : decide ((A.ep : Int) ≤ (S.e : Int)) = true := by simp; omega
    clear h1
    go_enter Try.func24, Try.ntmps24
    go_upto_region 1 with fail
    rw [HWW.out]
    go_region
    clear e1 e2 m7 m8 m14 s1 hz hp
    go_wp2_with (refine wpList_loadMg rfl (.tmp 3) rfl w0.heap.size rfl A (show Own W.drew w0.heap.size 40 A.cs from HO1.out) ?_)
    refine (HRF.out W.drew HS.out).mono ?_
    rintro e w2 ⟨rfl, hb⟩
    have HC2 := Lib.hid (HC.out.drew.of_below hb)
    have HO22 := Lib.hid (Own.below (w := W.drew) (show Own W.drew (w0.heap.size + 1) 40 zmT.cs from HO2.out) hb HO2.out.lt)
    have HS2 := Lib.hid (Sqn.below (w := W.drew) (show Sqn W.drew p S from HS.out) hb HS.out.lt)
    clear hb
    go_wp2_with (refine wpList_storeMg rfl (.tmp 4) (.tmp 15) rfl (w0.heap.size + 1) rfl (refT S A) rfl zmT.cs HO22.out rfl ?_)
    intro w5 ho hc
    have hS5 := HS2.out.chg hc (by have := HPG.out; simp; omega)
    have hc5 := HC2.out.then hc (fun x hx => by simp only [List.mem_singleton] at hx; subst hx; exact .inr (Nat.le_succ _))
    go_wp2_with fail
    refine bodyPost_ret (results_cell_row Try.results24 _ _ (w0.heap.size + 1) 40 _ (0, 0) _ rfl ho Try.underlying40 rfl (by kernel_rfl)) rfl ?_
    exact ⟨rfl, hS5, hc5.mono (by simp)⟩
  · simp only [if_neg h1]
    have e1 : decide (A.ep ≤ S.e) = false := by simpa using h1
    have e2 : decide ((A.ep : Int) ≤ (S.e : Int)) = false := by simp; omega
    obtain ⟨t, ht⟩ : ∃ t, before ⟨0, [], A.bk⟩ A.ad = t := ⟨_, rfl⟩
    rw [ht] at HBF ⊢
    clear h1 ht
    go_enter Try.func24, Try.ntmps24
    go_upto_region 1 with fail
    rw [HWW.out]
    go_region
    clear e1 e2
    go_wp2_with fail
    refine (HBF.out W.drew HC.out.drew).mono ?_
    rintro e w2 ⟨rfl, hb⟩
    have HC2 := Lib.hid (HC.out.drew.of_below hb)
    have HO12 := Lib.hid (Own.below (w := W.drew) (show Own W.drew w0.heap.size 40 A.cs from HO1.out) hb HO1.out.lt)
    have HO22 := Lib.hid (Own.below (w := W.drew) (show Own W.drew (w0.heap.size + 1) 40 zmT.cs from HO2.out) hb HO2.out.lt)
    have HS2 := Lib.hid (Sqn.below (w := W.drew) (show Sqn W.drew p S from HS.out) hb HS.out.lt)
    clear hb m7 m8 m14 s1 hz hp
    cases t with
    | false =>
      simp only [Bool.false_eq_true, if_false]
      go_wp2_with (refine wpList_loadMg rfl (.tmp 3) rfl w0.heap.size rfl A HO12.out ?_)
      refine (HAN.out w2 151).mono ?_
      rintro e w3 ⟨rfl, hb⟩
      have HC3 := Lib.hid (HC2.out.of_below hb)
      have HO23 := Lib.hid (HO22.out.below hb HO22.out.lt)
      have HS3 := Lib.hid (HS2.out.below hb HS2.out.lt)
      clear hb
      go_wp2_with (refine wpList_storeMg rfl (.tmp 4) (.tmp 25) rfl (w0.heap.size + 1) rfl (ansT A 151) rfl zmT.cs HO23.out rfl ?_)
      intro w5 ho hc
      have hS5 := HS3.out.chg hc (by have := HPG.out; simp; omega)
      have hc5 := HC3.out.then hc (fun x hx => by simp only [List.mem_singleton] at hx; subst hx; exact .inr (Nat.le_succ _))
      go_wp2_with fail
      refine bodyPost_ret (results_cell_row Try.results24 _ _ (w0.heap.size + 1) 40 _ (0, 0) _ rfl ho Try.underlying40 rfl (by kernel_rfl)) rfl ?_
      exact ⟨rfl, hS5, hc5.mono (by simp)⟩
    | true =>
    simp only [if_true]
    go_upto_region 5 with fail
    have HST : Hid (Own w2.drew w0.heap.size 40 A.cs ∧ Own w2.drew (w0.heap.size + 1) 40 zmT.cs ∧ Chg [p] w0 w2.drew) := Lib.hid ⟨HO12.out, HO22.out, HC2.out.drew.mono (by simp)⟩
    have HLQ := Lib.hid (HLO.out w2.drew HC2.out.drew)
    have HGP : Hid (w0.heap.size ≠ p ∧ w0.heap.size + 1 ≠ p) := Lib.hid (by have := HPG.out; omega)
    have hp : p < w2.heap.size := HS2.out.lt
    refine wp_region_held_drew (S := (fun w' => Own w' w0.heap.size 40 A.cs ∧ Own w' (w0.heap.size + 1) 40 zmT.cs ∧ Chg [p] w0 w')) (by kernel_rfl) HST.out (fun hHeld => ?_)
    refine wpAnyH_take (i := 0) (v := ?_) rfl (by kernel_rfl) (by kernel_rfl) (by kernel_rfl) (fun _ _ _ h => h) (Or.inl ⟨by kernel_rfl, ?_⟩) hHeld ?_
    rotate_left
    · (intro w hSw; first | (go_simp; done) | (go_simp; with_reducible rfl))
    (try simp only [Act.put, List.getElem_toArray, List.getElem_cons_succ, List.getElem_cons_zero, List.setIfInBounds_toArray, List.set_cons_zero, List.set_cons_succ])
    refine wpAnyH_take (i := 1) (v := ?_) rfl (by kernel_rfl) (by kernel_rfl) (by kernel_rfl) (fun _ _ _ h => h) (Or.inl ⟨by kernel_rfl, ?_⟩) hHeld ?_
    rotate_left
    · (intro w hSw; first | (go_simp; done) | (go_simp; with_reducible rfl))
    (try simp only [Act.put, List.getElem_toArray, List.getElem_cons_succ, List.getElem_cons_zero, List.setIfInBounds_toArray, List.set_cons_zero, List.set_cons_succ])
    refine wpAnyH_take (i := 2) (v := ?_) rfl (by kernel_rfl) (by kernel_rfl) (by kernel_rfl) (fun _ _ _ h => h) (Or.inl ⟨by kernel_rfl, ?_⟩) hHeld ?_
    rotate_left
    · (intro w hSw; first | (go_simp; done) | (go_simp; with_reducible rfl))
    (try simp only [Act.put, List.getElem_toArray, List.getElem_cons_succ, List.getElem_cons_zero, List.setIfInBounds_toArray, List.set_cons_zero, List.set_cons_succ])
    refine wpAnyH_take (i := 3) (v := ?_) rfl (by kernel_rfl) (by kernel_rfl) (by kernel_rfl) (fun _ _ _ h => h) (Or.inl ⟨by kernel_rfl, ?_⟩) hHeld ?_
    rotate_left
    · (intro w hSw; first | (go_simp; done) | (go_simp; with_reducible rfl))
    (try simp only [Act.put, List.getElem_toArray, List.getElem_cons_succ, List.getElem_cons_zero, List.setIfInBounds_toArray, List.set_cons_zero, List.set_cons_succ])
    refine wpAnyH_take (i := 4) (v := .int .u64 (A.ep : Int)) rfl (by kernel_rfl) (by kernel_rfl) (by kernel_rfl) (fun _ _ _ h => h) (Or.inl ⟨by kernel_rfl, ?_⟩) hHeld ?_
    · (intro w hSw; have c := hSw.1.cell 7; simp [MgT.cs] at c; go_simp)
    (try simp only [Act.put, List.getElem_toArray, List.getElem_cons_succ, List.getElem_cons_zero, List.setIfInBounds_toArray, List.set_cons_zero, List.set_cons_succ])
    refine wpAnyH_take (i := 5) (v := ?_) rfl (by kernel_rfl) (by kernel_rfl) (by kernel_rfl) (fun _ _ _ h => h) (Or.inl ⟨by kernel_rfl, ?_⟩) hHeld ?_
    rotate_left
    · (intro w hSw; first | (go_simp; done) | (go_simp; with_reducible rfl))
    (try simp only [Act.put, List.getElem_toArray, List.getElem_cons_succ, List.getElem_cons_zero, List.setIfInBounds_toArray, List.set_cons_zero, List.set_cons_succ])
    refine wpAnyH_take (i := 6) (v := .int .u64 (A.ad : Int)) rfl (by kernel_rfl) (by kernel_rfl) (by kernel_rfl) (fun _ _ _ h => h) (Or.inl ⟨by kernel_rfl, ?_⟩) hHeld ?_
    · (intro w hSw; have c := hSw.1.cell 8; simp [MgT.cs] at c; go_simp)
    (try simp only [Act.put, List.getElem_toArray, List.getElem_cons_succ, List.getElem_cons_zero, List.setIfInBounds_toArray, List.set_cons_zero, List.set_cons_succ])
    refine wpAnyH_take (i := 7) (v := ?_) rfl (by kernel_rfl) (by kernel_rfl) (by kernel_rfl) (fun _ _ _ h => h) (Or.inl ⟨by kernel_rfl, ?_⟩) hHeld ?_
    rotate_left
    · (intro w hSw; first | (go_simp; done) | (go_simp; with_reducible rfl))
    (try simp only [Act.put, List.getElem_toArray, List.getElem_cons_succ, List.getElem_cons_zero, List.setIfInBounds_toArray, List.set_cons_zero, List.set_cons_succ])
    refine wpAnyH_take (i := 8) (v := .slice A.ka A.bk.length A.kc) rfl (by kernel_rfl) (by kernel_rfl) (by kernel_rfl) (fun _ _ _ h => h) (Or.inl ⟨by kernel_rfl, ?_⟩) hHeld ?_
    · (intro w hSw; have c := hSw.1.cell 14; simp [MgT.cs] at c; go_simp)
    (try simp only [Act.put, List.getElem_toArray, List.getElem_cons_succ, List.getElem_cons_zero, List.setIfInBounds_toArray, List.set_cons_zero, List.set_cons_succ])
    refine wpAnyH_ready (rs := [9]) (by kernel_rfl) (by simp) (AllReadyH.cons rfl (fun K hK => ?_) AllReadyH.nil)
    have hH := hHeld
    (go_simp; go_at_call 14; refine HLQ.out.mono ?_; rintro e w6 ⟨rfl, hb6⟩)
    refine hK.out _ _ (by exact ⟨hH.1.below hb6 hH.1.lt, hH.2.1.below hb6 hH.2.1.lt, hH.2.2.of_below hb6⟩) (fun hHq1 => ?_)
    clear hK K hH 
    have s6 := Sqn.below (w := w2.drew) (show Sqn w2.drew p S from HS2.out) hb6 HS2.out.lt; have k1 := s6.c1; have k2 := s6.c2; have f1 := Own.frozen s6 1; have f2 := Own.frozen s6 2; have hp6 := s6.lt
    (try simp only [Act.put, List.getElem_toArray, List.getElem_cons_succ, List.getElem_cons_zero, List.setIfInBounds_toArray, List.set_cons_zero, List.set_cons_succ])
    refine wpAnyH_take (i := 10) (v := ?_) rfl (by kernel_rfl) (by kernel_rfl) (by kernel_rfl) (fun _ _ _ h => h) (Or.inl ⟨by kernel_rfl, ?_⟩) hHq1 ?_
    rotate_left
    · (intro w hSw; first | (go_simp; done) | (go_simp; with_reducible rfl))
    (try simp only [Act.put, List.getElem_toArray, List.getElem_cons_succ, List.getElem_cons_zero, List.setIfInBounds_toArray, List.set_cons_zero, List.set_cons_succ])
    refine wpAnyH_take (i := 11) (v := ?_) rfl (by kernel_rfl) (by kernel_rfl) (by kernel_rfl) (fun _ _ _ h => h) (Or.inl ⟨by kernel_rfl, ?_⟩) hHq1 ?_
    rotate_left
    · (intro w hSw; first | (go_simp; done) | (go_simp; with_reducible rfl))
    (try simp only [Act.put, List.getElem_toArray, List.getElem_cons_succ, List.getElem_cons_zero, List.setIfInBounds_toArray, List.set_cons_zero, List.set_cons_succ])
    refine wpAnyH_ready (rs := [12]) (by kernel_rfl) (by simp) (AllReadyH.cons rfl (fun K hK => ?_) AllReadyH.nil)
    have hH := hHq1
    (go_simp; skip)
    refine hK.out _ _ (by exact ⟨hH.1.far HGP.out.1 _, hH.2.1.far HGP.out.2 _, hH.2.2.setCell (.inl (by simp)) _⟩) (fun hHq2 => ?_)
    clear hK K hH hHq1
    (try simp only [Act.put, List.getElem_toArray, List.getElem_cons_succ, List.getElem_cons_zero, List.setIfInBounds_toArray, List.set_cons_zero, List.set_cons_succ])
    refine wpAnyH_take (i := 13) (v := ?_) rfl (by kernel_rfl) (by kernel_rfl) (by kernel_rfl) (fun _ _ _ h => h) (Or.inl ⟨by kernel_rfl, ?_⟩) hHq2 ?_
    rotate_left
    · (intro w hSw; first | (go_simp; done) | (go_simp; with_reducible rfl))
    (try simp only [Act.put, List.getElem_toArray, List.getElem_cons_succ, List.getElem_cons_zero, List.setIfInBounds_toArray, List.set_cons_zero, List.set_cons_succ])
    refine wpAnyH_take (i := 14) (v := ?_) rfl (by kernel_rfl) (by kernel_rfl) (by kernel_rfl) (fun _ _ _ h => h) (Or.inl ⟨by kernel_rfl, ?_⟩) hHq2 ?_
    rotate_left
    · (intro w hSw; first | (go_simp; done) | (go_simp; with_reducible rfl))
    (try simp only [Act.put, List.getElem_toArray, List.getElem_cons_succ, List.getElem_cons_zero, List.setIfInBounds_toArray, List.set_cons_zero, List.set_cons_succ])
    refine wpAnyH_ready (rs := [15]) (by kernel_rfl) (by simp) (AllReadyH.cons rfl (fun K hK => ?_) AllReadyH.nil)
    have hH := hHq2
    (go_simp; skip)
    refine hK.out _ _ (by exact ⟨hH.1.far HGP.out.1 _, hH.2.1.far HGP.out.2 _, hH.2.2.setCell (.inl (by simp)) _⟩) (fun hHq3 => ?_)
    clear hK K hH hHq2
    have o8 : Own ((w6.setCell ⟨p, 1, none⟩ (.int .u64 (A.ep : Int))).setCell ⟨p, 2, none⟩ (.int .u64 (A.ad : Int))) p 61 ([.int .i64 S.n, .int .u64 (A.ep : Int), .int .u64 (A.ad : Int)] ++ lcs S.L) := Own.set (Own.set s6 1 (.int .u64 (A.ep : Int))) 2 (.int .u64 (A.ad : Int))
    (try simp only [Act.put, List.getElem_toArray, List.getElem_cons_succ, List.getElem_cons_zero, List.setIfInBounds_toArray, List.set_cons_zero, List.set_cons_succ])
    refine wpAnyH_take (i := 16) (v := ?_) rfl (by kernel_rfl) (by kernel_rfl) (by kernel_rfl) (fun _ _ _ h => h) (Or.inl ⟨by kernel_rfl, ?_⟩) hHq3 ?_
    rotate_left
    · (intro w hSw; first | (go_simp; done) | (go_simp; with_reducible rfl))
    (try simp only [Act.put, List.getElem_toArray, List.getElem_cons_succ, List.getElem_cons_zero, List.setIfInBounds_toArray, List.set_cons_zero, List.set_cons_succ])
    refine wpAnyH_take (i := 17) (v := ?_) rfl (by kernel_rfl) (by kernel_rfl) (by kernel_rfl) (fun _ _ _ h => h) (Or.inl ⟨by kernel_rfl, ?_⟩) hHq3 ?_
    rotate_left
    · (intro w hSw; first | (go_simp; done) | (go_simp; with_reducible rfl))
    (try simp only [Act.put, List.getElem_toArray, List.getElem_cons_succ, List.getElem_cons_zero, List.setIfInBounds_toArray, List.set_cons_zero, List.set_cons_succ])
    refine wpAnyH_ready (rs := [18]) (by kernel_rfl) (by simp) (AllReadyH.cons rfl (fun K hK => ?_) AllReadyH.nil)
    have hH := hHq3
    (refine wp_store_mid 58 (.tmp 41) (.tmp 35) rfl p 3 (lcs (lastsM A.bk 16)).toArray rfl rfl (by have := there_pre o8 HSL.out rfl; simpa using this) (by rw [infoLs]; simp) (all_oneCell_toArray (lcs_one _)) ?_)
    refine hK.out _ _ (by exact ⟨Own.chg hH.1 ((Chg.refl [p] _).setCells (.inl (by simp)) _ _) (by simpa using HGP.out.1), Own.chg hH.2.1 ((Chg.refl [p] _).setCells (.inl (by simp)) _ _) (by simpa using HGP.out.2), hH.2.2.setCells (.inl (by simp)) _ _⟩) (fun hHq4 => ?_)
    clear hK K hH hHq3
    (try simp only [Act.put, List.getElem_toArray, List.getElem_cons_succ, List.getElem_cons_zero, List.setIfInBounds_toArray, List.set_cons_zero, List.set_cons_succ])
    refine wpAnyH_done (by kernel_rfl) ?_ _
    have hEnd := hHq4
    have o9 := own_setCellsB (lcs (lastsM A.bk 16)) [.int .i64 S.n, .int .u64 (A.ep : Int), .int .u64 (A.ad : Int)] (lcs S.L) _ o8 (by simp [HSL.out])
    obtain ⟨V, hV⟩ : ∃ V, (((w6.setCell ⟨p, 1, none⟩ (.int .u64 (A.ep : Int))).setCell ⟨p, 2, none⟩ (.int .u64 (A.ad : Int))).setCells p 3 (lcs (lastsM A.bk 16))) = V := ⟨_, rfl⟩
    have hV2 : (((w6.setCell ⟨p, 1, none⟩ (.int .u64 (A.ep : Int))).setCell ⟨p, 2, none⟩ (.int .u64 (A.ad : Int))).setCells p 3 (lcs (lastsM A.bk 16)).toArray.toList) = V := hV
    rw [hV2] at hEnd ⊢
    have HSV : Hid (Sqn V p ⟨S.n, A.ep, A.ad, lastsM A.bk 16⟩) := Lib.hid (by rw [← hV]; exact o9)
    have HEV := Lib.hid hEnd
    clear hV hV2 o9 o8 hEnd k1 k2 f1 f2 hp6 s6 hb6 hHeld
    go_wp2_with (refine wpList_loadMg rfl (.tmp 3) rfl w0.heap.size rfl A HEV.out.1 ?_)
    refine (HAN.out V 0).mono ?_
    rintro e w7 ⟨rfl, hb⟩
    have HC7 := Lib.hid (HEV.out.2.2.of_below hb)
    have HO27 := Lib.hid (HEV.out.2.1.below hb HEV.out.2.1.lt)
    have HS7 := Lib.hid (HSV.out.below hb HSV.out.lt)
    clear hb
    go_wp2_with (refine wpList_storeMg rfl (.tmp 4) (.tmp 43) rfl (w0.heap.size + 1) rfl (ansT A 0) rfl zmT.cs HO27.out rfl ?_)
    intro w8 ho hc
    have hS8 := HS7.out.chg hc (by simpa using HGP.out.2.symm)
    have hc8 := HC7.out.then hc (fun x hx => by simp only [List.mem_singleton] at hx; subst hx; exact .inr (Nat.le_succ _))
    go_wp2_with fail
    refine bodyPost_ret (results_cell_row Try.results24 _ _ (w0.heap.size + 1) 40 _ (0, 0) _ rfl ho Try.underlying40 rfl (by kernel_rfl)) rfl ?_
    exact ⟨rfl, hS8, hc8⟩
end Go.Proofs.Ytdblplkaobeimaa
namespace Go.Proofs.Ytdblplkaobeimaa
open Go.RowKit Go.Deep Go.Shelf
set_option linter.unusedVariables false
set_option linter.unusedSimpArgs false

theorem Try.info_i64q : (Try.prog.info? 3).map (fun i => (i.zero, i.size, i.bytes)) = some (some (.int .i64 0), 1, 8) := by kernel_rfl
theorem i64s_oneQ (L : List Int) : ∀ u ∈ i64s L, u.oneCell' = true := by
  intro u hu
  simp only [i64s, List.mem_map] at hu
  obtain ⟨x, _, rfl⟩ := hu
  rfl
theorem eql_nilI (a : Option Addr) (n c : Nat) (w : World) : (binOp .eql 33 (.slice a n c) (.slice none 0 0)).run Try.prog w = .ok (.bool a.isNone) w := by
  simp only [binOp]
  simp [run_equal_slice_nil w 33 3 a n c Try.underlying33]
set_option maxHeartbeats 1000000 in
set_option maxRecDepth 100000 in
theorem cloneQ_any (a : Option Addr) (c B : Nat) (L : List Int) (w : World) (hro : Ro w B a (i64s L)) (hB : B ≤ w.heap.size) (hl : L.length ≤ 1000000) :
    Calls Try.prog 44 #[.slice a L.length c] w fun e w' => ∃ v, e = .returned v ∧ Lst w' w.heap.size 3 v (i64s L) ∧ Below w.heap.size w w' := by
  cases a with
  | none =>
    have hn : L = [] := by
      rcases hro with h | ⟨b, off, h, _⟩
      · simpa [i64s] using h
      · cases h
    subst hn
    clear hro
    have hnil := fun W => eql_nilI none 0 c W
    go_enter Try.func44, Try.ntmps44
    go_wp2_with fail
    go_ret
    exact ⟨_, rfl, Lst.nil _ _ _, Below.refl _ _⟩
  | some ad =>
    have HRO := Lib.hid hro
    have HL : Hid (Lst (w.alloc (.cells #[] 3)) w.heap.size 3 (.slice (some ⟨w.heap.size, 0, none⟩) 0 0) []) := Lib.hid (Lst.lit w w.heap.size 3 #[] (Nat.le_refl _) (by simp))
    obtain ⟨n, hn⟩ : ∃ n, L.length = n := ⟨_, rfl⟩
    have HN := Lib.hid hn
    rw [hn] at hl ⊢
    clear hro hn
    have hnil := fun W => eql_nilI (some ad) n c W
    go_enter Try.func44, Try.ntmps44
    go_wp2_with (at_builtin; refine wpList_appB rfl (.tmp 5) (.tmp 6) 33 rfl w.heap.size 3 (.int .i64 0) 8 Try.underlying33 Try.info_i64q rfl _ [] rfl HL.out (some ad) B n c (i64s L) rfl (by rw [i64s_length]; exact HN.out) (HRO.out.below ((Below.refl _ _).alloc (Nat.le_refl _) _) hB) (i64s_oneQ L) (by simp; omega) (by simp; omega) w.heap.size w ((Below.refl _ _).alloc (Nat.le_refl _) _) (Nat.le_refl _) (by simp) ?_)
    intro v' w' h1 h2 h3
    go_wp2_with fail
    go_ret
    exact ⟨_, rfl, by simpa using h1.out, h2⟩
end Go.Proofs.Ytdblplkaobeimaa
namespace Go.Proofs.Ytdblplkaobeimaa
open Go.RowKit Go.Deep Go.Shelf
set_option linter.unusedVariables false
set_option linter.unusedSimpArgs false

set_option maxHeartbeats 8000000 in
set_option maxRecDepth 100000 in
theorem token_no (S : SqS) (p : Nat) (A : MgT) (w0 : World) (ho : Sqn w0 p S) (hn : S.now A.ep = false) :
    Calls Try.prog 26 #[.pointer (some ⟨p, 0, none⟩), .agg A.cs.toArray] w0 fun e w' => e = .returned (.agg (refT S A).cs.toArray) ∧ Below w0.heap.size w0 w' := by
  obtain ⟨W, HWW, HO1, HO2, HC⟩ := two_new A w0
  have HS := Lib.hid (ho.chg HC.out (by simp))
  have HNW := Lib.hid (fun (V : World) (h : Sqn V p S) => isNow_any S p A V h)
  have HRF := Lib.hid (fun (V : World) (h : Sqn V p S) => refuse_any S p A V h)
  rw [hn] at HNW
  clear ho hn
  go_enter Try.func26, Try.ntmps26
  go_upto_region 1 with fail
  rw [HWW.out]
  go_wp2_with (refine wpList_loadMg rfl (.tmp 3) rfl w0.heap.size rfl A HO1.out ?_)
  refine (HNW.out W HS.out).mono ?_
  rintro e w1 ⟨rfl, hb⟩
  have HC1 := Lib.hid (HC.out.of_below hb)
  have HO11 := Lib.hid (HO1.out.below hb HO1.out.lt)
  have HO21 := Lib.hid (HO2.out.below hb HO2.out.lt)
  have HS1 := Lib.hid (HS.out.below hb HS.out.lt)
  clear hb
  go_wp2_with (refine wpList_loadMg rfl (.tmp 3) rfl w0.heap.size rfl A HO11.out ?_)
  refine (HRF.out w1 HS1.out).mono ?_
  rintro e w2 ⟨rfl, hb⟩
  have HC2 := Lib.hid (HC1.out.of_below hb)
  have HO22 := Lib.hid (HO21.out.below hb HO21.out.lt)
  clear hb
  go_wp2_with (refine wpList_storeMg rfl (.tmp 4) (.tmp 13) rfl (w0.heap.size + 1) rfl (refT S A) rfl zmT.cs HO22.out rfl ?_)
  intro w5 ho hc
  go_wp2_with fail
  refine bodyPost_ret (results_cell_row Try.results26 _ _ (w0.heap.size + 1) 40 _ (0, 0) _ rfl ho Try.underlying40 rfl (by kernel_rfl)) rfl ?_
  exact ⟨rfl, (HC2.out.then hc (fun x hx => by simp only [List.mem_singleton] at hx; subst hx; exact .inr (Nat.le_succ _))).low⟩

set_option maxHeartbeats 8000000 in
set_option maxRecDepth 100000 in
theorem token_full (S : SqS) (p : Nat) (A : MgT) (w0 : World) (ho : Sqn w0 p S) (hn : S.now A.ep = true) (hf : S.t = 1048576) :
    Calls Try.prog 26 #[.pointer (some ⟨p, 0, none⟩), .agg A.cs.toArray] w0 fun e w' => e = .returned (.agg (ansT A 152).cs.toArray) ∧ Below w0.heap.size w0 w' := by
  obtain ⟨W, HWW, HO1, HO2, HC⟩ := two_new A w0
  have HS := Lib.hid (ho.chg HC.out (by simp))
  have HNW := Lib.hid (fun (V : World) (h : Sqn V p S) => isNow_any S p A V h)
  have HAN := Lib.hid (fun (V : World) (e : Int) => answer_any A e V)
  have HFF := Lib.hid hf
  rw [hn] at HNW
  clear ho hn hf
  go_enter Try.func26, Try.ntmps26
  go_upto_region 1 with fail
  rw [HWW.out]
  go_wp2_with (refine wpList_loadMg rfl (.tmp 3) rfl w0.heap.size rfl A HO1.out ?_)
  refine (HNW.out W HS.out).mono ?_
  rintro e w1 ⟨rfl, hb⟩
  have HC1 := Lib.hid (HC.out.of_below hb)
  have HO11 := Lib.hid (HO1.out.below hb HO1.out.lt)
  have HO21 := Lib.hid (HO2.out.below hb HO2.out.lt)
  have s2 := (HS.out.below hb HS.out.lt).c2
  have hps := (HS.out.below hb HS.out.lt).lt
  rw [HFF.out] at s2
  clear hb
  go_wp2_with (refine wpList_loadMg rfl (.tmp 3) rfl w0.heap.size rfl A HO11.out ?_)
  refine (HAN.out w1 152).mono ?_
  rintro e w2 ⟨rfl, hb⟩
  have HC2 := Lib.hid (HC1.out.of_below hb)
  have HO22 := Lib.hid (HO21.out.below hb HO21.out.lt)
  clear hb
  go_wp2_with (refine wpList_storeMg rfl (.tmp 4) (.tmp 21) rfl (w0.heap.size + 1) rfl (ansT A 152) rfl zmT.cs HO22.out rfl ?_)
  intro w5 ho hc
  go_wp2_with fail
  refine bodyPost_ret (results_cell_row Try.results26 _ _ (w0.heap.size + 1) 40 _ (0, 0) _ rfl ho Try.underlying40 rfl (by kernel_rfl)) rfl ?_
  exact ⟨rfl, (HC2.out.then hc (fun x hx => by simp only [List.mem_singleton] at hx; subst hx; exact .inr (Nat.le_succ _))).low⟩

/-- the answer to a Token -/
def tokT (S : SqS) (A : MgT) (a1 : Option Addr) (c1 : Nat) (a2 : Option Addr) (c2 : Nat) : MgT := { ansT A 0 with ad := S.t, sa := a1, st := A.st, sc := c1, ka := a2, bk := backsL S.L A.st, kc := c2 }
/-- the state behind one -/
def tokS (S : SqS) (A : MgT) : SqS := ⟨S.n, S.e, S.t + 1, pushS S.t A.st S.L⟩
theorem tok_cs (S : SqS) (A : MgT) (a1 : Option Addr) (c1 : Nat) (a2 : Option Addr) (c2 : Nat) : (((ansT A 0).cs.set 8 (.int .u64 (S.t : Int))).set 13 (.slice a1 A.st.length c1)).set 14 (.slice a2 A.st.length c2) = (tokT S A a1 c1 a2 c2).cs := by
  simp [tokT, MgT.cs, ansT]
theorem Lb.baseQ {w : World} {base base' : Nat} {v : Value} {L : List Bk} (h : Lb w base v L) (hb : base' ≤ base) : Lb w base' v L := by
  unfold Lb at h ⊢
  obtain ⟨h0, h1⟩ := h
  refine ⟨h0, ?_⟩
  rcases h1 with h1 | ⟨g, cap, cur, h2, h3, h4⟩
  · exact .inl h1
  · exact .inr ⟨g, cap, cur, h2, by omega, h4⟩
theorem Own.notQ {w : World} {g : Nat} {t t' : TypeId} {cs : List Value} (h : Own w g t cs) (ht : t' ≠ t) : ∀ x ∈ [g], ∀ cur, w.heap[x]? ≠ some (.cells cur t' (0, 0)) := by
  intro x hx cur he
  simp only [List.mem_singleton] at hx
  subst hx
  unfold Own at h
  rw [h] at he
  injection he with he
  injection he with _ he _
  exact ht he.symm
set_option maxHeartbeats 8000000 in
set_option maxRecDepth 100000 in
theorem token_yes (S : SqS) (hSL : S.L.length = 16) (p : Nat) (A : MgT) (w0 : World) (ho : Sqn w0 p S) (hn : S.now A.ep = true) (hf : S.t < 1048576) (hin : MgIn w0 w0.heap.size A) (hx : RoX w0 [p] A.sa (i64s A.st)) (hS : ∀ s ∈ A.st, 0 ≤ s ∧ s < 16) (hl : A.st.length ≤ 1000000) :
    Calls Try.prog 26 #[.pointer (some ⟨p, 0, none⟩), .agg A.cs.toArray] w0 fun e w' => ∃ a1 c1 a2 c2, e = .returned (.agg (tokT S A a1 c1 a2 c2).cs.toArray) ∧ Sqn w' p (tokS S A) ∧ Ro w' w'.heap.size a1 (i64s A.st) ∧ (∀ x, a1 = some x → w0.heap.size ≤ x.block) ∧ Lb w' w0.heap.size (.slice a2 A.st.length c2) (backsL S.L A.st) ∧ Chg [p] w0 w' := by
  obtain ⟨W, HWW, HO1, HO2, HC⟩ := two_new A w0
  have HS := Lib.hid (ho.chg HC.out (by simp))
  have HNW := Lib.hid (fun (V : World) (h : Sqn V p S) => isNow_any S p A V h)
  have HAN := Lib.hid (fun (V : World) => answer_any A 0 V)
  have HCL := Lib.hid (fun (V : World) (hc : Chg [] w0 V) => cloneQ_any A.sa A.sc w0.heap.size A.st V (hin.st.below hc.low (Nat.le_refl _)) hc.size hl)
  have HBK := Lib.hid (fun (V : World) (hc : Chg [] w0 V) (h : Sqn V p S) => backs_any A.st hS A.sa A.sc p 61 _ S.L hSL V ((hin.st.below hc.low (Nat.le_refl _)).mono hc.size) hl h.own)
  have HPU := Lib.hid (fun (V : World) (hc : Chg [] w0 V) (h : Sqn V p S) => push_any A.st hS A.sa A.sc S.t p 61 _ S.L hSL V (hx.chg (hc.mono (l' := [p]) (by simp))) (by omega) h.own)
  have HPG : Hid (p < w0.heap.size) := Lib.hid ho.lt
  have HF : Hid (((S.t : Int) == 1048576) = false ∧ IntKind.u64.wrap ((S.t : Int) + 1) = ((S.t + 1 : Nat) : Int)) := Lib.hid (by
    refine ⟨by rw [beq_eq_false_iff_ne]; omega, ?_⟩
    rw [show ((S.t : Int) + 1) = ((S.t + 1 : Nat) : Int) by omega]
    exact wrap_u64_nat _ (by omega))
  rw [hn] at HNW
  simp only [List.length_cons, List.length_nil, Nat.zero_add, Nat.reduceAdd] at HBK HPU
  clear ho hn hf hin hx hS hl hSL
  go_enter Try.func26, Try.ntmps26
  go_upto_region 1 with fail
  rw [HWW.out]
  go_wp2_with (refine wpList_loadMg rfl (.tmp 3) rfl w0.heap.size rfl A HO1.out ?_)
  refine (HNW.out W HS.out).mono ?_
  rintro e w1 ⟨rfl, hb⟩
  have HC1 := Lib.hid (HC.out.of_below hb)
  have HO11 := Lib.hid (HO1.out.below hb HO1.out.lt)
  have HO21 := Lib.hid (HO2.out.below hb HO2.out.lt)
  have HS1 := Lib.hid (HS.out.below hb HS.out.lt)
  have s2 := HS1.out.c2
  have hps := HS1.out.lt
  have hf1 := HF.out.1
  clear hb
  go_upto_region 5 with fail
  clear s2 hps hf1
  go_wp2_with (refine wpList_loadMg rfl (.tmp 3) rfl w0.heap.size rfl A HO11.out ?_)
  refine (HAN.out w1).mono ?_
  rintro e w2 ⟨rfl, hb⟩
  have HC2 := Lib.hid (HC1.out.of_below hb)
  have HO12 := Lib.hid (HO11.out.below hb HO11.out.lt)
  have HO22 := Lib.hid (HO21.out.below hb HO21.out.lt)
  have HS2 := Lib.hid (HS1.out.below hb HS1.out.lt)
  have HZ2 := Lib.hid (zm_new w2)
  clear hb
  go_wp2_with (refine wpList_storeMg rfl (.tmp 5) (.tmp 23) rfl w2.heap.size rfl (ansT A 0) rfl zmT.cs HZ2.out rfl ?_)
  intro w3 ho hc
  have hc3 : Chg [] w2 w3 := ((Chg.refl [] w2).alloc _).then hc (fun x hx => by simp only [List.mem_singleton] at hx; subst hx; exact .inr (Nat.le_refl _))
  have HC3 := Lib.hid (HC2.out.trans hc3)
  have HO13 := Lib.hid (HO12.out.chg hc3 (by simp))
  have HO23 := Lib.hid (HO22.out.chg hc3 (by simp))
  have HS3 := Lib.hid (HS2.out.chg hc3 (by simp))
  obtain ⟨g, hg⟩ : ∃ g, w2.heap.size = g := ⟨_, rfl⟩
  have HGN : Hid (w0.heap.size + 1 < g) := Lib.hid (by rw [← hg]; exact HO22.out.lt)
  rw [hg] at ho ⊢
  have HO3 := Lib.hid ho
  have hgl := ho.lt
  have hps := HS3.out.lt
  clear ho hc hc3 hg
  go_upto_region 6 with fail
  have HST : Hid (Own w3.drew w0.heap.size 40 A.cs ∧ Own w3.drew (w0.heap.size + 1) 40 zmT.cs ∧ Sqn w3.drew p S ∧ Chg [] w0 w3.drew) := Lib.hid ⟨HO13.out, HO23.out, HS3.out, HC3.out.drew⟩
  have HGP : Hid (w0.heap.size ≠ g ∧ w0.heap.size + 1 ≠ g ∧ p ≠ g ∧ w0.heap.size ≤ g ∧ p ≠ w0.heap.size + 1 ∧ p ≠ w0.heap.size) := Lib.hid (by have := HPG.out; have := HGN.out; omega)
  refine wp_region_held_drew (S := (fun w' => Own w' w0.heap.size 40 A.cs ∧ Own w' (w0.heap.size + 1) 40 zmT.cs ∧ Sqn w' p S ∧ Chg [] w0 w')) (by kernel_rfl) HST.out (fun hHeld => ?_)
  refine wpAnyH_take (i := 0) (v := ?_) rfl (by kernel_rfl) (by kernel_rfl) (by kernel_rfl) (fun _ _ _ h => h) (Or.inl ⟨by kernel_rfl, ?_⟩) hHeld ?_
  rotate_left
  · (intro w hSw; first | (go_simp; done) | (go_simp; with_reducible rfl))
  (try simp only [Act.put, List.getElem_toArray, List.getElem_cons_succ, List.getElem_cons_zero, List.setIfInBounds_toArray, List.set_cons_zero, List.set_cons_succ])
  refine wpAnyH_take (i := 1) (v := ?_) rfl (by kernel_rfl) (by kernel_rfl) (by kernel_rfl) (fun _ _ _ h => h) (Or.inl ⟨by kernel_rfl, ?_⟩) hHeld ?_
  rotate_left
  · (intro w hSw; first | (go_simp; done) | (go_simp; with_reducible rfl))
  (try simp only [Act.put, List.getElem_toArray, List.getElem_cons_succ, List.getElem_cons_zero, List.setIfInBounds_toArray, List.set_cons_zero, List.set_cons_succ])
  refine wpAnyH_take (i := 2) (v := ?_) rfl (by kernel_rfl) (by kernel_rfl) (by kernel_rfl) (fun _ _ _ h => h) (Or.inl ⟨by kernel_rfl, ?_⟩) hHeld ?_
  rotate_left
  · (intro w hSw; first | (go_simp; done) | (go_simp; with_reducible rfl))
  (try simp only [Act.put, List.getElem_toArray, List.getElem_cons_succ, List.getElem_cons_zero, List.setIfInBounds_toArray, List.set_cons_zero, List.set_cons_succ])
  refine wpAnyH_take (i := 3) (v := .int .u64 (S.t : Int)) rfl (by kernel_rfl) (by kernel_rfl) (by kernel_rfl) (fun _ _ _ h => h) (Or.inl ⟨by kernel_rfl, ?_⟩) hHeld ?_
  · (intro w hSw; have c := hSw.2.2.1.c2; go_simp)
  (try simp only [Act.put, List.getElem_toArray, List.getElem_cons_succ, List.getElem_cons_zero, List.setIfInBounds_toArray, List.set_cons_zero, List.set_cons_succ])
  refine wpAnyH_take (i := 4) (v := ?_) rfl (by kernel_rfl) (by kernel_rfl) (by kernel_rfl) (fun _ _ _ h => h) (Or.inl ⟨by kernel_rfl, ?_⟩) hHeld ?_
  rotate_left
  · (intro w hSw; first | (go_simp; done) | (go_simp; with_reducible rfl))
  (try simp only [Act.put, List.getElem_toArray, List.getElem_cons_succ, List.getElem_cons_zero, List.setIfInBounds_toArray, List.set_cons_zero, List.set_cons_succ])
  refine wpAnyH_take (i := 5) (v := .slice A.sa A.st.length A.sc) rfl (by kernel_rfl) (by kernel_rfl) (by kernel_rfl) (fun _ _ _ h => h) (Or.inl ⟨by kernel_rfl, ?_⟩) hHeld ?_
  · (intro w hSw; have c := hSw.1.cell 13; simp [MgT.cs] at c; go_simp)
  (try simp only [Act.put, List.getElem_toArray, List.getElem_cons_succ, List.getElem_cons_zero, List.setIfInBounds_toArray, List.set_cons_zero, List.set_cons_succ])
  refine wpAnyH_take (i := 7) (v := ?_) rfl (by kernel_rfl) (by kernel_rfl) (by kernel_rfl) (fun _ _ _ h => h) (Or.inl ⟨by kernel_rfl, ?_⟩) hHeld ?_
  rotate_left
  · (intro w hSw; first | (go_simp; done) | (go_simp; with_reducible rfl))
  (try simp only [Act.put, List.getElem_toArray, List.getElem_cons_succ, List.getElem_cons_zero, List.setIfInBounds_toArray, List.set_cons_zero, List.set_cons_succ])
  refine wpAnyH_take (i := 8) (v := ?_) rfl (by kernel_rfl) (by kernel_rfl) (by kernel_rfl) (fun _ _ _ h => h) (Or.inl ⟨by kernel_rfl, ?_⟩) hHeld ?_
  rotate_left
  · (intro w hSw; first | (go_simp; done) | (go_simp; with_reducible rfl))
  (try simp only [Act.put, List.getElem_toArray, List.getElem_cons_succ, List.getElem_cons_zero, List.setIfInBounds_toArray, List.set_cons_zero, List.set_cons_succ])
  refine wpAnyH_take (i := 9) (v := ?_) rfl (by kernel_rfl) (by kernel_rfl) (by kernel_rfl) (fun _ _ _ h => h) (Or.inl ⟨by kernel_rfl, ?_⟩) hHeld ?_
  rotate_left
  · (intro w hSw; first | (go_simp; done) | (go_simp; with_reducible rfl))
  (try simp only [Act.put, List.getElem_toArray, List.getElem_cons_succ, List.getElem_cons_zero, List.setIfInBounds_toArray, List.set_cons_zero, List.set_cons_succ])
  refine wpAnyH_take (i := 10) (v := ?_) rfl (by kernel_rfl) (by kernel_rfl) (by kernel_rfl) (fun _ _ _ h => h) (Or.inl ⟨by kernel_rfl, ?_⟩) hHeld ?_
  rotate_left
  · (intro w hSw; first | (go_simp; done) | (go_simp; with_reducible rfl))
  (try simp only [Act.put, List.getElem_toArray, List.getElem_cons_succ, List.getElem_cons_zero, List.setIfInBounds_toArray, List.set_cons_zero, List.set_cons_succ])
  refine wpAnyH_take (i := 11) (v := .slice A.sa A.st.length A.sc) rfl (by kernel_rfl) (by kernel_rfl) (by kernel_rfl) (fun _ _ _ h => h) (Or.inl ⟨by kernel_rfl, ?_⟩) hHeld ?_
  · (intro w hSw; have c := hSw.1.cell 13; simp [MgT.cs] at c; go_simp)
  (try simp only [Act.put, List.getElem_toArray, List.getElem_cons_succ, List.getElem_cons_zero, List.setIfInBounds_toArray, List.set_cons_zero, List.set_cons_succ])
  refine wpAnyH_take (i := 13) (v := ?_) rfl (by kernel_rfl) (by kernel_rfl) (by kernel_rfl) (fun _ _ _ h => h) (Or.inl ⟨by kernel_rfl, ?_⟩) hHeld ?_
  rotate_left
  · (intro w hSw; first | (go_simp; done) | (go_simp; with_reducible rfl))
  (try simp only [Act.put, List.getElem_toArray, List.getElem_cons_succ, List.getElem_cons_zero, List.setIfInBounds_toArray, List.set_cons_zero, List.set_cons_succ])
  refine wpAnyH_ready (rs := [6]) (by kernel_rfl) (by simp) (AllReadyH.cons rfl (fun K hK => ?_) AllReadyH.nil)
  have hH := hHeld
  (go_simp; go_at_call 44; refine (HCL.out _ hH.2.2.2).mono ?_; rintro e w6 ⟨v6, rfl, hl6, hb6⟩; obtain ⟨a1, c1, hv6, hr6, _, _⟩ := hl6.form; subst hv6)
  refine hK.out _ _ (by exact ⟨hH.1.below hb6 hH.1.lt, hH.2.1.below hb6 hH.2.1.lt, hH.2.2.1.below hb6 hH.2.2.1.lt, hH.2.2.2.of_below hb6⟩) (fun hHq1 => ?_)
  clear hK K hH 
  have HLO6 : Hid (∀ x, a1 = some x → w0.heap.size ≤ x.block) := Lib.hid (fun x hx => Nat.le_trans HC3.out.size (hl6.lt x.block (by rw [hx]; rfl)).1); have HG6 := Lib.hid (Own.below (w := w3.drew) (show Own w3.drew g 40 (ansT A 0).cs from HO3.out) hb6 HO3.out.lt); have HC6S : Hid (w0.heap.size ≤ w6.heap.size) := Lib.hid (Nat.le_trans HC3.out.size hb6.size); have HA6 : Hid (RoX w6 [g, p, w0.heap.size + 1] a1 (i64s A.st)) := Lib.hid (hl6.apart2 (fun x hx => .inl (by have h1 : g < w3.heap.size := HO3.out.lt; have h2 := HPG.out; have h3 := HGN.out; show x < w3.heap.size; simp only [List.mem_cons, List.not_mem_nil, or_false] at hx; omega)))
  (try simp only [Act.put, List.getElem_toArray, List.getElem_cons_succ, List.getElem_cons_zero, List.setIfInBounds_toArray, List.set_cons_zero, List.set_cons_succ])
  refine wpAnyH_ready (rs := [12]) (by kernel_rfl) (by simp) (AllReadyH.cons rfl (fun K hK => ?_) AllReadyH.nil)
  have hH := hHq1
  (go_simp; go_at_call 45; refine (HBK.out _ hH.2.2.2 hH.2.2.1).mono ?_; rintro e w7 ⟨v7, rfl, hl7, hc7⟩; obtain ⟨a2, c2, hv7, _, _, _⟩ := hl7.form; subst hv7)
  refine hK.out _ _ (by exact ⟨hH.1.chg hc7 (by simp), hH.2.1.chg hc7 (by simp), hH.2.2.1.chg hc7 (by simp), hH.2.2.2.trans hc7⟩) (fun hHq2 => ?_)
  clear hK K hH hHq1
  have HG7 := Lib.hid (HG6.out.chg hc7 (by simp)); have k8 := HG7.out.cell 8; have k13 := HG7.out.cell 13; have k14 := HG7.out.cell 14; have f8 := HG7.out.frozen 8; have f13 := HG7.out.frozen 13; have f14 := HG7.out.frozen 14; simp [MgT.cs, ansT] at k8 k13 k14
  (try simp only [Act.put, List.getElem_toArray, List.getElem_cons_succ, List.getElem_cons_zero, List.setIfInBounds_toArray, List.set_cons_zero, List.set_cons_succ])
  refine wpAnyH_ready (rs := [14]) (by kernel_rfl) (by simp) (AllReadyH.cons rfl (fun K hK => ?_) AllReadyH.nil)
  have hH := hHq2
  (go_simp; skip)
  refine hK.out _ _ (by exact ⟨hH.1.far HGP.out.1 _, hH.2.1.far HGP.out.2.1 _, hH.2.2.1.far HGP.out.2.2.1 _, hH.2.2.2.setCell (.inr HGP.out.2.2.2.1) _⟩) (fun hHq3 => ?_)
  clear hK K hH hHq2
  (try simp only [Act.put, List.getElem_toArray, List.getElem_cons_succ, List.getElem_cons_zero, List.setIfInBounds_toArray, List.set_cons_zero, List.set_cons_succ])
  refine wpAnyH_take (i := 15) (v := ?_) rfl (by kernel_rfl) (by kernel_rfl) (by kernel_rfl) (fun _ _ _ h => h) (Or.inl ⟨by kernel_rfl, ?_⟩) hHq3 ?_
  rotate_left
  · (intro w hSw; first | (go_simp; done) | (go_simp; with_reducible rfl))
  (try simp only [Act.put, List.getElem_toArray, List.getElem_cons_succ, List.getElem_cons_zero, List.setIfInBounds_toArray, List.set_cons_zero, List.set_cons_succ])
  refine wpAnyH_ready (rs := [16]) (by kernel_rfl) (by simp) (AllReadyH.cons rfl (fun K hK => ?_) AllReadyH.nil)
  have hH := hHq3
  (go_simp; skip)
  refine hK.out _ _ (by exact ⟨hH.1.far HGP.out.1 _, hH.2.1.far HGP.out.2.1 _, hH.2.2.1.far HGP.out.2.2.1 _, hH.2.2.2.setCell (.inr HGP.out.2.2.2.1) _⟩) (fun hHq4 => ?_)
  clear hK K hH hHq3
  (try simp only [Act.put, List.getElem_toArray, List.getElem_cons_succ, List.getElem_cons_zero, List.setIfInBounds_toArray, List.set_cons_zero, List.set_cons_succ])
  refine wpAnyH_take (i := 17) (v := ?_) rfl (by kernel_rfl) (by kernel_rfl) (by kernel_rfl) (fun _ _ _ h => h) (Or.inl ⟨by kernel_rfl, ?_⟩) hHq4 ?_
  rotate_left
  · (intro w hSw; first | (go_simp; done) | (go_simp; with_reducible rfl))
  (try simp only [Act.put, List.getElem_toArray, List.getElem_cons_succ, List.getElem_cons_zero, List.setIfInBounds_toArray, List.set_cons_zero, List.set_cons_succ])
  refine wpAnyH_ready (rs := [18]) (by kernel_rfl) (by simp) (AllReadyH.cons rfl (fun K hK => ?_) AllReadyH.nil)
  have hH := hHq4
  (go_simp; skip)
  refine hK.out _ _ (by exact ⟨hH.1.far HGP.out.1 _, hH.2.1.far HGP.out.2.1 _, hH.2.2.1.far HGP.out.2.2.1 _, hH.2.2.2.setCell (.inr HGP.out.2.2.2.1) _⟩) (fun hHq5 => ?_)
  clear hK K hH hHq4
  (try simp only [Act.put, List.getElem_toArray, List.getElem_cons_succ, List.getElem_cons_zero, List.setIfInBounds_toArray, List.set_cons_zero, List.set_cons_succ])
  refine wpAnyH_done (by kernel_rfl) ?_ _
  have hEnd := hHq5
  rw [backsL_length] at hl7
  have HR7 : Hid (RoX w7 [g, p, w0.heap.size + 1] a1 (i64s A.st)) := Lib.hid (HA6.out.chg (hc7.mono (by simp)))
  have ov := ((HG7.out.set 8 (.int .u64 (S.t : Int))).set 13 (.slice a1 A.st.length c1)).set 14 (.slice a2 A.st.length c2)
  have cv : Chg [g] w7 (((w7.setCell ⟨g, 8, none⟩ (.int .u64 (S.t : Int))).setCell ⟨g, 13, none⟩ (.slice a1 A.st.length c1)).setCell ⟨g, 14, none⟩ (.slice a2 A.st.length c2)) := (((Chg.refl [g] w7).setCell (.inl (by simp)) _).setCell (.inl (by simp)) _).setCell (.inl (by simp)) _
  obtain ⟨V, hV⟩ : ∃ V, (((w7.setCell ⟨g, 8, none⟩ (.int .u64 (S.t : Int))).setCell ⟨g, 13, none⟩ (.slice a1 A.st.length c1)).setCell ⟨g, 14, none⟩ (.slice a2 A.st.length c2)) = V := ⟨_, rfl⟩
  rw [hV] at ov cv hEnd ⊢
  rw [tok_cs] at ov
  have HOV : Hid (Own V g 40 (tokT S A a1 c1 a2 c2).cs) := Lib.hid ov
  have HRV : Hid (RoX V [g, p, w0.heap.size + 1] a1 (i64s A.st)) := Lib.hid (HR7.out.chg (cv.mono (by simp)))
  have HLV : Hid (Lb V w0.heap.size (.slice a2 A.st.length c2) (backsL S.L A.st)) := Lib.hid ((hl7.chgQ cv (HG7.out.notQ (by decide))).baseQ HC6S.out)
  have HEV := Lib.hid hEnd
  clear hV ov cv hEnd k8 k13 k14 f8 f13 f14 hl7 hc7 hl6 hb6 hr6 hHeld hgl hps
  have HPQ := Lib.hid (HPU.out V.drew HEV.out.2.2.2.drew HEV.out.2.2.1)
  go_upto_region 7 with fail
  have HST8 : Hid (Own V.drew w0.heap.size 40 A.cs ∧ Own V.drew (w0.heap.size + 1) 40 zmT.cs ∧ Own V.drew g 40 (tokT S A a1 c1 a2 c2).cs ∧ V.drew.cell? ⟨p, 2, none⟩ = some (.int .u64 (S.t : Int)) ∧ Chg [p] w0 V.drew) := Lib.hid ⟨HEV.out.1, HEV.out.2.1, HOV.out, HEV.out.2.2.1.c2, HEV.out.2.2.2.drew.mono (by simp)⟩
  have hpp : p < V.heap.size := HEV.out.2.2.1.lt
  refine wp_region_held_drew (S := (fun w' => Own w' w0.heap.size 40 A.cs ∧ Own w' (w0.heap.size + 1) 40 zmT.cs ∧ Own w' g 40 (tokT S A a1 c1 a2 c2).cs ∧ w'.cell? ⟨p, 2, none⟩ = some (.int .u64 (S.t : Int)) ∧ Chg [p] w0 w')) (by kernel_rfl) HST8.out (fun hHeld => ?_)
  refine wpAnyH_take (i := 0) (v := ?_) rfl (by kernel_rfl) (by kernel_rfl) (by kernel_rfl) (fun _ _ _ h => h) (Or.inl ⟨by kernel_rfl, ?_⟩) hHeld ?_
  rotate_left
  · (intro w hSw; first | (go_simp; done) | (go_simp; with_reducible rfl))
  (try simp only [Act.put, List.getElem_toArray, List.getElem_cons_succ, List.getElem_cons_zero, List.setIfInBounds_toArray, List.set_cons_zero, List.set_cons_succ])
  refine wpAnyH_take (i := 1) (v := ?_) rfl (by kernel_rfl) (by kernel_rfl) (by kernel_rfl) (fun _ _ _ h => h) (Or.inl ⟨by kernel_rfl, ?_⟩) hHeld ?_
  rotate_left
  · (intro w hSw; first | (go_simp; done) | (go_simp; with_reducible rfl))
  (try simp only [Act.put, List.getElem_toArray, List.getElem_cons_succ, List.getElem_cons_zero, List.setIfInBounds_toArray, List.set_cons_zero, List.set_cons_succ])
  refine wpAnyH_take (i := 2) (v := ?_) rfl (by kernel_rfl) (by kernel_rfl) (by kernel_rfl) (fun _ _ _ h => h) (Or.inl ⟨by kernel_rfl, ?_⟩) hHeld ?_
  rotate_left
  · (intro w hSw; first | (go_simp; done) | (go_simp; with_reducible rfl))
  (try simp only [Act.put, List.getElem_toArray, List.getElem_cons_succ, List.getElem_cons_zero, List.setIfInBounds_toArray, List.set_cons_zero, List.set_cons_succ])
  refine wpAnyH_take (i := 3) (v := ?_) rfl (by kernel_rfl) (by kernel_rfl) (by kernel_rfl) (fun _ _ _ h => h) (Or.inl ⟨by kernel_rfl, ?_⟩) hHeld ?_
  rotate_left
  · (intro w hSw; first | (go_simp; done) | (go_simp; with_reducible rfl))
  (try simp only [Act.put, List.getElem_toArray, List.getElem_cons_succ, List.getElem_cons_zero, List.setIfInBounds_toArray, List.set_cons_zero, List.set_cons_succ])
  refine wpAnyH_take (i := 4) (v := .slice A.sa A.st.length A.sc) rfl (by kernel_rfl) (by kernel_rfl) (by kernel_rfl) (fun _ _ _ h => h) (Or.inl ⟨by kernel_rfl, ?_⟩) hHeld ?_
  · (intro w hSw; have c := hSw.1.cell 13; simp [MgT.cs] at c; go_simp)
  (try simp only [Act.put, List.getElem_toArray, List.getElem_cons_succ, List.getElem_cons_zero, List.setIfInBounds_toArray, List.set_cons_zero, List.set_cons_succ])
  refine wpAnyH_take (i := 5) (v := ?_) rfl (by kernel_rfl) (by kernel_rfl) (by kernel_rfl) (fun _ _ _ h => h) (Or.inl ⟨by kernel_rfl, ?_⟩) hHeld ?_
  rotate_left
  · (intro w hSw; first | (go_simp; done) | (go_simp; with_reducible rfl))
  (try simp only [Act.put, List.getElem_toArray, List.getElem_cons_succ, List.getElem_cons_zero, List.setIfInBounds_toArray, List.set_cons_zero, List.set_cons_succ])
  refine wpAnyH_take (i := 6) (v := ?_) rfl (by kernel_rfl) (by kernel_rfl) (by kernel_rfl) (fun _ _ _ h => h) (Or.inl ⟨by kernel_rfl, ?_⟩) hHeld ?_
  rotate_left
  · (intro w hSw; first | (go_simp; done) | (go_simp; with_reducible rfl))
  (try simp only [Act.put, List.getElem_toArray, List.getElem_cons_succ, List.getElem_cons_zero, List.setIfInBounds_toArray, List.set_cons_zero, List.set_cons_succ])
  refine wpAnyH_take (i := 7) (v := ?_) rfl (by kernel_rfl) (by kernel_rfl) (by kernel_rfl) (fun _ _ _ h => h) (Or.inl ⟨by kernel_rfl, ?_⟩) hHeld ?_
  rotate_left
  · (intro w hSw; first | (go_simp; done) | (go_simp; with_reducible rfl))
  (try simp only [Act.put, List.getElem_toArray, List.getElem_cons_succ, List.getElem_cons_zero, List.setIfInBounds_toArray, List.set_cons_zero, List.set_cons_succ])
  refine wpAnyH_take (i := 8) (v := .int .u64 (S.t : Int)) rfl (by kernel_rfl) (by kernel_rfl) (by kernel_rfl) (fun _ _ _ h => h) (Or.inl ⟨by kernel_rfl, ?_⟩) hHeld ?_
  · (intro w hSw; have c := hSw.2.2.2.1; go_simp)
  (try simp only [Act.put, List.getElem_toArray, List.getElem_cons_succ, List.getElem_cons_zero, List.setIfInBounds_toArray, List.set_cons_zero, List.set_cons_succ])
  refine wpAnyH_ready (rs := [9]) (by kernel_rfl) (by simp) (AllReadyH.cons rfl (fun K hK => ?_) AllReadyH.nil)
  have hH := hHeld
  (go_simp; go_at_call 46; refine HPQ.out.mono ?_; rintro e w8 ⟨rfl, hs8, hc8⟩)
  refine hK.out _ _ (by exact ⟨hH.1.chg hc8 (by simpa using HGP.out.2.2.2.2.2.symm), hH.2.1.chg hc8 (by simpa using HGP.out.2.2.2.2.1.symm), hH.2.2.1.chg hc8 (by simpa using HGP.out.2.2.1.symm), Own.cell hs8 2, hH.2.2.2.2.trans hc8⟩) (fun hHq1 => ?_)
  clear hK K hH 
  (try simp only [Act.put, List.getElem_toArray, List.getElem_cons_succ, List.getElem_cons_zero, List.setIfInBounds_toArray, List.set_cons_zero, List.set_cons_succ])
  refine wpAnyH_done (by kernel_rfl) ?_ _
  have hEnd := hHq1
  have HE8 := Lib.hid hEnd
  have HS8 := Lib.hid hs8
  have HC8 : Hid (Chg [p] V w8) := Lib.hid (((Chg.refl [p] V).drew).trans hc8)
  have k2 := hEnd.2.2.2.1
  have f2 := hs8.frozen 2
  have hp8 := hs8.lt
  have hw := HF.out.2
  clear hEnd hs8 hc8 hHeld
  go_upto_region 9 with fail
  have HT1 : Hid ((S.t : Int) + 1 = ((S.t + 1 : Nat) : Int)) := Lib.hid (by omega)
  rw [HT1.out]
  obtain ⟨V9, hV9⟩ : ∃ V9, w8.setCell ⟨p, 2, none⟩ (.int .u64 ((S.t + 1 : Nat) : Int)) = V9 := ⟨_, rfl⟩
  have cv9 : Chg [p] w8 V9 := by rw [← hV9]; exact (Chg.refl [p] w8).setCell (.inl (by simp)) _
  have HS9 : Hid (Sqn V9 p (tokS S A)) := Lib.hid (by rw [← hV9]; exact Own.set HS8.out 2 _)
  rw [hV9]
  have HG9 := Lib.hid (HE8.out.2.2.1.chg cv9 (by simpa using HGP.out.2.2.1.symm))
  have HO9 := Lib.hid (HE8.out.2.1.chg cv9 (by simpa using HGP.out.2.2.2.2.1.symm))
  have HC9 := Lib.hid (HE8.out.2.2.2.2.trans cv9)
  have HCV := Lib.hid (HC8.out.trans cv9)
  clear hV9 cv9 k2 f2 hp8 hw
  go_wp2_with (first | refine wpList_loadMg rfl (.tmp 5) rfl g rfl (tokT S A a1 c1 a2 c2) HG9.out ?_ | refine wpList_storeMg rfl (.tmp 4) (.tmp 57) rfl (w0.heap.size + 1) rfl (tokT S A a1 c1 a2 c2) rfl zmT.cs HO9.out rfl ?_)
  intro w10 ho hc
  have hs10 := HS9.out.chg hc (by simpa using HGP.out.2.2.2.2.1)
  have hc10 := HC9.out.then hc (fun x hx => by simp only [List.mem_singleton] at hx; subst hx; exact .inr (Nat.le_succ _))
  have hcv : Chg [p, w0.heap.size + 1] V w10 := (HCV.out.mono (l' := [p, w0.heap.size + 1]) (by simp)).trans (hc.mono (by simp))
  go_wp2_with fail
  refine bodyPost_ret (results_cell_row Try.results26 _ _ (w0.heap.size + 1) 40 _ (0, 0) _ rfl ho Try.underlying40 rfl (by kernel_rfl)) rfl ?_
  refine ⟨a1, c1, a2, c2, rfl, hs10, ?_, HLO6.out, ?_, hc10⟩
  · exact (HRV.out.chg (hcv.mono (by simp))).ro
  · refine HLV.out.chgQ hcv (fun x hx => ?_)
    simp only [List.mem_cons, List.not_mem_nil, or_false] at hx
    rcases hx with rfl | rfl
    · exact HEV.out.2.2.1.own.notQ (by decide) _ (by simp)
    · exact HEV.out.2.1.notQ (by decide) _ (by simp)
end Go.Proofs.Ytdblplkaobeimaa
namespace Go.Proofs.Ytdblplkaobeimaa
open Go.RowKit Go.Deep Go.Shelf
set_option linter.unusedVariables false
set_option linter.unusedSimpArgs false

set_option maxHeartbeats 1000000 in
theorem place_any (S : SqS) (p : Nat) (w : World) (ho : Sqn w p S) :
    Calls Try.prog 23 #[.pointer (some ⟨p, 0, none⟩)] w fun e w' => e = .returned (.agg #[.int .i64 2, .int .i64 S.n]) ∧ Below w.heap.size w w' := by
  have s0 := ho.c0
  have hp := ho.lt
  clear ho
  go_enter Try.func23, Try.ntmps23
  go_wp2_with fail
  have o2 := (Own.new w 25 [.int .i64 2, .int .i64 S.n])
  refine bodyPost_ret (results_cell_row Try.results23 _ _ w.heap.size 25 _ (0, 0) _ rfl o2 Try.underlying25 rfl (by kernel_rfl)) rfl ?_
  exact ⟨rfl, (Below.refl _ _).alloc (Nat.le_refl _) _⟩
set_option maxHeartbeats 1000000 in
theorem Epoch_any (S : SqS) (p : Nat) (w : World) (ho : Sqn w p S) :
    Calls Try.prog 10 #[.pointer (some ⟨p, 0, none⟩)] w fun e w' => e = .returned (.int .u64 (S.e : Int)) ∧ Below w.heap.size w w' := by
  have s0 := ho.c1
  have hp := ho.lt
  clear ho
  go_enter Try.func10, Try.ntmps10
  go_wp2_with fail
  go_ret
  exact ⟨rfl, Below.refl _ _⟩
set_option maxHeartbeats 1000000 in
theorem Tail_any (S : SqS) (p : Nat) (w : World) (ho : Sqn w p S) :
    Calls Try.prog 12 #[.pointer (some ⟨p, 0, none⟩)] w fun e w' => e = .returned (.int .u64 (S.t : Int)) ∧ Below w.heap.size w w' := by
  have s0 := ho.c2
  have hp := ho.lt
  clear ho
  go_enter Try.func12, Try.ntmps12
  go_wp2_with fail
  go_ret
  exact ⟨rfl, Below.refl _ _⟩
/-- a sequencer without an epoch -/
def newS (n : Int) : SqS := ⟨n, 0, 0, lastsM [] 16⟩
set_option maxHeartbeats 2000000 in
set_option maxRecDepth 100000 in
theorem SqNew_no (n : Int) (w : World) (hn : n < 0 ∨ 32 ≤ n) :
    Calls Try.prog 6 #[.int .i64 n] w fun e w' => e = .returned (.tuple #[.pointer none, .int .i64 1]) ∧ Below w.heap.size w w' := by
  rcases hn with hn | hn
  · have e1 : decide (n < 0) = true := by simpa using hn
    clear hn
    go_enter Try.func6, Try.ntmps6
    go_wp2_with fail
    go_ret2
    exact ⟨rfl, Below.refl _ _⟩
  · have e1 : decide (n < 0) = false := by simp; omega
    have e2 : decide (n ≥ 32) = true := by simpa using hn
    have e3 : decide (32 ≤ n) = true := by simpa using hn
    clear hn
    go_enter Try.func6, Try.ntmps6
    go_wp2_with fail
    go_ret2
    exact ⟨rfl, Below.refl _ _⟩
set_option maxHeartbeats 2000000 in
set_option maxRecDepth 100000 in
theorem SqNew_any (n : Int) (w : World) (h0 : 0 ≤ n) (h1 : n < 32) :
    Calls Try.prog 6 #[.int .i64 n] w fun e w' => ∃ g, e = .returned (.tuple #[.pointer (some ⟨g, 0, none⟩), .int .i64 0]) ∧ w.heap.size ≤ g ∧ Sqn w' g (newS n) ∧ Below w.heap.size w w' := by
  have e1 : decide (n < 0) = false := by simp; omega
  have e2 : decide (n ≥ 32) = false := by simp; omega
  have e3 : decide (32 ≤ n) = false := by simp; omega
  have HLO := Lib.hid (lastsOf_any [] none 0 0 w (Ro.nil _ _ _) (Nat.zero_le _) (by simp))
  clear h0 h1
  go_enter Try.func6, Try.ntmps6
  go_wp2_with fail
  refine HLO.out.mono ?_
  rintro e w1 ⟨rfl, hb⟩
  have HB := Lib.hid hb
  clear hb
  go_wp2_with fail
  go_ret2
  refine ⟨w1.heap.size, rfl, HB.out.size, ?_, HB.out.alloc HB.out.size _⟩
  refine Eq.mp (congrArg (fun x => Own (w1.alloc (.cells x 61)) w1.heap.size 61 (newS n).cs) ?_) (Own.new w1 61 (newS n).cs)
  kernel_rfl
end Go.Proofs.Ytdblplkaobeimaa
namespace Go.Proofs.Ytdblplkaobeimaa
open Go.RowKit Go.Deep Go.Shelf
set_option linter.unusedVariables false
set_option linter.unusedSimpArgs false

def isSt (n : Int) : Bool := decide (0 ≤ n) && decide (n < 16)
set_option maxHeartbeats 1000000 in
theorem isStream_any (n : Int) (w : World) :
    Calls Try.prog 27 #[.int .i64 n] w fun e w' => e = .returned (.bool (isSt n)) ∧ w' = w := by
  obtain ⟨t, ht⟩ : ∃ t, isSt n = t := ⟨_, rfl⟩
  rw [ht]
  unfold isSt at ht
  by_cases h0 : 0 ≤ n
  · by_cases h1 : n < 16
    · have e1 : decide (0 ≤ n) = true := by simpa using h0
      have e2 : decide (n < 16) = true := by simpa using h1
      obtain rfl : true = t := by rw [← ht, e1, e2]; rfl
      have e3 : decide (n ≥ 0) = true := by simpa using h0
      clear h0 h1 ht
      go_enter Try.func27, Try.ntmps27
      go_wp2_with fail
      go_ret
      exact ⟨rfl, rfl⟩
    · have e1 : decide (0 ≤ n) = true := by simpa using h0
      have e2 : decide (n < 16) = false := by simpa using h1
      obtain rfl : false = t := by rw [← ht, e1, e2]; rfl
      have e3 : decide (n ≥ 0) = true := by simpa using h0
      clear h0 h1 ht
      go_enter Try.func27, Try.ntmps27
      go_wp2_with fail
      go_ret
      exact ⟨rfl, rfl⟩
  · have e1 : decide (0 ≤ n) = false := by simpa using h0
    obtain rfl : false = t := by rw [← ht, e1]; rfl
    have e3 : decide (n ≥ 0) = false := by simpa using h0
    clear h0 ht
    go_enter Try.func27, Try.ntmps27
    go_wp2_with fail
    go_ret
    exact ⟨rfl, rfl⟩
/-- a stream's last addresses, none if there is no such stream -/
def lastQ (L : List La) (k : Int) : La := if isSt k then la L k.toNat else noLa
theorem fstB_nil (k : Int) : fstB [] k = noLa := by
  unfold fstB
  rw [show fdx ⟨0, [], []⟩ k = -1 from rfl]
  rfl
set_option maxHeartbeats 2000000 in
set_option maxRecDepth 100000 in
theorem Last_any (S : SqS) (hSL : S.L.length = 16) (p : Nat) (k : Int) (w : World) (ho : Sqn w p S) :
    Calls Try.prog 11 #[.pointer (some ⟨p, 0, none⟩), .int .i64 k] w fun e w' => e = .returned (lav (lastQ S.L k)) ∧ Below w.heap.size w w' := by
  have HIS := Lib.hid (fun W => isStream_any k W)
  have HS := Lib.hid ho
  have hp := ho.lt
  obtain ⟨t, ht⟩ : ∃ t, isSt k = t := ⟨_, rfl⟩
  unfold lastQ
  rw [ht] at HIS ⊢
  clear ho
  cases t with
  | false =>
    have HFD := Lib.hid (fun W => find_u [] none 0 0 k W (Ro.nil _ _ _) (Nat.zero_le _) (by simp))
    rw [fstB_nil] at HFD
    simp only [Bool.false_eq_true, if_false]
    clear ht
    obtain ⟨W, hW⟩ : ∃ W, Hid (w.alloc (.cells #[.int .u64 0, .int .u64 0] 50) = W) := ⟨_, Lib.hid rfl⟩
    have HO : Hid (Own W w.heap.size 50 [.int .u64 0, .int .u64 0]) := Lib.hid (by rw [← hW.out]; exact Own.new w _ _)
    have HB : Hid (Below w.heap.size w W) := Lib.hid (by rw [← hW.out]; exact (Below.refl _ _).alloc (Nat.le_refl _) _)
    go_enter Try.func11, Try.ntmps11
    go_upto_region 1 with fail
    rw [hW.out]
    go_wp2_with fail
    refine (HIS.out _).mono ?_
    rintro e w1 ⟨rfl, rfl⟩
    go_wp2_with fail
    refine (HFD.out _).mono ?_
    rintro e w2 ⟨u, rfl, hb⟩
    have o2 := HO.out.below hb HO.out.lt
    have HB2 := Lib.hid (HB.out.trans (hb.mono HB.out.size))
    have d0 := o2.cell 0
    have d1 := o2.cell 1
    have f0 := o2.frozen 0
    have f1 := o2.frozen 1
    have hz := o2.lt
    simp at d0 d1
    have HO2 := Lib.hid o2
    clear hb o2
    go_wp2_with fail
    refine bodyPost_ret (results_cell_row Try.results11 _ _ w.heap.size 50 _ (0, 0) _ rfl (((HO2.out.set 0 (.int .u64 (noLa.1 : Int))).set 1 (.int .u64 (noLa.2 : Int))).alloc _) Try.underlying50 rfl (by kernel_rfl)) rfl ?_
    exact ⟨rfl, (((HB2.out.setCell (by simp) _).setCell (by simp) _).alloc (by simp [set_size]; exact HB2.out.size) _)⟩
  | true =>
    simp only [if_true]
    have hk : 0 ≤ k ∧ k < 16 := by simpa [isSt] using ht
    obtain ⟨i, rfl⟩ := Int.eq_ofNat_of_zero_le hk.1
    rw [Int.toNat_natCast]
    obtain ⟨q1, q2⟩ := HS.out.own.lapair (i := i) (by omega)
    simp only [List.length_cons, List.length_nil, Nat.zero_add, Nat.reduceAdd] at q1 q2
    have hk0 := hk.1
    have hk1 := hk.2
    generalize la S.L i = l at *
    clear hk ht
    go_enter Try.func11, Try.ntmps11
    go_wp2_with fail
    refine (HIS.out _).mono ?_
    rintro e w1 ⟨rfl, rfl⟩
    go_wp2_with fail
    refine bodyPost_ret (results_cell_row Try.results11 _ _ w.heap.size 50 _ (0, 0) _ rfl (Own.new w 50 [.int .u64 (l.1 : Int), .int .u64 (l.2 : Int)]) Try.underlying50 rfl (by kernel_rfl)) rfl ?_
    exact ⟨rfl, (Below.refl _ _).alloc (Nat.le_refl _) _⟩

theorem eqPlQ (a b a' b' : Int) (w : World) : (Op.equalIn 10000 25 (.agg #[.int .i64 a, .int .i64 b]) (.agg #[.int .i64 a', .int .i64 b'])).run Try.prog w = .ok (decide (a = a' ∧ b = b')) w := by
  have g0 : ∀ (x y : Value), (part 23 #[x, y] 0).run Try.prog w = .ok x w := fun x y => run_part_cell Try.underlying23 rfl w
  have g1 : ∀ (x y : Value), (part 3 #[x, y] 1).run Try.prog w = .ok y w := fun x y => run_part_cell Try.underlying3 rfl w
  have ge : ∀ (x y : Int), (Op.equalIn 9999 3 (.int .i64 x) (.int .i64 y)).run Try.prog w = .ok (x == y) w := fun x y => run_equalIn_int w 9998 3 .i64 .i64 _ _ Try.underlying3
  have gr : ∀ (x y : Int), (Op.equalIn 9999 23 (.int .i64 x) (.int .i64 y)).run Try.prog w = .ok (x == y) w := fun x y => run_equalIn_int w 9998 23 .i64 .i64 _ _ Try.underlying23
  refine (run_equalIn_struct w 9999 25 _ _ (by kernel_rfl) (by kernel_rfl)).trans ?_
  simp [Program.fieldsOf, Try.underlying25, Op.eqFields, g0, g1, ge, gr]
  by_cases h1 : a = a'
  · by_cases h2 : b = b' <;> simp [h1, h2]
  · simp [h1]
end Go.Proofs.Ytdblplkaobeimaa
