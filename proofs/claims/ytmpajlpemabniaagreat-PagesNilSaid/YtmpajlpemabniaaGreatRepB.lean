/-
  Contract of slices.Replace at a row of runs of the call's own, in the middle. No claim of its own.
-/
import Derived.Test.YtmpajlpemabniaaGreatJ6
namespace Go.Proofs.YtmpajlpemabniaaGreat
open Go.RowKit Go.Deep
set_option linter.unusedVariables false
set_option linter.unusedSimpArgs false

theorem splice_drop_ge {cur cs : List Value} {off k : Nat} (ho : off ≤ cur.length) (hk : off + cs.length ≤ k) : (splice cur off cs).drop k = cur.drop k := by
  unfold splice
  rw [List.drop_append, List.drop_of_length_le (by rw [List.length_take]; omega), List.length_take, Nat.min_eq_left ho, List.nil_append, List.drop_append, List.drop_of_length_le (by omega), List.nil_append, List.drop_drop]
  congr 1
  omega
set_option maxHeartbeats 1000000 in
set_option maxRecDepth 100000 in
/-- in the middle, by as much or less -/
theorem replace_small (w : World) (base g c : Nat) (L : List Rn) (cur : List Value) (hg : base ≤ g) (ho : Own w g 86 cur) (hcl : cur.length = c * 2) (ht : cur.take (L.length * 2) = rcs L) (hcm : c ≤ 9223372036854775807) (hnc : L.length ≤ c)
    (a2 : Option Addr) (c2 : Nat) (V : List Rn) (hsrc : V ≠ [] → ∃ g2, a2 = some ⟨g2, 0, none⟩ ∧ Src2 w g2 0 (rcs V)) (i j : Nat) (hij : i < j) (hj : j < L.length) (hless : i + V.length ≤ j) (hb : L.length + V.length ≤ 4000000) :
    Calls Tryz.prog 147 #[.slice (some ⟨g, 0, none⟩) L.length c, .int .i64 i, .int .i64 j, .slice a2 V.length c2] w (RepPost w base (.slice (some ⟨g, 0, none⟩) L.length c) (L.take i ++ (V ++ L.drop j))) := by
  obtain ⟨n, HN⟩ : ∃ n, Hid (L.length = n) := ⟨_, Lib.hid rfl⟩
  obtain ⟨m, HM⟩ : ∃ m, Hid (V.length = m) := ⟨_, Lib.hid rfl⟩
  rw [HN.out] at hj hb hnc ⊢
  rw [HM.out] at hless hb ⊢
  obtain ⟨k, rfl⟩ : ∃ k, n = j + k := ⟨n - j, by omega⟩
  have h3 : ¬ ((i : Int) = (j : Int)) := by omega
  have h4 : ¬ ((j : Int) = (j : Int) + (k : Int)) := by omega
  have hin : i ≤ j := by omega
  have hin2 : j ≤ j + k := by omega
  have hw1 : IntKind.i64.wrap ((i : Int) + (m : Int)) = (i : Int) + (m : Int) := by rw [IntKind.wrap_i64]; omega
  have hw2 : IntKind.i64.wrap ((i : Int) + (m : Int) + (k : Int)) = (i : Int) + (m : Int) + (k : Int) := by rw [IntKind.wrap_i64]; omega
  have htn : ((i : Int) + (m : Int)).toNat = i + m := by omega
  have htn2 : ((i : Int) + (m : Int) + (k : Int)).toNat = i + m + k := by omega
  have hb1 : (0 : Int) ≤ (i : Int) + (m : Int) := by omega
  have hb2 : (0 : Int) ≤ (i : Int) + (m : Int) + (k : Int) := by omega
  have hc1 : ¬ (c = i) := by omega
  have hc2 : ¬ (c = j) := by omega
  have hc3 : ¬ (c = i + m) := by omega
  have HCL := Lib.hid hcl
  have HT := Lib.hid ht
  have HSV := Lib.hid hsrc
  have HO := Lib.hid ho
  have HY := Lib.hid (show (rcs V).length = m * 2 by rw [rcs_length, HM.out])
  have HYm := Lib.hid (show (rcs V).length = Nat.min m (i + m + k - i) * 2 by rw [HY.out]; show _ = min _ _ * 2; omega)
  have HXl := Lib.hid (show (rcs (L.drop j)).length = k * 2 by rw [rcs_length, List.length_drop, HN.out]; omega)
  have HX := Lib.hid (show (rcs (L.drop j)).length = Nat.min k (i + m + k - (i + m)) * 2 by rw [HXl.out]; show _ = min _ _ * 2; omega)
  have HF := Lib.hid (show i * 2 + (rcs V).length ≤ cur.length by rw [HY.out, hcl]; omega)
  have HS1l := Lib.hid (length_splice cur (i * 2) (rcs V) HF.out)
  have HF2 := Lib.hid (show (i + m) * 2 + (rcs (L.drop j)).length ≤ cur.length by rw [HXl.out, hcl]; omega)
  have HF3 := Lib.hid (show (i + m) * 2 + (rcs (L.drop j)).length ≤ (splice cur (i * 2) (rcs V)).length by rw [HS1l.out]; exact HF2.out)
  have HS2l := Lib.hid (length_splice (splice cur (i * 2) (rcs V)) ((i + m) * 2) (rcs (L.drop j)) HF3.out)
  have HP := Lib.hid (show ∃ r, (splice cur (i * 2) (rcs V)).drop (j * 2) = rcs (L.drop j) ++ r by
    rw [splice_drop_ge (by rw [hcl]; omega) (by rw [HY.out]; omega), rcs_drop]
    exact drop_pref ht (by rw [HN.out, hcl]; omega) (by rw [HN.out]; omega))
  have hl : (L.take i ++ (V ++ L.drop j)).length = i + m + k := by
    have := HN.out; have := HM.out
    simp only [List.length_append, List.length_take, List.length_drop]; omega
  have HL := Lib.hid hl
  have htk := splice2_take' (cur := cur) (X := rcs (L.drop j)) (Y := rcs V) (p := i * 2) (q := (i + m) * 2) (by rw [HY.out]; omega) HF2.out
  rw [HXl.out, show (i + m) * 2 + k * 2 = (i + m + k) * 2 by omega] at htk
  have HTK := Lib.hid htk
  have htt : cur.take (i * 2) = rcs (L.take i) := by rw [rcs_take, ← ht, HN.out, List.take_take, Nat.min_eq_left (by omega)]
  have HTT := Lib.hid htt
  clear hcl ht hsrc ho hl htk htt
  have hin5 : (i : Int) + (m : Int) ≤ (i : Int) + (m : Int) + (k : Int) := by omega
  have hin6 : (j : Int) ≤ (j : Int) + (k : Int) := by omega
  have hfz : i + m + k ≤ j + k := by omega
  have hcc : (c = i + m + k) = True ∨ (c = i + m + k) = False := by by_cases h : c = i + m + k <;> simp [h]
  rcases hcc with hcc | hcc
  all_goals
    go_enter Tryz.func147, Tryz.ntmps147
    go_wp2
    go_quiet (fail)
    go_wp2_with (refine wpList_copy2 rfl _ _ 82 82 rfl 86 Tryz.underlying82 Tryz.sizeR (some ⟨g, i * 2, none⟩) a2 (i + m + k - i) (c - i) m c2 rfl rfl g (i * 2) cur 86 (HO.out.qt ⟨nq, rfl⟩) (rcs V) HYm.out (fun hp => (by obtain ⟨g2, e, hs⟩ := HSV.out (by rintro rfl; simp [rcs] at hp); exact ⟨rfl, _, e, hs⟩)) HF.out (rcs_one _) ?_; intro w1 HO1 hg1)
    have hg1' : w.grownBy w1 (some g) := ⟨hg1.os, hg1.tape, hg1.output, hg1.size, hg1.block⟩
    have HS3 := Lib.hid (show Src2 w1 g (j * 2) (rcs (L.drop j)) from HO1.out.src HP.out)
    clear hg1
    go_region_law (refine step_copy2 rfl (.tmp 103) (.tmp 106) 82 82 rfl 86 Tryz.underlying82 Tryz.sizeR (some ⟨g, (i + m) * 2, none⟩) (some ⟨g, j * 2, none⟩) (i + m + k - (i + m)) (c - (i + m)) k (c - j) (by simp [Act.eval, Act.put]) (by simp [Act.eval, Act.put]) g ((i + m) * 2) (splice cur (i * 2) (rcs V)) 86 HO1.out (rcs (L.drop j)) HX.out (fun _ => ⟨rfl, _, rfl, HS3.out⟩) HF3.out (rcs_one _) ?_; intro w2 HO2 hg2)
    have hg2' : w.grownBy w2 (some g) := grown_trans hg1' (grown_undrew hg2)
    clear hg2
    go_wp2_with (refine wpList_clear2 rfl _ 82 rfl 86 zR 16 Tryz.underlying82 Tryz.infoR rfl zR_one _ _ _ rfl g ((i + m + k) * 2) (splice (splice cur (i * 2) (rcs V)) ((i + m) * 2) (rcs (L.drop j))) 86 HO2.out (fun hp => by first | rfl | (exfalso; (have := of_eq_true hcc); omega)) (by rw [HS2l.out, HS1l.out, HCL.out]; omega) ?_; intro w3 cs3 hcs3 HO3 hg3)
    go_ret
    refine RepPost.mk ?_ (grown_trans hg2' hg3) (Nb.refl _ _)
    rw [← HL.out]
    refine Lr.mk hg HO3.out (by rw [HL.out]; omega) (by unfold maxLen; omega) (by rw [length_splice _ _ _ (by rw [hcs3, HS2l.out, HS1l.out, HCL.out]; omega), HS2l.out, HS1l.out, HCL.out]) ?_
    rw [HL.out, splice_take_le (by omega) (by rw [HS2l.out, HS1l.out, HCL.out]; omega), HTK.out, rcs_append, rcs_append, HTT.out]
set_option maxHeartbeats 1000000 in
set_option maxRecDepth 100000 in
/-- in the middle, by more, with room -/
theorem replace_wide (w : World) (base g c : Nat) (L : List Rn) (cur : List Value) (hg : base ≤ g) (ho : Own w g 86 cur) (hcl : cur.length = c * 2) (ht : cur.take (L.length * 2) = rcs L) (hcm : c ≤ 9223372036854775807) (hnc : L.length ≤ c)
    (g2 c2 : Nat) (V : List Rn) (cur2 : List Value) (ho2 : Own w g2 86 cur2) (ht2 : cur2.take (V.length * 2) = rcs V) (hne : g ≠ g2) (i j : Nat) (hij : i < j) (hj : j < L.length) (hmore : j < i + V.length) (hroom : i + V.length + (L.length - j) ≤ c) (hb : L.length + V.length ≤ 4000000) :
    Calls Tryz.prog 147 #[.slice (some ⟨g, 0, none⟩) L.length c, .int .i64 i, .int .i64 j, .slice (some ⟨g2, 0, none⟩) V.length c2] w (RepPost w base (.slice (some ⟨g, 0, none⟩) L.length c) (L.take i ++ (V ++ L.drop j))) := by
  have hc20 : cur2.length ≠ 0 := by
    intro e
    have := congrArg List.length ht2
    rw [List.length_take, rcs_length, e] at this
    omega
  obtain ⟨n, HN⟩ : ∃ n, Hid (L.length = n) := ⟨_, Lib.hid rfl⟩
  obtain ⟨m, HM⟩ : ∃ m, Hid (V.length = m) := ⟨_, Lib.hid rfl⟩
  rw [HN.out] at hj hb hnc hroom ⊢
  rw [HM.out] at hmore hb hroom ⊢
  obtain ⟨k, rfl⟩ : ∃ k, n = j + k := ⟨n - j, by omega⟩
  rw [show j + k - j = k by omega] at hroom
  have hov : ∀ nq lb cb, (callFunc 203 #[.slice (some ⟨g, (i + m) * 2, none⟩) lb cb, .slice (some ⟨g2, 0, none⟩) m c2]).run Tryz.prog (w.drewN nq) = .ok (.value (.bool false)) (w.drewN nq) := fun nq lb cb => overlaps_no _ (ho.qt ⟨nq, rfl⟩) (ho2.qt ⟨nq, rfl⟩) hne hc20 lb cb m c2 _
  have h3 : ¬ ((i : Int) = (j : Int)) := by omega
  have h4 : ¬ ((j : Int) = (j : Int) + (k : Int)) := by omega
  have hin : i ≤ j := by omega
  have hin2 : j ≤ j + k := by omega
  have hw1 : IntKind.i64.wrap ((i : Int) + (m : Int)) = (i : Int) + (m : Int) := by rw [IntKind.wrap_i64]; omega
  have hw2 : IntKind.i64.wrap ((i : Int) + (m : Int) + (k : Int)) = (i : Int) + (m : Int) + (k : Int) := by rw [IntKind.wrap_i64]; omega
  have htn : ((i : Int) + (m : Int)).toNat = i + m := by omega
  have htn2 : ((i : Int) + (m : Int) + (k : Int)).toNat = i + m + k := by omega
  have hb1 : (0 : Int) ≤ (i : Int) + (m : Int) := by omega
  have hb2 : (0 : Int) ≤ (i : Int) + (m : Int) + (k : Int) := by omega
  have hc1 : ¬ (c = i) := by omega
  have hc2 : ¬ (c = j) := by omega
  have hc3 : ¬ (c = i + m) := by omega
  have hin5 : (i : Int) + (m : Int) ≤ (i : Int) + (m : Int) + (k : Int) := by omega
  have hin6 : (j : Int) ≤ (j : Int) + (k : Int) := by omega
  have HCL := Lib.hid hcl
  have HO := Lib.hid ho
  have HY := Lib.hid (show (rcs V).length = m * 2 by rw [rcs_length, HM.out])
  have HYm := Lib.hid (show (rcs V).length = Nat.min m (i + m + k - i) * 2 by rw [HY.out]; show _ = min _ _ * 2; omega)
  have HXl := Lib.hid (show (rcs (L.drop j)).length = k * 2 by rw [rcs_length, List.length_drop, HN.out]; omega)
  have HX := Lib.hid (show (rcs (L.drop j)).length = Nat.min k (i + m + k - (i + m)) * 2 by rw [HXl.out]; show _ = min _ _ * 2; omega)
  have HF := Lib.hid (show i * 2 + (rcs V).length ≤ cur.length by rw [HY.out, hcl]; omega)
  have HF2 := Lib.hid (show (i + m) * 2 + (rcs (L.drop j)).length ≤ cur.length by rw [HXl.out, hcl]; omega)
  have HS1l := Lib.hid (length_splice cur ((i + m) * 2) (rcs (L.drop j)) HF2.out)
  have HF3 := Lib.hid (show i * 2 + (rcs V).length ≤ (splice cur ((i + m) * 2) (rcs (L.drop j))).length by rw [HS1l.out]; exact HF.out)
  have HS2l := Lib.hid (length_splice (splice cur ((i + m) * 2) (rcs (L.drop j))) (i * 2) (rcs V) HF3.out)
  have HS := Lib.hid (show Src2 w g (j * 2) (rcs (L.drop j)) from ho.src (by rw [rcs_drop]; exact drop_pref ht (by rw [HN.out, hcl]; omega) (by rw [HN.out]; omega)))
  have HS2 := Lib.hid (show Src2 w g2 0 (rcs V) from ho2.src ⟨cur2.drop (V.length * 2), by rw [← ht2, List.take_append_drop]; rfl⟩)
  have hl : (L.take i ++ (V ++ L.drop j)).length = i + m + k := by
    have := HN.out; have := HM.out
    simp only [List.length_append, List.length_take, List.length_drop]; omega
  have HL := Lib.hid hl
  have htk := splice2_take (cur := cur) (X := rcs (L.drop j)) (Y := rcs V) (p := i * 2) (q := (i + m) * 2) (by rw [HY.out]; omega) HF2.out
  rw [HXl.out, show (i + m) * 2 + k * 2 = (i + m + k) * 2 by omega] at htk
  have HTK := Lib.hid htk
  have htt : cur.take (i * 2) = rcs (L.take i) := by rw [rcs_take, ← ht, HN.out, List.take_take, Nat.min_eq_left (by omega)]
  have HTT := Lib.hid htt
  have hne2 : some g2 ≠ some g := by simpa using hne.symm
  clear hcl ht ht2 ho ho2 hl htk htt hc20
  go_enter Tryz.func147, Tryz.ntmps147
  go_wp2
  go_quiet (fail)
  go_wp2_with (simp only [hov])
  have HSq := Lib.hid (show Src2 (w.drewN nq) g (j * 2) (rcs (L.drop j)) from HS.out)
  go_region_law (refine step_copy2 rfl (.tmp 126) (.tmp 129) 82 82 rfl 86 Tryz.underlying82 Tryz.sizeR (some ⟨g, (i + m) * 2, none⟩) (some ⟨g, j * 2, none⟩) (i + m + k - (i + m)) (c - (i + m)) k (c - j) (by simp [Act.eval, Act.put]) (by simp [Act.eval, Act.put]) g ((i + m) * 2) cur 86 ((HO.out.qt ⟨nq, rfl⟩).qt ⟨1, rfl⟩) (rcs (L.drop j)) HX.out (fun _ => ⟨rfl, _, rfl, HSq.out⟩) HF2.out (rcs_one _) ?_; intro w1 HO1 hg1)
  have hg1' : w.grownBy w1 (some g) := ⟨hg1.os, hg1.tape, hg1.output, hg1.size, hg1.block⟩
  have HS3 := Lib.hid (Src2.grown (w' := w1) HS2.out hg1' hne2)
  clear hg1
  go_wp2_with (refine wpList_copy2 rfl _ _ 82 82 rfl 86 Tryz.underlying82 Tryz.sizeR (some ⟨g, i * 2, none⟩) (some ⟨g2, 0, none⟩) (i + m + k - i) (c - i) m c2 rfl rfl g (i * 2) (splice cur ((i + m) * 2) (rcs (L.drop j))) 86 HO1.out (rcs V) HYm.out (fun _ => ⟨rfl, _, rfl, HS3.out⟩) HF3.out (rcs_one _) ?_; intro w2 HO2 hg2)
  go_ret
  refine RepPost.mk ?_ (grown_trans hg1' hg2) (Nb.refl _ _)
  rw [← HL.out]
  refine Lr.mk hg HO2.out (by rw [HL.out]; omega) (by unfold maxLen; omega) (by rw [HS2l.out, HS1l.out, HCL.out]) ?_
  rw [HL.out, HTK.out, rcs_append, rcs_append, HTT.out]
set_option maxHeartbeats 1000000 in
set_option maxRecDepth 100000 in
/-- in the middle, by more, without room -/
theorem replace_grow (w : World) (base g c : Nat) (L : List Rn) (cur : List Value) (hg : base ≤ g) (ho : Own w g 86 cur) (hcl : cur.length = c * 2) (ht : cur.take (L.length * 2) = rcs L) (hcm : c ≤ 9223372036854775807) (hnc : L.length ≤ c)
    (g2 c2 : Nat) (V : List Rn) (cur2 : List Value) (ho2 : Own w g2 86 cur2) (ht2 : cur2.take (V.length * 2) = rcs V) (i j : Nat) (hij : i < j) (hj : j < L.length) (hroom : c < i + V.length + (L.length - j)) (hb : L.length + V.length ≤ 4000000) (hbase : base ≤ w.heap.size) :
    Calls Tryz.prog 147 #[.slice (some ⟨g, 0, none⟩) L.length c, .int .i64 i, .int .i64 j, .slice (some ⟨g2, 0, none⟩) V.length c2] w (RepPost w base (.slice (some ⟨g, 0, none⟩) L.length c) (L.take i ++ (V ++ L.drop j))) := by
  have hap := fun nq : Nat => append_zeros (w.drewN nq) g c L cur (ho.qt ⟨nq, rfl⟩) hcl ht hnc i (V.length + (L.length - j)) (by omega) (by omega) (by omega) (by omega)
  obtain ⟨n, HN⟩ : ∃ n, Hid (L.length = n) := ⟨_, Lib.hid rfl⟩
  obtain ⟨m, HM⟩ : ∃ m, Hid (V.length = m) := ⟨_, Lib.hid rfl⟩
  rw [HN.out] at hj hb hnc hroom hap ⊢
  rw [HM.out] at hb hroom hap ⊢
  obtain ⟨k, rfl⟩ : ∃ k, n = j + k := ⟨n - j, by omega⟩
  rw [show j + k - j = k by omega] at hroom hap
  have hgn : g < w.heap.size := ho.lt
  have hgn2 : g2 < w.heap.size := ho2.lt
  have h3 : ¬ ((i : Int) = (j : Int)) := by omega
  have h4 : ¬ ((j : Int) = (j : Int) + (k : Int)) := by omega
  have h5 : (c : Int) < (i : Int) + (m : Int) + (k : Int) := by omega
  have hin : i ≤ j := by omega
  have hin2 : j ≤ j + k := by omega
  have hw1 : IntKind.i64.wrap ((i : Int) + (m : Int)) = (i : Int) + (m : Int) := by rw [IntKind.wrap_i64]; omega
  have hw2 : IntKind.i64.wrap ((i : Int) + (m : Int) + (k : Int)) = (i : Int) + (m : Int) + (k : Int) := by rw [IntKind.wrap_i64]; omega
  have hw3 : IntKind.i64.wrap ((i : Int) + (m : Int) + (k : Int) - (i : Int)) = (i : Int) + (m : Int) + (k : Int) - (i : Int) := by rw [IntKind.wrap_i64]; omega
  have htn : ((i : Int) + (m : Int)).toNat = i + m := by omega
  have htn2 : ((i : Int) + (m : Int) + (k : Int)).toNat = i + m + k := by omega
  have hb1 : (0 : Int) ≤ (i : Int) + (m : Int) := by omega
  have hb2 : (0 : Int) ≤ (i : Int) + (m : Int) + (k : Int) := by omega
  have hc1 : ¬ (c = i) := by omega
  have hc2 : ¬ (c = j) := by omega
  have hin5 : (i : Int) + (m : Int) ≤ (i : Int) + (m : Int) + (k : Int) := by omega
  have hin6 : (j : Int) ≤ (j : Int) + (k : Int) := by omega
  have hin7 : (i : Int) ≤ (i : Int) + (m : Int) + (k : Int) := by omega
  have HAP := Lib.hid hap
  have HY := Lib.hid (show (rcs V).length = m * 2 by rw [rcs_length, HM.out])
  have HYm := Lib.hid (show (rcs V).length = Nat.min m (i + m + k - i) * 2 by rw [HY.out]; show _ = min _ _ * 2; omega)
  have HXl := Lib.hid (show (rcs (L.drop j)).length = k * 2 by rw [rcs_length, List.length_drop, HN.out]; omega)
  have HX := Lib.hid (show (rcs (L.drop j)).length = Nat.min k (i + m + k - (i + m)) * 2 by rw [HXl.out]; show _ = min _ _ * 2; omega)
  have HS := Lib.hid (show Src2 w g (j * 2) (rcs (L.drop j)) from ho.src (by rw [rcs_drop]; exact drop_pref ht (by rw [HN.out, hcl]; omega) (by rw [HN.out]; omega)))
  have HS2 := Lib.hid (show Src2 w g2 0 (rcs V) from ho2.src ⟨cur2.drop (V.length * 2), by rw [← ht2, List.take_append_drop]; rfl⟩)
  have hl : (L.take i ++ (V ++ L.drop j)).length = i + m + k := by
    have := HN.out; have := HM.out
    simp only [List.length_append, List.length_take, List.length_drop]; omega
  have HL := Lib.hid hl
  clear hcl ht ht2 ho ho2 hl hap
  go_enter Tryz.func147, Tryz.ntmps147
  go_wp2
  go_quiet (fail)
  obtain ⟨G, W1, cur1, hG1, hG2, hl1, ht1, ho1, hgr, hrun⟩ := HAP.out nq
  rw [show i + (m + k) = i + m + k by omega] at hrun hG1
  rw [show ((m + k : Nat) : Int) = (i : Int) + (m : Int) + (k : Int) - (i : Int) by omega] at hrun
  rw [show (w.drewN nq).heap.size = w.heap.size from rfl] at ho1 hrun
  have HT1 := Lib.hid ht1
  have HCL := Lib.hid hl1
  have HO1 := Lib.hid ho1
  have HGR := Lib.hid (show w.grownBy W1 (some g) from ⟨(hgr (some g)).os, (hgr (some g)).tape, (hgr (some g)).output, (hgr (some g)).size, (hgr (some g)).block⟩)
  have HSa := Lib.hid (Src2.grown (w' := W1) HS.out (r := none) ⟨(hgr none).os, (hgr none).tape, (hgr none).output, (hgr none).size, (hgr none).block⟩ (by simp))
  have HSb := Lib.hid (Src2.grown (w' := W1) HS2.out (r := none) ⟨(hgr none).os, (hgr none).tape, (hgr none).output, (hgr none).size, (hgr none).block⟩ (by simp))
  have hG63 : G ≤ 9223372036854775807 := by unfold maxLen at hG2; omega
  have hbG : ¬ (G = i + m) := by omega
  have hbG2 : ¬ (G = i) := by omega
  have HF := Lib.hid (show i * 2 + (rcs V).length ≤ cur1.length by rw [HY.out, hl1]; omega)
  have HF2 := Lib.hid (show (i + m) * 2 + (rcs (L.drop j)).length ≤ cur1.length by rw [HXl.out, hl1]; omega)
  have HF3 := Lib.hid (show (i + m) * 2 + (rcs (L.drop j)).length ≤ (splice cur1 (i * 2) (rcs V)).length by rw [length_splice _ _ _ HF.out]; exact HF2.out)
  have hne : some g ≠ some w.heap.size := by simp; omega
  clear hl1 ht1 ho1 hgr
  go_wp2_with (first
    | (at_builtin; refine Lib.wpList_append_run _ rfl _ _ _ _ rfl _ _ rfl rfl _ _ (hrun _) ?_)
    | (refine wpList_copy2 rfl _ _ 82 82 rfl 86 Tryz.underlying82 Tryz.sizeR (some ⟨w.heap.size, i * 2, none⟩) (some ⟨g2, 0, none⟩) (i + m + k - i) (G - i) m c2 rfl rfl w.heap.size (i * 2) cur1 86 HO1.out (rcs V) HYm.out (fun _ => ⟨rfl, _, rfl, HSb.out⟩) HF.out (rcs_one _) ?_; intro w2 HO2 hg2))
  have HS3 := Lib.hid (Src2.grown (w' := w2) HSa.out hg2 hne)
  have HG3 := Lib.hid (show w.grownBy w2 (some g) from ⟨hg2.os.trans HGR.out.os, hg2.tape.trans HGR.out.tape, hg2.output.trans HGR.out.output, Nat.le_trans HGR.out.size hg2.size, fun k hk hne => (hg2.block k (Nat.lt_of_lt_of_le hk HGR.out.size) (by intro e; injection e with e; omega)).trans (HGR.out.block k hk hne)⟩)
  clear hg2
  go_region_law (refine step_copy2 rfl (.tmp 78) (.tmp 81) 82 82 rfl 86 Tryz.underlying82 Tryz.sizeR (some ⟨w.heap.size, (i + m) * 2, none⟩) (some ⟨g, j * 2, none⟩) (i + m + k - (i + m)) (G - (i + m)) k (c - j) (by simp [Act.eval, Act.put]) (by simp [Act.eval, Act.put]) w.heap.size ((i + m) * 2) (splice cur1 (i * 2) (rcs V)) 86 HO2.out (rcs (L.drop j)) HX.out (fun _ => ⟨rfl, _, rfl, HS3.out⟩) HF3.out (rcs_one _) ?_; intro w3 HO3 hg3)
  have hg3' : w2.grownBy w3 (some w.heap.size) := grown_undrew hg3
  clear hg3
  go_wp2
  go_ret
  refine RepPost.mk ?_ ⟨hg3'.os.trans HG3.out.os, hg3'.tape.trans HG3.out.tape, hg3'.output.trans HG3.out.output, Nat.le_trans HG3.out.size hg3'.size, fun k hk hne => (hg3'.block k (Nat.lt_of_lt_of_le hk HG3.out.size) (by intro e; injection e with e; omega)).trans (HG3.out.block k hk hne)⟩ (.inr fun k hk => by simp [Value.ownBlock] at hk; omega)
  rw [← HL.out]
  refine Lr.mk hbase HO3.out (by rw [HL.out]; omega) hG2 (by rw [length_splice _ _ _ HF3.out, length_splice _ _ _ HF.out, HCL.out]) ?_
  have := splice2_take' (cur := cur1) (X := rcs (L.drop j)) (Y := rcs V) (p := i * 2) (q := (i + m) * 2) (by rw [HY.out]; omega) HF2.out
  rw [HXl.out] at this
  rw [HL.out, show (i + m + k) * 2 = (i + m) * 2 + k * 2 by omega, this, rcs_append, rcs_append, HT1.out]
end Go.Proofs.YtmpajlpemabniaaGreat
