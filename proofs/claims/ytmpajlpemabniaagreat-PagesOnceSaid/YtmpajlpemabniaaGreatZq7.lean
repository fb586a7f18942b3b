/-
  Contract of slices.Replace at a row of runs of the call's own, in the middle. No claim of its own.
-/
import Derived.Test.YtmpajlpemabniaaGreatZq6
import Derived.StillTailTactics
import Derived.Shelf.RegionOpen
import Derived.Shelf.Abstract
import Derived.Test.YtmpajlpemabniaaGreatZq3
namespace Go.Proofs.YtmpajlpemabniaaGreat
open Go.RowKit Go.Deep
set_option linter.unusedVariables false
set_option linter.unusedSimpArgs false
theorem splice_drop_ge {cur cs : List Value} {off k : Nat} (ho : off ≤ cur.length) (hk : off + cs.length ≤ k) : (splice cur off cs).drop k = cur.drop k := by
  unfold splice
  rw [List.drop_append, List.drop_of_length_le (by rw [List.length_take]; omega), List.length_take, Nat.min_eq_left ho, List.nil_append, List.drop_append, List.drop_of_length_le (by omega), List.nil_append, List.drop_drop]
  congr 1
  omega
set_option maxHeartbeats 1000000 in
set_option maxRecDepth 100000 in
theorem replace_small (w : World) (base g c : Nat) (L : List Rn) (cur : List Value) (hg : base ≤ g) (ho : Own w g 86 cur) (hcl : cur.length = c * 2) (ht : cur.take (L.length * 2) = rcs L) (hcm : c ≤ 9223372036854775807) (hnc : L.length ≤ c)
    (a2 : Option Addr) (c2 : Nat) (V : List Rn) (hsrc : V ≠ [] → ∃ g2, a2 = some ⟨g2, 0, none⟩ ∧ Src2 w g2 0 (rcs V)) (i j : Nat) (hij : i < j) (hj : j < L.length) (hless : i + V.length ≤ j) (hb : L.length + V.length ≤ 4000000) :
    Calls Tryz.prog 147 #[.slice (some ⟨g, 0, none⟩) L.length c, .int .i64 i, .int .i64 j, .slice a2 V.length c2] w (RepPost w base (.slice (some ⟨g, 0, none⟩) L.length c) (L.take i ++ (V ++ L.drop j))) := by
  obtain ⟨n, HN⟩ : ∃ n, Hid (L.length = n) := ⟨_, Lib.hid rfl⟩
  obtain ⟨m, HM⟩ : ∃ m, Hid (V.length = m) := ⟨_, Lib.hid rfl⟩
  rw [HN.out] at hj hb hnc ⊢
  rw [HM.out] at hless hb ⊢
  obtain ⟨k, rfl⟩ : ∃ k, n = j + k := ⟨n - j, by omega⟩
  have h3 : ¬ ((i : Int) = (j : Int)) := by omega
  have h4 : ¬ ((j : Int) = (j : Int) + (k : Int)) := by omega
  have hin : i ≤ j := by omega
  have hin2 : j ≤ j + k := by omega
  have hw1 : IntKind.i64.wrap ((i : Int) + (m : Int)) = (i : Int) + (m : Int) := by rw [IntKind.wrap_i64]; omega
  have hw2 : IntKind.i64.wrap ((i : Int) + (m : Int) + (k : Int)) = (i : Int) + (m : Int) + (k : Int) := by rw [IntKind.wrap_i64]; omega
  have htn : ((i : Int) + (m : Int)).toNat = i + m := by omega
  have htn2 : ((i : Int) + (m : Int) + (k : Int)).toNat = i + m + k := by omega
  have hb1 : (0 : Int) ≤ (i : Int) + (m : Int) := by omega
  have hb2 : (0 : Int) ≤ (i : Int) + (m : Int) + (k : Int) := by omega
  have hc1 : ¬ (c = i) := by omega
  have hc2 : ¬ (c = j) := by omega
  have hc3 : ¬ (c = i + m) := by omega
  have HCL := Lib.hid hcl
  have HT := Lib.hid ht
  have HSV := Lib.hid hsrc
  have HO := Lib.hid ho
  have HY := Lib.hid (show (rcs V).length = m * 2 by rw [rcs_length, HM.out])
  have HYm := Lib.hid (show (rcs V).length = Nat.min m (i + m + k - i) * 2 by rw [HY.out]; show _ = min _ _ * 2; omega)
  have HXl := Lib.hid (show (rcs (L.drop j)).length = k * 2 by rw [rcs_length, List.length_drop, HN.out]; omega)
  have HX := Lib.hid (show (rcs (L.drop j)).length = Nat.min k (i + m + k - (i + m)) * 2 by rw [HXl.out]; show _ = min _ _ * 2; omega)
  have HF := Lib.hid (show i * 2 + (rcs V).length ≤ cur.length by rw [HY.out, hcl]; omega)
  have HS1l := Lib.hid (length_splice cur (i * 2) (rcs V) HF.out)
  have HF2 := Lib.hid (show (i + m) * 2 + (rcs (L.drop j)).length ≤ cur.length by rw [HXl.out, hcl]; omega)
  have HF3 := Lib.hid (show (i + m) * 2 + (rcs (L.drop j)).length ≤ (splice cur (i * 2) (rcs V)).length by rw [HS1l.out]; exact HF2.out)
  have HS2l := Lib.hid (length_splice (splice cur (i * 2) (rcs V)) ((i + m) * 2) (rcs (L.drop j)) HF3.out)
  have HP := Lib.hid (show ∃ r, (splice cur (i * 2) (rcs V)).drop (j * 2) = rcs (L.drop j) ++ r by
    rw [splice_drop_ge (by rw [hcl]; omega) (by rw [HY.out]; omega), rcs_drop]
    exact drop_pref ht (by rw [HN.out, hcl]; omega) (by rw [HN.out]; omega))
  have hl : (L.take i ++ (V ++ L.drop j)).length = i + m + k := by
    have := HN.out; have := HM.out
    simp only [List.length_append, List.length_take, List.length_drop]; omega
  have HL := Lib.hid hl
  have htk := splice2_take' (cur := cur) (X := rcs (L.drop j)) (Y := rcs V) (p := i * 2) (q := (i + m) * 2) (by rw [HY.out]; omega) HF2.out
  rw [HXl.out, show (i + m) * 2 + k * 2 = (i + m + k) * 2 by omega] at htk
  have HTK := Lib.hid htk
  have htt : cur.take (i * 2) = rcs (L.take i) := by rw [rcs_take, ← ht, HN.out, List.take_take, Nat.min_eq_left (by omega)]
  have HTT := Lib.hid htt
  clear hcl ht hsrc ho hl htk htt
  have hin5 : (i : Int) + (m : Int) ≤ (i : Int) + (m : Int) + (k : Int) := by omega
  have hin6 : (j : Int) ≤ (j : Int) + (k : Int) := by omega
  have hfz : i + m + k ≤ j + k := by omega
  have hcc : (c = i + m + k) = True ∨ (c = i + m + k) = False := by by_cases h : c = i + m + k <;> simp [h]
  rcases hcc with hcc | hcc
  all_goals
    go_enter Tryz.func147, Tryz.ntmps147
    go_wp2
    go_quiet (fail)
    go_wp2_with (refine wpList_copy2 rfl _ _ 82 82 rfl 86 Tryz.underlying82 Tryz.sizeR (some ⟨g, i * 2, none⟩) a2 (i + m + k - i) (c - i) m c2 rfl rfl g (i * 2) cur 86 (HO.out.qt ⟨nq, rfl⟩) (rcs V) HYm.out (fun hp => (by obtain ⟨g2, e, hs⟩ := HSV.out (by rintro rfl; simp [rcs] at hp); exact ⟨rfl, _, e, hs⟩)) HF.out (rcs_one _) ?_; intro w1 HO1 hg1)
    have hg1' : w.grownBy w1 (some g) := ⟨hg1.os, hg1.tape, hg1.output, hg1.size, hg1.block⟩
    have HS3 := Lib.hid (show Src2 w1 g (j * 2) (rcs (L.drop j)) from HO1.out.src HP.out)
    clear hg1
    go_region_law (refine step_copy2 rfl (.tmp 103) (.tmp 106) 82 82 rfl 86 Tryz.underlying82 Tryz.sizeR (some ⟨g, (i + m) * 2, none⟩) (some ⟨g, j * 2, none⟩) (i + m + k - (i + m)) (c - (i + m)) k (c - j) (by simp [Act.eval, Act.put]) (by simp [Act.eval, Act.put]) g ((i + m) * 2) (splice cur (i * 2) (rcs V)) 86 HO1.out (rcs (L.drop j)) HX.out (fun _ => ⟨rfl, _, rfl, HS3.out⟩) HF3.out (rcs_one _) ?_; intro w2 HO2 hg2)
    have hg2' : w.grownBy w2 (some g) := grown_trans hg1' (grown_undrew hg2)
    clear hg2
    go_wp2_with (refine wpList_clear2 rfl _ 82 rfl 86 zR 16 Tryz.underlying82 Tryz.infoR rfl zR_one _ _ _ rfl g ((i + m + k) * 2) (splice (splice cur (i * 2) (rcs V)) ((i + m) * 2) (rcs (L.drop j))) 86 HO2.out (fun hp => by first | rfl | (exfalso; (have := of_eq_true hcc); omega)) (by rw [HS2l.out, HS1l.out, HCL.out]; omega) ?_; intro w3 cs3 hcs3 HO3 hg3)
    go_ret
    refine RepPost.mk ?_ (grown_trans hg2' hg3) (Nb.refl _ _)
    rw [← HL.out]
    refine Lr.mk hg HO3.out (by rw [HL.out]; omega) (by unfold maxLen; omega) (by rw [length_splice _ _ _ (by rw [hcs3, HS2l.out, HS1l.out, HCL.out]; omega), HS2l.out, HS1l.out, HCL.out]) ?_
    rw [HL.out, splice_take_le (by omega) (by rw [HS2l.out, HS1l.out, HCL.out]; omega), HTK.out, rcs_append, rcs_append, HTT.out]
set_option maxHeartbeats 1000000 in
set_option maxRecDepth 100000 in
theorem replace_wide (w : World) (base g c : Nat) (L : List Rn) (cur : List Value) (hg : base ≤ g) (ho : Own w g 86 cur) (hcl : cur.length = c * 2) (ht : cur.take (L.length * 2) = rcs L) (hcm : c ≤ 9223372036854775807) (hnc : L.length ≤ c)
    (g2 c2 : Nat) (V : List Rn) (cur2 : List Value) (ho2 : Own w g2 86 cur2) (ht2 : cur2.take (V.length * 2) = rcs V) (hne : g ≠ g2) (i j : Nat) (hij : i < j) (hj : j < L.length) (hmore : j < i + V.length) (hroom : i + V.length + (L.length - j) ≤ c) (hb : L.length + V.length ≤ 4000000) :
    Calls Tryz.prog 147 #[.slice (some ⟨g, 0, none⟩) L.length c, .int .i64 i, .int .i64 j, .slice (some ⟨g2, 0, none⟩) V.length c2] w (RepPost w base (.slice (some ⟨g, 0, none⟩) L.length c) (L.take i ++ (V ++ L.drop j))) := by
  have hc20 : cur2.length ≠ 0 := by
    intro e
    have := congrArg List.length ht2
    rw [List.length_take, rcs_length, e] at this
    omega
  obtain ⟨n, HN⟩ : ∃ n, Hid (L.length = n) := ⟨_, Lib.hid rfl⟩
  obtain ⟨m, HM⟩ : ∃ m, Hid (V.length = m) := ⟨_, Lib.hid rfl⟩
  rw [HN.out] at hj hb hnc hroom ⊢
  rw [HM.out] at hmore hb hroom ⊢
  obtain ⟨k, rfl⟩ : ∃ k, n = j + k := ⟨n - j, by omega⟩
  rw [show j + k - j = k by omega] at hroom
  have hov : ∀ nq lb cb, (callFunc 203 #[.slice (some ⟨g, (i + m) * 2, none⟩) lb cb, .slice (some ⟨g2, 0, none⟩) m c2]).run Tryz.prog (w.drewN nq) = .ok (.value (.bool false)) (w.drewN nq) := fun nq lb cb => overlaps_no _ (ho.qt ⟨nq, rfl⟩) (ho2.qt ⟨nq, rfl⟩) hne hc20 lb cb m c2 _
  have h3 : ¬ ((i : Int) = (j : Int)) := by omega
  have h4 : ¬ ((j : Int) = (j : Int) + (k : Int)) := by omega
  have hin : i ≤ j := by omega
  have hin2 : j ≤ j + k := by omega
  have hw1 : IntKind.i64.wrap ((i : Int) + (m : Int)) = (i : Int) + (m : Int) := by rw [IntKind.wrap_i64]; omega
  have hw2 : IntKind.i64.wrap ((i : Int) + (m : Int) + (k : Int)) = (i : Int) + (m : Int) + (k : Int) := by rw [IntKind.wrap_i64]; omega
  have htn : ((i : Int) + (m : Int)).toNat = i + m := by omega
  have htn2 : ((i : Int) + (m : Int) + (k : Int)).toNat = i + m + k := by omega
  have hb1 : (0 : Int) ≤ (i : Int) + (m : Int) := by omega
  have hb2 : (0 : Int) ≤ (i : Int) + (m : Int) + (k : Int) := by omega
  have hc1 : ¬ (c = i) := by omega
  have hc2 : ¬ (c = j) := by omega
  have hc3 : ¬ (c = i + m) := by omega
  have hin5 : (i : Int) + (m : Int) ≤ (i : Int) + (m : Int) + (k : Int) := by omega
  have hin6 : (j : Int) ≤ (j : Int) + (k : Int) := by omega
  have HCL := Lib.hid hcl
  have HO := Lib.hid ho
  have HY := Lib.hid (show (rcs V).length = m * 2 by rw [rcs_length, HM.out])
  have HYm := Lib.hid (show (rcs V).length = Nat.min m (i + m + k - i) * 2 by rw [HY.out]; show _ = min _ _ * 2; omega)
  have HXl := Lib.hid (show (rcs (L.drop j)).length = k * 2 by rw [rcs_length, List.length_drop, HN.out]; omega)
  have HX := Lib.hid (show (rcs (L.drop j)).length = Nat.min k (i + m + k - (i + m)) * 2 by rw [HXl.out]; show _ = min _ _ * 2; omega)
  have HF := Lib.hid (show i * 2 + (rcs V).length ≤ cur.length by rw [HY.out, hcl]; omega)
  have HF2 := Lib.hid (show (i + m) * 2 + (rcs (L.drop j)).length ≤ cur.length by rw [HXl.out, hcl]; omega)
  have HS1l := Lib.hid (length_splice cur ((i + m) * 2) (rcs (L.drop j)) HF2.out)
  have HF3 := Lib.hid (show i * 2 + (rcs V).length ≤ (splice cur ((i + m) * 2) (rcs (L.drop j))).length by rw [HS1l.out]; exact HF.out)
  have HS2l := Lib.hid (length_splice (splice cur ((i + m) * 2) (rcs (L.drop j))) (i * 2) (rcs V) HF3.out)
  have HS := Lib.hid (show Src2 w g (j * 2) (rcs (L.drop j)) from ho.src (by rw [rcs_drop]; exact drop_pref ht (by rw [HN.out, hcl]; omega) (by rw [HN.out]; omega)))
  have HS2 := Lib.hid (show Src2 w g2 0 (rcs V) from ho2.src ⟨cur2.drop (V.length * 2), by rw [← ht2, List.take_append_drop]; rfl⟩)
  have hl : (L.take i ++ (V ++ L.drop j)).length = i + m + k := by
    have := HN.out; have := HM.out
    simp only [List.length_append, List.length_take, List.length_drop]; omega
  have HL := Lib.hid hl
  have htk := splice2_take (cur := cur) (X := rcs (L.drop j)) (Y := rcs V) (p := i * 2) (q := (i + m) * 2) (by rw [HY.out]; omega) HF2.out
  rw [HXl.out, show (i + m) * 2 + k * 2 = (i + m + k) * 2 by omega] at htk
  have HTK := Lib.hid htk
  have htt : cur.take (i * 2) = rcs (L.take i) := by rw [rcs_take, ← ht, HN.out, List.take_take, Nat.min_eq_left (by omega)]
  have HTT := Lib.hid htt
  have hne2 : some g2 ≠ some g := by simpa using hne.symm
  clear hcl ht ht2 ho ho2 hl htk htt hc20
  go_enter Tryz.func147, Tryz.ntmps147
  go_wp2
  go_quiet (fail)
  go_wp2_with (simp only [hov])
  have HSq := Lib.hid (show Src2 (w.drewN nq) g (j * 2) (rcs (L.drop j)) from HS.out)
  go_region_law (refine step_copy2 rfl (.tmp 126) (.tmp 129) 82 82 rfl 86 Tryz.underlying82 Tryz.sizeR (some ⟨g, (i + m) * 2, none⟩) (some ⟨g, j * 2, none⟩) (i + m + k - (i + m)) (c - (i + m)) k (c - j) (by simp [Act.eval, Act.put]) (by simp [Act.eval, Act.put]) g ((i + m) * 2) cur 86 ((HO.out.qt ⟨nq, rfl⟩).qt ⟨1, rfl⟩) (rcs (L.drop j)) HX.out (fun _ => ⟨rfl, _, rfl, HSq.out⟩) HF2.out (rcs_one _) ?_; intro w1 HO1 hg1)
  have hg1' : w.grownBy w1 (some g) := ⟨hg1.os, hg1.tape, hg1.output, hg1.size, hg1.block⟩
  have HS3 := Lib.hid (Src2.grown (w' := w1) HS2.out hg1' hne2)
  clear hg1
  go_wp2_with (refine wpList_copy2 rfl _ _ 82 82 rfl 86 Tryz.underlying82 Tryz.sizeR (some ⟨g, i * 2, none⟩) (some ⟨g2, 0, none⟩) (i + m + k - i) (c - i) m c2 rfl rfl g (i * 2) (splice cur ((i + m) * 2) (rcs (L.drop j))) 86 HO1.out (rcs V) HYm.out (fun _ => ⟨rfl, _, rfl, HS3.out⟩) HF3.out (rcs_one _) ?_; intro w2 HO2 hg2)
  go_ret
  refine RepPost.mk ?_ (grown_trans hg1' hg2) (Nb.refl _ _)
  rw [← HL.out]
  refine Lr.mk hg HO2.out (by rw [HL.out]; omega) (by unfold maxLen; omega) (by rw [HS2l.out, HS1l.out, HCL.out]) ?_
  rw [HL.out, HTK.out, rcs_append, rcs_append, HTT.out]
set_option maxHeartbeats 1000000 in
set_option maxRecDepth 100000 in
theorem replace_grow (w : World) (base g c : Nat) (L : List Rn) (cur : List Value) (hg : base ≤ g) (ho : Own w g 86 cur) (hcl : cur.length = c * 2) (ht : cur.take (L.length * 2) = rcs L) (hcm : c ≤ 9223372036854775807) (hnc : L.length ≤ c)
    (g2 c2 : Nat) (V : List Rn) (cur2 : List Value) (ho2 : Own w g2 86 cur2) (ht2 : cur2.take (V.length * 2) = rcs V) (i j : Nat) (hij : i < j) (hj : j < L.length) (hroom : c < i + V.length + (L.length - j)) (hb : L.length + V.length ≤ 4000000) (hbase : base ≤ w.heap.size) :
    Calls Tryz.prog 147 #[.slice (some ⟨g, 0, none⟩) L.length c, .int .i64 i, .int .i64 j, .slice (some ⟨g2, 0, none⟩) V.length c2] w (RepPost w base (.slice (some ⟨g, 0, none⟩) L.length c) (L.take i ++ (V ++ L.drop j))) := by
  have hap := fun nq : Nat => append_zeros (w.drewN nq) g c L cur (ho.qt ⟨nq, rfl⟩) hcl ht hnc i (V.length + (L.length - j)) (by omega) (by omega) (by omega) (by omega)
  obtain ⟨n, HN⟩ : ∃ n, Hid (L.length = n) := ⟨_, Lib.hid rfl⟩
  obtain ⟨m, HM⟩ : ∃ m, Hid (V.length = m) := ⟨_, Lib.hid rfl⟩
  rw [HN.out] at hj hb hnc hroom hap ⊢
  rw [HM.out] at hb hroom hap ⊢
  obtain ⟨k, rfl⟩ : ∃ k, n = j + k := ⟨n - j, by omega⟩
  rw [show j + k - j = k by omega] at hroom hap
  have hgn : g < w.heap.size := ho.lt
  have hgn2 : g2 < w.heap.size := ho2.lt
  have h3 : ¬ ((i : Int) = (j : Int)) := by omega
  have h4 : ¬ ((j : Int) = (j : Int) + (k : Int)) := by omega
  have h5 : (c : Int) < (i : Int) + (m : Int) + (k : Int) := by omega
  have hin : i ≤ j := by omega
  have hin2 : j ≤ j + k := by omega
  have hw1 : IntKind.i64.wrap ((i : Int) + (m : Int)) = (i : Int) + (m : Int) := by rw [IntKind.wrap_i64]; omega
  have hw2 : IntKind.i64.wrap ((i : Int) + (m : Int) + (k : Int)) = (i : Int) + (m : Int) + (k : Int) := by rw [IntKind.wrap_i64]; omega
  have hw3 : IntKind.i64.wrap ((i : Int) + (m : Int) + (k : Int) - (i : Int)) = (i : Int) + (m : Int) + (k : Int) - (i : Int) := by rw [IntKind.wrap_i64]; omega
  have htn : ((i : Int) + (m : Int)).toNat = i + m := by omega
  have htn2 : ((i : Int) + (m : Int) + (k : Int)).toNat = i + m + k := by omega
  have hb1 : (0 : Int) ≤ (i : Int) + (m : Int) := by omega
  have hb2 : (0 : Int) ≤ (i : Int) + (m : Int) + (k : Int) := by omega
  have hc1 : ¬ (c = i) := by omega
  have hc2 : ¬ (c = j) := by omega
  have hin5 : (i : Int) + (m : Int) ≤ (i : Int) + (m : Int) + (k : Int) := by omega
  have hin6 : (j : Int) ≤ (j : Int) + (k : Int) := by omega
  have hin7 : (i : Int) ≤ (i : Int) + (m : Int) + (k : Int) := by omega
  have HAP := Lib.hid hap
  have HY := Lib.hid (show (rcs V).length = m * 2 by rw [rcs_length, HM.out])
  have HYm := Lib.hid (show (rcs V).length = Nat.min m (i + m + k - i) * 2 by rw [HY.out]; show _ = min _ _ * 2; omega)
  have HXl := Lib.hid (show (rcs (L.drop j)).length = k * 2 by rw [rcs_length, List.length_drop, HN.out]; omega)
  have HX := Lib.hid (show (rcs (L.drop j)).length = Nat.min k (i + m + k - (i + m)) * 2 by rw [HXl.out]; show _ = min _ _ * 2; omega)
  have HS := Lib.hid (show Src2 w g (j * 2) (rcs (L.drop j)) from ho.src (by rw [rcs_drop]; exact drop_pref ht (by rw [HN.out, hcl]; omega) (by rw [HN.out]; omega)))
  have HS2 := Lib.hid (show Src2 w g2 0 (rcs V) from ho2.src ⟨cur2.drop (V.length * 2), by rw [← ht2, List.take_append_drop]; rfl⟩)
  have hl : (L.take i ++ (V ++ L.drop j)).length = i + m + k := by
    have := HN.out; have := HM.out
    simp only [List.length_append, List.length_take, List.length_drop]; omega
  have HL := Lib.hid hl
  clear hcl ht ht2 ho ho2 hl hap
  go_enter Tryz.func147, Tryz.ntmps147
  go_wp2
  go_quiet (fail)
  obtain ⟨G, W1, cur1, hG1, hG2, hl1, ht1, ho1, hgr, hrun⟩ := HAP.out nq
  rw [show i + (m + k) = i + m + k by omega] at hrun hG1
  rw [show ((m + k : Nat) : Int) = (i : Int) + (m : Int) + (k : Int) - (i : Int) by omega] at hrun
  rw [show (w.drewN nq).heap.size = w.heap.size from rfl] at ho1 hrun
  have HT1 := Lib.hid ht1
  have HCL := Lib.hid hl1
  have HO1 := Lib.hid ho1
  have HGR := Lib.hid (show w.grownBy W1 (some g) from ⟨(hgr (some g)).os, (hgr (some g)).tape, (hgr (some g)).output, (hgr (some g)).size, (hgr (some g)).block⟩)
  have HSa := Lib.hid (Src2.grown (w' := W1) HS.out (r := none) ⟨(hgr none).os, (hgr none).tape, (hgr none).output, (hgr none).size, (hgr none).block⟩ (by simp))
  have HSb := Lib.hid (Src2.grown (w' := W1) HS2.out (r := none) ⟨(hgr none).os, (hgr none).tape, (hgr none).output, (hgr none).size, (hgr none).block⟩ (by simp))
  have hG63 : G ≤ 9223372036854775807 := by unfold maxLen at hG2; omega
  have hbG : ¬ (G = i + m) := by omega
  have hbG2 : ¬ (G = i) := by omega
  have HF := Lib.hid (show i * 2 + (rcs V).length ≤ cur1.length by rw [HY.out, hl1]; omega)
  have HF2 := Lib.hid (show (i + m) * 2 + (rcs (L.drop j)).length ≤ cur1.length by rw [HXl.out, hl1]; omega)
  have HF3 := Lib.hid (show (i + m) * 2 + (rcs (L.drop j)).length ≤ (splice cur1 (i * 2) (rcs V)).length by rw [length_splice _ _ _ HF.out]; exact HF2.out)
  have hne : some g ≠ some w.heap.size := by simp; omega
  clear hl1 ht1 ho1 hgr
  go_wp2_with (first
    | (at_builtin; refine Lib.wpList_append_run _ rfl _ _ _ _ rfl _ _ rfl rfl _ _ (hrun _) ?_)
    | (refine wpList_copy2 rfl _ _ 82 82 rfl 86 Tryz.underlying82 Tryz.sizeR (some ⟨w.heap.size, i * 2, none⟩) (some ⟨g2, 0, none⟩) (i + m + k - i) (G - i) m c2 rfl rfl w.heap.size (i * 2) cur1 86 HO1.out (rcs V) HYm.out (fun _ => ⟨rfl, _, rfl, HSb.out⟩) HF.out (rcs_one _) ?_; intro w2 HO2 hg2))
  have HS3 := Lib.hid (Src2.grown (w' := w2) HSa.out hg2 hne)
  have HG3 := Lib.hid (show w.grownBy w2 (some g) from ⟨hg2.os.trans HGR.out.os, hg2.tape.trans HGR.out.tape, hg2.output.trans HGR.out.output, Nat.le_trans HGR.out.size hg2.size, fun k hk hne => (hg2.block k (Nat.lt_of_lt_of_le hk HGR.out.size) (by intro e; injection e with e; omega)).trans (HGR.out.block k hk hne)⟩)
  clear hg2
  go_region_law (refine step_copy2 rfl (.tmp 78) (.tmp 81) 82 82 rfl 86 Tryz.underlying82 Tryz.sizeR (some ⟨w.heap.size, (i + m) * 2, none⟩) (some ⟨g, j * 2, none⟩) (i + m + k - (i + m)) (G - (i + m)) k (c - j) (by simp [Act.eval, Act.put]) (by simp [Act.eval, Act.put]) w.heap.size ((i + m) * 2) (splice cur1 (i * 2) (rcs V)) 86 HO2.out (rcs (L.drop j)) HX.out (fun _ => ⟨rfl, _, rfl, HS3.out⟩) HF3.out (rcs_one _) ?_; intro w3 HO3 hg3)
  have hg3' : w2.grownBy w3 (some w.heap.size) := grown_undrew hg3
  clear hg3
  go_wp2
  go_ret
  refine RepPost.mk ?_ ⟨hg3'.os.trans HG3.out.os, hg3'.tape.trans HG3.out.tape, hg3'.output.trans HG3.out.output, Nat.le_trans HG3.out.size hg3'.size, fun k hk hne => (hg3'.block k (Nat.lt_of_lt_of_le hk HG3.out.size) (by intro e; injection e with e; omega)).trans (HG3.out.block k hk hne)⟩ (.inr fun k hk => by simp [Value.ownBlock] at hk; omega)
  rw [← HL.out]
  refine Lr.mk hbase HO3.out (by rw [HL.out]; omega) hG2 (by rw [length_splice _ _ _ HF3.out, length_splice _ _ _ HF.out, HCL.out]) ?_
  have := splice2_take' (cur := cur1) (X := rcs (L.drop j)) (Y := rcs V) (p := i * 2) (q := (i + m) * 2) (by rw [HY.out]; omega) HF2.out
  rw [HXl.out] at this
  rw [HL.out, show (i + m + k) * 2 = (i + m) * 2 + k * 2 by omega, this, rcs_append, rcs_append, HT1.out]
theorem drop_end (L : List Rn) (j : Nat) (h : j = L.length) (A V : List Rn) : A ++ (V ++ L.drop j) = A ++ V := by rw [h, List.drop_length, List.append_nil]
set_option maxHeartbeats 1000000 in
set_option maxRecDepth 100000 in
theorem replace_any (w : World) (base : Nat) (v : Value) (L : List Rn) (hown : Lr w base 86 v L) (v2 : Value) (V : List Rn) (base2 : Nat) (hV : Lr w base2 86 v2 V) (hne : v.ownBlock = none ∨ v.ownBlock ≠ v2.ownBlock) (i j : Nat) (hij : i ≤ j) (hj : j ≤ L.length) (hb : L.length + V.length ≤ 4000000) (hbase : base ≤ w.heap.size) :
    Calls Tryz.prog 147 #[v, .int .i64 i, .int .i64 j, v2] w (RepPost w base v (L.take i ++ (V ++ L.drop j))) := by
  by_cases hij2 : i = j
  · subst hij2
    have HI := insert_any w base v L hown v2 V base2 hV hne i (by omega) hb hbase
    obtain ⟨a, c, hv, hro, hc, hc2, hnil, _⟩ := hown.form
    obtain ⟨a2, c2, hv2⟩ := hV.shape
    have HII := Lib.hid HI
    obtain ⟨n, HN⟩ : ∃ n, Hid (L.length = n) := ⟨_, Lib.hid rfl⟩
    rw [HN.out] at hv hj hc
    have HV := Lib.hid hv
    rw [hv, hv2] at HII
    rw [hv, hv2]
    have h0 : (0 : Int) ≤ (i : Int) := by omega
    clear HI hv hv2 hnil hro hne hV hown
    go_enter Tryz.func147, Tryz.ntmps147
    go_wp2_with (go_at_call 202; refine HII.out.mono ?_; rintro e w' ⟨v1, rfl, h1, h2, h3⟩)
    all_goals go_ret
    all_goals first
      | exact RepPost.mk h1 h2 h3
      | (have hcn : c = i := by assumption
         subst hcn
         exact RepPost.mk h1 h2 h3)
  · have hn1 : v ≠ .slice none 0 0 := by
      rintro rfl
      obtain ⟨e, _⟩ := hown.ro
      omega
    obtain ⟨g, c, cur, rfl, hg, ho, hle, hcm, hcl, ht⟩ := hown.open_ hn1
    have hcm2 := hcm
    unfold maxLen at hcm2
    obtain ⟨a2, c2, e2⟩ := hV.shape
    by_cases hje : j = L.length
    · rw [drop_end L j hje]
      subst e2
      have hro := hV.ro.2
      rcases Nat.lt_or_ge (i + V.length) L.length with hl | hl
      · rw [hje]; exact replace_end_less w base g c L cur hg ho hcl ht (by omega) hle a2 c2 _ V hro i (by omega) hl hb
      · rw [hje]; exact replace_end_more w base g c L cur hg ho hcl ht hcm hle a2 c2 _ V hro i (by omega) hl hb hbase
    · by_cases hs : i + V.length ≤ j
      · subst e2
        refine replace_small w base g c L cur hg ho hcl ht (by omega) hle a2 c2 V (fun hn => ?_) i j (by omega) (by omega) hs hb
        have hn2 : Value.slice a2 V.length c2 ≠ .slice none 0 0 := by
          intro e
          rw [e] at hV
          obtain ⟨e3, _⟩ := hV.ro
          exact hn (List.eq_nil_of_length_eq_zero e3.symm)
        obtain ⟨g2, c3, cur2, hv2, hg2, ho2, hle2, hcm2, hcl2, ht2⟩ := hV.open_ hn2
        simp only [Value.slice.injEq] at hv2
        exact ⟨g2, hv2.1, ho2.src ⟨cur2.drop (V.length * 2), by rw [← ht2, List.take_append_drop]; rfl⟩⟩
      · have hn2 : v2 ≠ .slice none 0 0 := by
          rintro rfl
          obtain ⟨e, _⟩ := hV.ro
          omega
        obtain ⟨g2, c3, cur2, rfl, hg2, ho2, hle2, hcm2, hcl2, ht2⟩ := hV.open_ hn2
        have hne2 : g ≠ g2 := by
          rcases hne with h | h
          · simp [Value.ownBlock] at h
          · intro e; exact h (by simp [Value.ownBlock, e])
        rcases Nat.lt_or_ge c (i + V.length + (L.length - j)) with hr | hr
        · exact replace_grow w base g c L cur hg ho hcl ht (by omega) hle g2 c3 V cur2 ho2 ht2 i j (by omega) (by omega) hr hb hbase
        · exact replace_wide w base g c L cur hg ho hcl ht (by omega) hle g2 c3 V cur2 ho2 ht2 hne2 i j (by omega) (by omega) (by omega) hr hb
end Go.Proofs.YtmpajlpemabniaaGreat
namespace Go.Proofs.YtmpajlpemabniaaGreat
open Go.RowKit Go.Deep Go.Sort
set_option linter.unusedVariables false
set_option linter.unusedSimpArgs false
theorem low_chg {a w : World} (h : Below a.heap.size a w) : Chg [] a w := (Chg.refl [] a).of_below h
theorem Lr.chg {l : List Nat} {a w : World} {base : Nat} {e : TypeId} {v : Value} {L : List Rn} (h : Lr a base e v L) (hc : Chg l a w) (hg : ∀ g, v.ownBlock = some g → g ∉ l) : Lr w base e v L := by
  refine ⟨h.1, ?_⟩
  rcases h.2 with hn | ⟨g, cap, cur, rfl, hb, hgg, rest⟩
  · exact .inl hn
  · exact .inr ⟨g, cap, cur, rfl, hb, (hc.block g (Array.getElem?_eq_some_iff.1 hgg).1 (hg g rfl)).trans hgg, rest⟩
def top64 : Nat := 18446744073709551615
structure St (w : World) (p : Nat) (v : Value) (L : List Rn) : Prop where
  own : Own w p 199 [v]
  row : Lr w 0 86 v L
  nf : NF L
  fit : ∀ r ∈ L, r.2 ≤ top64
  len : L.length ≤ 1000000
theorem St.apart {w : World} {p : Nat} {v : Value} {L : List Rn} (h : St w p v L) : v.ownBlock ≠ some p := by
  intro e
  rcases h.row.2 with ⟨hn, _⟩ | ⟨g, cap, cur, hv, hb, hgg, rest⟩
  · subst hn; cases e
  · subst hv
    have e2 : g = p := by simpa [Value.ownBlock] using e
    subst e2
    have := h.own
    unfold Own at this
    rw [hgg] at this
    simp at this
theorem St.chg {l : List Nat} {a w : World} {p : Nat} {v : Value} {L : List Rn} (h : St a p v L) (hc : Chg l a w) (hp : p ∉ l) (hg : ∀ g, v.ownBlock = some g → g ∉ l) : St w p v L :=
  ⟨h.own.chg hc hp, h.row.chg hc hg, h.nf, h.fit, h.len⟩
theorem St.kept {a w : World} {p : Nat} {v : Value} {L : List Rn} (h : St a p v L) (hc : Chg [] a w) : St w p v L := h.chg hc (by simp) (by simp)
theorem St.cell {w : World} {p : Nat} {v : Value} {L : List Rn} (h : St w p v L) : w.cell? ⟨p, 0, none⟩ = some v := by have := h.own.cell 0; simpa using this
theorem fit_el {L : List Rn} (h : ∀ r ∈ L, r.2 ≤ top64) (hn : NF L) : ∀ r ∈ L, Fit r := fun r hr => by
  have h1 := h r hr
  have h2 := hn.nonempty r hr
  unfold top64 at h1
  unfold Fit
  omega
/-! first -/
set_option maxHeartbeats 1000000 in
set_option maxRecDepth 100000 in
theorem cl_any (f : Nat) (q : Rn → Nat → Bool) (hq : ∀ (r : Rn) (n : Nat) (w : World), Calls Tryz.prog f #[rv r, .int .u64 n] w fun e w' => e = .returned (.bool (q r n)) ∧ w' = w.alloc (rb r 86))
    (eg : ∀ args w, (callFunc f args).run Tryz.prog w = .ok (.enter f args) w) (bi bs bn p g c n i k off : Nat) (x : Rn) (W : World) (hi : i < k)
    (h1 : W.cell? ⟨bi, 0, none⟩ = some (.func (.func f) #[] #[])) (h2 : W.cell? ⟨bs, 0, none⟩ = some (.pointer (some ⟨p, 0, none⟩))) (h3 : W.cell? ⟨bn, 0, none⟩ = some (.int .u64 n))
    (h4 : W.cell? ⟨p, 0, none⟩ = some (.slice (some ⟨g, 0, none⟩) k c)) (h5 : W.cell? ⟨g, i * 2, none⟩ = some (.int .u64 (x.1 : Int))) (h6 : W.cell? ⟨g, i * 2 + 1, none⟩ = some (.int .u64 (x.2 : Int))) :
    Calls Tryz.prog 201 #[.int .i64 i, .pointer (some ⟨bi, 0, none⟩), .pointer (some ⟨bs, 0, none⟩), .pointer (some ⟨bn, 0, none⟩)] W fun e w' => e = .returned (.bool (q x n)) ∧ ∃ m os, w' = grow (W.drewN m) os := by
  have HQ := Lib.hid (hq x n)
  have h7 : (0 : Int) ≤ (i : Int) := by omega
  have h8 : (i : Int) < (k : Int) := by omega
  clear hq
  go_enter Tryz.func201, Tryz.ntmps201
  go_wp2_with fail
  refine wp_region_still_tail 9 (by kernel_rfl) (by kernel_rfl) ?_
  simp only [List.take_succ_cons, List.take_zero, List.drop_succ_cons, List.drop_zero]
  change wpStill _ _ W.drew (fun a1 => wpList _ _ _ _ a1 W.drew) _ _
  repeat still_step
  refine wpStill_nil ?_
  go_wp2_with (go_at_fn f; refine (HQ.out _).mono ?_; rintro e w' ⟨rfl, rfl⟩)
  go_ret
  exact ⟨rfl, 1, #[rb x 86], by rw [← alloc_eq_grow]; rfl⟩
theorem el_range (L : List Rn) : L = (List.range L.length).map (el L) := by
  apply List.ext_getElem
  · simp
  · intro i h1 h2
    simp [el, List.getD, h1]
theorem countP_el (L : List Rn) (b : Rn → Bool) : (List.range L.length).countP (fun i => !!b (el L i)) = L.countP b := by
  conv => rhs; rw [el_range L, List.countP_map]
  simp [Function.comp]
  rfl
set_option maxHeartbeats 1000000 in
set_option maxRecDepth 100000 in
theorem first_any (f : Nat) (b : Nat → Rn → Bool) (hq : ∀ (r : Rn) (n : Nat) (w : World), Calls Tryz.prog f #[rv r, .int .u64 n] w fun e w' => e = .returned (.bool (!b n r)) ∧ w' = w.alloc (rb r 86))
    (eg : ∀ args w, (callFunc f args).run Tryz.prog w = .ok (.enter f args) w) (p n : Nat) (v : Value) (L : List Rn) (w : World) (hs : St w p v L) (hm : L.Pairwise fun x y => b n y = true → b n x = true) :
    Calls Tryz.prog 143 #[.pointer (some ⟨p, 0, none⟩), .func (.func f) #[] #[], .int .u64 n] w fun e w' => e = .returned (.int .i64 (L.countP (b n) : Nat)) ∧ Below w.heap.size w w' := by
  obtain ⟨W0, hW0⟩ : ∃ W0, ((w.alloc (.cells #[.pointer (some ⟨p, 0, none⟩)] 135)).alloc (.cells #[.func (.func f) #[] #[]] 214)).alloc (.cells #[.int .u64 n] 37) = W0 := ⟨_, rfl⟩
  have hsz : W0.heap.size = w.heap.size + 3 := by rw [← hW0]; simp
  have hB : Below w.heap.size w W0 := by rw [← hW0]; exact below3 _ _ _ _
  have c1 : W0.cell? ⟨w.heap.size, 0, none⟩ = some (.pointer (some ⟨p, 0, none⟩)) := by
    rw [← hW0]; exact cell_alloc_sl _ (cell_alloc_sl _ (cell_new_sl w _ _))
  have c2 : W0.cell? ⟨w.heap.size + 1, 0, none⟩ = some (.func (.func f) #[] #[]) := by
    rw [← hW0]
    have := cell_alloc_sl (.cells #[.int .u64 n] 37) (cell_new_sl (w.alloc (.cells #[.pointer (some ⟨p, 0, none⟩)] 135)) (.func (.func f) #[] #[]) 214)
    rwa [World.size_alloc] at this
  have c3 : W0.cell? ⟨w.heap.size + 1 + 1, 0, none⟩ = some (.int .u64 n) := by
    rw [← hW0]
    have := cell_new_sl ((w.alloc (.cells #[.pointer (some ⟨p, 0, none⟩)] 135)).alloc (.cells #[.func (.func f) #[] #[]] 214)) (.int .u64 n) 37
    rwa [World.size_alloc, World.size_alloc] at this
  have hs0 := hs.kept (low_chg hB)
  have c4 := hs0.cell
  have hlen := hs.len
  obtain ⟨a, c, hv, hro, hlc, hc63, hnil, hbk⟩ := hs0.row.form
  obtain ⟨k, HK⟩ : ∃ k, Hid (L.length = k) := ⟨_, Lib.hid rfl⟩
  have hf : ∀ (m : Nat) (os : Array Obj) (i : Nat), i < L.length → Calls Tryz.prog 201 (#[.int .i64 i] ++ #[.pointer (some ⟨w.heap.size + 1, 0, none⟩), .pointer (some ⟨w.heap.size, 0, none⟩), .pointer (some ⟨w.heap.size + 1 + 1, 0, none⟩)]) (grow (W0.drewN m) os) fun e w' => e = .returned (.bool (!b n (el L i))) ∧ ∃ q os', w' = grow ((grow (W0.drewN m) os).drewN q) os' := by
    intro m os i hi
    obtain ⟨g, off, rfl, hg, hcl⟩ := hro.rn (by omega)
    obtain ⟨rfl, _, _, _, _⟩ := hbk _ _ _ rfl
    have hcl2 := hcl i hi
    rw [Nat.zero_add] at hcl2
    have gr : ∀ {a : Addr} {u : Value}, W0.cell? a = some u → (grow (W0.drewN m) os).cell? a = some u := fun {a u} h => cell_grown (World.block_lt_of_cell? _ _ h) h m os
    refine cl_any f (fun r n => !b n r) hq eg _ _ _ p g c n i L.length 0 (el L i) _ hi (gr c2) (gr c1) (gr c3) (gr (by rw [c4, hv])) (gr hcl2.1) (gr hcl2.2)
  have hS := Any.sort_Search searchA 201 #[.pointer (some ⟨w.heap.size + 1, 0, none⟩), .pointer (some ⟨w.heap.size, 0, none⟩), .pointer (some ⟨w.heap.size + 1 + 1, 0, none⟩)] L.length (fun i => !b n (el L i)) W0 (enters_of Tryz.func201 (by kernel_rfl) rfl) (by omega) hf (fun i j hij hj hb => by
    rcases Nat.lt_or_ge i j with hlt | hge
    · have h1 : i < L.length := by omega
      have := List.pairwise_iff_getElem.1 hm i j h1 hj hlt
      have e1 : el L i = L[i] := by simp [el, List.getD, h1]
      have e2 : el L j = L[j] := by simp [el, List.getD, hj]
      rw [e1] at hb
      rw [e2]
      cases h2 : b n L[j] with
      | false => rfl
      | true => rw [this h2] at hb; cases hb
    · rw [show j = i by omega]; exact hb)
  rw [countP_el] at hS
  change Calls Tryz.prog 200 _ _ _ at hS
  rw [HK.out] at hS hv hlc
  obtain ⟨N, HN⟩ : ∃ N, Hid (L.countP (b n) = N) := ⟨_, Lib.hid rfl⟩
  rw [HN.out] at hS ⊢
  have HS := Lib.hid hS
  subst hv
  have hc0 := hs.cell
  clear hS hf hbk hnil hs0 hro hq eg hm
  have HB := Lib.hid hB
  have HSZ := Lib.hid hsz
  have HW := Lib.hid hW0
  subst hW0
  clear hsz hB
  have hp := hs.own.lt
  go_enter Tryz.func143, Tryz.ntmps143
  go_wp2_with (go_at_call 200; refine HS.out.mono ?_; rintro e w' ⟨rfl, q, os, rfl⟩)
  go_ret
  exact ⟨rfl, HB.out.trans (below_grown_sl _ _ q os HB.out.size)⟩
theorem endsAbove_ix (p n : Nat) (v : Value) (L : List Rn) (w : World) (hs : St w p v L) : Calls Tryz.prog 143 #[.pointer (some ⟨p, 0, none⟩), .func (.func 144) #[] #[], .int .u64 n] w fun e w' => e = .returned (.int .i64 (L.countP (bEA n) : Nat)) ∧ Below w.heap.size w w' :=
  first_any 144 bEA (fun r n w => (endsAbove_any r n w).mono fun e w' ⟨he, hw⟩ => ⟨by rw [he]; refine ret_bool ?_; simp only [bEA]; by_cases h : r.2 ≤ n <;> simp [h] <;> omega, hw⟩) (enters_of Tryz.func144 (by kernel_rfl) rfl) p n v L w hs (hs.nf.mEA n)
theorem endsFrom_ix (p n : Nat) (v : Value) (L : List Rn) (w : World) (hs : St w p v L) : Calls Tryz.prog 143 #[.pointer (some ⟨p, 0, none⟩), .func (.func 151) #[] #[], .int .u64 n] w fun e w' => e = .returned (.int .i64 (L.countP (bEF n) : Nat)) ∧ Below w.heap.size w w' :=
  first_any 151 bEF (fun r n w => (endsFrom_any r n w).mono fun e w' ⟨he, hw⟩ => ⟨by rw [he]; refine ret_bool ?_; simp only [bEF]; by_cases h : r.2 < n <;> simp [h] <;> omega, hw⟩) (enters_of Tryz.func151 (by kernel_rfl) rfl) p n v L w hs (hs.nf.mEF n)
theorem beginsFrom_ix (p n : Nat) (v : Value) (L : List Rn) (w : World) (hs : St w p v L) : Calls Tryz.prog 143 #[.pointer (some ⟨p, 0, none⟩), .func (.func 145) #[] #[], .int .u64 n] w fun e w' => e = .returned (.int .i64 (L.countP (bBF n) : Nat)) ∧ Below w.heap.size w w' :=
  first_any 145 bBF (fun r n w => (beginsFrom_any r n w).mono fun e w' ⟨he, hw⟩ => ⟨by rw [he]; refine ret_bool ?_; simp only [bBF]; by_cases h : r.1 < n <;> simp [h] <;> omega, hw⟩) (enters_of Tryz.func145 (by kernel_rfl) rfl) p n v L w hs (hs.nf.mBF n)
theorem beginsAbove_ix (p n : Nat) (v : Value) (L : List Rn) (w : World) (hs : St w p v L) : Calls Tryz.prog 143 #[.pointer (some ⟨p, 0, none⟩), .func (.func 152) #[] #[], .int .u64 n] w fun e w' => e = .returned (.int .i64 (L.countP (bBA n) : Nat)) ∧ Below w.heap.size w w' :=
  first_any 152 bBA (fun r n w => (beginsAbove_any r n w).mono fun e w' ⟨he, hw⟩ => ⟨by rw [he]; refine ret_bool ?_; simp only [bBA]; by_cases h : r.1 ≤ n <;> simp [h] <;> omega, hw⟩) (enters_of Tryz.func152 (by kernel_rfl) rfl) p n v L w hs (hs.nf.mBA n)
end Go.Proofs.YtmpajlpemabniaaGreat
