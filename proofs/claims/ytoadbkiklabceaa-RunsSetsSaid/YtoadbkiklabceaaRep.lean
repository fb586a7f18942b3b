/-
  Contract of slices.Replace at a row of runs of the call's own: the library's own text, walked. No claim of its own.
-/
import Derived.Test.YtoadbkiklabceaaIns
import Derived.BigQuiet
namespace Go.Proofs.Ytoadbkiklabceaa
open Go.RowKit Go.Deep
set_option linter.unusedVariables false
set_option linter.unusedSimpArgs false

theorem Lr.ro {w : World} {base : Nat} {e : TypeId} {a : Option Addr} {n c : Nat} {L : List Rn} (h : Lr w base e (.slice a n c) L) : n = L.length ∧ Ro w w.heap.size a (rcs L) := by
  obtain ⟨a', c', hv, hr, _⟩ := h.form
  simp only [Value.slice.injEq] at hv
  obtain ⟨rfl, rfl, rfl⟩ := hv
  exact ⟨rfl, hr⟩
theorem Lr.shape {w : World} {base : Nat} {e : TypeId} {v : Value} {L : List Rn} (h : Lr w base e v L) : ∃ a c, v = .slice a L.length c := by
  obtain ⟨a', c', hv, _⟩ := h.form
  exact ⟨a', c', hv⟩
theorem insert_any (w : World) (base : Nat) (v : Value) (L : List Rn) (hown : Lr w base 28 v L) (v2 : Value) (V : List Rn) (base2 : Nat) (hV : Lr w base2 28 v2 V) (hne : v.ownBlock = none ∨ v.ownBlock ≠ v2.ownBlock) (i : Nat) (hi : i ≤ L.length) (hb : L.length + V.length ≤ 4000000) (hbase : base ≤ w.heap.size) :
    Calls Try.prog 54 #[v, .int .i64 i, v2] w (RepPost w base v (L.take i ++ (V ++ L.drop i))) := by
  by_cases h0 : V.length = 0
  · obtain rfl : V = [] := List.eq_nil_of_length_eq_zero h0
    obtain ⟨a2, c2, rfl⟩ := hV.shape
    refine (insert_none w base v L hown i hi a2 c2).mono fun e w' ⟨he, hw⟩ => ?_
    subst he hw
    rw [List.nil_append, List.take_append_drop]
    exact RepPost.mk hown (World.grownBy.refl w _) (Nb.refl _ _)
  · by_cases hin : i = L.length
    · subst hin
      obtain ⟨a2, c2, rfl⟩ := hV.shape
      have := insert_end w base v L hown a2 c2 _ V hV.ro.2 (by omega) hb hbase
      rw [List.take_length, List.drop_length, List.append_nil]
      exact this
    · have hn1 : v ≠ .slice none 0 0 := by
        rintro rfl
        obtain ⟨e, _⟩ := hown.ro
        omega
      have hn2 : v2 ≠ .slice none 0 0 := by
        rintro rfl
        obtain ⟨e, _⟩ := hV.ro
        omega
      obtain ⟨g, c, cur, rfl, hg, ho, hle, hcm, hcl, ht⟩ := hown.open_ hn1
      obtain ⟨g2, c2, cur2, rfl, hg2, ho2, hle2, hcm2, hcl2, ht2⟩ := hV.open_ hn2
      have hne2 : g2 ≠ g := by
        rcases hne with h | h
        · simp [Value.ownBlock] at h
        · intro e; exact h (by simp [Value.ownBlock, e])
      unfold maxLen at hcm
      by_cases hroom : L.length + V.length ≤ c
      · exact insert_mid w base g c L cur hg ho hcl ht (by omega) g2 c2 V cur2 ho2 ht2 hne2 (by omega) i (by omega) hroom hb
      · exact insert_grow w base g c L cur hg ho hcl ht (by omega) hle g2 c2 V cur2 ho2 ht2 (by omega) i (by omega) (by omega) hb hbase

/-- a cut slice owns what it reads -/
theorem Lr.cut {w : World} {base g c : Nat} {L : List Rn} {cur : List Value} (hg : base ≤ g) (ho : Own w g 28 cur) (hcl : cur.length = c * 2) (ht : cur.take (L.length * 2) = rcs L) (hnc : L.length ≤ c) (hcm : c ≤ maxLen) (i : Nat) (hi : i ≤ L.length) :
    Lr w base 28 (.slice (some ⟨g, 0, none⟩) i c) (L.take i) := by
  have hl : (L.take i).length = i := by rw [List.length_take]; omega
  have := Lr.mk (L := L.take i) hg ho (by omega) hcm hcl (by rw [hl, rcs_take, ← ht, List.take_take, Nat.min_eq_left (by omega)])
  rwa [hl] at this
set_option maxRecDepth 100000 in
/-- append where there is room -/
theorem append_fit (w : World) (g c i m c2 B : Nat) (a2 : Option Addr) (cur : List Value) (ho : Own w g 28 cur) (hcl : cur.length = c * 2) (V : List Rn) (hm : V.length = m) (hro : Ro w B a2 (rcs V)) (hfit : i + m ≤ c) :
    ∃ W1, Own W1 g 28 (splice cur (i * 2) (rcs V)) ∧ w.grownBy W1 (some g) ∧
      ∀ ty, (Builtin.append_ #[40, 40] ty #[.slice (some ⟨g, 0, none⟩) i c, .slice a2 m c2]).run Try.prog w = .ok (.slice (some ⟨g, 0, none⟩) (i + m) c) W1 := by
  obtain ⟨i0, hi0, hzz⟩ := Option.map_eq_some_iff.1 Try.infoR
  simp only [Prod.mk.injEq] at hzz
  obtain ⟨hz0, hzs, hzb⟩ := hzz
  rcases a2 with _ | ad
  · have hn : V = [] := by
      rcases hro with h | ⟨b, off, h, _⟩
      · have := congrArg List.length h; exact List.eq_nil_of_length_eq_zero (by simp at this; omega)
      · cases h
    subst hn
    obtain rfl : m = 0 := by simpa using hm.symm
    refine ⟨w, by simpa [rcs, splice] using ho, World.grownBy.refl w _, fun ty => ?_⟩
    have hic : i ≤ c := by omega
    simp [Builtin.append_, run_underlying Try.underlying40, sizeOf, typeInfo, hi0, Builtin.lenOf, Builtin.firstCells, hic, storeCells]
  · have hcells : ∀ j u, (rcs V)[j]? = some u → w.cell? (ad.add j) = some u := by
      intro j u hu
      have hj : j < (rcs V).length := (List.getElem?_eq_some_iff.1 hu).1
      rcases hro with h | ⟨b, off, h, hb, hc⟩
      · rw [h] at hj; simp at hj
      · injection h with h
        subst h
        rw [add_off, hc j hj]
        simp [List.getD, hu]
    refine ⟨w.setRow g (splice cur (i * 2) (rcs V)).toArray, ho.setRow _, grown_setRow _ _ _, fun ty => ?_⟩
    have := run_append_room (P := Try.prog) w 40 ty 28 i0 Try.underlying40 hi0 g i c cur.toArray ho ad m c2 (rcs V) (by rw [rcs_length, hm, hzs]) hcells (rcs_one V) hfit (by rw [rcs_length, hm, hzs, List.size_toArray, hcl]; omega)
    rw [hzs] at this
    simpa [splice] using this
set_option maxHeartbeats 1000000 in
set_option maxRecDepth 100000 in
/-- the end is replaced by less -/
theorem replace_end_less (w : World) (base g c : Nat) (L : List Rn) (cur : List Value) (hg : base ≤ g) (ho : Own w g 28 cur) (hcl : cur.length = c * 2) (ht : cur.take (L.length * 2) = rcs L) (hcm : c ≤ 9223372036854775807) (hnc : L.length ≤ c)
    (a2 : Option Addr) (c2 B : Nat) (V : List Rn) (hro : Ro w B a2 (rcs V)) (i : Nat) (hi : i < L.length) (hless : i + V.length < L.length) (hb : L.length + V.length ≤ 4000000) :
    Calls Try.prog 41 #[.slice (some ⟨g, 0, none⟩) L.length c, .int .i64 i, .int .i64 L.length, .slice a2 V.length c2] w (RepPost w base (.slice (some ⟨g, 0, none⟩) L.length c) (L.take i ++ V)) := by
  obtain ⟨W1, ho1, hg1, hrun⟩ := append_fit w g c i V.length c2 B a2 cur ho hcl V rfl hro (by omega)
  obtain ⟨n, HN⟩ : ∃ n, Hid (L.length = n) := ⟨_, Lib.hid rfl⟩
  obtain ⟨m, HM⟩ : ∃ m, Hid (V.length = m) := ⟨_, Lib.hid rfl⟩
  rw [HN.out] at hi hless hb hnc ⊢
  rw [HM.out] at hless hb hrun ⊢
  have HT := Lib.hid ht
  have HCL := Lib.hid hcl
  have HO := Lib.hid ho1
  have HG := Lib.hid hg1
  have h3 : ¬ ((i : Int) = (n : Int)) := by omega
  have h4 : decide (i + m < n) = true := by simpa using hless
  have hin : i ≤ n := by omega
  have hb2 : ¬ (c = i + m) := by omega
  have hb3 : i + m ≤ n := by omega
  have hb4 : (0 : Int) ≤ (i : Int) + (m : Int) := by omega
  have htn : ((i : Int) + (m : Int)).toNat = i + m := by omega
  clear ho hcl ht ho1 hg1 hro
  go_enter Try.func41, Try.ntmps41
  go_wp2_with (first
    | (at_builtin; refine Lib.wpList_append_run _ rfl _ _ _ _ rfl _ _ rfl rfl _ _ (hrun _) ?_)
    | (refine wpList_clear2 rfl _ 40 rfl 28 zR 16 Try.underlying40 Try.infoR rfl zR_one (some ⟨g, (i + m) * 2, none⟩) (n - (i + m)) (c - (i + m)) rfl g ((i + m) * 2) (splice cur (i * 2) (rcs V)) 28 HO.out (fun _ => rfl) (by rw [length_splice _ _ _ (by rw [rcs_length, HM.out, HCL.out]; omega), HCL.out]; omega) ?_; intro w2 cs2 hcs2 HO2 hg2))
  go_ret
  refine RepPost.mk ?_ (grown_trans HG.out hg2) (Nb.refl _ _)
  have hl : (L.take i ++ V).length = i + m := by
    have := HN.out; have := HM.out
    simp only [List.length_append, List.length_take]; omega
  have hs1 : (splice cur (i * 2) (rcs V)).length = c * 2 := by rw [length_splice _ _ _ (by rw [rcs_length, HM.out, HCL.out]; omega), HCL.out]
  rw [← hl]
  refine Lr.mk hg HO2.out (by omega) (by unfold maxLen; omega) (by rw [length_splice _ _ _ (by rw [hcs2, hs1]; omega), hs1]) ?_
  have := splice_take (cur := cur) (cs := rcs V) (off := i * 2) (by rw [HCL.out]; omega)
  rw [rcs_length, HM.out, ← Nat.add_mul] at this
  rw [hl, splice_take_le (by omega) (by rw [hs1]; omega), this, rcs_append, rcs_take, ← HT.out, HN.out, List.take_take, Nat.min_eq_left (by omega)]
theorem end_more {A V : List Rn} {N i m n : Nat} (h1 : (A ++ V).length = N) (h2 : A.length = i) (h3 : V.length = m) (h : n ≤ i + m) : decide (N < n) = false := by
  rw [List.length_append] at h1
  simp
  omega
set_option maxHeartbeats 1000000 in
set_option maxRecDepth 100000 in
/-- the end is replaced by as much, or more -/
theorem replace_end_more (w : World) (base g c : Nat) (L : List Rn) (cur : List Value) (hg : base ≤ g) (ho : Own w g 28 cur) (hcl : cur.length = c * 2) (ht : cur.take (L.length * 2) = rcs L) (hcm : c ≤ maxLen) (hnc : L.length ≤ c)
    (a2 : Option Addr) (c2 B : Nat) (V : List Rn) (hro : Ro w B a2 (rcs V)) (i : Nat) (hi : i < L.length) (hless : L.length ≤ i + V.length) (hb : L.length + V.length ≤ 4000000) (hbase : base ≤ w.heap.size) :
    Calls Try.prog 41 #[.slice (some ⟨g, 0, none⟩) L.length c, .int .i64 i, .int .i64 L.length, .slice a2 V.length c2] w (RepPost w base (.slice (some ⟨g, 0, none⟩) L.length c) (L.take i ++ V)) := by
  have hcut := Lr.cut hg ho hcl ht hnc hcm i (by omega)
  have htl : (L.take i).length = i := by rw [List.length_take]; omega
  obtain ⟨n, HN⟩ : ∃ n, Hid (L.length = n) := ⟨_, Lib.hid rfl⟩
  obtain ⟨m, HM⟩ : ∃ m, Hid (V.length = m) := ⟨_, Lib.hid rfl⟩
  rw [HN.out] at hi hless hb hnc ⊢
  rw [HM.out] at hless hb ⊢
  have HO := Lib.hid hcut
  have HR := Lib.hid hro
  have HL := Lib.hid htl
  unfold maxLen at hcm
  have h3 : ¬ ((i : Int) = (n : Int)) := by omega
  have hin : i ≤ n := by omega
  clear ho hcl ht hcut hro htl
  go_enter Try.func41, Try.ntmps41
  go_wp2_with (at_builtin; refine wpList_appS rfl _ _ 40 rfl base 28 zR 16 Try.underlying40 Try.infoR rfl _ (L.take i) (by rfl) HO.out a2 B m c2 V rfl HM.out HR.out (by rw [HL.out]; omega) (by rw [HL.out]; omega) hbase ?_; intro v1 w1 HL1 hg1 hn1; obtain ⟨a1, c1, rfl⟩ := HL1.out.shape; obtain ⟨N1, HN1⟩ : ∃ N1, Hid ((L.take i ++ V).length = N1) := ⟨_, Lib.hid rfl⟩; rw [HN1.out] at hn1 HL1 ⊢; have hN1 : decide (N1 < n) = false := end_more HN1.out HL.out HM.out hless)
  all_goals go_ret
  all_goals exact RepPost.mk HL1.out hg1 hn1
end Go.Proofs.Ytoadbkiklabceaa
