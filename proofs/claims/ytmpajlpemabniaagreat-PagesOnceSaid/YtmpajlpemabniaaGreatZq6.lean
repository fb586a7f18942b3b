/-
  Contract of slices.Insert at a row of runs of the call's own: the library's own text, walked. No claim of its own.
-/
import Derived.Laws.Externs
import Derived.Test.YtmpajlpemabniaaGreatZq5
import Derived.BigQuiet
namespace Go.Proofs.YtmpajlpemabniaaGreat
open Go.RowKit Go.Deep
set_option linter.unusedVariables false
set_option linter.unusedSimpArgs false
abbrev zR : Value := .agg #[.int .u64 0, .int .u64 0]
theorem Tryz.infoR : (Tryz.prog.info? 86).map (fun i => (i.zero, i.size, i.bytes)) = some (some zR, 2, 16) := by kernel_rfl
theorem Tryz.sizeR : (Tryz.prog.info? 86).map (·.size) = some 2 := by kernel_rfl
theorem zR_one : ∀ u ∈ zR.cells.toList, u.oneCell' = true := by simp [Value.cells, Value.oneCell']
theorem sizeOfR (w : World) : (Go.sizeOf 86).run Tryz.prog w = .ok 2 w := by
  obtain ⟨i, hi, hzz⟩ := Option.map_eq_some_iff.1 Tryz.infoR
  simp only [Prod.mk.injEq] at hzz
  simp [sizeOf, typeInfo, hi, hzz.2.1]
theorem Own.shape {w : World} {g : Nat} {t : TypeId} {cs : List Value} (h : Own w g t cs) : w.shape? g = some (t, cs.length) := by
  unfold Own at h
  simp [World.shape?, h]
theorem overlaps_no {w : World} {ga gb : Nat} {csA csB : List Value} (oa : Nat) (ha : Own w ga 86 csA) (hb : Own w gb 86 csB) (hne : ga ≠ gb) (hB : csB.length ≠ 0) (la ca lb cb ob : Nat) :
    (callFunc 203 #[.slice (some ⟨ga, oa, none⟩) la ca, .slice (some ⟨gb, ob, none⟩) lb cb]).run Tryz.prog w = .ok (.value (.bool false)) w := by
  rw [run_callFunc_extern Tryz.func203 (by kernel_rfl) (by kernel_rfl) (by kernel_rfl) (e := Extern.SlicesOverlaps.overlaps #[82, 82] #[4]) (by kernel_rfl),
    Lib.run_overlaps_apart w 82 4 86 Tryz.underlying82 2 sizeOfR ⟨ga, oa, none⟩ ⟨gb, ob, none⟩ la ca lb cb hne 86 86 csA.length csB.length ha.shape hb.shape hB (ha.frozen _) (ha.frozen _)]
  rfl
def RepPost (w : World) (base : Nat) (v : Value) (L : List Rn) (e : Ending) (w' : World) : Prop :=
  ∃ v', e = .returned v' ∧ Lr w' base 86 v' L ∧ w.grownBy w' v.ownBlock ∧ Nb w v v'
theorem RepPost.mk {w w' : World} {base : Nat} {v v' : Value} {L : List Rn} (h : Lr w' base 86 v' L) (hg : w.grownBy w' v.ownBlock) (hn : Nb w v v') : RepPost w base v L (.returned v') w' := ⟨v', rfl, h, hg, hn⟩
theorem splice_take_le {cur cs : List Value} {off k : Nat} (hk : k ≤ off) (ho : off ≤ cur.length) : (splice cur off cs).take k = cur.take k := by
  unfold splice
  rw [List.take_append_of_le_length (by rw [List.length_take]; omega), List.take_take, Nat.min_eq_left hk]
theorem splice_take {cur cs : List Value} {off : Nat} (ho : off ≤ cur.length) : (splice cur off cs).take (off + cs.length) = cur.take off ++ cs := by
  unfold splice
  rw [← List.append_assoc, List.take_append_of_le_length (by rw [List.length_append, List.length_take]; omega)]
  exact List.take_of_length_le (by rw [List.length_append, List.length_take]; omega)
theorem splice_drop {cur cs : List Value} {off : Nat} (ho : off ≤ cur.length) : (splice cur off cs).drop off = cs ++ cur.drop (off + cs.length) := by
  unfold splice
  rw [List.drop_append, List.drop_of_length_le (by rw [List.length_take]; omega), List.length_take, Nat.min_eq_left ho, Nat.sub_self]
  rfl
theorem splice2_take {cur X Y : List Value} {p q : Nat} (hq : q = p + Y.length) (hfit : q + X.length ≤ cur.length) : (splice (splice cur q X) p Y).take (q + X.length) = cur.take p ++ (Y ++ X) := by
  have h1 : (splice cur q X).length = cur.length := length_splice _ _ _ hfit
  have h2 : (splice cur q X).take p = cur.take p := splice_take_le (by omega) (by omega)
  have h3 : (splice cur q X).drop q = X ++ cur.drop (q + X.length) := splice_drop (by omega)
  rw [splice, h2, ← hq, h3, ← List.append_assoc, ← List.append_assoc, List.take_append_of_le_length (by simp only [List.length_append, List.length_take]; omega), List.append_assoc]
  exact List.take_of_length_le (by simp only [List.length_append, List.length_take]; omega)
theorem splice2_take' {cur X Y : List Value} {p q : Nat} (hq : q = p + Y.length) (hfit : q + X.length ≤ cur.length) : (splice (splice cur p Y) q X).take (q + X.length) = cur.take p ++ (Y ++ X) := by
  have h1 : (splice cur p Y).length = cur.length := length_splice _ _ _ (by omega)
  rw [splice_take (by omega), hq, splice_take (by omega), List.append_assoc]
theorem Own.src {w : World} {g : Nat} {t : TypeId} {cur : List Value} (h : Own w g t cur) {o : Nat} {cs : List Value} (hs : ∃ r, cur.drop o = cs ++ r) : ∀ j v, cs[j]? = some v → w.cell? ((⟨g, o, none⟩ : Addr).add j) = some v := by
  obtain ⟨r, hr⟩ := hs
  intro j v hv
  have hj : j < cs.length := (List.getElem?_eq_some_iff.1 hv).1
  rw [add_off, h.cell, ← List.getElem?_drop, hr, List.getElem?_append_left hj, hv]
def Src2 (w : World) (g o : Nat) (cs : List Value) : Prop := ∀ j v, cs[j]? = some v → w.cell? ((⟨g, o, none⟩ : Addr).add j) = some v
theorem Src2.grown {w w' : World} {g o : Nat} {cs : List Value} (h : Src2 w g o cs) {r : Option Nat} (hg : w.grownBy w' r) (hne : some g ≠ r) : Src2 w' g o cs := fun j v hv => by
  have := h j v hv
  rw [add_off] at this ⊢
  exact hg.cell this hne
theorem grown_undrew {a b : World} {r : Option Nat} (h : a.drew.grownBy b r) : a.grownBy b r := ⟨h.os, h.tape, h.output, h.size, h.block⟩
theorem drop_pref {cur X : List Value} {n i : Nat} (ht : cur.take n = X) (hn : n ≤ cur.length) (hi : i ≤ n) : ∃ r, cur.drop i = X.drop i ++ r := by
  refine ⟨cur.drop n, ?_⟩
  have : cur = X ++ cur.drop n := by rw [← ht, List.take_append_drop]
  have hl : X.length = n := by rw [← ht, List.length_take]; omega
  conv => lhs; rw [this]
  rw [List.drop_append, show i - X.length = 0 by omega, List.drop_zero]
theorem insert_none (w : World) (base : Nat) (v : Value) (L : List Rn) (hown : Lr w base 86 v L) (i : Nat) (hi : i ≤ L.length) (a2 : Option Addr) (c2 : Nat) :
    Calls Tryz.prog 202 #[v, .int .i64 i, .slice a2 0 c2] w fun e w' => e = .returned v ∧ w = w' := by
  obtain ⟨a, c, rfl, _, hc, hc2, hnil, _⟩ := hown.form
  have h0 : (0 : Int) ≤ (i : Int) := by omega
  have h1 : (i : Int) ≤ (L.length : Int) := by omega
  generalize L.length = n at *
  clear hnil
  go_enter Tryz.func202, Tryz.ntmps202
  go_wp2
  all_goals go_ret
  all_goals exact ⟨rfl, rfl⟩
theorem insert_end (w : World) (base : Nat) (v : Value) (L : List Rn) (hown : Lr w base 86 v L) (a2 : Option Addr) (c2 B : Nat) (V : List Rn) (hro : Ro w B a2 (rcs V)) (hV : 0 < V.length) (hb : L.length + V.length ≤ 4000000) (hbase : base ≤ w.heap.size) :
    Calls Tryz.prog 202 #[v, .int .i64 L.length, .slice a2 V.length c2] w (RepPost w base v (L ++ V)) := by
  obtain ⟨a, c, rfl, _, hc, hc2, hnil, _⟩ := hown.form
  have HR := Lib.hid hro
  obtain ⟨n, HN⟩ : ∃ n, Hid (L.length = n) := ⟨_, Lib.hid rfl⟩
  obtain ⟨m, HM⟩ : ∃ m, Hid (V.length = m) := ⟨_, Lib.hid rfl⟩
  rw [HN.out] at hc hb hown ⊢
  rw [HM.out] at hV hb ⊢
  have HO := Lib.hid hown
  have h2 : ¬ ((m : Int) = 0) := by omega
  clear hnil hown hro
  go_enter Tryz.func202, Tryz.ntmps202
  go_wp2_with (at_builtin; refine wpList_appS rfl _ _ 82 rfl base 86 zR 16 Tryz.underlying82 Tryz.infoR rfl _ L (by rfl) HO.out a2 B m c2 V rfl HM.out HR.out (by rw [HN.out]; omega) (by rw [HN.out]; omega) hbase ?_; intro v1 w1 HL1 hg1 hn1)
  all_goals go_ret
  all_goals first
    | exact RepPost.mk HL1.out hg1 hn1
    | (have hcn : c = n := by assumption
       subst hcn
       exact RepPost.mk HL1.out hg1 hn1)
set_option maxHeartbeats 1000000 in
set_option maxRecDepth 100000 in
theorem insert_mid (w : World) (base g c : Nat) (L : List Rn) (cur : List Value) (hg : base ≤ g) (ho : Own w g 86 cur) (hcl : cur.length = c * 2) (ht : cur.take (L.length * 2) = rcs L) (hcm : c ≤ 9223372036854775807)
    (g2 c2 : Nat) (V : List Rn) (cur2 : List Value) (ho2 : Own w g2 86 cur2) (ht2 : cur2.take (V.length * 2) = rcs V) (hne : g2 ≠ g) (hV : 0 < V.length) (i : Nat) (hi : i < L.length) (hroom : L.length + V.length ≤ c) (hb : L.length + V.length ≤ 4000000) :
    Calls Tryz.prog 202 #[.slice (some ⟨g, 0, none⟩) L.length c, .int .i64 i, .slice (some ⟨g2, 0, none⟩) V.length c2] w (RepPost w base (.slice (some ⟨g, 0, none⟩) L.length c) (L.take i ++ (V ++ L.drop i))) := by
  obtain ⟨n, HN⟩ : ∃ n, Hid (L.length = n) := ⟨_, Lib.hid rfl⟩
  obtain ⟨m, HM⟩ : ∃ m, Hid (V.length = m) := ⟨_, Lib.hid rfl⟩
  rw [HN.out] at hi hroom hb ⊢
  rw [HM.out] at hV hroom hb ⊢
  have HT := Lib.hid ht
  have HT2 := Lib.hid ht2
  have HCL := Lib.hid hcl
  have hov : ∀ lb cb, (callFunc 203 #[.slice (some ⟨g2, 0, none⟩) m c2, .slice (some ⟨g, (i + m) * 2, none⟩) lb cb]).run Tryz.prog w = .ok (.value (.bool false)) w := fun lb cb => overlaps_no 0 ho2 ho hne (by omega) m c2 lb cb _
  have h2 : ¬ ((m : Int) = 0) := by omega
  have h3 : ¬ ((i : Int) = (n : Int)) := by omega
  have hw1 : IntKind.i64.wrap ((i : Int) + (m : Int)) = (i : Int) + (m : Int) := by rw [IntKind.wrap_i64]; omega
  have hb1 : (0 : Int) ≤ (i : Int) + (m : Int) := by omega
  have htn : ((i : Int) + (m : Int)).toNat = i + m := by omega
  have hb2 : ¬ (c = i + m) := by omega
  have hb3 : (i : Int) ≤ (n : Int) + (m : Int) := by omega
  have hb4 : ¬ (c = i) := by omega
  have hin : i ≤ n := by omega
  have HX := Lib.hid (show (rcs (L.drop i)).length = Nat.min (n + m - i) (n + m - (i + m)) * 2 by rw [rcs_length, List.length_drop, HN.out]; show _ = min _ _ * 2; omega)
  have HF := Lib.hid (show (i + m) * 2 + (rcs (L.drop i)).length ≤ cur.length by rw [rcs_length, List.length_drop, HN.out, hcl]; omega)
  have HS := Lib.hid (show Src2 w g (i * 2) (rcs (L.drop i)) from ho.src (by rw [rcs_drop]; exact drop_pref ht (by rw [HN.out, hcl]; omega) (by rw [HN.out]; omega)))
  have HS2 := Lib.hid (show Src2 w g2 0 (rcs V) from ho2.src ⟨cur2.drop (V.length * 2), by rw [← ht2, List.take_append_drop]; rfl⟩)
  clear ht ht2 hcl
  go_enter Tryz.func202, Tryz.ntmps202
  go_wp2_with (simp only [hov])
  go_region_law (refine step_copy2 rfl (.tmp 73) (.tmp 76) 82 82 rfl 86 Tryz.underlying82 Tryz.sizeR (some ⟨g, (i + m) * 2, none⟩) (some ⟨g, i * 2, none⟩) (n + m - (i + m)) (c - (i + m)) (n + m - i) (c - i) (by simp [Act.eval, Act.put]) (by simp [Act.eval, Act.put]) g ((i + m) * 2) cur 86 ho (rcs (L.drop i)) HX.out (fun _ => ⟨rfl, _, rfl, HS.out⟩) HF.out (rcs_one _) ?_; intro w1 HO1 hg1)
  have hg1' : w.grownBy w1 (some g) := grown_undrew hg1
  have HS3 := Lib.hid (Src2.grown (w' := w1) HS2.out hg1' (by simpa using hne))
  clear hg1
  go_wp2_with (refine wpList_copy2 rfl _ _ 82 82 rfl 86 Tryz.underlying82 Tryz.sizeR (some ⟨g, i * 2, none⟩) (some ⟨g2, 0, none⟩) (n + m - i) (c - i) m c2 rfl rfl g (i * 2) (splice cur ((i + m) * 2) (rcs (L.drop i))) 86 HO1.out (rcs V) (by rw [rcs_length, HM.out]; show _ = min _ _ * 2; omega) (fun _ => ⟨rfl, _, rfl, HS3.out⟩) (by rw [length_splice _ _ _ HF.out, HCL.out, rcs_length, HM.out]; omega) (rcs_one _) ?_; intro w2 HO3 hg2)
  go_ret
  refine RepPost.mk ?_ (grown_trans hg1' hg2) (Nb.refl _ _)
  have hl : (L.take i ++ (V ++ L.drop i)).length = n + m := by
    have := HN.out; have := HM.out
    simp only [List.length_append, List.length_take, List.length_drop]; omega
  rw [← hl]
  refine Lr.mk hg HO3.out (by omega) (by unfold maxLen; omega) (by rw [length_splice _ _ _ (by rw [length_splice _ _ _ HF.out, HCL.out, rcs_length, HM.out]; omega), length_splice _ _ _ HF.out, HCL.out]) ?_
  have := splice2_take (cur := cur) (X := rcs (L.drop i)) (Y := rcs V) (p := i * 2) (q := (i + m) * 2) (by rw [rcs_length, HM.out]; omega) HF.out
  rw [rcs_length, List.length_drop, HN.out] at this
  rw [hl, show (n + m) * 2 = (i + m) * 2 + (n - i) * 2 by omega, this, rcs_append, rcs_append, rcs_take, ← HT.out, HN.out, List.take_take, Nat.min_eq_left (by omega)]
theorem append_zeros (w : World) (g c : Nat) (L : List Rn) (cur : List Value) (ho : Own w g 86 cur) (hcl : cur.length = c * 2) (ht : cur.take (L.length * 2) = rcs L) (hnc : L.length ≤ c) (i k : Nat) (hi : i ≤ L.length) (hk : 0 < k) (hg : c < i + k) (hb : i + k ≤ 4000000) :
    ∃ (G : Nat) (W1 : World) (cur1 : List Value), i + k ≤ G ∧ G ≤ maxLen ∧ cur1.length = G * 2 ∧ cur1.take (i * 2) = rcs (L.take i) ∧ Own W1 w.heap.size 86 cur1 ∧ (∀ row, w.grownBy W1 row) ∧
      ∀ ty, (Builtin.append_ #[82, 3] ty #[.slice (some ⟨g, 0, none⟩) i c, .int .i64 (k : Nat)]).run Tryz.prog w = .ok (.slice (some ⟨w.heap.size, 0, none⟩) (i + k) G) W1 := by
  obtain ⟨i0, hi0, hzz⟩ := Option.map_eq_some_iff.1 Tryz.infoR
  simp only [Prod.mk.injEq] at hzz
  obtain ⟨hz0, hzs, hzb⟩ := hzz
  have hlen : (rcs (L.take i)).length = i * 2 := by rw [rcs_length, List.length_take]; omega
  have hold : (Builtin.firstCells i0.size i (.slice (some ⟨g, 0, none⟩) i c)).run Tryz.prog w.drew = .ok (rcs (L.take i)).toArray w.drew := by
    rw [hzs]
    refine run_firstCells_some w.drew 2 i ⟨g, 0, none⟩ i c (rcs (L.take i)) hlen (fun j v hj => ?_)
    have h := Own.src ho (o := 0) (cs := rcs L) ⟨cur.drop (L.length * 2), by rw [← ht, List.take_append_drop]; rfl⟩ j v (by
      rw [rcs_take, List.getElem?_take] at hj
      split at hj
      · exact hj
      · cases hj)
    exact h
  have hrun := fun ty => Lib.run_append_grow_zeros w 82 3 ty 86 i0 _ .i64 .i64 Tryz.underlying82 Tryz.underlying3 hi0 hz0 (some ⟨g, 0, none⟩) i c (rcs (L.take i)) hold k hk (by omega) hg (by omega) (by rw [hzb]; omega) (by rw [hzb]; exact growslice_fits hg (by omega))
  refine ⟨_, _, (rcs (L.take i)) ++ (Builtin.zeroCells zR.cells k).toList ++ (Builtin.zeroCells zR.cells (grownCap w (i + k) c 86 - (i + k))).toList, grownCap_ge w _ _ _, grownCap_le_maxLen w _ _ _ (by unfold maxLen; omega), ?_, ?_, ?_, ?_, hrun⟩
  · have := grownCap_ge w (i + k) c 86
    simp only [List.length_append, hlen, Array.length_toList, size_zeroCells, show zR.cells.size = 2 from rfl]
    omega
  · rw [List.append_assoc, List.take_append_of_le_length (by omega)]
    exact List.take_of_length_le (by omega)
  · have := heap_alloc_new w.drew (.cells ((rcs (L.take i)).toArray ++ Builtin.zeroCells zR.cells k ++ Builtin.zeroCells zR.cells (grownCap w (i + k) c 86 - (i + k))) 86)
    unfold Own
    refine this.trans ?_
    have e : ∀ (a : List Value) (b c : Array Value), a.toArray ++ b ++ c = (a ++ b.toList ++ c.toList).toArray := fun a b c => Array.ext' (by simp)
    rw [e]
  · exact fun row => ⟨rfl, rfl, rfl, by simp, fun j hj _ => Below.heap_alloc w.drew _ j hj⟩
set_option maxHeartbeats 1000000 in
set_option maxRecDepth 100000 in
theorem insert_grow (w : World) (base g c : Nat) (L : List Rn) (cur : List Value) (hg : base ≤ g) (ho : Own w g 86 cur) (hcl : cur.length = c * 2) (ht : cur.take (L.length * 2) = rcs L) (hcm : c ≤ 9223372036854775807) (hnc : L.length ≤ c)
    (g2 c2 : Nat) (V : List Rn) (cur2 : List Value) (ho2 : Own w g2 86 cur2) (ht2 : cur2.take (V.length * 2) = rcs V) (hV : 0 < V.length) (i : Nat) (hi : i < L.length) (hroom : c < L.length + V.length) (hb : L.length + V.length ≤ 4000000) (hbase : base ≤ w.heap.size) :
    Calls Tryz.prog 202 #[.slice (some ⟨g, 0, none⟩) L.length c, .int .i64 i, .slice (some ⟨g2, 0, none⟩) V.length c2] w (RepPost w base (.slice (some ⟨g, 0, none⟩) L.length c) (L.take i ++ (V ++ L.drop i))) := by
  obtain ⟨G, W1, cur1, hG1, hG2, hl1, ht1, ho1, hgr, hrun⟩ := append_zeros w g c L cur ho hcl ht hnc i (L.length + V.length - i) (by omega) (by omega) (by omega) (by omega)
  obtain ⟨n, HN⟩ : ∃ n, Hid (L.length = n) := ⟨_, Lib.hid rfl⟩
  obtain ⟨m, HM⟩ : ∃ m, Hid (V.length = m) := ⟨_, Lib.hid rfl⟩
  rw [HN.out] at hi hroom hb hnc hrun hG1 ⊢
  rw [HM.out] at hV hroom hb hrun hG1 ⊢
  rw [show i + (n + m - i) = n + m by omega] at hrun hG1
  have hgn : g < w.heap.size := ho.lt
  have hgn2 : g2 < w.heap.size := ho2.lt
  have HT1 := Lib.hid ht1
  have HCL := Lib.hid hl1
  have HO1 := Lib.hid ho1
  have HGR := Lib.hid (hgr (some g))
  have h2 : ¬ ((m : Int) = 0) := by omega
  have h3 : ¬ ((i : Int) = (n : Int)) := by omega
  have h4 : (c : Int) < (n : Int) + (m : Int) := by omega
  have hw1 : IntKind.i64.wrap ((i : Int) + (m : Int)) = (i : Int) + (m : Int) := by rw [IntKind.wrap_i64]; omega
  have hb1 : (0 : Int) ≤ (i : Int) + (m : Int) := by omega
  have htn : ((i : Int) + (m : Int)).toNat = i + m := by omega
  have hb2 : ¬ (G = i + m) := by omega
  have hb3 : (i : Int) ≤ (n : Int) + (m : Int) := by omega
  have hb4 : ¬ (c = i) := by omega
  have hb5 : ¬ (G = i) := by omega
  have hin : i ≤ n := by omega
  have hG63 : G ≤ 9223372036854775807 := by unfold maxLen at hG2; omega
  have hkk : ((n + m - i : Nat) : Int) = (n : Int) + (m : Int) - (i : Int) := by omega
  rw [hkk] at hrun
  have HX := Lib.hid (show (rcs (L.drop i)).length = Nat.min (n - i) (n + m - (i + m)) * 2 by rw [rcs_length, List.length_drop, HN.out]; show _ = min _ _ * 2; omega)
  have HXl := Lib.hid (show (rcs (L.drop i)).length = (n - i) * 2 by rw [rcs_length, List.length_drop, HN.out])
  have HY := Lib.hid (show (rcs V).length = Nat.min m (n + m - i) * 2 by rw [rcs_length, HM.out]; show _ = min _ _ * 2; omega)
  have HYl := Lib.hid (show (rcs V).length = m * 2 by rw [rcs_length, HM.out])
  have HF := Lib.hid (show i * 2 + (rcs V).length ≤ cur1.length by rw [HYl.out, hl1]; omega)
  have HF2 := Lib.hid (show (i + m) * 2 + (rcs (L.drop i)).length ≤ cur1.length by rw [HXl.out, hl1]; omega)
  have HF3 := Lib.hid (show (i + m) * 2 + (rcs (L.drop i)).length ≤ (splice cur1 (i * 2) (rcs V)).length by rw [length_splice _ _ _ HF.out]; exact HF2.out)
  have HS := Lib.hid (Src2.grown (show Src2 w g (i * 2) (rcs (L.drop i)) from ho.src (by rw [rcs_drop]; exact drop_pref ht (by rw [HN.out, hcl]; omega) (by rw [HN.out]; omega))) (hgr none) (by simp))
  have HS2 := Lib.hid (Src2.grown (show Src2 w g2 0 (rcs V) from ho2.src ⟨cur2.drop (V.length * 2), by rw [← ht2, List.take_append_drop]; rfl⟩) (hgr none) (by simp))
  have hne : g ≠ w.heap.size := by omega
  clear ht ht2 hcl hl1 ht1 ho1 hgr ho ho2 hkk
  go_enter Tryz.func202, Tryz.ntmps202
  go_wp2_with (first
    | (at_builtin; refine Lib.wpList_append_run _ rfl _ _ _ _ rfl _ _ rfl rfl _ _ (hrun _) ?_)
    | (refine wpList_copy2 rfl _ _ 82 82 rfl 86 Tryz.underlying82 Tryz.sizeR (some ⟨w.heap.size, i * 2, none⟩) (some ⟨g2, 0, none⟩) (n + m - i) (G - i) m c2 rfl rfl w.heap.size (i * 2) cur1 86 HO1.out (rcs V) HY.out (fun _ => ⟨rfl, _, rfl, HS2.out⟩) HF.out (rcs_one _) ?_; intro w2 HO2 hg2))
  have HS3 := Lib.hid (Src2.grown (w' := w2) HS.out hg2 (by simpa using hne))
  have HG3 := Lib.hid (show w.grownBy w2 (some g) from ⟨hg2.os.trans HGR.out.os, hg2.tape.trans HGR.out.tape, hg2.output.trans HGR.out.output, Nat.le_trans HGR.out.size hg2.size, fun k hk hne => (hg2.block k (Nat.lt_of_lt_of_le hk HGR.out.size) (by intro e; injection e with e; omega)).trans (HGR.out.block k hk hne)⟩)
  clear hg2
  go_region_law (refine step_copy2 rfl (.tmp 50) (.tmp 53) 82 82 rfl 86 Tryz.underlying82 Tryz.sizeR (some ⟨w.heap.size, (i + m) * 2, none⟩) (some ⟨g, i * 2, none⟩) (n + m - (i + m)) (G - (i + m)) (n - i) (c - i) (by simp [Act.eval, Act.put]) (by simp [Act.eval, Act.put]) w.heap.size ((i + m) * 2) (splice cur1 (i * 2) (rcs V)) 86 HO2.out (rcs (L.drop i)) HX.out (fun _ => ⟨rfl, _, rfl, HS3.out⟩) HF3.out (rcs_one _) ?_; intro w3 HO3 hg3)
  have hg3' : w2.grownBy w3 (some w.heap.size) := grown_undrew hg3
  clear hg3
  go_wp2
  go_ret
  refine RepPost.mk ?_ ⟨hg3'.os.trans HG3.out.os, hg3'.tape.trans HG3.out.tape, hg3'.output.trans HG3.out.output, Nat.le_trans HG3.out.size hg3'.size, fun k hk hne => (hg3'.block k (Nat.lt_of_lt_of_le hk HG3.out.size) (by intro e; injection e with e; omega)).trans (HG3.out.block k hk hne)⟩ (.inr fun k hk => by simp [Value.ownBlock] at hk; omega)
  have hl : (L.take i ++ (V ++ L.drop i)).length = n + m := by
    have := HN.out; have := HM.out
    simp only [List.length_append, List.length_take, List.length_drop]; omega
  rw [← hl]
  refine Lr.mk hbase HO3.out (by omega) hG2 (by rw [length_splice _ _ _ HF3.out, length_splice _ _ _ HF.out, HCL.out]) ?_
  have := splice2_take' (cur := cur1) (X := rcs (L.drop i)) (Y := rcs V) (p := i * 2) (q := (i + m) * 2) (by rw [HYl.out]; omega) HF2.out
  rw [HXl.out] at this
  rw [hl, show (n + m) * 2 = (i + m) * 2 + (n - i) * 2 by omega, this, rcs_append, rcs_append, HT1.out]
theorem Lr.ro {w : World} {base : Nat} {e : TypeId} {a : Option Addr} {n c : Nat} {L : List Rn} (h : Lr w base e (.slice a n c) L) : n = L.length ∧ Ro w w.heap.size a (rcs L) := by
  obtain ⟨a', c', hv, hr, _⟩ := h.form
  simp only [Value.slice.injEq] at hv
  obtain ⟨rfl, rfl, rfl⟩ := hv
  exact ⟨rfl, hr⟩
theorem Lr.shape {w : World} {base : Nat} {e : TypeId} {v : Value} {L : List Rn} (h : Lr w base e v L) : ∃ a c, v = .slice a L.length c := by
  obtain ⟨a', c', hv, _⟩ := h.form
  exact ⟨a', c', hv⟩
theorem insert_any (w : World) (base : Nat) (v : Value) (L : List Rn) (hown : Lr w base 86 v L) (v2 : Value) (V : List Rn) (base2 : Nat) (hV : Lr w base2 86 v2 V) (hne : v.ownBlock = none ∨ v.ownBlock ≠ v2.ownBlock) (i : Nat) (hi : i ≤ L.length) (hb : L.length + V.length ≤ 4000000) (hbase : base ≤ w.heap.size) :
    Calls Tryz.prog 202 #[v, .int .i64 i, v2] w (RepPost w base v (L.take i ++ (V ++ L.drop i))) := by
  by_cases h0 : V.length = 0
  · obtain rfl : V = [] := List.eq_nil_of_length_eq_zero h0
    obtain ⟨a2, c2, rfl⟩ := hV.shape
    refine (insert_none w base v L hown i hi a2 c2).mono fun e w' ⟨he, hw⟩ => ?_
    subst he hw
    rw [List.nil_append, List.take_append_drop]
    exact RepPost.mk hown (World.grownBy.refl w _) (Nb.refl _ _)
  · by_cases hin : i = L.length
    · subst hin
      obtain ⟨a2, c2, rfl⟩ := hV.shape
      have := insert_end w base v L hown a2 c2 _ V hV.ro.2 (by omega) hb hbase
      rw [List.take_length, List.drop_length, List.append_nil]
      exact this
    · have hn1 : v ≠ .slice none 0 0 := by
        rintro rfl
        obtain ⟨e, _⟩ := hown.ro
        omega
      have hn2 : v2 ≠ .slice none 0 0 := by
        rintro rfl
        obtain ⟨e, _⟩ := hV.ro
        omega
      obtain ⟨g, c, cur, rfl, hg, ho, hle, hcm, hcl, ht⟩ := hown.open_ hn1
      obtain ⟨g2, c2, cur2, rfl, hg2, ho2, hle2, hcm2, hcl2, ht2⟩ := hV.open_ hn2
      have hne2 : g2 ≠ g := by
        rcases hne with h | h
        · simp [Value.ownBlock] at h
        · intro e; exact h (by simp [Value.ownBlock, e])
      unfold maxLen at hcm
      by_cases hroom : L.length + V.length ≤ c
      · exact insert_mid w base g c L cur hg ho hcl ht (by omega) g2 c2 V cur2 ho2 ht2 hne2 (by omega) i (by omega) hroom hb
      · exact insert_grow w base g c L cur hg ho hcl ht (by omega) hle g2 c2 V cur2 ho2 ht2 (by omega) i (by omega) (by omega) hb hbase
theorem Lr.cut {w : World} {base g c : Nat} {L : List Rn} {cur : List Value} (hg : base ≤ g) (ho : Own w g 86 cur) (hcl : cur.length = c * 2) (ht : cur.take (L.length * 2) = rcs L) (hnc : L.length ≤ c) (hcm : c ≤ maxLen) (i : Nat) (hi : i ≤ L.length) :
    Lr w base 86 (.slice (some ⟨g, 0, none⟩) i c) (L.take i) := by
  have hl : (L.take i).length = i := by rw [List.length_take]; omega
  have := Lr.mk (L := L.take i) hg ho (by omega) hcm hcl (by rw [hl, rcs_take, ← ht, List.take_take, Nat.min_eq_left (by omega)])
  rwa [hl] at this
set_option maxRecDepth 100000 in
theorem append_fit (w : World) (g c i m c2 B : Nat) (a2 : Option Addr) (cur : List Value) (ho : Own w g 86 cur) (hcl : cur.length = c * 2) (V : List Rn) (hm : V.length = m) (hro : Ro w B a2 (rcs V)) (hfit : i + m ≤ c) :
    ∃ W1, Own W1 g 86 (splice cur (i * 2) (rcs V)) ∧ w.grownBy W1 (some g) ∧
      ∀ ty, (Builtin.append_ #[82, 82] ty #[.slice (some ⟨g, 0, none⟩) i c, .slice a2 m c2]).run Tryz.prog w = .ok (.slice (some ⟨g, 0, none⟩) (i + m) c) W1 := by
  obtain ⟨i0, hi0, hzz⟩ := Option.map_eq_some_iff.1 Tryz.infoR
  simp only [Prod.mk.injEq] at hzz
  obtain ⟨hz0, hzs, hzb⟩ := hzz
  rcases a2 with _ | ad
  · have hn : V = [] := by
      rcases hro with h | ⟨b, off, h, _⟩
      · have := congrArg List.length h; exact List.eq_nil_of_length_eq_zero (by simp at this; omega)
      · cases h
    subst hn
    obtain rfl : m = 0 := by simpa using hm.symm
    refine ⟨w, by simpa [rcs, splice] using ho, World.grownBy.refl w _, fun ty => ?_⟩
    have hic : i ≤ c := by omega
    simp [Builtin.append_, run_underlying Tryz.underlying82, sizeOf, typeInfo, hi0, Builtin.lenOf, Builtin.firstCells, hic, storeCells]
  · have hcells : ∀ j u, (rcs V)[j]? = some u → w.cell? (ad.add j) = some u := by
      intro j u hu
      have hj : j < (rcs V).length := (List.getElem?_eq_some_iff.1 hu).1
      rcases hro with h | ⟨b, off, h, hb, hc⟩
      · rw [h] at hj; simp at hj
      · injection h with h
        subst h
        rw [add_off, hc j hj]
        simp [List.getD, hu]
    refine ⟨w.setRow g (splice cur (i * 2) (rcs V)).toArray, ho.setRow _, grown_setRow _ _ _, fun ty => ?_⟩
    have := run_append_room (P := Tryz.prog) w 82 ty 86 i0 Tryz.underlying82 hi0 g i c cur.toArray ho ad m c2 (rcs V) (by rw [rcs_length, hm, hzs]) hcells (rcs_one V) hfit (by rw [rcs_length, hm, hzs, List.size_toArray, hcl]; omega)
    rw [hzs] at this
    simpa [splice] using this
set_option maxHeartbeats 1000000 in
set_option maxRecDepth 100000 in
theorem replace_end_less (w : World) (base g c : Nat) (L : List Rn) (cur : List Value) (hg : base ≤ g) (ho : Own w g 86 cur) (hcl : cur.length = c * 2) (ht : cur.take (L.length * 2) = rcs L) (hcm : c ≤ 9223372036854775807) (hnc : L.length ≤ c)
    (a2 : Option Addr) (c2 B : Nat) (V : List Rn) (hro : Ro w B a2 (rcs V)) (i : Nat) (hi : i < L.length) (hless : i + V.length < L.length) (hb : L.length + V.length ≤ 4000000) :
    Calls Tryz.prog 147 #[.slice (some ⟨g, 0, none⟩) L.length c, .int .i64 i, .int .i64 L.length, .slice a2 V.length c2] w (RepPost w base (.slice (some ⟨g, 0, none⟩) L.length c) (L.take i ++ V)) := by
  obtain ⟨W1, ho1, hg1, hrun⟩ := append_fit w g c i V.length c2 B a2 cur ho hcl V rfl hro (by omega)
  obtain ⟨n, HN⟩ : ∃ n, Hid (L.length = n) := ⟨_, Lib.hid rfl⟩
  obtain ⟨m, HM⟩ : ∃ m, Hid (V.length = m) := ⟨_, Lib.hid rfl⟩
  rw [HN.out] at hi hless hb hnc ⊢
  rw [HM.out] at hless hb hrun ⊢
  have HT := Lib.hid ht
  have HCL := Lib.hid hcl
  have HO := Lib.hid ho1
  have HG := Lib.hid hg1
  have h3 : ¬ ((i : Int) = (n : Int)) := by omega
  have h4 : decide (i + m < n) = true := by simpa using hless
  have hin : i ≤ n := by omega
  have hb2 : ¬ (c = i + m) := by omega
  have hb3 : i + m ≤ n := by omega
  have hb4 : (0 : Int) ≤ (i : Int) + (m : Int) := by omega
  have htn : ((i : Int) + (m : Int)).toNat = i + m := by omega
  clear ho hcl ht ho1 hg1 hro
  go_enter Tryz.func147, Tryz.ntmps147
  go_wp2_with (first
    | (at_builtin; refine Lib.wpList_append_run _ rfl _ _ _ _ rfl _ _ rfl rfl _ _ (hrun _) ?_)
    | (refine wpList_clear2 rfl _ 82 rfl 86 zR 16 Tryz.underlying82 Tryz.infoR rfl zR_one (some ⟨g, (i + m) * 2, none⟩) (n - (i + m)) (c - (i + m)) rfl g ((i + m) * 2) (splice cur (i * 2) (rcs V)) 86 HO.out (fun _ => rfl) (by rw [length_splice _ _ _ (by rw [rcs_length, HM.out, HCL.out]; omega), HCL.out]; omega) ?_; intro w2 cs2 hcs2 HO2 hg2))
  go_ret
  refine RepPost.mk ?_ (grown_trans HG.out hg2) (Nb.refl _ _)
  have hl : (L.take i ++ V).length = i + m := by
    have := HN.out; have := HM.out
    simp only [List.length_append, List.length_take]; omega
  have hs1 : (splice cur (i * 2) (rcs V)).length = c * 2 := by rw [length_splice _ _ _ (by rw [rcs_length, HM.out, HCL.out]; omega), HCL.out]
  rw [← hl]
  refine Lr.mk hg HO2.out (by omega) (by unfold maxLen; omega) (by rw [length_splice _ _ _ (by rw [hcs2, hs1]; omega), hs1]) ?_
  have := splice_take (cur := cur) (cs := rcs V) (off := i * 2) (by rw [HCL.out]; omega)
  rw [rcs_length, HM.out, ← Nat.add_mul] at this
  rw [hl, splice_take_le (by omega) (by rw [hs1]; omega), this, rcs_append, rcs_take, ← HT.out, HN.out, List.take_take, Nat.min_eq_left (by omega)]
theorem end_more {A V : List Rn} {N i m n : Nat} (h1 : (A ++ V).length = N) (h2 : A.length = i) (h3 : V.length = m) (h : n ≤ i + m) : decide (N < n) = false := by
  rw [List.length_append] at h1
  simp
  omega
set_option maxHeartbeats 1000000 in
set_option maxRecDepth 100000 in
theorem replace_end_more (w : World) (base g c : Nat) (L : List Rn) (cur : List Value) (hg : base ≤ g) (ho : Own w g 86 cur) (hcl : cur.length = c * 2) (ht : cur.take (L.length * 2) = rcs L) (hcm : c ≤ maxLen) (hnc : L.length ≤ c)
    (a2 : Option Addr) (c2 B : Nat) (V : List Rn) (hro : Ro w B a2 (rcs V)) (i : Nat) (hi : i < L.length) (hless : L.length ≤ i + V.length) (hb : L.length + V.length ≤ 4000000) (hbase : base ≤ w.heap.size) :
    Calls Tryz.prog 147 #[.slice (some ⟨g, 0, none⟩) L.length c, .int .i64 i, .int .i64 L.length, .slice a2 V.length c2] w (RepPost w base (.slice (some ⟨g, 0, none⟩) L.length c) (L.take i ++ V)) := by
  have hcut := Lr.cut hg ho hcl ht hnc hcm i (by omega)
  have htl : (L.take i).length = i := by rw [List.length_take]; omega
  obtain ⟨n, HN⟩ : ∃ n, Hid (L.length = n) := ⟨_, Lib.hid rfl⟩
  obtain ⟨m, HM⟩ : ∃ m, Hid (V.length = m) := ⟨_, Lib.hid rfl⟩
  rw [HN.out] at hi hless hb hnc ⊢
  rw [HM.out] at hless hb ⊢
  have HO := Lib.hid hcut
  have HR := Lib.hid hro
  have HL := Lib.hid htl
  unfold maxLen at hcm
  have h3 : ¬ ((i : Int) = (n : Int)) := by omega
  have hin : i ≤ n := by omega
  clear ho hcl ht hcut hro htl
  go_enter Tryz.func147, Tryz.ntmps147
  go_wp2_with (at_builtin; refine wpList_appS rfl _ _ 82 rfl base 86 zR 16 Tryz.underlying82 Tryz.infoR rfl _ (L.take i) (by rfl) HO.out a2 B m c2 V rfl HM.out HR.out (by rw [HL.out]; omega) (by rw [HL.out]; omega) hbase ?_; intro v1 w1 HL1 hg1 hn1; obtain ⟨a1, c1, rfl⟩ := HL1.out.shape; obtain ⟨N1, HN1⟩ : ∃ N1, Hid ((L.take i ++ V).length = N1) := ⟨_, Lib.hid rfl⟩; rw [HN1.out] at hn1 HL1 ⊢; have hN1 : decide (N1 < n) = false := end_more HN1.out HL.out HM.out hless)
  all_goals go_ret
  all_goals exact RepPost.mk HL1.out hg1 hn1
end Go.Proofs.YtmpajlpemabniaaGreat
