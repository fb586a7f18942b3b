/-
  Units of package layout, by its contract. No claim of its own.
-/
import Derived.Test.YtkdgoopldaoihaaGb16
import Derived.Test.YtkdgoopldaoihaaGb12
import Derived.Test.YtkdgoopldaoihaaGb6
import Derived.MapKept
import Derived.Laws.StructEq
import Derived.WideKeyRuns
import Derived.WideLaws
namespace Go.Proofs.Ytkdgoopldaoihaa
open Go.RowKit Go.Deep Go.Shelf Go.Lib
set_option linter.unusedVariables false
set_option linter.unusedSimpArgs false

def allOf (L : List Sg) : List Int := (L.map fun s => s.2.flatten).flatten
def unitsOf (x : Ly) : List Int := if lright x = true then compactUpTo ((allOf x.s).mergeSort fun x y => decide (x ≤ y)).toArray ((allOf x.s).mergeSort fun x y => decide (x ≤ y)).length else []
theorem allOf_take {L : List SgT} {k : Nat} (h : k < L.length) : allOf ((sgx L).take (k + 1)) = allOf ((sgx L).take k) ++ (chx (st L k).ch).flatten := by
  have e : (sgx L).take (k + 1) = (sgx L).take k ++ [(st L k).x] := by
    rw [List.take_succ_eq_append_getElem (by simpa using h)]
    congr 2
    have := sx_sgx L k
    rw [← this]
    simp [sx, List.getD, h]
  rw [e]
  simp [allOf, SgT.x]
theorem flat_le {L : List (List Int)} (h : chOk L = true) : L.flatten.length ≤ 16 := by
  obtain ⟨h1, h2, _⟩ := chOk_iff.1 h
  have : ∀ M : List (List Int), (∀ c ∈ M, c.length ≤ 4) → M.flatten.length ≤ M.length * 4 := by
    intro M
    induction M with
    | nil => simp
    | cons c M ih =>
      intro hM
      have := ih (fun c hc => hM c (by simp [hc]))
      have := hM c (by simp)
      simp only [List.flatten_cons, List.length_append, List.length_cons]
      omega
  have := this L (fun c hc => (h2 c hc).2)
  omega
theorem right_ch {x : Ly} (h : lright x = true) {i : Nat} (hi : i < x.s.length) : chOk (sx x.s i).2 = true := ((sgOk_iff.1 (lright_iff.1 h).2.2).2.2.1 i hi).2
theorem allOf_le {x : Ly} (h : lright x = true) (k : Nat) (hk : k ≤ x.s.length) : (allOf (x.s.take k)).length ≤ k * 16 := by
  induction k with
  | zero => simp [allOf]
  | succ k ih =>
    have e : x.s.take (k + 1) = x.s.take k ++ [sx x.s k] := by
      rw [List.take_succ_eq_append_getElem (by omega)]
      simp [sx, List.getD, show k < x.s.length by omega]
    rw [e]
    have := ih (by omega)
    have := flat_le (right_ch h (i := k) (by omega))
    simp only [allOf, List.map_append, List.map_cons, List.map_nil, List.flatten_append, List.flatten_cons, List.flatten_nil, List.append_nil, List.length_append] at *
    omega
theorem allOf_pos {x : Ly} (h : lright x = true) : 0 < (allOf x.s).length := by
  have hs := sgOk_iff.1 (lright_iff.1 h).2.2
  have h0 := right_ch h (i := 0) (by omega)
  have hc := chOk_iff.1 h0
  have h1 := hc.2.1 _ (cx_mem (L := (sx x.s 0).2) (i := 0) (by omega))
  have : ∃ u, u ∈ cx (sx x.s 0).2 0 := by
    cases hcx : cx (sx x.s 0).2 0 with
    | nil => rw [hcx] at h1; simp at h1
    | cons u _ => exact ⟨u, by simp⟩
  obtain ⟨u, hu⟩ := this
  have hm : u ∈ allOf x.s := by
    unfold allOf
    rw [List.mem_flatten]
    exact ⟨_, List.mem_map.2 ⟨_, sx_mem (L := x.s) (i := 0) (by omega), rfl⟩, List.mem_flatten.2 ⟨_, cx_mem (L := (sx x.s 0).2) (i := 0) (by omega), hu⟩⟩
  exact List.length_pos_of_mem hm

/-- the list of units is in order, and has just all units -/
theorem compact_is (d : List Int) (hs : d.Pairwise (· ≤ ·)) (m : Nat) (hm : m ≤ d.length) : (compactUpTo d.toArray m).Pairwise (· < ·) ∧ ∀ x, x ∈ compactUpTo d.toArray m ↔ ∃ j, j < m ∧ d[j]? = some x := by
  induction m with
  | zero => simp [compactUpTo]
  | succ m ih =>
    obtain ⟨h1, h2⟩ := ih (by omega)
    rw [compactUpTo_succ]
    have hdm : d.toArray[m]! = d[m] := by rw [getElem!_pos _ _ (by simp; omega)]; simp
    have hle : ∀ i j (hi : i < j) (hj : j < d.length), d[i] ≤ d[j] := fun i j hi hj => List.pairwise_iff_getElem.1 hs i j (by omega) hj hi
    by_cases hk : keeps d.toArray m = true
    · rw [if_pos hk, hdm]
      refine ⟨?_, fun x => ?_⟩
      · rw [List.pairwise_append]
        refine ⟨h1, by simp, fun a ha b hb => ?_⟩
        simp only [List.mem_singleton] at hb
        subst hb
        obtain ⟨j, hj, hx⟩ := (h2 a).1 ha
        have hxa : d[j] = a := by rw [List.getElem?_eq_getElem (by omega)] at hx; simpa using hx
        unfold keeps at hk
        simp only [decide_eq_true_eq] at hk
        rcases hk with hk | hk
        · omega
        · have e1 : d.toArray[m - 1]! = d[m - 1] := by rw [getElem!_pos _ _ (by simp; omega)]; simp
          rw [hdm, e1] at hk
          have g1 : d[j] ≤ d[m - 1] := by
            by_cases e : j = m - 1
            · subst e; exact Int.le_refl _
            · exact hle j (m - 1) (by omega) (by omega)
          have g2 := hle (m - 1) m (by omega) (by omega)
          omega
      · rw [List.mem_append, h2 x, List.mem_singleton]
        constructor
        · rintro (⟨j, hj, hx⟩ | hx)
          · exact ⟨j, by omega, hx⟩
          · exact ⟨m, by omega, by rw [List.getElem?_eq_getElem (by omega), hx]⟩
        · rintro ⟨j, hj, hx⟩
          by_cases e : j = m
          · subst e; right; rw [List.getElem?_eq_getElem (by omega)] at hx; simpa using hx.symm
          · left; exact ⟨j, by omega, hx⟩
    · rw [if_neg hk, List.append_nil]
      refine ⟨h1, fun x => ?_⟩
      rw [h2 x]
      constructor
      · rintro ⟨j, hj, hx⟩; exact ⟨j, by omega, hx⟩
      · rintro ⟨j, hj, hx⟩
        by_cases e : j = m
        · subst e
          unfold keeps at hk
          simp only [decide_eq_true_eq, not_or, Decidable.not_not] at hk
          have e1 : d.toArray[j - 1]! = d[j - 1] := by rw [getElem!_pos _ _ (by simp; omega)]; simp
          rw [hdm, e1] at hk
          refine ⟨j - 1, by omega, ?_⟩
          rw [List.getElem?_eq_getElem (by omega)] at hx ⊢
          rw [← hk.2]; exact hx
        · exact ⟨j, by omega, hx⟩
theorem unitsOf_is {x : Ly} (h : lright x = true) : (unitsOf x).Pairwise (· < ·) ∧ ∀ u, u ∈ unitsOf x ↔ u ∈ allOf x.s := by
  unfold unitsOf
  rw [if_pos h]
  have hs : ((allOf x.s).mergeSort fun x y => decide (x ≤ y)).Pairwise (· ≤ ·) := by
    have := List.pairwise_mergeSort (le := fun (x y : Int) => decide (x ≤ y)) (by simp; omega) (by simp; omega) (allOf x.s)
    exact this.imp (by intro a b h; simpa using h)
  obtain ⟨h1, h2⟩ := compact_is _ hs _ (Nat.le_refl _)
  refine ⟨h1, fun u => ?_⟩
  rw [h2, ← (List.mergeSort_perm (allOf x.s) fun x y => decide (x ≤ y)).mem_iff, List.mem_iff_getElem?]
  constructor
  · rintro ⟨j, _, hx⟩; exact ⟨j, hx⟩
  · rintro ⟨j, hx⟩; exact ⟨j, (List.getElem?_eq_some_iff.1 hx).1, hx⟩

set_option maxHeartbeats 2000000 in
theorem units_any (A : LyT) (B : Nat) (w : World) (h : LyIn w B A) (hB : B ≤ w.heap.size) (hf : SgFit A.sg) :
    Calls Try.prog 15 #[A.val] w fun e w' => ∃ v, e = .returned v ∧ Lst w' w.heap.size 3 v (i64s (unitsOf A.x)) ∧ Below w.heap.size w w' := by
  obtain ⟨W, HWW⟩ : ∃ W, Hid (w.alloc (.cells #[.int .u64 (A.e : Int), .slice A.a A.sg.length A.c, .int .i64 A.q] 25) = W) := ⟨_, Lib.hid rfl⟩
  have hWb : Below w.heap.size w W := by rw [← HWW.out]; exact (Below.refl _ _).alloc (Nat.le_refl _) _
  have hws : W.heap.size = w.heap.size + 1 := by rw [← HWW.out]; simp
  have hR := lright_any A B W (h.below hWb hB) (by omega) hf
  have o1 : Own W w.heap.size 25 [.int .u64 (A.e : Int), .slice A.a A.sg.length A.c, .int .i64 A.q] := by rw [← HWW.out]; exact Own.new w _ _
  have HI := Lib.hid h
  have HB := Lib.hid hWb
  have HO := Lib.hid o1
  have HS := Lib.hid hB
  have HF := Lib.hid hf
  have hz := o1.lt
  have c0 := o1.cell 0
  have c1 := o1.cell 1
  have c2 := o1.cell 2
  simp at c0 c1 c2
  clear hWb o1 h hB hf hws
  unfold unitsOf
  by_cases hc : lright A.x = true
  · rw [if_pos hc]
    rw [hc] at hR
    have HR := Lib.hid hR
    clear hR
    have hx : A.x.s = sgx A.sg := rfl
    have HLE : Hid (∀ k, k ≤ A.sg.length → (allOf ((sgx A.sg).take k)).length ≤ k * 16) := Lib.hid (fun k hk => by have := allOf_le hc k (by rw [hx]; simpa using hk); rwa [hx] at this)
    have HPOS : Hid (0 < (allOf (sgx A.sg)).length) := Lib.hid (allOf_pos hc)
    have HCK : Hid (∀ k, k < A.sg.length → (st A.sg k).ch.length ≤ 4 ∧ ∀ c ∈ (st A.sg k).ch, c.u.length ≤ 4) := Lib.hid (fun k hk => by
      have g := right_ch hc (i := k) (by rw [hx]; simpa using hk)
      rw [hx, sx_sgx] at g
      have g2 := chOk_iff.1 g
      refine ⟨by have := g2.1.2; simpa [SgT.x] using this, fun c hcm => ?_⟩
      have := g2.2.1 c.u (List.mem_map.2 ⟨c, hcm, rfl⟩)
      omega)
    have HT : Hid ((sgx A.sg).take A.sg.length = sgx A.sg) := Lib.hid (List.take_of_length_le (by simp))
    have hn4 : A.sg.length ≤ 4 := by have := (sgOk_iff.1 (lright_iff.1 hc).2.2).1.2; rw [hx] at this; simpa using this
    rw [hx]
    clear hc hx
    obtain ⟨ep, sa, c, L, q⟩ := A
    simp only [LyT.val] at *
    rw [← HT.out] at HPOS ⊢
    clear HT
    generalize hN : L.length = n at *
    have HN := Lib.hid hN
    have hn1 : (n : Int) ≤ 4 := by omega
    clear hN hn4
    go_enter Try.func15, Try.ntmps15
    go_upto_region 1 with fail
    rw [HWW.out]
    go_wp2_with fail
    refine HR.out.mono ?_
    rintro e w1 ⟨rfl, hb⟩
    have hbw := HB.out.trans (hb.mono HB.out.size)
    have HBw := Lib.hid hbw
    have HO2 := Lib.hid (HO.out.below hb HO.out.lt)
    have d0 := HO2.out.cell 0
    have d1 := HO2.out.cell 1
    have d2 := HO2.out.cell 2
    have hz1 := HO2.out.lt
    simp at d0 d1 d2
    clear hb hbw c0 c1 c2
    go_wp2_with fail
    go_loopw [3, 12] (fun x i wr => ∃ (k : Nat) (v : Value), k ≤ n ∧ i = .int .i64 (k : Int) ∧ v = x ∧ Hid (Lst wr w.heap.size 3 v (i64s (allOf ((sgx L).take k)))) ∧ Hid (Below w.heap.size w wr)) (fun _ i _ => n - (intOf i).toNat)
    case atStart => exact ⟨0, _, Nat.zero_le _, rfl, rfl, Lib.hid (by simpa [allOf, i64s] using Lst.nil w1 w.heap.size 3), HBw⟩
    case round =>
      obtain ⟨k, v, hk, rfl, rfl, HLk, HBk⟩ := hrel
      by_cases hlt : k < n
      · have hkL : k < L.length := by rw [HN.out]; exact hlt
        obtain ⟨b, off, rfl, hb, hc⟩ := (HI.out.1.below HBk.out HS.out).sg (show 0 < L.length by omega)
        obtain ⟨e1, e2⟩ := hc k hkL
        clear hc
        have hk0 : (0 : Int) ≤ (k : Int) := by omega
        have hk1 : (k : Int) < (n : Int) := by omega
        have HQ2 := Lib.hid (HLE.out k hk)
        have HQ3 := Lib.hid (HCK.out k hlt)
        have HIN := Lib.hid (HI.out.2 _ (st_mem hkL))
        have HL : Hid (allOf ((sgx L).take (k + 1)) = allOf ((sgx L).take k) ++ (chx (st L k).ch).flatten) := Lib.hid (allOf_take hkL)
        generalize allOf ((sgx L).take k) = ys at *
        generalize st L k = sg at *
        obtain ⟨f, ca, cc, M⟩ := sg
        simp only at e1 e2 HQ3 HIN HL
        have HFL : Hid ((chx M).flatten.length ≤ 4000) := Lib.hid (by
          have := flat_len (L := M) (fun c hc => Nat.le_trans (HQ3.out.2 c hc) (by decide)) M.length (Nat.le_refl _)
          rw [List.take_of_length_le (by simp)] at this
          have := HQ3.out.1
          omega)
        have HC := Lib.hid (fun (W : World) (hb : Below w.heap.size w W) => concat_any M ca cc B W (HIN.out.1.below hb HS.out) (HIN.out.2.below hb HS.out) (Nat.le_trans HS.out hb.size) (Nat.le_trans HQ3.out.1 (by decide)) (fun c hc => Nat.le_trans (HQ3.out.2 c hc) (by decide)))
        generalize (chx M).flatten = xs at *
        generalize M.length = m at *
        obtain ⟨W3, HW3⟩ : ∃ W3, Hid (wr.alloc (.cells #[.int .u64 (f : Int), .slice ca m cc] 49) = W3) := ⟨_, Lib.hid rfl⟩
        have HB3 : Hid (Below w.heap.size w W3) := Lib.hid (by rw [← HW3.out]; exact HBk.out.alloc HBk.out.size _)
        have HL3 : Hid (Lst W3 w.heap.size 3 v (i64s ys)) := Lib.hid (by rw [← HW3.out]; exact HLk.out.alloc _)
        go_wp2_with fail
        rw [HW3.out]
        refine (HC.out _ HB3.out).mono ?_
        rintro e w4 ⟨v4, rfl, hl4, hb4⟩
        have HB4 : Hid (Below w.heap.size w w4) := Lib.hid (HB3.out.trans (hb4.mono HB3.out.size))
        have HL4 : Hid (Lst w4 w.heap.size 3 v (i64s ys)) := Lib.hid (HL3.out.below hb4 (Nat.le_refl _))
        obtain ⟨a4, c4, hv4, hr4, _⟩ := hl4.form
        have HR4 := Lib.hid hr4
        obtain ⟨xl, hxl⟩ : ∃ xl, xs.length = xl := ⟨_, rfl⟩
        rw [i64s_length, hxl] at hv4
        subst hv4
        have HXL : Hid (xs.length = xl) := Lib.hid hxl
        clear hxl
        clear hl4 hb4 hr4
        go_wp2_with (at_builtin; refine wpList_appB rfl (.tmp 16) (.tmp 19) 36 rfl w.heap.size 3 (.int .i64 0) 8 Try.underlying36 Try.info_i64 rfl _ (i64s ys) rfl HL4.out a4 w4.heap.size xl c4 (i64s xs) rfl (by rw [i64s_length]; exact HXL.out) HR4.out (i64s_one _) (by have := HFL.out; have := HQ2.out; have := HXL.out; rw [i64s_length]; omega) (by have := HFL.out; have := HQ2.out; have := HXL.out; rw [i64s_length]; omega) w.heap.size w HB4.out (Nat.le_refl _) HB4.out.size ?_)
        intro v' w5 hl hb5 hs5
        have HL5 : Hid (Lst w5 w.heap.size 3 v' (i64s (ys ++ xs))) := Lib.hid (by have e : i64s (ys ++ xs) = i64s ys ++ i64s xs := (by simp [i64s]); rw [e]; exact hl.out)
        have HB5 := Lib.hid hb5
        clear hl hb5 hs5
        go_wp2_with fail
        go_roundw
        case rel => exact ⟨k + 1, _, by omega, by go_num, rfl, by rw [HL.out]; exact HL5, HB5⟩
        case measure => simp [intOf]; omega
      · obtain rfl : k = n := by omega
        have HQ2 := Lib.hid (HLE.out k (Nat.le_refl _))
        have HSO := Lib.hid (fun (W : World) h hb => sort_int v w.heap.size (allOf ((sgx L).take k)) W h HPOS.out (by have := HQ2.out; omega) hb)
        go_wp2_with fail
        refine (HSO.out _ HLk.out HBk.out.size).mono ?_
        rintro e w4 ⟨rfl, hl4, hb4⟩
        have HB4 : Hid (Below w.heap.size w w4) := Lib.hid (HBk.out.trans hb4)
        have HCO := Lib.hid (compact_int v w.heap.size _ w4 hl4 (by rw [List.length_mergeSort]; exact HPOS.out) (by rw [List.length_mergeSort]; have := HQ2.out; omega) HB4.out.size)
        clear hl4 hb4
        go_wp2_with fail
        refine HCO.out.mono ?_
        rintro e w5 ⟨v5, rfl, hl5, hb5⟩
        have HB5 : Hid (Below w.heap.size w w5) := Lib.hid (HB4.out.trans hb5)
        have HL5 := Lib.hid hl5
        clear hl5 hb5
        go_wp2_with fail
        go_ret
        exact ⟨_, rfl, HL5.out, HB5.out⟩
  · rw [if_neg hc]
    have hc' : lright A.x = false := by simpa using hc
    rw [hc'] at hR
    have HR := Lib.hid hR
    clear hR hc hc'
    obtain ⟨ep, sa, c, L, q⟩ := A
    simp only [LyT.val] at *
    generalize L.length = n at *
    go_enter Try.func15, Try.ntmps15
    go_upto_region 1 with fail
    rw [HWW.out]
    go_wp2_with fail
    refine HR.out.mono ?_
    rintro e w' ⟨rfl, hb⟩
    have H2 := Lib.hid (HB.out.trans (hb.mono HB.out.size))
    clear hb
    go_wp2_with fail
    go_ret
    exact ⟨_, rfl, Lst.nil _ _ _, H2.out⟩
end Go.Proofs.Ytkdgoopldaoihaa
namespace Go.Proofs.Ytkdgoopldaoihaa
open Go.RowKit Go.Deep Go.Shelf
set_option linter.unusedVariables false
set_option linter.unusedSimpArgs false

theorem sorted_ext : ∀ {A B : List Int}, A.Pairwise (· < ·) → B.Pairwise (· < ·) → (∀ u, u ∈ A ↔ u ∈ B) → A = B
  | [], [], _, _, _ => rfl
  | [], b :: B, _, _, h => by have := (h b).2 (by simp); cases this
  | a :: A, [], _, _, h => by have := (h a).1 (by simp); cases this
  | a :: A, b :: B, ha, hb, h => by
    obtain ⟨a1, a2⟩ := List.pairwise_cons.1 ha
    obtain ⟨b1, b2⟩ := List.pairwise_cons.1 hb
    have e : a = b := by
      rcases List.mem_cons.1 ((h a).1 (by simp)) with e | e
      · exact e
      · rcases List.mem_cons.1 ((h b).2 (by simp)) with e2 | e2
        · exact e2.symm
        · have := b1 a e; have := a1 b e2; omega
    subst e
    congr 1
    refine sorted_ext a2 b2 fun u => ⟨fun hu => ?_, fun hu => ?_⟩
    · rcases List.mem_cons.1 ((h u).1 (by simp [hu])) with e | e
      · subst e; have := a1 u hu; omega
      · exact e
    · rcases List.mem_cons.1 ((h u).2 (by simp [hu])) with e | e
      · subst e; have := b1 u hu; omega
      · exact e
/-- the units below k that are among these -/
def dU (al : List Int) (k : Nat) : List Int := ((List.range k).filter fun (m : Nat) => decide ((m : Int) ∈ al)).map fun (m : Nat) => (m : Int)
theorem dU_next (al : List Int) (k : Nat) : dU al (k + 1) = if (k : Int) ∈ al then dU al k ++ [(k : Int)] else dU al k := by
  unfold dU
  rw [List.range_succ, List.filter_append]
  by_cases h : (k : Int) ∈ al <;> simp [h]
theorem dU_len (al : List Int) (k : Nat) : (dU al k).length ≤ k := by
  unfold dU
  rw [List.length_map]
  exact Nat.le_trans (List.length_filter_le _ _) (by simp)
theorem dU_all {x : Ly} (h : lright x = true) : dU (allOf x.s) 32 = unitsOf x := by
  obtain ⟨h1, h2⟩ := unitsOf_is h
  refine sorted_ext ?_ h1 fun u => ?_
  · unfold dU
    rw [List.pairwise_map]
    exact (List.pairwise_lt_range.filter _).imp (fun h => by omega)
  · rw [h2]
    unfold dU
    simp only [List.mem_map, List.mem_filter, List.mem_range, decide_eq_true_eq]
    constructor
    · rintro ⟨n, ⟨_, hn⟩, rfl⟩; exact hn
    · intro hu
      have hr : 0 ≤ u ∧ u < 32 := by
        unfold allOf at hu
        obtain ⟨l, hl, hul⟩ := List.mem_flatten.1 hu
        obtain ⟨s, hs, rfl⟩ := List.mem_map.1 hl
        obtain ⟨i, hi, rfl⟩ := mem_sx hs
        exact (chOk_iff.1 ((sgOk_iff.1 (lright_iff.1 h).2.2).2.2.1 i hi).2).2.2.1 u hul
      exact ⟨u.toNat, ⟨by omega, by rw [Int.toNat_of_nonneg hr.1]; exact hu⟩, by omega⟩
set_option maxHeartbeats 8000000 in
set_option maxRecDepth 100000 in
theorem dunits_any (A : LyT) (B : Nat) (w : World) (h : LyIn w B A) (hB : B ≤ w.heap.size) (hf : SgFit A.sg) :
    Calls Try.prog 16 #[A.val] w fun e w' => ∃ v, e = .returned v ∧ Lst w' w.heap.size 3 v (i64s (unitsOf A.x)) ∧ Below w.heap.size w w' := by
  obtain ⟨W, HWW⟩ : ∃ W, Hid (w.alloc (.cells #[.int .u64 (A.e : Int), .slice A.a A.sg.length A.c, .int .i64 A.q] 25) = W) := ⟨_, Lib.hid rfl⟩
  have hWb : Below w.heap.size w W := by rw [← HWW.out]; exact (Below.refl _ _).alloc (Nat.le_refl _) _
  have HR := Lib.hid (dlright_any A B W (h.below hWb hB) (Nat.le_trans hB hWb.size) hf)
  have HO : Hid (Own W w.heap.size 25 [.int .u64 (A.e : Int), .slice A.a A.sg.length A.c, .int .i64 A.q]) := Lib.hid (by rw [← HWW.out]; exact Own.new w _ _)
  have HXS : Hid (A.x.s = sgx A.sg) := Lib.hid rfl
  have HIN := Lib.hid (And.intro h hB)
  have HB := Lib.hid hWb
  have HF := Lib.hid hf.2
  obtain ⟨x, hx⟩ : ∃ x, A.x = x := ⟨_, rfl⟩
  rw [hx] at HR HXS ⊢
  obtain ⟨ep, sa, c, L, q⟩ := A
  simp only [LyT.val] at *
  have HXL : Hid (x.s.length = L.length) := Lib.hid (by rw [HXS.out, sgx_length])
  obtain ⟨n, hn⟩ : ∃ n, L.length = n := ⟨_, rfl⟩
  have HN := Lib.hid hn
  rw [hn] at HO HWW HXL HR ⊢
  obtain ⟨r, hr⟩ : ∃ r, lright x = r := ⟨_, rfl⟩
  have HRR := Lib.hid hr
  rw [hr] at HR
  have HUN : Hid (r = false → unitsOf x = []) := Lib.hid (fun h => by unfold unitsOf; rw [if_neg]; rw [hr, h]; simp)
  have HUY : Hid (r = true → dU (allOf x.s) 32 = unitsOf x) := Lib.hid (fun h => dU_all (hr.trans h))
  obtain ⟨us, hus⟩ : ∃ us, unitsOf x = us := ⟨_, rfl⟩
  rw [hus] at HUN HUY ⊢
  clear hWb h hB hf hx hn hr hus
  have c0 := HO.out.cell 0
  have c1 := HO.out.cell 1
  have c2 := HO.out.cell 2
  have hz := HO.out.lt
  simp at c0 c1 c2
  go_enter Try.func16, Try.ntmps16
  go_upto_region 1 with fail
  rw [HWW.out]
  go_wp2_with fail
  refine HR.out.mono ?_
  rintro e w1 ⟨rfl, hb⟩
  have HB1 := Lib.hid (HB.out.trans (hb.low.mono HB.out.size))
  have HO1 := Lib.hid (HO.out.chg hb (by simp))
  clear hb c0 c1 c2 hz
  cases r with
  | false =>
    have hu := HUN.out rfl
    subst hu
    go_wp2_with fail
    go_loopw [4, 5] (fun v i wr => v = .slice none 0 0 ∧ i = .int .i64 0 ∧ wr = w1) (fun _ i _ => 0)
    case atStart => exact ⟨rfl, rfl, rfl⟩
    case round =>
      obtain ⟨rfl, rfl, rfl⟩ := hrel
      go_wp2_with fail
      go_ret
      exact ⟨_, rfl, Lst.nil _ _ _, HB1.out⟩
  | true =>
    have HN4 := Lib.hid (sgOk_iff.1 (lright_iff.1 HRR.out).2.2)
    have hn4 : (n : Int) ≤ 4 := by have := HN4.out.1; rw [HXL.out] at this; omega
    go_wp2_with fail
    go_loopw [4, 5] (fun v i wr => ∃ (k : Nat) (al : Option Addr) (nl cl : Nat), k ≤ 32 ∧ i = .int .i64 (k : Int) ∧ v = .slice al nl cl ∧ Hid (Lst wr (w.heap.size + 1) 3 (.slice al nl cl) (i64s (dU (allOf x.s) k))) ∧ Hid (Below (w.heap.size + 1) w1 wr)) (fun _ i _ => 32 - (intOf i).toNat)
    case atStart => exact ⟨0, none, 0, 0, by omega, rfl, rfl, Lib.hid (Lst.nil _ _ _), Lib.hid (Below.refl _ _)⟩
    case round =>
      obtain ⟨k, al, nl, cl, hk, rfl, rfl, HL, HBk⟩ := hrel
      rename World => w6
      by_cases hlt : k < 32
      · have hk0 : (0 : Int) ≤ (k : Int) := Int.natCast_nonneg k
        have hk1 : (k : Int) < 32 := by omega
        have hk2 : decide ((k : Int) < 32) = true := decide_eq_true hk1
        have HKK := Lib.hid hlt
        go_wp2_with fail
        go_loopw [6, 7] (fun v i wr => ∃ (j : Nat), j ≤ n ∧ i = .int .i64 (j : Int) ∧ v = .bool (decide ((k : Int) ∈ allOf ((sgx L).take j))) ∧ Hid (Chg [] w6 wr)) (fun _ i _ => n - (intOf i).toNat)
        case atStart => exact ⟨0, by omega, rfl, by simp [allOf], Lib.hid (Chg.refl _ _)⟩
        case round =>
          obtain ⟨j, hj, rfl, rfl, HCj⟩ := hrel
          rename World => w7
          have HB7 : Hid (Below w.heap.size w w7) := Lib.hid ((HB1.out.trans (HBk.out.mono (by omega))).trans (HCj.out.low.mono (Nat.le_trans HB1.out.size HBk.out.size)))
          have HO7 : Hid (Own w7 w.heap.size 25 [.int .u64 (ep : Int), .slice sa n c, .int .i64 q]) := Lib.hid ((HO1.out.below HBk.out (by omega)).chg HCj.out (by simp))
          have d1 := HO7.out.cell 1
          have hz7 := HO7.out.lt
          simp at d1
          by_cases hlt2 : j < n
          · have hjL : j < L.length := by rw [HN.out]; exact hlt2
            obtain ⟨bb, oo, rfl, hbb, hc⟩ := (HIN.out.1.1.below HB7.out HIN.out.2).sg (show 0 < L.length by omega)
            obtain ⟨_, e4⟩ := hc j hjL
            have HAL := Lib.hid (allOf_take (L := L) hjL)
            have HIJ := Lib.hid (HIN.out.1.2 _ (st_mem hjL))
            have HFJ := Lib.hid (HF.out _ (st_mem hjL))
            have hj0 : (0 : Int) ≤ (j : Int) := Int.natCast_nonneg j
            have hj1 : (j : Int) < (n : Int) := Int.ofNat_lt.2 hlt2
            obtain ⟨sg, hsg⟩ : ∃ sg, st L j = sg := ⟨_, rfl⟩
            have HSG := Lib.hid hsg
            rw [hsg] at e4 HAL HIJ HFJ
            obtain ⟨f, ca, cc, M⟩ := sg
            simp only at e4 HAL HIJ HFJ
            obtain ⟨m, hm⟩ : ∃ m, M.length = m := ⟨_, rfl⟩
            have HM := Lib.hid hm
            rw [hm] at e4
            have hmf : (m : Int) ≤ 9223372036854775807 := by have := HFJ.out.1; omega
            have HBB : Hid (bb < w.heap.size) := Lib.hid (Nat.lt_of_lt_of_le hbb HIN.out.2)
            have HE4 := Lib.hid e4
            clear hc hm hsg e4 hbb
            go_wp2_with fail
            go_loopw [6, 8] (fun v i wr => ∃ (z : Nat), z ≤ m ∧ i = .int .i64 (z : Int) ∧ v = .bool (decide ((k : Int) ∈ allOf ((sgx L).take j) ++ ((chx M).take z).flatten)) ∧ Hid (Chg [] w7 wr)) (fun _ i _ => m - (intOf i).toNat)
            case atStart => exact ⟨0, by omega, rfl, by simp, Lib.hid (Chg.refl _ _)⟩
            case round =>
              obtain ⟨z, hzz, rfl, rfl, HCz⟩ := hrel
              rename World => w8
              have HB8 : Hid (Below w.heap.size w w8) := Lib.hid (HB7.out.trans (HCz.out.low.mono HB7.out.size))
              have HO8 := Lib.hid (HO7.out.chg HCz.out (by simp))
              have d1 := HO8.out.cell 1
              have hz8 := HO8.out.lt
              simp at d1
              have e5 := HCz.out.cell HE4.out (by simp)
              by_cases hlt3 : z < m
              · have hzL : z < M.length := by rw [HM.out]; exact hlt3
                obtain ⟨b2, o2, rfl, hb2, hc2⟩ := (HIJ.out.1.below HB8.out HIN.out.2).ch (show 0 < M.length by omega)
                have e6 := hc2 z hzL
                have HCT : Hid (((chx M).take (z + 1)).flatten = ((chx M).take z).flatten ++ (ct M z).u) := Lib.hid (by rw [cx_take (by simpa using hzL), cx_chx]; simp)
                have HRC := Lib.hid (HIJ.out.2 _ (ct_mem hzL))
                have HFC := Lib.hid (HFJ.out.2 _ (ct_mem hzL))
                generalize ct M z = y at *
                obtain ⟨ya, yc, yu⟩ := y
                simp only at e6 HCT HRC HFC
                have HHAS := Lib.hid (dhas_any yu (k : Int) ya yc B w8 (HRC.out.below HB8.out HIN.out.2) (Nat.le_trans HIN.out.2 HB8.out.size) HFC.out)
                obtain ⟨ny, hny⟩ : ∃ ny, yu.length = ny := ⟨_, rfl⟩
                rw [hny] at HHAS e6
                have hz0 : (0 : Int) ≤ (z : Int) := Int.natCast_nonneg z
                have hz1 : (z : Int) < (m : Int) := Int.ofNat_lt.2 hlt3
                obtain ⟨iss, hiss⟩ : ∃ t, decide ((k : Int) ∈ allOf ((sgx L).take j) ++ ((chx M).take z).flatten) = t := ⟨_, rfl⟩
                have HIS : Hid (decide ((k : Int) ∈ allOf ((sgx L).take j) ++ ((chx M).take (z + 1)).flatten) = (iss || decide ((k : Int) ∈ yu))) := Lib.hid (by
                  rw [HCT.out, ← hiss, ← List.append_assoc, ← Bool.decide_or]
                  simp only [List.mem_append])
                rw [hiss]
                obtain ⟨hh, hhh⟩ : ∃ t, decide ((k : Int) ∈ yu) = t := ⟨_, rfl⟩
                rw [hhh] at HHAS HIS
                clear hc2 hny hiss hhh
                cases iss with
                | true =>
                  go_wp2_with fail
                  go_roundw
                  case rel => exact ⟨z + 1, hlt3, by go_num, by rw [HIS.out]; rfl, HCz⟩
                  case measure => simp [intOf]; omega
                | false =>
                  go_wp2_with fail
                  refine HHAS.out.mono ?_
                  rintro e w9 ⟨rfl, hc9⟩
                  have HC9 := Lib.hid (HCz.out.trans hc9)
                  clear hc9
                  go_wp2_with fail
                  go_roundw
                  case rel => exact ⟨z + 1, hlt3, by go_num, by rw [HIS.out]; cases hh <;> rfl, HC9⟩
                  case measure => simp [intOf]; omega
              · obtain rfl : z = m := Nat.le_antisymm hzz (Nat.not_lt.1 hlt3)
                have HV : Hid (decide ((k : Int) ∈ allOf ((sgx L).take j) ++ ((chx M).take z).flatten) = decide ((k : Int) ∈ allOf ((sgx L).take (j + 1)))) := Lib.hid (by
                  have e : (chx M).take z = chx M := List.take_of_length_le (by simp [HM.out])
                  rw [e, HAL.out])
                have HC9 := Lib.hid (HCj.out.trans HCz.out)
                rw [HV.out]
                go_wp2_with fail
                go_roundw
                case rel => exact ⟨j + 1, hlt2, by go_num, rfl, HC9⟩
                case measure => simp [intOf]; omega
          · obtain rfl : j = n := Nat.le_antisymm hj (Nat.not_lt.1 hlt2)
            have HV : Hid (decide ((k : Int) ∈ allOf ((sgx L).take j)) = decide ((k : Int) ∈ allOf x.s)) := Lib.hid (by
              have e : (sgx L).take j = sgx L := List.take_of_length_le (by simp [HN.out])
              rw [e, HXS.out])
            rw [HV.out]
            have HNX := Lib.hid (dU_next (allOf x.s) k)
            have HLN := Lib.hid (dU_len (allOf x.s) k)
            have HL7 := Lib.hid (HL.out.below HCj.out.low (Nat.le_refl _))
            have HB9 : Hid (Below (w.heap.size + 1) w1 w7) := Lib.hid (HBk.out.trans (HCj.out.low.mono (Nat.le_trans HO1.out.lt HBk.out.size)))
            by_cases hin : (k : Int) ∈ allOf x.s
            · have e9 := decide_eq_true hin
              rw [if_pos hin] at HNX
              rw [e9]
              clear hin
              go_wp2_with (at_builtin; refine wpList_app1g rfl (.tmp 51) (.tmp 53) 36 rfl (w.heap.size + 1) 3 (.int .i64 0) 8 Try.underlying36 Try.info_i64 rfl (.int .i64 (k : Int)) rfl _ (i64s (dU (allOf x.s) k)) rfl HL7.out rfl (by have := HLN.out; simp; omega) (by have := HLN.out; simp; omega) HO7.out.lt ?_)
              intro v9 w9 hl9 hc9
              have HRW := Lib.hid HL7.out.row
              have HB10 : Hid (Below (w.heap.size + 1) w1 w9) := Lib.hid (below_chg HB9.out hc9 HO7.out.lt (fun x hx => (HRW.out x hx).1))
              obtain ⟨a9, k9, hv9, _, _⟩ := hl9.out.form
              generalize (i64s (dU (allOf x.s) k) ++ [Value.int .i64 (k : Int)]).length = n9 at hv9
              subst hv9
              have HL9 : Hid (Lst w9 (w.heap.size + 1) 3 (.slice a9 n9 k9) (i64s (dU (allOf x.s) (k + 1)))) := Lib.hid (by rw [HNX.out]; have := hl9.out; simpa [i64s] using this)
              clear hl9 hc9
              go_wp2_with fail
              go_roundw
              case rel => exact ⟨k + 1, a9, n9, k9, HKK.out, by go_num, rfl, HL9, HB10⟩
              case measure => have := HKK.out; simp [intOf]; omega
            · have e9 := decide_eq_false hin
              rw [if_neg hin] at HNX
              rw [e9]
              clear hin
              go_wp2_with fail
              go_roundw
              case rel => exact ⟨k + 1, al, nl, cl, HKK.out, by go_num, rfl, Lib.hid (by rw [HNX.out]; exact HL7.out), HB9⟩
              case measure => have := HKK.out; simp [intOf]; omega
      · obtain rfl : k = 32 := Nat.le_antisymm hk (Nat.not_lt.1 hlt)
        have hu := HUY.out (by trivial)
        rw [hu] at HL
        go_wp2_with fail
        go_ret
        exact ⟨_, rfl, HL.out.base (by omega), HB1.out.trans (HBk.out.mono (by omega))⟩
end Go.Proofs.Ytkdgoopldaoihaa
namespace Go.Proofs.Ytkdgoopldaoihaa
open Go.RowKit Go.Deep Go.Shelf
set_option linter.unusedVariables false
set_option linter.unusedSimpArgs false

/-- a chain as a key: one more than each unit, 0 behind them -/
def kk (c : List Int) (j i : Nat) : Int := if i < j then c.getD i 0 + 1 else 0
def krow (c : List Int) (j : Nat) : List Value := [.int .i64 (kk c j 0), .int .i64 (kk c j 1), .int .i64 (kk c j 2), .int .i64 (kk c j 3)]
def keyV (c : List Int) : Value := .agg #[.int .i64 (kk c c.length 0), .int .i64 (kk c c.length 1), .int .i64 (kk c c.length 2), .int .i64 (kk c c.length 3)]
theorem krow_zero (c : List Int) : krow c 0 = [.int .i64 0, .int .i64 0, .int .i64 0, .int .i64 0] := rfl
theorem krow_set (c : List Int) (j : Nat) (hj : j < 4) : (krow c j).set j (.int .i64 (c.getD j 0 + 1)) = krow c (j + 1) := by
  have h : j = 0 ∨ j = 1 ∨ j = 2 ∨ j = 3 := by omega
  rcases h with rfl | rfl | rfl | rfl <;> simp [krow, kk]
/-- a chain that may stand in a valid layout -/
def ChP (c : List Int) : Prop := (1 ≤ c.length ∧ c.length ≤ 4) ∧ ∀ u ∈ c, 0 ≤ u ∧ u < 32
theorem key_inj {c d : List Int} (hc : ChP c) (hd : ChP d) (h0 : kk c c.length 0 = kk d d.length 0) (h1 : kk c c.length 1 = kk d d.length 1) (h2 : kk c c.length 2 = kk d d.length 2) (h3 : kk c c.length 3 = kk d d.length 3) : c = d := by
  have hall : ∀ i, kk c c.length i = kk d d.length i := fun i => by
    by_cases hi : i < 4
    · have h : i = 0 ∨ i = 1 ∨ i = 2 ∨ i = 3 := by omega
      rcases h with rfl | rfl | rfl | rfl <;> assumption
    · unfold kk
      rw [if_neg (by have := hc.1; omega), if_neg (by have := hd.1; omega)]
  have hpos : ∀ (c : List Int) (hc : ChP c) i, kk c c.length i = 0 ↔ ¬ i < c.length := fun c hc i => by
    unfold kk
    by_cases hi : i < c.length
    · have := hc.2 c[i] (List.getElem_mem hi)
      rw [if_pos hi]
      simp [List.getD, hi]
      omega
    · rw [if_neg hi]; simp; omega
  have hlen : c.length = d.length := by
    have a1 := hpos c hc d.length
    have a2 := hpos d hd c.length
    rw [hall] at a1
    rw [← hall] at a2
    have b1 := (hpos d hd d.length).2 (by omega)
    have b2 := (hpos c hc c.length).2 (by omega)
    have := a1.1 b1
    have := a2.1 b2
    omega
  apply List.ext_getElem hlen
  intro i g1 g2
  have := hall i
  unfold kk at this
  rw [if_pos g1, if_pos g2] at this
  simp only [List.getD, List.getElem?_eq_getElem g1, List.getElem?_eq_getElem g2, Option.getD_some] at this
  omega

theorem Try.key_under : Try.prog.underlying 128 = some (.array 4 3) := by kernel_rfl
theorem Try.info_i64' : ∃ i, Try.prog.info? 3 = some i := by
  obtain ⟨i, hi, _⟩ := Option.map_eq_some_iff.1 Try.info_i64
  exact ⟨i, hi⟩
theorem Try.plain_i64 : Try.prog.plainKey 3 = true := by kernel_rfl
theorem Try.cells_i64 : Try.prog.cellsOf 3 = 1 := by kernel_rfl
set_option maxHeartbeats 1000000 in
theorem run_eq4 (a b c d x y z u : Int) (w : World) : (Op.equal 128 (.agg #[.int .i64 a, .int .i64 b, .int .i64 c, .int .i64 d]) (.agg #[.int .i64 x, .int .i64 y, .int .i64 z, .int .i64 u])).run Try.prog w = .ok (decide (a = x ∧ b = y ∧ c = z ∧ d = u)) w := by
  obtain ⟨i, hi⟩ := Try.info_i64'
  show (Op.equalIn (9999 + 1) _ _ _).run _ _ = _
  rw [run_equalIn_array w 9999 _ _ Try.key_under hi, Try.cells_i64]
  have p0 : ∀ (p q r s : Value) (W : World), (part 3 #[p, q, r, s] 0).run Try.prog W = .ok p W := fun p q r s W => run_part_plain W Try.plain_i64 rfl
  have p1 : ∀ (p q r s : Value) (W : World), (part 3 #[p, q, r, s] 1).run Try.prog W = .ok q W := fun p q r s W => run_part_plain W Try.plain_i64 rfl
  have p2 : ∀ (p q r s : Value) (W : World), (part 3 #[p, q, r, s] 2).run Try.prog W = .ok r W := fun p q r s W => run_part_plain W Try.plain_i64 rfl
  have p3 : ∀ (p q r s : Value) (W : World), (part 3 #[p, q, r, s] 3).run Try.prog W = .ok s W := fun p q r s W => run_part_plain W Try.plain_i64 rfl
  have he : ∀ (m n : Int) (W : World), (Op.equalIn 9999 3 (.int .i64 m) (.int .i64 n)).run Try.prog W = .ok (m == n) W := fun m n W => by
    show (Op.equalIn (9998 + 1) _ _ _).run _ _ = _
    exact run_equalIn_int _ _ _ _ _ _ _ Try.underlying3
  simp [Op.eqItems, List.range, List.range.loop, p0, p1, p2, p3, he]
  by_cases h1 : a = x <;> by_cases h2 : b = y <;> by_cases h3 : c = z <;> by_cases h4 : d = u <;> simp [h1, h2, h3, h4]
theorem run_check4n (n : Nat) (e : Bool) (a b c d : Int) (w : World) : (Instr.checkKey e (n + 1 + 1) 128 (.agg #[.int .i64 a, .int .i64 b, .int .i64 c, .int .i64 d])).run Try.prog w = .ok () w := by
  have p0 : ∀ (p q r s : Value) (W : World), (part 3 #[p, q, r, s] 0).run Try.prog W = .ok p W := fun p q r s W => run_part_plain W Try.plain_i64 rfl
  have p1 : ∀ (p q r s : Value) (W : World), (part 3 #[p, q, r, s] 1).run Try.prog W = .ok q W := fun p q r s W => run_part_plain W Try.plain_i64 rfl
  have p2 : ∀ (p q r s : Value) (W : World), (part 3 #[p, q, r, s] 2).run Try.prog W = .ok r W := fun p q r s W => run_part_plain W Try.plain_i64 rfl
  have p3 : ∀ (p q r s : Value) (W : World), (part 3 #[p, q, r, s] 3).run Try.prog W = .ok s W := fun p q r s W => run_part_plain W Try.plain_i64 rfl
  have he : ∀ (m : Int) (W : World), (Instr.checkKey e (n + 1) 3 (.int .i64 m)).run Try.prog W = .ok () W := fun m W => by
    simp only [Instr.checkKey, Sem.run_bind, run_underlying Try.underlying3, Result.andThen_ok]
    rfl
  generalize hq : n + 1 = q at *
  unfold Instr.checkKey
  simp only [Sem.run_bind, run_underlying Try.key_under, Result.andThen_ok]
  simp only [Std.Legacy.Range.forIn_eq_forIn_range', Std.Legacy.Range.size, Nat.sub_zero, Nat.add_one_sub_one, Nat.div_one]
  rw [show List.range' 0 4 = [0, 1, 2, 3] from rfl]
  simp only [List.forIn_cons, List.forIn_nil, Sem.run_bind, Try.sizeOf3, Result.andThen_ok]
  simp [p0, p1, p2, p3, he]
theorem run_check4 (e : Bool) (a b c d : Int) (w : World) : (Instr.checkKey e 10000 128 (.agg #[.int .i64 a, .int .i64 b, .int .i64 c, .int .i64 d])).run Try.prog w = .ok () w := run_check4n 9998 e a b c d w

/-- a map of chains in block b: its entries, in their order -/
def MapK (w : World) (b : Nat) (D : List (List Int × Value)) : Prop := ∃ es clock, w.heap[b]? = some (.map es clock) ∧ es.toList.map (fun e => (e.key, e.val)) = D.map (fun p => (keyV p.1, p.2))
def lookD (D : List (List Int × Value)) (c : List Int) : Option Value := (D.find? fun p => decide (p.1 = c)).map (·.2)
theorem MapK.lt {w : World} {b : Nat} {D : List (List Int × Value)} (h : MapK w b D) : b < w.heap.size := by
  obtain ⟨es, clock, h1, _⟩ := h
  exact (Array.getElem?_eq_some_iff.1 h1).1
theorem MapK.made (w : World) : MapK (w.alloc (.map #[] 0)) w.heap.size [] := ⟨#[], 0, heap_alloc_new w _, rfl⟩
theorem MapK.chg {l : List Nat} {w w' : World} {b : Nat} {D : List (List Int × Value)} (h : MapK w b D) (hc : Chg l w w') (hb : b ∉ l) : MapK w' b D := by
  obtain ⟨es, clock, h1, h2⟩ := h
  exact ⟨es, clock, (hc.block b (Array.getElem?_eq_some_iff.1 h1).1 hb).trans h1, h2⟩
theorem run_asking (c : List Int) (hc : ChP c) (w : World) : ∀ (D : List (List Int × Value)) (es : List MapEntry) (hD : ∀ p ∈ D, ChP p.1) (he : es.map (fun e => (e.key, e.val)) = D.map (fun p => (keyV p.1, p.2))) (i : Nat),
    ∃ r, (Instr.findAsking 128 (keyV c) es i).run Try.prog w = .ok r w ∧ r.map (·.2) = lookD D c
  | [], es, _, he, i => by
    have : es = [] := by simpa using he
    subst this
    exact ⟨none, by simp [Instr.findAsking], rfl⟩
  | p :: D, es, hD, he, i => by
    cases es with
    | nil => simp at he
    | cons e es =>
      simp only [List.map_cons, List.cons.injEq, Prod.mk.injEq] at he
      obtain ⟨⟨h1, h2⟩, h3⟩ := he
      have hp := hD p (by simp)
      have heq : (Op.equal 128 (keyV c) e.key).run Try.prog w = .ok (decide (p.1 = c)) w := by
        rw [h1]
        unfold keyV
        rw [run_eq4]
        congr 1
        rw [decide_eq_decide]
        constructor
        · rintro ⟨g0, g1, g2, g3⟩
          exact (key_inj hc hp g0 g1 g2 g3).symm
        · rintro rfl
          exact ⟨rfl, rfl, rfl, rfl⟩
      unfold lookD
      by_cases hpc : p.1 = c
      · refine ⟨some (i, e.val), ?_, ?_⟩
        · simp [Instr.findAsking, heq, hpc]
        · simp [List.find?, hpc, h2]
      · obtain ⟨r, hr, hr2⟩ := run_asking c hc w D es (fun q hq => hD q (by simp [hq])) h3 (i + 1)
        refine ⟨r, ?_, ?_⟩
        · simp [Instr.findAsking, heq, hpc, hr]
        · rw [hr2]
          simp [lookD, List.find?, hpc]
theorem MapK.look {w : World} {b : Nat} {D : List (List Int × Value)} (h : MapK w b D) (hD : ∀ p ∈ D, ChP p.1) {c : List Int} (hc : ChP c) :
    (Instr.lookup 72 (.map (some b)) (keyV c) true).run Try.prog w = .ok (.tuple #[(lookD D c).getD (.slice none 0 0), .bool (lookD D c).isSome]) w := by
  obtain ⟨es, clock, h1, h2⟩ := h
  obtain ⟨r, hr, hr2⟩ := run_asking c hc w D es.toList hD h2 0
  have hk := run_check4 es.isEmpty (kk c c.length 0) (kk c c.length 1) (kk c c.length 2) (kk c c.length 3) w
  change (Instr.checkKey es.isEmpty 10000 128 (keyV c)).run Try.prog w = _ at hk
  have hf := run_findKey_eq (P := Try.prog) w (k := 128) (by rw [Try.key_under]) (keyV c) es.toList
  rw [hr] at hf
  have hz : (zeroValue 36).run Try.prog w = .ok (.slice none 0 0) w := by kernel_rfl
  simp only [Instr.lookup, Sem.run_bind, run_underlying Try.underlying72, Result.andThen_ok, run_getObj_map _ _ _ _ h1, Sem.run_pure, hk, hf]
  cases r with
  | none =>
    rw [← hr2]
    simp [hz]
  | some q =>
    rw [← hr2]
    simp
theorem MapK.put {w : World} {b : Nat} {D : List (List Int × Value)} (h : MapK w b D) (hD : ∀ p ∈ D, ChP p.1) {c : List Int} (hc : ChP c) (hn : lookD D c = none) (v : Value) :
    ∃ w', (Instr.mapUpdate 72 (.map (some b)) (keyV c) v).run Try.prog w = .ok () w' ∧ MapK w' b (D ++ [(c, v)]) ∧ Chg [b] w w' := by
  obtain ⟨es, clock, h1, h2⟩ := h
  obtain ⟨r, hr, hr2⟩ := run_asking c hc w D es.toList hD h2 0
  rw [hn] at hr2
  have hrn : r = none := by simpa using hr2
  subst hrn
  have hk := run_check4 false (kk c c.length 0) (kk c c.length 1) (kk c c.length 2) (kk c c.length 3) w
  change (Instr.checkKey false 10000 128 (keyV c)).run Try.prog w = _ at hk
  have hf := run_findKey_eq (P := Try.prog) w (k := 128) (by rw [Try.key_under]) (keyV c) es.toList
  rw [hr] at hf
  have hb := (Array.getElem?_eq_some_iff.1 h1).1
  refine ⟨{ w with heap := w.heap.setIfInBounds b (.map (es.push { key := keyV c, val := v, born := clock }) (clock + 1)) }, ?_, ?_, ?_⟩
  · simp only [Instr.mapUpdate, Sem.run_bind, run_underlying Try.underlying72, Result.andThen_ok, run_getObj_map _ _ _ _ h1, hk, hf]
    exact MapKept.run_setObj_map _ h1
  · refine ⟨es.push { key := keyV c, val := v, born := clock }, clock + 1, by simp [hb], ?_⟩
    simp [h2]
  · refine ⟨rfl, rfl, rfl, by simp, fun k hk hne => ?_⟩
    have : b ≠ k := fun e => hne (by simp [e])
    simp [Array.getElem?_setIfInBounds, this]

set_option maxHeartbeats 1000000 in
theorem keyOf_any (c : List Int) (hc : ChP c) (a : Option Addr) (cap B : Nat) (w : World) (hro : Ro w B a (i64s c)) (hB : B ≤ w.heap.size) :
    Calls Try.prog 88 #[.slice a c.length cap] w fun e w' => e = .returned (keyV c) ∧ Below w.heap.size w w' := by
  have HRO := Lib.hid hro
  have HS := Lib.hid hB
  have HC := Lib.hid hc
  unfold keyV
  generalize hN : c.length = n at *
  have HN := Lib.hid hN
  have hn1 : (n : Int) ≤ 4 := by have := hc.1; omega
  obtain ⟨k0, HK0⟩ : ∃ k0, Hid (kk c n 0 = k0) := ⟨_, Lib.hid rfl⟩
  obtain ⟨k1, HK1⟩ : ∃ k0, Hid (kk c n 1 = k0) := ⟨_, Lib.hid rfl⟩
  obtain ⟨k2, HK2⟩ : ∃ k0, Hid (kk c n 2 = k0) := ⟨_, Lib.hid rfl⟩
  obtain ⟨k3, HK3⟩ : ∃ k0, Hid (kk c n 3 = k0) := ⟨_, Lib.hid rfl⟩
  rw [HK0.out, HK1.out, HK2.out, HK3.out]
  clear hro hB hN hc
  go_enter Try.func88, Try.ntmps88
  go_wp2_with fail
  go_loopw [8] (fun i wr => ∃ k : Nat, k ≤ n ∧ i = .int .i64 (k : Int) ∧ Hid (Own wr (w.heap.size + 1) 128 (krow c k)) ∧ Hid (Own wr w.heap.size 128 [.int .i64 0, .int .i64 0, .int .i64 0, .int .i64 0]) ∧ Hid (Below w.heap.size w wr)) (fun i _ => n - (intOf i).toNat)
  case atStart =>
    refine ⟨0, Nat.zero_le _, rfl, Lib.hid ?_, Lib.hid ((Own.new w _ _).alloc _), Lib.hid (((Below.refl _ _).alloc (Nat.le_refl _) _).alloc (by simp) _)⟩
    have := Own.new (w.alloc (.cells #[.int .i64 0, .int .i64 0, .int .i64 0, .int .i64 0] 128)) 128 [.int .i64 0, .int .i64 0, .int .i64 0, .int .i64 0]
    rw [krow_zero]
    simpa using this
  case round =>
    obtain ⟨k, hk, rfl, HO, HO2, HBk⟩ := hrel
    by_cases hlt : k < n
    · have hkL : k < c.length := by rw [HN.out]; exact hlt
      obtain ⟨b, off, rfl, hb, hcc⟩ := (HRO.out.below HBk.out HS.out).i64 (show 0 < c.length by omega)
      have e1 := hcc k hkL
      clear hcc
      have hk0 : (0 : Int) ≤ (k : Int) := by omega
      have hk1 : (k : Int) < (n : Int) := by omega
      have hu : 0 ≤ c.getD k 0 ∧ c.getD k 0 < 32 := by
        have := HC.out.2 c[k] (List.getElem_mem hkL)
        simpa [List.getD, hkL] using this
      have HL : Hid ((krow c k).set k (.int .i64 (c.getD k 0 + 1)) = krow c (k + 1)) := Lib.hid (krow_set c k (by have := HC.out.1; omega))
      have hrl : (krow c k).length = 4 := rfl
      have hk3 : k < 4 := by have := HC.out.1; omega
      obtain ⟨y, hy⟩ : ∃ y, (krow c k)[k]? = some y := ⟨_, List.getElem?_eq_getElem (by omega)⟩
      have d1 := (HO.out.cell k).trans hy
      have d2 := HO.out.frozen k
      have hz := HO.out.lt
      have hk4 : (k : Int) < 4 := by omega
      clear hy hrl
      generalize c.getD k 0 = x at *
      obtain ⟨hx0, hx1⟩ := hu
      go_wp2_with fail
      go_roundw
      case rel =>
        refine ⟨k + 1, by omega, by go_num, Lib.hid ?_, Lib.hid (HO2.out.far (by show w.heap.size ≠ w.heap.size + 1; omega) _), Lib.hid (HBk.out.setCell (by show w.heap.size ≤ w.heap.size + 1; omega) _)⟩
        rw [← HL.out]
        exact HO.out.set k _
      case measure => simp [intOf]; omega
    · obtain rfl : k = n := by omega
      have d0 := HO.out.cell 0
      have d1 := HO.out.cell 1
      have d2 := HO.out.cell 2
      have d3 := HO.out.cell 3
      have f0 := HO2.out.frozen 0
      have f1 := HO2.out.frozen 1
      have f2 := HO2.out.frozen 2
      have f3 := HO2.out.frozen 3
      have g0 := HO2.out.cell 0
      have g1 := HO2.out.cell 1
      have g2 := HO2.out.cell 2
      have g3 := HO2.out.cell 3
      simp [krow] at d0 d1 d2 d3 g0 g1 g2 g3
      rw [HK0.out] at d0
      rw [HK1.out] at d1
      rw [HK2.out] at d2
      rw [HK3.out] at d3
      have hz := HO2.out.lt
      go_wp2_with fail
      refine bodyPost_ret (v := .agg #[.int .i64 k0, .int .i64 k1, .int .i64 k2, .int .i64 k3]) (by simp [results, Try.results88, go_sem, g0, g1, g2, g3, hz]) rfl ⟨rfl, ?_⟩
      exact (((HBk.out.setCell (Nat.le_refl _) _).setCell (Nat.le_refl _) _).setCell (Nat.le_refl _) _).setCell (Nat.le_refl _) _
end Go.Proofs.Ytkdgoopldaoihaa
