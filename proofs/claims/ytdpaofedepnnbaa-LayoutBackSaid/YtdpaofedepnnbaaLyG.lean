/-
  Units of package layout, by its contract. No claim of its own.
-/
import Derived.Test.YtdpaofedepnnbaaLyF
namespace Go.Proofs.Ytdpaofedepnnbaa
open Go.RowKit Go.Deep Go.Shelf Go.Lib
set_option linter.unusedVariables false
set_option linter.unusedSimpArgs false

def allOf (L : List Sg) : List Int := (L.map fun s => s.2.flatten).flatten
def unitsOf (x : Ly) : List Int := if lright x = true then compactUpTo ((allOf x.s).mergeSort fun x y => decide (x ≤ y)).toArray ((allOf x.s).mergeSort fun x y => decide (x ≤ y)).length else []
theorem allOf_take {L : List SgT} {k : Nat} (h : k < L.length) : allOf ((sgx L).take (k + 1)) = allOf ((sgx L).take k) ++ (chx (st L k).ch).flatten := by
  have e : (sgx L).take (k + 1) = (sgx L).take k ++ [(st L k).x] := by
    rw [List.take_succ_eq_append_getElem (by simpa using h)]
    congr 2
    have := sx_sgx L k
    rw [← this]
    simp [sx, List.getD, h]
  rw [e]
  simp [allOf, SgT.x]
theorem flat_le {L : List (List Int)} (h : chOk L = true) : L.flatten.length ≤ 16 := by
  obtain ⟨h1, h2, _⟩ := chOk_iff.1 h
  have : ∀ M : List (List Int), (∀ c ∈ M, c.length ≤ 4) → M.flatten.length ≤ M.length * 4 := by
    intro M
    induction M with
    | nil => simp
    | cons c M ih =>
      intro hM
      have := ih (fun c hc => hM c (by simp [hc]))
      have := hM c (by simp)
      simp only [List.flatten_cons, List.length_append, List.length_cons]
      omega
  have := this L (fun c hc => (h2 c hc).2)
  omega
theorem right_ch {x : Ly} (h : lright x = true) {i : Nat} (hi : i < x.s.length) : chOk (sx x.s i).2 = true := ((sgOk_iff.1 (lright_iff.1 h).2.2).2.2.1 i hi).2
theorem allOf_le {x : Ly} (h : lright x = true) (k : Nat) (hk : k ≤ x.s.length) : (allOf (x.s.take k)).length ≤ k * 16 := by
  induction k with
  | zero => simp [allOf]
  | succ k ih =>
    have e : x.s.take (k + 1) = x.s.take k ++ [sx x.s k] := by
      rw [List.take_succ_eq_append_getElem (by omega)]
      simp [sx, List.getD, show k < x.s.length by omega]
    rw [e]
    have := ih (by omega)
    have := flat_le (right_ch h (i := k) (by omega))
    simp only [allOf, List.map_append, List.map_cons, List.map_nil, List.flatten_append, List.flatten_cons, List.flatten_nil, List.append_nil, List.length_append] at *
    omega
theorem allOf_pos {x : Ly} (h : lright x = true) : 0 < (allOf x.s).length := by
  have hs := sgOk_iff.1 (lright_iff.1 h).2.2
  have h0 := right_ch h (i := 0) (by omega)
  have hc := chOk_iff.1 h0
  have h1 := hc.2.1 _ (cx_mem (L := (sx x.s 0).2) (i := 0) (by omega))
  have : ∃ u, u ∈ cx (sx x.s 0).2 0 := by
    cases hcx : cx (sx x.s 0).2 0 with
    | nil => rw [hcx] at h1; simp at h1
    | cons u _ => exact ⟨u, by simp⟩
  obtain ⟨u, hu⟩ := this
  have hm : u ∈ allOf x.s := by
    unfold allOf
    rw [List.mem_flatten]
    exact ⟨_, List.mem_map.2 ⟨_, sx_mem (L := x.s) (i := 0) (by omega), rfl⟩, List.mem_flatten.2 ⟨_, cx_mem (L := (sx x.s 0).2) (i := 0) (by omega), hu⟩⟩
  exact List.length_pos_of_mem hm

/-- the list of units is in order, and has just all units -/
theorem compact_is (d : List Int) (hs : d.Pairwise (· ≤ ·)) (m : Nat) (hm : m ≤ d.length) : (compactUpTo d.toArray m).Pairwise (· < ·) ∧ ∀ x, x ∈ compactUpTo d.toArray m ↔ ∃ j, j < m ∧ d[j]? = some x := by
  induction m with
  | zero => simp [compactUpTo]
  | succ m ih =>
    obtain ⟨h1, h2⟩ := ih (by omega)
    rw [compactUpTo_succ]
    have hdm : d.toArray[m]! = d[m] := by rw [getElem!_pos _ _ (by simp; omega)]; simp
    have hle : ∀ i j (hi : i < j) (hj : j < d.length), d[i] ≤ d[j] := fun i j hi hj => List.pairwise_iff_getElem.1 hs i j (by omega) hj hi
    by_cases hk : keeps d.toArray m = true
    · rw [if_pos hk, hdm]
      refine ⟨?_, fun x => ?_⟩
      · rw [List.pairwise_append]
        refine ⟨h1, by simp, fun a ha b hb => ?_⟩
        simp only [List.mem_singleton] at hb
        subst hb
        obtain ⟨j, hj, hx⟩ := (h2 a).1 ha
        have hxa : d[j] = a := by rw [List.getElem?_eq_getElem (by omega)] at hx; simpa using hx
        unfold keeps at hk
        simp only [decide_eq_true_eq] at hk
        rcases hk with hk | hk
        · omega
        · have e1 : d.toArray[m - 1]! = d[m - 1] := by rw [getElem!_pos _ _ (by simp; omega)]; simp
          rw [hdm, e1] at hk
          have g1 : d[j] ≤ d[m - 1] := by
            by_cases e : j = m - 1
            · subst e; exact Int.le_refl _
            · exact hle j (m - 1) (by omega) (by omega)
          have g2 := hle (m - 1) m (by omega) (by omega)
          omega
      · rw [List.mem_append, h2 x, List.mem_singleton]
        constructor
        · rintro (⟨j, hj, hx⟩ | hx)
          · exact ⟨j, by omega, hx⟩
          · exact ⟨m, by omega, by rw [List.getElem?_eq_getElem (by omega), hx]⟩
        · rintro ⟨j, hj, hx⟩
          by_cases e : j = m
          · subst e; right; rw [List.getElem?_eq_getElem (by omega)] at hx; simpa using hx.symm
          · left; exact ⟨j, by omega, hx⟩
    · rw [if_neg hk, List.append_nil]
      refine ⟨h1, fun x => ?_⟩
      rw [h2 x]
      constructor
      · rintro ⟨j, hj, hx⟩; exact ⟨j, by omega, hx⟩
      · rintro ⟨j, hj, hx⟩
        by_cases e : j = m
        · subst e
          unfold keeps at hk
          simp only [decide_eq_true_eq, not_or, Decidable.not_not] at hk
          have e1 : d.toArray[j - 1]! = d[j - 1] := by rw [getElem!_pos _ _ (by simp; omega)]; simp
          rw [hdm, e1] at hk
          refine ⟨j - 1, by omega, ?_⟩
          rw [List.getElem?_eq_getElem (by omega)] at hx ⊢
          rw [← hk.2]; exact hx
        · exact ⟨j, by omega, hx⟩
theorem unitsOf_is {x : Ly} (h : lright x = true) : (unitsOf x).Pairwise (· < ·) ∧ ∀ u, u ∈ unitsOf x ↔ u ∈ allOf x.s := by
  unfold unitsOf
  rw [if_pos h]
  have hs : ((allOf x.s).mergeSort fun x y => decide (x ≤ y)).Pairwise (· ≤ ·) := by
    have := List.pairwise_mergeSort (le := fun (x y : Int) => decide (x ≤ y)) (by simp; omega) (by simp; omega) (allOf x.s)
    exact this.imp (by intro a b h; simpa using h)
  obtain ⟨h1, h2⟩ := compact_is _ hs _ (Nat.le_refl _)
  refine ⟨h1, fun u => ?_⟩
  rw [h2, ← (List.mergeSort_perm (allOf x.s) fun x y => decide (x ≤ y)).mem_iff, List.mem_iff_getElem?]
  constructor
  · rintro ⟨j, _, hx⟩; exact ⟨j, hx⟩
  · rintro ⟨j, hx⟩; exact ⟨j, (List.getElem?_eq_some_iff.1 hx).1, hx⟩

set_option maxHeartbeats 2000000 in
theorem units_any (A : LyT) (B : Nat) (w : World) (h : LyIn w B A) (hB : B ≤ w.heap.size) (hf : SgFit A.sg) :
    Calls Try.prog 19 #[A.val] w fun e w' => ∃ v, e = .returned v ∧ Lst w' w.heap.size 3 v (i64s (unitsOf A.x)) ∧ Below w.heap.size w w' := by
  obtain ⟨W, HWW⟩ : ∃ W, Hid (w.alloc (.cells #[.int .u64 (A.e : Int), .slice A.a A.sg.length A.c, .int .i64 A.q] 25) = W) := ⟨_, Lib.hid rfl⟩
  have hWb : Below w.heap.size w W := by rw [← HWW.out]; exact (Below.refl _ _).alloc (Nat.le_refl _) _
  have hws : W.heap.size = w.heap.size + 1 := by rw [← HWW.out]; simp
  have hR := lright_any A B W (h.below hWb hB) (by omega) hf
  have o1 : Own W w.heap.size 25 [.int .u64 (A.e : Int), .slice A.a A.sg.length A.c, .int .i64 A.q] := by rw [← HWW.out]; exact Own.new w _ _
  have HI := Lib.hid h
  have HB := Lib.hid hWb
  have HO := Lib.hid o1
  have HS := Lib.hid hB
  have HF := Lib.hid hf
  have hz := o1.lt
  have c0 := o1.cell 0
  have c1 := o1.cell 1
  have c2 := o1.cell 2
  simp at c0 c1 c2
  clear hWb o1 h hB hf hws
  unfold unitsOf
  by_cases hc : lright A.x = true
  · rw [if_pos hc]
    rw [hc] at hR
    have HR := Lib.hid hR
    clear hR
    have hx : A.x.s = sgx A.sg := rfl
    have HLE : Hid (∀ k, k ≤ A.sg.length → (allOf ((sgx A.sg).take k)).length ≤ k * 16) := Lib.hid (fun k hk => by have := allOf_le hc k (by rw [hx]; simpa using hk); rwa [hx] at this)
    have HPOS : Hid (0 < (allOf (sgx A.sg)).length) := Lib.hid (allOf_pos hc)
    have HCK : Hid (∀ k, k < A.sg.length → (st A.sg k).ch.length ≤ 4 ∧ ∀ c ∈ (st A.sg k).ch, c.u.length ≤ 4) := Lib.hid (fun k hk => by
      have g := right_ch hc (i := k) (by rw [hx]; simpa using hk)
      rw [hx, sx_sgx] at g
      have g2 := chOk_iff.1 g
      refine ⟨by have := g2.1.2; simpa [SgT.x] using this, fun c hcm => ?_⟩
      have := g2.2.1 c.u (List.mem_map.2 ⟨c, hcm, rfl⟩)
      omega)
    have HT : Hid ((sgx A.sg).take A.sg.length = sgx A.sg) := Lib.hid (List.take_of_length_le (by simp))
    have hn4 : A.sg.length ≤ 4 := by have := (sgOk_iff.1 (lright_iff.1 hc).2.2).1.2; rw [hx] at this; simpa using this
    rw [hx]
    clear hc hx
    obtain ⟨ep, sa, c, L, q⟩ := A
    simp only [LyT.val] at *
    rw [← HT.out] at HPOS ⊢
    clear HT
    generalize hN : L.length = n at *
    have HN := Lib.hid hN
    have hn1 : (n : Int) ≤ 4 := by omega
    clear hN hn4
    go_enter Try.func19, Try.ntmps19
    go_upto_region 1 with fail
    rw [HWW.out]
    go_wp2_with fail
    refine HR.out.mono ?_
    rintro e w1 ⟨rfl, hb⟩
    have hbw := HB.out.trans (hb.mono HB.out.size)
    have HBw := Lib.hid hbw
    have HO2 := Lib.hid (HO.out.below hb HO.out.lt)
    have d0 := HO2.out.cell 0
    have d1 := HO2.out.cell 1
    have d2 := HO2.out.cell 2
    have hz1 := HO2.out.lt
    simp at d0 d1 d2
    clear hb hbw c0 c1 c2
    go_wp2_with fail
    go_loopw [3, 12] (fun x i wr => ∃ (k : Nat) (v : Value), k ≤ n ∧ i = .int .i64 (k : Int) ∧ v = x ∧ Hid (Lst wr w.heap.size 3 v (i64s (allOf ((sgx L).take k)))) ∧ Hid (Below w.heap.size w wr)) (fun _ i _ => n - (intOf i).toNat)
    case atStart => exact ⟨0, _, Nat.zero_le _, rfl, rfl, Lib.hid (by simpa [allOf, i64s] using Lst.nil w1 w.heap.size 3), HBw⟩
    case round =>
      obtain ⟨k, v, hk, rfl, rfl, HLk, HBk⟩ := hrel
      by_cases hlt : k < n
      · have hkL : k < L.length := by rw [HN.out]; exact hlt
        obtain ⟨b, off, rfl, hb, hc⟩ := (HI.out.1.below HBk.out HS.out).sg (show 0 < L.length by omega)
        obtain ⟨e1, e2⟩ := hc k hkL
        clear hc
        have hk0 : (0 : Int) ≤ (k : Int) := by omega
        have hk1 : (k : Int) < (n : Int) := by omega
        have HQ2 := Lib.hid (HLE.out k hk)
        have HQ3 := Lib.hid (HCK.out k hlt)
        have HIN := Lib.hid (HI.out.2 _ (st_mem hkL))
        have HL : Hid (allOf ((sgx L).take (k + 1)) = allOf ((sgx L).take k) ++ (chx (st L k).ch).flatten) := Lib.hid (allOf_take hkL)
        generalize allOf ((sgx L).take k) = ys at *
        generalize st L k = sg at *
        obtain ⟨f, ca, cc, M⟩ := sg
        simp only at e1 e2 HQ3 HIN HL
        have HFL : Hid ((chx M).flatten.length ≤ 4000) := Lib.hid (by
          have := flat_len (L := M) (fun c hc => Nat.le_trans (HQ3.out.2 c hc) (by decide)) M.length (Nat.le_refl _)
          rw [List.take_of_length_le (by simp)] at this
          have := HQ3.out.1
          omega)
        have HC := Lib.hid (fun (W : World) (hb : Below w.heap.size w W) => concat_any M ca cc B W (HIN.out.1.below hb HS.out) (HIN.out.2.below hb HS.out) (Nat.le_trans HS.out hb.size) (Nat.le_trans HQ3.out.1 (by decide)) (fun c hc => Nat.le_trans (HQ3.out.2 c hc) (by decide)))
        generalize (chx M).flatten = xs at *
        generalize M.length = m at *
        obtain ⟨W3, HW3⟩ : ∃ W3, Hid (wr.alloc (.cells #[.int .u64 (f : Int), .slice ca m cc] 68) = W3) := ⟨_, Lib.hid rfl⟩
        have HB3 : Hid (Below w.heap.size w W3) := Lib.hid (by rw [← HW3.out]; exact HBk.out.alloc HBk.out.size _)
        have HL3 : Hid (Lst W3 w.heap.size 3 v (i64s ys)) := Lib.hid (by rw [← HW3.out]; exact HLk.out.alloc _)
        go_wp2_with fail
        rw [HW3.out]
        refine (HC.out _ HB3.out).mono ?_
        rintro e w4 ⟨v4, rfl, hl4, hb4⟩
        have HB4 : Hid (Below w.heap.size w w4) := Lib.hid (HB3.out.trans (hb4.mono HB3.out.size))
        have HL4 : Hid (Lst w4 w.heap.size 3 v (i64s ys)) := Lib.hid (HL3.out.below hb4 (Nat.le_refl _))
        obtain ⟨a4, c4, hv4, hr4, _⟩ := hl4.form
        have HR4 := Lib.hid hr4
        obtain ⟨xl, hxl⟩ : ∃ xl, xs.length = xl := ⟨_, rfl⟩
        rw [i64s_length, hxl] at hv4
        subst hv4
        have HXL : Hid (xs.length = xl) := Lib.hid hxl
        clear hxl
        clear hl4 hb4 hr4
        go_wp2_with (at_builtin; refine wpList_appB rfl (.tmp 16) (.tmp 19) 36 rfl w.heap.size 3 (.int .i64 0) 8 Try.underlying36 Try.info_i64 rfl _ (i64s ys) rfl HL4.out a4 w4.heap.size xl c4 (i64s xs) rfl (by rw [i64s_length]; exact HXL.out) HR4.out (i64s_one _) (by have := HFL.out; have := HQ2.out; have := HXL.out; rw [i64s_length]; omega) (by have := HFL.out; have := HQ2.out; have := HXL.out; rw [i64s_length]; omega) w.heap.size w HB4.out (Nat.le_refl _) HB4.out.size ?_)
        intro v' w5 hl hb5 hs5
        have HL5 : Hid (Lst w5 w.heap.size 3 v' (i64s (ys ++ xs))) := Lib.hid (by have e : i64s (ys ++ xs) = i64s ys ++ i64s xs := (by simp [i64s]); rw [e]; exact hl.out)
        have HB5 := Lib.hid hb5
        clear hl hb5 hs5
        go_wp2_with fail
        go_roundw
        case rel => exact ⟨k + 1, _, by omega, by go_num, rfl, by rw [HL.out]; exact HL5, HB5⟩
        case measure => simp [intOf]; omega
      · obtain rfl : k = n := by omega
        have HQ2 := Lib.hid (HLE.out k (Nat.le_refl _))
        have HSO := Lib.hid (fun (W : World) h hb => sort_int v w.heap.size (allOf ((sgx L).take k)) W h HPOS.out (by have := HQ2.out; omega) hb)
        go_wp2_with fail
        refine (HSO.out _ HLk.out HBk.out.size).mono ?_
        rintro e w4 ⟨rfl, hl4, hb4⟩
        have HB4 : Hid (Below w.heap.size w w4) := Lib.hid (HBk.out.trans hb4)
        have HCO := Lib.hid (compact_int v w.heap.size _ w4 hl4 (by rw [List.length_mergeSort]; exact HPOS.out) (by rw [List.length_mergeSort]; have := HQ2.out; omega) HB4.out.size)
        clear hl4 hb4
        go_wp2_with fail
        refine HCO.out.mono ?_
        rintro e w5 ⟨v5, rfl, hl5, hb5⟩
        have HB5 : Hid (Below w.heap.size w w5) := Lib.hid (HB4.out.trans hb5)
        have HL5 := Lib.hid hl5
        clear hl5 hb5
        go_wp2_with fail
        go_ret
        exact ⟨_, rfl, HL5.out, HB5.out⟩
  · rw [if_neg hc]
    have hc' : lright A.x = false := by simpa using hc
    rw [hc'] at hR
    have HR := Lib.hid hR
    clear hR hc hc'
    obtain ⟨ep, sa, c, L, q⟩ := A
    simp only [LyT.val] at *
    generalize L.length = n at *
    go_enter Try.func19, Try.ntmps19
    go_upto_region 1 with fail
    rw [HWW.out]
    go_wp2_with fail
    refine HR.out.mono ?_
    rintro e w' ⟨rfl, hb⟩
    have H2 := Lib.hid (HB.out.trans (hb.mono HB.out.size))
    clear hb
    go_wp2_with fail
    go_ret
    exact ⟨_, rfl, Lst.nil _ _ _, H2.out⟩
end Go.Proofs.Ytdpaofedepnnbaa
