/-
  Contract of slices.SortFunc at a row of runs of the call's own. No claim of its own.
-/
import Derived.Test.YtoadbkiklabceaaCat
import Derived.Test.YtoadbkiklabceaaSortShelf
namespace Go.Proofs.Ytoadbkiklabceaa
open Go.RowKit Go.Shelf Go.Deep Go.Sort
set_option linter.unusedVariables false
set_option linter.unusedSimpArgs false

def encR (r : Rn) : List Value := [.int .u64 (r.1 : Int), .int .u64 (r.2 : Int)]
theorem flat_rcs (L : List Rn) : Sort.flatK encR 2 L.toArray = (rcs L).toArray := by
  apply Array.ext
  · simp
  · intro i h1 h2
    have hi : i < L.length * 2 := by simpa using h1
    have hi2 : i / 2 < L.length := by omega
    have e1 : (Sort.flatK encR 2 L.toArray)[i] = (encR (L.toArray[i / 2]!))[i % 2]! := by
      rw [← getElem!_pos (Sort.flatK encR 2 L.toArray) i h1, get_flatK _ _ _ _ (by simpa using hi)]
    have e3 : L.toArray[i / 2]! = el L (i / 2) := by
      rw [getElem!_pos _ _ (by simpa using hi2)]
      simp [el, List.getD, hi2]
    have e2 := rcs_el (L := L) (i := i / 2) hi2
    have e4 : (rcs L).toArray[i] = (rcs L).getD i undef := by
      have hq : i < (rcs L).length := by simpa using hi
      simp [List.getD, List.getElem?_eq_getElem hq]
    rw [e1, e3, e4]
    rcases Nat.mod_two_eq_zero_or_one i with hp | hp
    · rw [show i = i / 2 * 2 by omega, e2.1, show i / 2 * 2 % 2 = 0 by omega, show i / 2 * 2 / 2 = i / 2 by omega]
      rfl
    · have ei : i = i / 2 * 2 + 1 := by omega
      have : (rcs L).getD i undef = .int .u64 ((el L (i / 2)).2 : Int) := by rw [ei, show (i / 2 * 2 + 1) / 2 = i / 2 by omega]; exact e2.2
      rw [this, hp]
      rfl
theorem heap_putR {w : World} {g n : Nat} {t : TypeId} {os : Array Obj} {cur : Array Value} (hb : w.heap[g]? = some (.cells cur t (0, 0))) (F : Array Value) :
    (grow (putRow id (Sort.ahead w n) g 0 F) os).heap[g]? = some (.cells (putCells id 0 F cur) t (0, 0)) := by
  have hg : g < w.heap.size := (Array.getElem?_eq_some_iff.1 hb).1
  rw [heap_grow_old _ _ (by simpa using hg)]
  simp [putRow, mapBlock, Sort.ahead, Array.getElem?_modify, hb, onCells]
theorem grown_putR {w : World} {g n : Nat} {os : Array Obj} (F : Array Value) : w.grownBy (grow (putRow id (Sort.ahead w n) g 0 F) os) (some g) := by
  refine ⟨rfl, rfl, rfl, by simp, fun k hk hne => ?_⟩
  rw [heap_grow_old _ _ (by simpa using hk)]
  have : g ≠ k := fun e => hne (by rw [e])
  simp [putRow, mapBlock, Sort.ahead, Array.getElem?_modify, this]
theorem take_putR (cur : Array Value) (ts : List Value) (h : ts.length ≤ cur.size) : (putCells id 0 ts.toArray cur).toList.take ts.length = ts := by
  apply List.ext_getElem?
  intro j
  by_cases hj : j < ts.length
  · rw [List.getElem?_take_of_lt hj, Array.getElem?_toList]
    simp [putCells, hj, show j < cur.size by omega]
  · rw [List.getElem?_take_eq_none (by omega), List.getElem?_eq_none (by omega)]
theorem ltR (x y : Rn) : ltOf cmpR x y = decide (x.1 < y.1) := by
  unfold ltOf cmpR
  by_cases h1 : x.1 < y.1
  · simp [h1]
  · by_cases h2 : y.1 < x.1 <;> simp [h1, h2]
theorem swoR : SWO (ltOf cmpR) where
  irrefl x := by rw [ltR]; simp
  trans x y z h1 h2 := by rw [ltR] at *; simp at *; omega
  ntrans x y z h1 h2 := by rw [ltR] at *; simp at *; omega
theorem cmpLaysR (g off n : Nat) (w : World) : CmpLays Try.prog 51 #[] encR 2 cmpR g off n w := by
  intro m os dk _ x y
  refine (compare_any x y _).mono fun e w' ⟨he, hw⟩ => ⟨he, 0, #[rb x 28, rb y 28], ?_⟩
  rw [hw, alloc_eq_grow, alloc_eq_grow, grow_grow]
  rfl
theorem sort_any (w : World) (base : Nat) (v : Value) (L : List Rn) (hr : Lr w base 28 v L) (hl : L.length ≤ 4000000) (hbw : base ≤ w.heap.size) :
    Calls Try.prog 50 #[v, .func (.func 51) #[] #[]] w fun e w' => e = .returned (.tuple #[]) ∧ ∃ M, M.Perm L ∧ Lr w' base 28 v M ∧ Below base w w' := by
  rcases Nat.eq_zero_or_pos L.length with h0 | h0
  · obtain ⟨a, c, rfl, _⟩ := hr.form
    have hL : L = [] := List.eq_nil_of_length_eq_zero h0
    rw [h0]
    refine Calls.mono (R' := _) (AnyF.slices_SortFunc_none sortFA a c _ w) fun e w' ⟨he, hw⟩ => ⟨he, L, List.Perm.refl _, ?_, ?_⟩
    · rw [hw]; rw [h0] at hr; exact hr
    · rw [hw]; exact Below.refl _ _
  · obtain ⟨g, c, cur, rfl, hg, ho, hle, hm, hs, ht⟩ := hr.open_ (by
      rintro rfl
      obtain ⟨a5, c5, h5, _⟩ := hr.form
      injection h5 with _ h5 _
      omega)
    have hH : HoldsK encR 2 w g 0 L.toArray := by
      unfold HoldsK
      rw [flat_rcs]
      intro j hj
      have hj2 : j < (rcs L).length := by simpa using hj
      rw [Nat.zero_add, ho.cell, ho.frozen]
      refine ⟨?_, rfl⟩
      have e : cur[j]? = (rcs L)[j]? := by rw [← ht, List.getElem?_take, if_pos (by simpa using hj2)]
      rw [e, List.getElem?_eq_getElem hj2, getElem!_pos (rcs L).toArray j (by simpa using hj2)]
      simp
    have hcon := AnyQ.slices_SortFunc sortFA 2 Try.isAgg28 Try.sizeOf28 encR (fun _ => rfl) (fun x v hv => by simp [encR] at hv; rcases hv with rfl | rfl <;> rfl) cmpR swoR 51 #[] g 0 c L.toArray w (enters_of Try.func51 (by kernel_rfl) rfl) (cmpLaysR g 0 _ w) hH ho.lt (by simp; omega)
    rw [List.size_toArray] at hcon
    refine Calls.mono (R' := _) hcon fun e w' ⟨he, d', n, os, hp, _, hw⟩ => ⟨he, d'.toList, ?_, ?_, ?_⟩
    · have h1 := hp.2.2
      have h2 := hp.1
      rw [List.size_toArray] at h2
      have e1 : d'.extract 0 L.length = d' := by rw [show L.length = d'.size by simpa using h2.symm]; simp
      have e2 : L.toArray.extract 0 L.length = L.toArray := by simp
      rw [e1, e2] at h1
      simpa using h1
    · have h2 := hp.1
      rw [List.size_toArray] at h2
      have hdl : d'.toList.length = L.length := by simpa using h2
      have hfl : Sort.flatK encR 2 d' = (rcs d'.toList).toArray := by rw [← flat_rcs]
      rw [hw]
      unfold sortWorldK putRowK
      rw [hfl]
      have hh := heap_putR (n := n) (os := os) (show w.heap[g]? = some (.cells cur.toArray 28 (0, 0)) from ho) (rcs d'.toList).toArray
      have hcl : (rcs d'.toList).length ≤ cur.toArray.size := by simp [h2, hs]; omega
      have := Lr.mk (w := grow (putRow id (Sort.ahead w n) g 0 (rcs d'.toList).toArray) os) (base := base) (e := 28) (c := c) (L := d'.toList) (cur := (putCells id 0 (rcs d'.toList).toArray cur.toArray).toList) hg (by unfold Own; simpa using hh) (by rw [hdl]; exact hle) hm (by simp [putCells, hs]) (by
        have := take_putR cur.toArray (rcs d'.toList) hcl
        rw [rcs_length] at this
        exact this)
      rw [hdl] at this
      exact this
    · rw [hw]
      unfold sortWorldK putRowK
      exact belowG (grown_putR _) (fun k hk => by injection hk with hk; omega) hbw
end Go.Proofs.Ytoadbkiklabceaa
