/-
  All units: each in one chain of a segment at most, and those of the layout that follows. Plain lemmas, no claim of their own.
-/
import Derived.Test.YtjpahookioenpaaLyV
import Derived.Test.YtjpahookioenpaaLyG
namespace Go.Proofs.Ytjpahookioenpaa
set_option linter.unusedVariables false
set_option linter.unusedSimpArgs false

/-- in how many of these chains a unit is -/
def tm (u : Int) (L : List (List Int)) : Nat := (L.filter fun c => decide (u ∈ c)).length
theorem tm_take {u : Int} {L : List (List Int)} {k : Nat} (h : k < L.length) : tm u (L.take (k + 1)) = tm u (L.take k) + (if u ∈ cx L k then 1 else 0) := by
  unfold tm
  rw [cx_take h, List.filter_append, List.length_append]
  by_cases hu : u ∈ cx L k
  · simp [hu]
  · simp [hu]
theorem tm_none {u : Int} {L : List (List Int)} (h : u ∉ L.flatten) : tm u L = 0 := by
  unfold tm
  rw [List.length_eq_zero_iff, List.filter_eq_nil_iff]
  intro c hc
  simp only [decide_eq_true_eq]
  exact fun hu => h (List.mem_flatten.2 ⟨c, hc, hu⟩)
theorem tm_one {u : Int} : ∀ {L : List (List Int)}, L.flatten.Nodup → tm u L ≤ 1
  | [], _ => by simp [tm]
  | c :: L, h => by
    rw [List.flatten_cons] at h
    obtain ⟨h1, h2, h3⟩ := List.nodup_append.1 h
    by_cases hu : u ∈ c
    · have h0 : tm u L = 0 := tm_none (fun hm => h3 u hu u hm rfl)
      have e : tm u (c :: L) = 1 + tm u L := by unfold tm; rw [List.filter_cons_of_pos (by simpa using hu), List.length_cons]; omega
      omega
    · have e : tm u (c :: L) = tm u L := by unfold tm; rw [List.filter_cons_of_neg (by simpa using hu)]
      rw [e]
      exact tm_one h2
theorem tm_pos {u : Int} {L : List (List Int)} {c : List Int} (hc : c ∈ L) (hu : u ∈ c) : 0 < tm u L :=
  List.length_pos_of_mem (List.mem_filter.2 ⟨hc, by simpa using hu⟩)
/-- is a unit in one chain of one of these segments? -/
def inAny (u : Int) (xs : List Sg) : Bool := xs.any fun g => decide (tm u g.2 = 1)
theorem inAny_take {u : Int} {L : List Sg} {k : Nat} (h : k < L.length) : inAny u (L.take (k + 1)) = (inAny u (L.take k) || decide (tm u (sx L k).2 = 1)) := by
  have e : sx L k = L[k] := by simp [sx, List.getD, h]
  unfold inAny
  rw [List.take_succ_eq_append_getElem h, ← e, List.any_append]
  simp
theorem seg_nodup {x : Ly} (h : right x = true) {g : Sg} (hg : g ∈ x.s) : g.2.flatten.Nodup := by
  obtain ⟨i, hi, rfl⟩ := mem_sx hg
  exact (chOk_iff.1 (right_ch h hi)).2.2.2
theorem units_in {x : Ly} (h : right x = true) {u : Int} (hu : u ∈ unitsOf x) : inAny u x.s = true := by
  rw [(unitsOf_is h).2] at hu
  unfold allOf at hu
  rw [List.mem_flatten] at hu
  obtain ⟨l, hl, hu⟩ := hu
  obtain ⟨g, hg, rfl⟩ := List.mem_map.1 hl
  obtain ⟨c, hc, hu⟩ := List.mem_flatten.1 hu
  unfold inAny
  rw [List.any_eq_true]
  have h1 := tm_pos hc hu
  have h2 := tm_one (u := u) (seg_nodup h hg)
  exact ⟨g, hg, by simp; omega⟩
theorem units_lt {x : Ly} (h : right x = true) {i : Nat} (hi : i + 1 < (unitsOf x).length) : (unitsOf x).getD i 0 < (unitsOf x).getD (i + 1) 0 := by
  have hp := List.pairwise_iff_getElem.1 (unitsOf_is h).1 i (i + 1) (by omega) hi (by omega)
  rw [List.getD_eq_getElem?_getD, List.getD_eq_getElem?_getD, List.getElem?_eq_getElem hi, List.getElem?_eq_getElem (by omega)]
  exact hp
theorem units_small {x : Ly} (h : right x = true) : (unitsOf x).length ≤ 1000000 := by
  unfold unitsOf
  rw [if_pos h]
  refine Nat.le_trans (m := (allOf x.s).length) ?_ ?_
  · unfold Go.Lib.compactUpTo
    rw [List.length_map]
    refine Nat.le_trans (List.length_filter_le _ _) ?_
    rw [List.length_range, List.length_mergeSort]
    exact Nat.le_refl _
  · have := allOf_le h x.s.length (Nat.le_refl _)
    rw [List.take_of_length_le (Nat.le_refl _)] at this
    have h4 := (sgOk_iff.1 (right_iff.1 h).2.2).1.2
    omega
/-- each unit of the layout that follows stayed, or is a fresh one -/
theorem next_units {x : Ly} {dr fr : List Int} {sq : Int} (h1 : right x = true) (h2 : (fillS dr ([], fr) x.s).1 = 0) (h3 : right (nextRaw x dr fr sq) = true) {u : Int} (hu : u ∈ unitsOf (nextRaw x dr fr sq)) : (u ∈ unitsOf x ∧ u ∉ dr) ∨ u ∈ fr := by
  obtain ⟨k1, k2⟩ := fillS_ok (inv_start dr fr) h2
  have hs : (nextRaw x dr fr sq).s = (fillS dr ([], fr) x.s).2.2 := rfl
  rw [(unitsOf_is h3).2] at hu
  rw [(unitsOf_is h1).2]
  unfold allOf at hu ⊢
  rw [List.mem_flatten] at hu
  obtain ⟨l, hl, hu⟩ := hu
  obtain ⟨g, hg, rfl⟩ := List.mem_map.1 hl
  obtain ⟨c, hc, hu⟩ := List.mem_flatten.1 hu
  rw [hs] at hg
  obtain ⟨i, hi, rfl⟩ := mem_sx hg
  rw [k1] at hi
  obtain ⟨q1, q2, q3⟩ := k2 i hi
  obtain ⟨j, hj, rfl⟩ := List.mem_iff_getElem.1 hc
  have hj' : j < (sx x.s i).2.length := by rw [← q2]; exact hj
  obtain ⟨_, _, rest, e, hr⟩ := q3 j hj'
  have ec : (sx (fillS dr ([], fr) x.s).2.2 i).2[j] = cx (sx (fillS dr ([], fr) x.s).2.2 i).2 j := by simp [cx, List.getD, hj]
  rw [ec, e, List.mem_append] at hu
  rcases hu with hu | hu
  · left
    unfold leftOf at hu
    rw [List.mem_filter] at hu
    refine ⟨List.mem_flatten.2 ⟨_, List.mem_map.2 ⟨_, sx_mem hi, rfl⟩, List.mem_flatten.2 ⟨_, cx_mem hj', hu.1⟩⟩, by simpa using hu.2⟩
  · exact .inr (hr u hu)
end Go.Proofs.Ytjpahookioenpaa
