/-
  What a slice of integers that came in is, in the words of this seat. Plain lemmas, no claim of their own.
-/
import Derived.Test.YtdpaofedepnnbaaGreatBase
import Derived.OpenShut
import Derived.ChangeSlices
namespace Go.Proofs.YtdpaofedepnnbaaGreat
set_option linter.unusedVariables false
set_option linter.unusedSimpArgs false
open Go.RowKit

/-- a slice of integers that came in: nil, or a row of cells, each fitting its kind -/
def IsRow (k : IntKind) (w : World) (a : Option Addr) (len cap : Nat) (zs : List Int) : Prop :=
  (a = none ∧ len = 0 ∧ cap = 0 ∧ zs = []) ∨
  ∃ x, a = some x ∧ len ≤ cap ∧ cap ≤ maxLen ∧ zs.length = cap ∧ (∀ i, i < zs.length → w.cell? (x.add i) = some (.int k (zs.getD i 0))) ∧ ∀ n ∈ zs, (Lit.int k n).wf = true

/-- the elements alone, in a row below the heap's end -/
theorem IsRow.vals {k : IntKind} {w : World} {a : Option Addr} {len cap : Nat} {zs : List Int} (h : IsRow k w a len cap zs) :
    ∃ ys : List Int, ys.length = len ∧ len ≤ cap ∧ (a = none → cap = 0) ∧ Ro w w.heap.size a (ys.map fun x => .int k x) ∧ ∀ n ∈ ys, (Lit.int k n).wf = true := by
  rcases h with ⟨rfl, rfl, rfl, rfl⟩ | ⟨x, rfl, h1, h2, h3, h4, h5⟩
  · exact ⟨[], rfl, Nat.le_refl _, fun _ => rfl, .inl rfl, by simp⟩
  · refine ⟨zs.take len, by rw [List.length_take]; omega, h1, (fun h => by cases h), ?_, (fun n hn => h5 n (List.mem_of_mem_take hn))⟩
    by_cases h0 : len = 0
    · subst h0; exact .inl (by simp)
    · obtain ⟨b, off, spot⟩ := x
      have hc := h4 0 (by omega)
      have hspot : spot = none := by simpa [Addr.add] using World.cell?_spot hc
      subst hspot
      have hb := World.block_lt_of_cell? w _ hc
      refine .inr ⟨b, off, rfl, by simpa [add_off] using hb, fun i hi => ?_⟩
      rw [List.length_map, List.length_take] at hi
      have := h4 i (by omega)
      rw [add_off] at this
      rw [this]
      simp [List.getD, List.getElem?_take, show i < len from by omega, show i < zs.length from by omega]
theorem IsRow.len_le {k : IntKind} {w : World} {a : Option Addr} {len cap : Nat} {zs : List Int} (h : IsRow k w a len cap zs) : len ≤ 9223372036854775807 := by
  rcases h with ⟨_, rfl, _, _⟩ | ⟨x, _, h1, h2, _⟩
  · omega
  · unfold maxLen at h2; omega
theorem IsRow.cap_le {k : IntKind} {w : World} {a : Option Addr} {len cap : Nat} {zs : List Int} (h : IsRow k w a len cap zs) : cap ≤ 9223372036854775807 := by
  rcases h with ⟨_, _, rfl, _⟩ | ⟨x, _, h1, h2, _⟩
  · omega
  · unfold maxLen at h2; omega
/-- bytes -/
theorem IsRow.u8s {w : World} {a : Option Addr} {len cap : Nat} {zs : List Int} (h : IsRow .u8 w a len cap zs) :
    ∃ bs : List UInt8, bs.length = len ∧ len ≤ cap ∧ (a = none → cap = 0) ∧ Ro w w.heap.size a (u8s bs) := by
  obtain ⟨ys, h1, h2, h3, h4, h5⟩ := h.vals
  refine ⟨ys.map fun n => UInt8.ofNat n.toNat, by simpa using h1, h2, h3, ?_⟩
  have e : YtdpaofedepnnbaaGreat.u8s (ys.map fun n => UInt8.ofNat n.toNat) = ys.map fun x => .int .u8 x := by
    unfold YtdpaofedepnnbaaGreat.u8s
    rw [List.map_map]
    apply List.map_congr_left
    intro n hn
    have := bounds_u8 (h5 n hn)
    have e2 : (UInt8.ofNat n.toNat).toNat = n.toNat := by simp; omega
    simp only [Function.comp, e2]
    congr 1
    omega
  rw [e]; exact h4
/-- unsigned numbers -/
theorem IsRow.u64s {w : World} {a : Option Addr} {len cap : Nat} {zs : List Int} (h : IsRow .u64 w a len cap zs) :
    ∃ l : List Nat, l.length = len ∧ len ≤ cap ∧ (a = none → cap = 0) ∧ Ro w w.heap.size a (u64s l) ∧ ∀ i, l.getD i 0 < 18446744073709551616 := by
  obtain ⟨ys, h1, h2, h3, h4, h5⟩ := h.vals
  refine ⟨ys.map Int.toNat, by simpa using h1, h2, h3, ?_, fun i => ?_⟩
  · have e : YtdpaofedepnnbaaGreat.u64s (ys.map Int.toNat) = ys.map fun x => .int .u64 x := by
      unfold YtdpaofedepnnbaaGreat.u64s
      rw [List.map_map]
      apply List.map_congr_left
      intro n hn
      have := bounds_u64 (h5 n hn)
      simp only [Function.comp]
      congr 1
      omega
    rw [e]; exact h4
  · by_cases hi : i < ys.length
    · have := bounds_u64 (h5 ys[i] (List.getElem_mem hi))
      have e : (ys.map Int.toNat).getD i 0 = ys[i].toNat := by simp [List.getD, hi]
      rw [e]; omega
    · have e : (ys.map Int.toNat).getD i 0 = 0 := by simp [List.getD, hi]
      rw [e]; omega
/-- signed numbers -/
theorem IsRow.i64s {w : World} {a : Option Addr} {len cap : Nat} {zs : List Int} (h : IsRow .i64 w a len cap zs) :
    ∃ l : List Int, l.length = len ∧ len ≤ cap ∧ (a = none → cap = 0) ∧ Ro w w.heap.size a (i64s l) ∧ ∀ i, -9223372036854775808 ≤ l.getD i 0 ∧ l.getD i 0 ≤ 9223372036854775807 := by
  obtain ⟨ys, h1, h2, h3, h4, h5⟩ := h.vals
  refine ⟨ys, h1, h2, h3, h4, fun i => ?_⟩
  by_cases hi : i < ys.length
  · have := bounds_i64 (h5 ys[i] (List.getElem_mem hi))
    have e : ys.getD i 0 = ys[i] := by simp [List.getD, hi]
    rw [e]; omega
  · have e : ys.getD i 0 = 0 := by simp [List.getD, hi]
    rw [e]; omega
section
variable {H : Type} {enc : TypeId × Value → H} {P : Program} {w : World} {base : Nat} {spare : Nat → Bool} {held : Bool}
/-- an array of integers by value, opened -/
theorem open_array_ints {k : IntKind} {r : Reach} {b0 n : Nat} {t e : TypeId} {v : Value} {d : DataW H} {p : List MemPlace} (ht : P.underlying t = some (.array n e)) (he : P.underlying e = some (.int k)) (hce : P.cellsOf e = 1) (hct : P.cellsOf t = n)
    (hv : Value.okWide P w r b0 t v) (h : DataW.Trod enc P w base spare held t v d p) :
    ∃ zs : List Int, v = .agg (zs.map (Value.int k)).toArray ∧ zs.length = n ∧ ∀ x ∈ zs, (Lit.int k x).wf = true := by
  obtain ⟨cs, rfl, hsz⟩ : ∃ cs, v = .agg cs ∧ cs.size = P.cellsOf t := by
    simp only [Value.okWide, ht] at hv
    obtain ⟨cs, h1, h2, _⟩ := hv
    exact ⟨cs, h1, h2⟩
  obtain ⟨fuel, hf⟩ := h
  obtain ⟨xs, m, _, _, _, hl, hi⟩ := DataW.trod_array ht hf
  have hall : ∀ i (h : i < cs.toList.length), ∃ x, cs.toList[i] = .int k x ∧ (Lit.int k x).wf = true := by
    intro i h
    have hin : i < n := by simp only [Array.length_toList] at h; omega
    have h1 := hi i hin
    rw [hce, Nat.mul_one, List.getElem?_eq_getElem (by omega)] at h1
    obtain ⟨x, hx, _, hw⟩ := DataW.trod_int he h1
    refine ⟨x, ?_, hw⟩
    have e : ((Value.agg cs).cells.toList.drop i).take 1 = [cs.toList[i]] := by
      show (cs.toList.drop i).take 1 = _
      rw [List.drop_eq_getElem_cons h]
      simp
    rw [e] at hx
    simpa using hx
  refine ⟨cs.toList.map intOf, ?_, by simp; omega, ?_⟩
  · congr 1
    apply Array.ext'
    simp only [List.map_map]
    apply List.ext_getElem
    · simp
    · intro i h1 h2
      obtain ⟨x, hx, _⟩ := hall i h1
      simp only [List.getElem_map, Function.comp]
      rw [hx]
      rfl
  · intro x hx
    rw [List.mem_map] at hx
    obtain ⟨v, hv1, rfl⟩ := hx
    obtain ⟨i, h1, rfl⟩ := List.getElem_of_mem hv1
    obtain ⟨x, hx, hw⟩ := hall i h1
    rw [hx]
    exact hw
/-- an array of slices of integers by value, opened: each element a row -/
theorem open_array_rows {k : IntKind} {r : Reach} {b0 n : Nat} {t s e : TypeId} {v : Value} {d : DataW H} {p : List MemPlace} (ht : P.underlying t = some (.array n s)) (hs : P.underlying s = some (.slice e)) (he : P.underlying e = some (.int k)) (hce : P.cellsOf e = 1) (hcs : P.cellsOf s = 1) (hct : P.cellsOf t = n)
    (hv : Value.okWide P w r b0 t v) (h : DataW.Trod enc P w base (fun _ => true) held t v d p) :
    ∃ cs : List Value, v = .agg cs.toArray ∧ cs.length = n ∧ ∀ x ∈ cs, ∃ a l c zs, x = .slice a l c ∧ IsRow k w a l c zs := by
  obtain ⟨cs, rfl, hsz⟩ : ∃ cs, v = .agg cs ∧ cs.size = P.cellsOf t := by
    simp only [Value.okWide, ht] at hv
    obtain ⟨cs, h1, h2, _⟩ := hv
    exact ⟨cs, h1, h2⟩
  obtain ⟨fuel, hf⟩ := h
  obtain ⟨xs, m, _, _, _, hl, hi⟩ := DataW.trod_array ht hf
  refine ⟨cs.toList, by simp, by simp; omega, fun x hx => ?_⟩
  obtain ⟨i, h1, rfl⟩ := List.getElem_of_mem hx
  have hin : i < n := by simp only [Array.length_toList] at h1; omega
  have h2 := hi i hin
  rw [hcs, Nat.mul_one, List.getElem?_eq_getElem (by omega)] at h2
  have e1 : ((Value.agg cs).cells.toList.drop i).take 1 = [cs.toList[i]] := by
    show (cs.toList.drop i).take 1 = _
    rw [List.drop_eq_getElem_cons h1]
    simp
  rw [e1] at h2
  rcases ChangeShapes.open_ints hs he hce h2 with ⟨hc, _⟩ | ⟨a, l, c, zs, hc, _, hl, hm, hz, _, hcell, hwz⟩
  · exact ⟨none, 0, 0, [], by simpa using hc, .inl ⟨rfl, rfl, rfl, rfl⟩⟩
  · exact ⟨some a, l, c, zs, by simpa using hc, .inr ⟨a, rfl, hl, hm, by simpa using hz, hcell, hwz⟩⟩
end
end Go.Proofs.YtdpaofedepnnbaaGreat
