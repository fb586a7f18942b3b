/-
  Slices of numbers of the call's own: Clone, Sort, Compact, DeleteFunc, and Contains, Equal at any. No claim of its own.
-/
import Derived.Test.YtdpaofedepnnbaaLyE
import Derived.Test.YtdpaofedepnnbaaShelf
import Derived.Sort.OwnSortedInts
namespace Go.Proofs.Ytdpaofedepnnbaa
open Go.RowKit Go.Deep Go.Shelf Go.Lib Go.Sort
set_option linter.unusedVariables false
set_option linter.unusedSimpArgs false


theorem oneInt : OneCell (Value.int .i64) := by
  first | exact OneCell.int .i64 | exact OneCell.int | exact ⟨fun _ => rfl, fun _ => rfl⟩ | exact ⟨fun _ => rfl⟩ | (intro x; rfl)
theorem clone_int (a : Option Addr) (c B : Nat) (L : List Int) (w : World) (hro : Ro w B a (i64s L)) (h0 : 0 < L.length) (hl : L.length ≤ 1000000) :
    Calls Try.prog 48 #[.slice a L.length c] w fun e w' => ∃ v, e = .returned v ∧ Lst w' w.heap.size 3 v (i64s L) ∧ Below w.heap.size w w' := by
  obtain ⟨i, hi, hz⟩ := Option.map_eq_some_iff.1 Try.info_i64
  simp only [Prod.mk.injEq] at hz
  obtain ⟨b, off, rfl, hb, hc⟩ := hro.i64 h0
  refine (AnyE.slices_Clone cloneI i (.int .i64 0) 1 8 hi hz.1 hz.2.1 hz.2.2 rfl (by omega) (fun w => Try.sizeOf3 w) b off L.length c (i64s L) w (by simp) (by unfold maxLen; omega) (by omega) (fun j u hj => ?_) (i64s_one L)).mono ?_
  · have hj' : j < L.length := by simpa using (List.getElem?_eq_some_iff.1 hj).1
    rw [hc j hj', ← i64s_getD L j hj']
    simp [List.getD, hj]
  · rintro e w' ⟨v, rfl, h1, _, h2⟩
    refine ⟨v, rfl, ?_, h2⟩
    unfold Lst
    rw [i64s_length]
    exact h1
theorem Lst.int {w : World} {base : Nat} {v : Value} {L : List Int} (h : Lst w base 3 v (i64s L)) (h0 : 0 < L.length) :
    ∃ g cap cur, v = .slice (some ⟨g, 0, none⟩) L.length cap ∧ base ≤ g ∧ w.heap[g]? = some (.cells cur 3 (0, 0)) ∧ L.length ≤ cap ∧ cap ≤ maxLen ∧ cur.size = cap * 1 ∧ cur.toList.take L.length = L.map (Value.int .i64) := by
  rcases h.2 with ⟨_, hn⟩ | ⟨g, cap, cur, h1, h2, h3, h4, h5, h6, h7⟩
  · simp at hn; subst hn; simp at h0
  · rw [i64s_length] at h1 h4 h7
    exact ⟨g, cap, cur, h1, h2, h3, h4, h5, h6, by simpa [i64s] using h7⟩
theorem grown_below2 {base : Nat} {w w' : World} {g : Nat} (hg : w.grownBy w' (some g)) (h1 : base ≤ g) (h2 : base ≤ w.heap.size) : Below base w w' := below_only (Below.refl _ _) hg h1 h2
/-- a row of numbers behind some library function that wrote it whole -/
theorem Lst.wrote {w : World} {base g cap n : Nat} {os : Array Obj} {cur : Array Value} {d ts : List Int} (hbase : base ≤ g) (hb : w.heap[g]? = some (.cells cur 3 (0, 0))) (hd : d.length ≤ cap) (h2 : cap ≤ maxLen) (h3 : cur.size = cap * 1) (ht : d.take ts.length = ts) :
    Lst (grow (putRow (Value.int .i64) (Sort.ahead w n) g 0 d.toArray) os) base 3 (.slice (some ⟨g, 0, none⟩) ts.length cap) (i64s ts) := by
  have hlen : ts.length ≤ d.length := by have := congrArg List.length ht; rw [List.length_take] at this; omega
  unfold Lst
  rw [i64s_length]
  refine ⟨by simp, .inr ⟨g, cap, _, rfl, hbase, heap_sortedI _ hb, by omega, h2, by simp [putCells, h3], ?_⟩⟩
  have h := take_putCellsI cur d (by omega)
  rw [Nat.mul_one]
  have h' := congrArg (List.take ts.length) h
  rw [List.take_take, Nat.min_eq_left hlen, ← List.map_take, ht] at h'
  exact h'
theorem sort_int (v : Value) (base : Nat) (L : List Int) (w : World) (h : Lst w base 3 v (i64s L)) (h0 : 0 < L.length) (hl : L.length ≤ 1000000) (hb : base ≤ w.heap.size) :
    Calls Try.prog 50 #[v] w fun e w' => e = .returned (.tuple #[]) ∧ Lst w' base 3 v (i64s (L.mergeSort fun x y => decide (x ≤ y))) ∧ Below base w w' := by
  obtain ⟨g, cap, cur, rfl, g1, g2, g3, g4, g5, g6⟩ := h.int h0
  have hg : g < w.heap.size := (Array.getElem?_eq_some_iff.1 g2).1
  refine (AnyM.slices_Sort_int sortI g 0 cap L w (holds_of_blockI g2 g6) hg (by omega)).mono ?_
  rintro e w' ⟨rfl, n, os, rfl⟩
  refine ⟨rfl, ?_, grown_below2 (grownBy_sortedI _) g1 hb⟩
  have hlen : (L.mergeSort fun x y => decide (x ≤ y)).length = L.length := List.length_mergeSort L
  have := Lst.wrote (os := os) (n := n) (d := L.mergeSort fun x y => decide (x ≤ y)) (ts := L.mergeSort fun x y => decide (x ≤ y)) g1 g2 (by omega) g4 g5 (List.take_of_length_le (Nat.le_refl _))
  rwa [hlen] at this
theorem compact_int (v : Value) (base : Nat) (L : List Int) (w : World) (h : Lst w base 3 v (i64s L)) (h0 : 0 < L.length) (hl : L.length ≤ 1000000) (hb : base ≤ w.heap.size) :
    Calls Try.prog 51 #[v] w fun e w' => ∃ v', e = .returned v' ∧ Lst w' base 3 v' (i64s (compactUpTo L.toArray L.length)) ∧ Below base w w' := by
  obtain ⟨g, cap, cur, rfl, g1, g2, g3, g4, g5, g6⟩ := h.int h0
  have hg : g < w.heap.size := (Array.getElem?_eq_some_iff.1 g2).1
  have := AnyE.slices_Compact compI (Value.int .i64) oneInt (EqlAt.intD Try.prog _ .i64) (NeqAt.intD Try.prog _ .i64) 0 (fun w => by first | exact Try.zeroValue3 w | rfl) g 0 cap L.toArray w (holds_of_blockI g2 g6) (by simp; omega) (by simpa using g3)
  rw [List.size_toArray] at this
  refine this.mono ?_
  rintro e w' ⟨rfl, n, rfl⟩
  have hle : (compactUpTo L.toArray L.length).length ≤ L.length := by
    unfold compactUpTo
    rw [List.length_map]
    exact Nat.le_trans (List.length_filter_le _ _) (by simp)
  refine ⟨_, rfl, ?_, ?_⟩
  · have := Lst.wrote (os := #[]) (n := n) (d := compactUpTo L.toArray L.length ++ List.replicate (L.length - (compactUpTo L.toArray L.length).length) 0) (ts := compactUpTo L.toArray L.length) g1 g2 (by simp; omega) g4 g5 (by simp)
    rw [grow_empty] at this
    exact this
  · have := grownBy_sortedI (w := w) (g := g) (n := n) (os := #[]) (compactUpTo L.toArray L.length ++ List.replicate (L.length - (compactUpTo L.toArray L.length).length) 0).toArray
    rw [grow_empty] at this
    exact grown_below2 this g1 hb
theorem contains_any (a : Option Addr) (c B : Nat) (L : List Int) (x : Int) (w : World) (hro : Ro w B a (i64s L)) (hl : L.length ≤ 1000000) :
    Calls Try.prog 140 #[.slice a L.length c, .int .i64 x] w fun e w' => e = .returned (.bool (decide (x ∈ L))) ∧ w' = w := by
  rcases Nat.eq_zero_or_pos L.length with h0 | h0
  · have : L = [] := List.eq_nil_of_length_eq_zero h0
    subst this
    exact AnyE.slices_Contains_empty contI a c (.int .i64 x) w
  · obtain ⟨b, off, rfl, hb, hc⟩ := hro.i64 h0
    refine (AnyE.slices_Contains contI (Value.int .i64) (fun x y => decide (x = y)) (EqlAt.intD Try.prog _ .i64) b off L.length c L x w (Nat.le_refl _) (by omega) (fun j hj => ?_)).mono ?_
    · rw [hc j hj]
      simp [List.getD, hj]
    · rintro e w' ⟨rfl, rfl⟩
      refine ⟨?_, rfl⟩
      congr 2
      rw [List.take_of_length_le (Nat.le_refl _), Bool.eq_iff_iff]
      simp
theorem delete_int (v : Value) (base : Nat) (L : List Int) (p : Int → Bool) (g : Nat) (lb : Array Value) (eg : ∀ args w, (callFunc g args).run Try.prog w = .ok (.enter g args) w) (w : World) (h : Lst w base 3 v (i64s L)) (h0 : 0 < L.length) (hl : L.length ≤ 1000000) (hb : base ≤ w.heap.size)
    (hp : ∀ (W : World) (x : Int), Below base w W → Calls Try.prog g (#[.int .i64 x] ++ lb) W fun e w' => e = .returned (.bool (p x)) ∧ w' = W) :
    Calls Try.prog 138 #[v, .func (.func g) #[] lb] w fun e w' => ∃ v', e = .returned v' ∧ Lst w' base 3 v' (i64s (L.filter fun x => !p x)) ∧ Below base w w' ∧ (∃ a c, v' = .slice a (L.filter fun x => !p x).length c ∧ L.length ≤ c) := by
  obtain ⟨gb, cap, cur, rfl, g1, g2, g3, g4, g5, g6⟩ := h.int h0
  have hg : gb < w.heap.size := (Array.getElem?_eq_some_iff.1 g2).1
  have := AnyE.slices_DeleteFunc delI (Value.int .i64) oneInt p g lb eg 0 (fun w => by first | exact Try.zeroValue3 w | rfl) gb 0 cap L.toArray w (fun W x hbw => (hp W x (hbw.mono hb)).mono (by rintro e w' ⟨rfl, rfl⟩; exact ⟨rfl, 0, rfl⟩)) (fun n os dk x hdk => (hp _ x (grown_below2 (grownBy_sortedI _) g1 hb)).mono (by rintro e w' ⟨rfl, rfl⟩; exact ⟨rfl, 0, rfl⟩)) (holds_of_blockI g2 g6) (by simp; omega) (by simpa using g3)
  rw [List.size_toArray] at this
  refine this.mono ?_
  simp only
  rintro e w' ⟨rfl, n, rfl⟩
  have hle : (L.filter fun x => !p x).length ≤ L.length := List.length_filter_le _ _
  refine ⟨_, rfl, ?_, ?_, _, _, rfl, g3⟩
  · have := Lst.wrote (os := #[]) (n := n) (d := (L.filter fun x => !p x) ++ List.replicate (L.length - (L.filter fun x => !p x).length) 0) (ts := L.filter fun x => !p x) g1 g2 (by simp; omega) g4 g5 (by simp)
    rw [grow_empty] at this
    exact this
  · have := grownBy_sortedI (w := w) (g := gb) (n := n) (os := #[]) ((L.filter fun x => !p x) ++ List.replicate (L.length - (L.filter fun x => !p x).length) 0).toArray
    rw [grow_empty] at this
    exact grown_below2 this g1 hb
theorem allEq_int (xs ys : List Int) : Lib.allEq (fun x y => decide (x = y)) xs ys = decide (xs = ys) := by
  induction xs generalizing ys with
  | nil => cases ys <;> simp [Lib.allEq]
  | cons x xs ih =>
    cases ys with
    | nil => simp [Lib.allEq]
    | cons y ys => simp [Lib.allEq, ih]
end Go.Proofs.Ytdpaofedepnnbaa
