/-
  A tape and its disk, with slices of the law's own beside: what each change leaves. No claim of their own.
-/
import Derived.Test.YtdiemejdbakffaaSame6
namespace Go.Proofs.Ytdiemejdbakffaa
open Go.RowKit Go.Deep Go.Shelf Go.Maps
set_option linter.unusedVariables false
set_option linter.unusedSimpArgs false

theorem Tz.fresh {w w1 : World} {N m : List Nat} {q p g b n : Nat} {S : TS} (t : Tz w w N q p g b n S) (hc : Chg m w w1) (hm : ∀ x ∈ m, x ∉ N ∧ x ≠ p) : Tz w1 w1 N q p g b n S := by
  obtain ⟨l, h⟩ := t
  have hs : ∀ x ∈ l ++ [g, b], x ∈ N := fun x hx => by
    rcases h.sub x hx with h1 | h1
    · exact h1
    · exfalso
      rcases List.mem_append.1 hx with hx | hx
      · have := h.td.lt x hx; omega
      · simp only [List.mem_cons, List.mem_nil_iff, or_false] at hx
        rcases hx with rfl | rfl
        · have := h.td.dsk.ltg; omega
        · have := h.td.dsk.ltb; omega
  exact ⟨l, h.td.chg hc (fun x hx => ⟨fun hl => (hm x hx).1 (hs x (List.mem_append.2 (.inl hl))), (hm x hx).2, fun e => (hm x hx).1 (by rw [e]; exact hs g (by simp)), fun e => (hm x hx).1 (by rw [e]; exact hs b (by simp))⟩), fun x hx => .inl (hs x hx), Chg.refl _ _⟩
theorem Tz.next {w w1 : World} {N : List Nat} {q p g b n : Nat} {S : TS} (t : Tz w w1 N q p g b n S) : ∃ N', Tz w1 w1 N' q p g b n S ∧ ∀ x ∈ N', (x ∈ N ∨ w.heap.size ≤ x) ∧ x < w1.heap.size := by
  obtain ⟨l, h⟩ := t
  refine ⟨l ++ [g, b], ⟨l, h.td, fun x hx => .inl hx, Chg.refl _ _⟩, fun x hx => ⟨h.sub x hx, ?_⟩⟩
  rcases List.mem_append.1 hx with hx | hx
  · exact h.td.lt x hx
  · simp only [List.mem_cons, List.mem_nil_iff, or_false] at hx
    rcases hx with rfl | rfl
    · exact h.td.dsk.ltg
    · exact h.td.dsk.ltb
/-- a tape, its disk, and a slice of slices that came in, of the law's own making: all seen from w0; the own blocks are from B0 on -/
structure Wn (w0 w : World) (B0 : Nat) (N : List Nat) (q p g b n : Nat) (S : TS) (v : Value) (ys : List SB) : Prop where
  tz : Tz w w N q p g b n S
  low : ∀ x ∈ N, w0.heap.size ≤ x ∧ x < w.heap.size
  chg : Chg [] w0 w
  lst : Lst w 0 35 v (ys.map SB.val)
  off : ∀ x ∈ bl v, x ∉ N ∧ B0 ≤ x
  pB : p < B0
  B0w : w0.heap.size ≤ B0 ∧ B0 ≤ w.heap.size
section
variable {w0 w w1 : World} {B0 : Nat} {N : List Nat} {q p g b n : Nat} {S : TS} {v : Value} {ys : List SB}
/-- blocks of the law's own, apart from the list, turn -/
theorem Wn.own (h : Wn w0 w B0 N q p g b n S v ys) {m : List Nat} (hc : Chg m w w1) (hm : ∀ x ∈ m, x ∉ N ∧ B0 ≤ x ∧ x ∉ bl v) : Wn w0 w1 B0 N q p g b n S v ys :=
  ⟨h.tz.fresh hc (fun x hx => ⟨(hm x hx).1, fun e => by have := h.pB; have := (hm x hx).2.1; omega⟩), fun x hx => ⟨(h.low x hx).1, Nat.lt_of_lt_of_le (h.low x hx).2 hc.size⟩,
    h.chg.then hc (fun x hx => .inr (by have := (hm x hx).2.1; have := h.B0w.1; omega)), h.lst.chg hc (fun g hg hx => (hm g hx).2.2 (mem_bl.2 hg)), h.off, h.pB, ⟨h.B0w.1, Nat.le_trans h.B0w.2 hc.size⟩⟩
theorem Wn.kept (h : Wn w0 w B0 N q p g b n S v ys) (hc : Chg [] w w1) : Wn w0 w1 B0 N q p g b n S v ys := h.own hc (by simp)
/-- a call of the tape's -/
theorem Wn.call (h : Wn w0 w B0 N q p g b n S v ys) {S' : TS} (t : Tz w w1 N q p g b n S') : ∃ N', Wn w0 w1 B0 N' q p g b n S' v ys ∧ (∀ x ∈ N', (x ∈ N ∨ w.heap.size ≤ x) ∧ x < w1.heap.size) ∧ Chg N w w1 := by
  obtain ⟨N', h1, h2⟩ := t.next
  refine ⟨N', ⟨h1, fun x hx => ⟨?_, (h2 x hx).2⟩, h.chg.then t.chg (fun x hx => .inr (h.low x hx).1), h.lst.chg t.chg (fun g hg => (h.off g (mem_bl.2 hg)).1), fun x hx => ⟨fun hn => ?_, (h.off x hx).2⟩, h.pB, ⟨h.B0w.1, Nat.le_trans h.B0w.2 t.chg.size⟩⟩, h2, t.chg⟩
  · rcases (h2 x hx).1 with h3 | h3
    · exact (h.low x h3).1
    · exact Nat.le_trans (Nat.le_trans h.B0w.1 h.B0w.2) h3
  · rcases (h2 x hn).1 with h3 | h3
    · exact (h.off x hx).1 h3
    · have := h.lst.bl_lt x hx; omega
/-- one more in the list -/
theorem Wn.more (h : Wn w0 w B0 N q p g b n S v ys) {v' : Value} {x : SB} (k : AppK w w1 35 v v' (ys.map SB.val) [x.val]) : Wn w0 w1 B0 N q p g b n S v' (ys ++ [x]) := by
  have hc := k.chg
  refine ⟨h.tz.fresh hc (fun x hx => ⟨(h.off x hx).1, fun e => by have := h.pB; have := (h.off x hx).2; omega⟩), fun x hx => ⟨(h.low x hx).1, Nat.lt_of_lt_of_le (h.low x hx).2 hc.size⟩,
    h.chg.then hc (fun x hx => .inr (by have := (h.off x hx).2; have := h.B0w.1; omega)), by rw [List.map_append]; exact k.lst, fun x hx => ?_, h.pB, ⟨h.B0w.1, Nat.le_trans h.B0w.2 hc.size⟩⟩
  rcases k.bl x hx with h1 | h1
  · exact h.off x h1
  · exact ⟨fun hn => by have := (h.low x hn).2; omega, by have := h.B0w.2; omega⟩
/-- the list reads as ys -/
theorem Wn.rom (h : Wn w0 w B0 N q p g b n S v ys) {a : Option Addr} {xs : List SB} (hx : RoM w0 a xs) (hy : ∀ y ∈ ys, y ∈ xs) (hl : ys.length ≤ 9223372036854775807) : ∃ a1 c1, v = .slice a1 ys.length c1 ∧ RoM w a1 ys := by
  obtain ⟨a1, c1, h1, h2, _⟩ := h.lst.form
  rw [List.length_map] at h1
  exact ⟨a1, c1, h1, h2, fun y hm => ((hx.el y (hy y hm)).chgs h.chg (by simp)).mono h.chg.size, hl, fun y hm => hx.lens y (hy y hm)⟩
end
end Go.Proofs.Ytdiemejdbakffaa
