/-
  A row of bytes of the law's own beside a tape. No claim of their own.
-/
import Derived.Test.YtdiemejdbakffaaStB
namespace Go.Proofs.Ytdiemejdbakffaa
open Go.RowKit Go.Deep Go.Shelf Go.Maps
set_option linter.unusedVariables false
set_option linter.unusedSimpArgs false

/-- a row of L bytes that may be written: apart from the tape's blocks and the list's -/
def RowW (w : World) (B0 : Nat) (N : List Nat) (v : Value) (a : Option Addr) (L : Nat) : Prop :=
  L = 0 ∨ ∃ g cs, a = some ⟨g, 0, none⟩ ∧ Own w g 5 cs ∧ L ≤ cs.length ∧ g ∉ N ∧ B0 ≤ g ∧ g ∉ bl v
theorem RowW.of {w : World} {B0 : Nat} {N : List Nat} {v : Value} {a : Option Addr} {c : Nat} {r : Rec} (h : Lst w 0 5 (.slice a r.length c) (u8s r)) (hx : ∀ x ∈ bl (.slice a r.length c), x ∉ N ∧ B0 ≤ x ∧ x ∉ bl v) : RowW w B0 N v a r.length := by
  rcases h.2 with ⟨h0, h1⟩ | ⟨g, cap, cur, h0, hb, hg, hnc, hcm, hcs, htake⟩
  · left; rw [u8s_length] at h1; exact h1
  · injection h0 with h1 h2 h3
    subst h1 h3
    have := hx g (mem_bl.2 rfl)
    refine .inr ⟨g, cur.toList, rfl, ?_, ?_, this⟩
    · unfold Own; rw [Array.toArray_toList]; exact hg
    · have h8 := u8s_length r
      have h9 : cur.toList.length = cur.size := Array.length_toList
      omega
theorem RowW.at_ {w : World} {B0 : Nat} {N : List Nat} {v : Value} {a : Option Addr} {L : Nat} (h : RowW w B0 N v a L) {j : Nat} (hj : j < L) : ∃ g u, a = some ⟨g, 0, none⟩ ∧ w.cell? ⟨g, j, none⟩ = some u ∧ w.frozen? ⟨g, j, none⟩ = false ∧ (g ∉ N ∧ B0 ≤ g ∧ g ∉ bl v) ∧ ∀ x, RowW (w.setCell ⟨g, j, none⟩ x) B0 N v a L := by
  rcases h with h | ⟨g, cs, rfl, ho, hl, h1, h2, h3⟩
  · omega
  · have hc := ho.cell j
    rw [List.getElem?_eq_getElem (by omega)] at hc
    exact ⟨g, _, rfl, hc, ho.frozen j, ⟨h1, h2, h3⟩, fun x => .inr ⟨g, _, rfl, ho.set j x, by rw [List.length_set]; exact hl, h1, h2, h3⟩⟩
section
variable {w0 w w1 : World} {B0 : Nat} {N : List Nat} {q p g b n : Nat} {S : TS} {v : Value} {ys : List SB}
/-- the row is made -/
theorem Wn.row (h : Wn w0 w B0 N q p g b n S v ys) {v4 : Value} {r : Rec} (k : AppK (w.alloc (.cells #[] 5)) w1 5 (.slice (some ⟨w.heap.size, 0, none⟩) 0 0) v4 [] (u8s r)) :
    Wn w0 w1 B0 N q p g b n S v ys ∧ (∃ a4 c4, v4 = .slice a4 r.length c4 ∧ Lst w1 0 5 (.slice a4 r.length c4) (u8s r)) ∧ ∀ x ∈ bl v4, x ∉ N ∧ B0 ≤ x ∧ x ∉ bl v := by
  have hc : Chg [] w w1 := ((Chg.refl [] w).alloc _).then k.chg (fun x hx => .inr (by rw [mem_bl] at hx; simp only [Value.ownBlock, Option.some.injEq] at hx; omega))
  have hl : Lst w1 0 5 v4 (u8s r) := k.lst
  refine ⟨h.kept hc, ?_, fun x hx => ?_⟩
  · obtain ⟨a4, c4, rfl⟩ := hl.sl8
    exact ⟨a4, c4, rfl, hl⟩
  · have hge : w.heap.size ≤ x := by
      rcases k.bl x hx with h1 | h1
      · rw [mem_bl] at h1; simp only [Value.ownBlock, Option.some.injEq] at h1; omega
      · rw [World.size_alloc] at h1; omega
    exact ⟨fun hn => by have := (h.low x hn).2; omega, by have := h.B0w.2; omega, fun hv => by have := h.lst.bl_lt x hv; omega⟩
/-- it is appended to the tape -/
theorem Wn.append (h : Wn w0 w B0 N q p g b n S v ys) (a : Option Addr) (c : Nat) (r : Rec) (hl : Lst w 0 5 (.slice a r.length c) (u8s r)) (hx : ∀ x ∈ bl (.slice a r.length c), x ∉ N ∧ B0 ≤ x ∧ x ∉ bl v) :
    Calls Try.prog 11 #[.pointer (some ⟨q, 0, none⟩), .slice a r.length c] w fun e w' => e = .returned (.int .i64 ((appE n S.k S.h S.h' S.L S.L' r : Nat) : Int)) ∧ ∃ N', Hid (Wn w0 w' B0 N' q p g b n (appS n S r) v ys) ∧ Hid (Lst w' 0 5 (.slice a r.length c) (u8s r)) ∧ Hid (∀ x ∈ bl (.slice a r.length c), x ∉ N' ∧ B0 ≤ x ∧ x ∉ bl v) := by
  obtain ⟨a1, c1, h1, hro, _⟩ := hl.form
  injection h1 with h2 h3 h4
  subst h2
  refine (append_Z h.tz a r c hro (fun hr x hax => ?_)).mono fun e w' hh => ?_
  · subst hax
    rcases hl.2 with ⟨h0, _⟩ | ⟨g1, cap, cur, h0, _⟩
    · cases h0
    · injection h0 with h0
      injection h0 with h0
      subst h0
      exact (hx g1 (mem_bl.2 rfl)).1
  · obtain ⟨N', h5, h6, h7⟩ := h.call hh.2.out
    refine ⟨hh.1, N', Lib.hid h5, Lib.hid (hl.chg h7 (fun x hx2 => (hx x (mem_bl.2 hx2)).1)), Lib.hid fun x hx2 => ⟨fun hn => ?_, (hx x hx2).2⟩⟩
    rcases (h6 x hn).1 with h8 | h8
    · exact (hx x hx2).1 h8
    · have := hl.bl_lt x hx2; omega
/-- behind one more in the list the row is still apart -/
theorem Wn.moreRow {v' : Value} {x : SB} {a : Option Addr} {c : Nat} {r : Rec} (h : Wn w0 w B0 N q p g b n S v ys) (k : AppK w w1 35 v v' (ys.map SB.val) [x.val]) (hl : Lst w 0 5 (.slice a r.length c) (u8s r)) (hx : ∀ x ∈ bl (.slice a r.length c), x ∉ N ∧ B0 ≤ x ∧ x ∉ bl v) :
    Wn w0 w1 B0 N q p g b n S v' (ys ++ [x]) ∧ RowW w1 B0 N v' a r.length := by
  refine ⟨h.more k, RowW.of (c := c) (hl.chg k.chg (fun g hg => hl.off h.lst (Ne.symm ne_sl_u8) g hg)) fun y hy => ⟨(hx y hy).1, (hx y hy).2.1, fun hv => ?_⟩⟩
  rcases k.bl y hv with h1 | h1
  · exact (hx y hy).2.2 h1
  · have := hl.bl_lt y hy; omega
/-- a byte is written -/
theorem Wn.poke (h : Wn w0 w B0 N q p g b n S v ys) {i j : Nat} (hi : i ∉ N ∧ B0 ≤ i ∧ i ∉ bl v) (x : Value) : Wn w0 (w.setCell ⟨i, j, none⟩ x) B0 N q p g b n S v ys :=
  h.own (m := [i]) ((Chg.refl _ _).setCell (by simp) _) (by simpa using hi)
end
end Go.Proofs.Ytdiemejdbakffaa
