/-
  What an act, a slice of slices of bytes, and two such ones, that came in are. Plain lemmas, no claim of their own.
-/
import Derived.Test.YtdiemejdbakffaaArgs
import Derived.Test.YtdiemejdbakffaaAlv6
import Derived.Deep.Grids
import Derived.Deep.Fields
import Derived.Lib.SmallJoins
namespace Go.Proofs.Ytdiemejdbakffaa
open Go.RowKit Go.ChangeShapes Go.WideShapes Go.Deep
set_option linter.unusedVariables false
set_option linter.unusedSimpArgs false

/-- a slice of slices of bytes that came in -/
structure RoM (w : World) (a : Option Addr) (xs : List SB) : Prop where
  row : Ro w w.heap.size a (xs.map SB.val)
  el : ∀ x ∈ xs, Ro w w.heap.size x.a (u8s x.bs)
  len : xs.length ≤ 9223372036854775807
  lens : ∀ x ∈ xs, x.bs.length ≤ 9223372036854775807
theorem RoM.rol {w : World} {a : Option Addr} {xs : List SB} (h : RoM w a xs) (hl : ∀ x ∈ xs, x.bs.length ≤ 140737488355328) : RoL w w.heap.size a xs := ⟨h.row, fun x hx => ⟨h.el x hx, hl x hx⟩⟩
theorem RoM.nil (w : World) (a : Option Addr) : RoM w a [] := ⟨Ro.nil _ _ _, by simp, by simp, by simp⟩
section
variable {H : Type} {enc : TypeId × Value → H} {w : World} {base : Nat} {held : Bool}
theorem row_u8 {n : Nat} {v : Value} {y : DataW H × List MemPlace} (h : DataW.trod enc Try.prog w base (fun _ => true) held n 35 [v] = some y) :
    ∃ (a : Option Addr) (bs : List UInt8) (c : Nat), v = .slice a bs.length c ∧ Ro w w.heap.size a (u8s bs) ∧ bs.length ≤ 9223372036854775807 := by
  have hrow : ∃ a l c zs, v = .slice a l c ∧ IsRow .u8 w a l c zs := by
    rcases open_ints Try.underlying35 Try.underlying5 (by kernel_rfl) h with ⟨hc, _⟩ | ⟨a, l, c, zs, hc, _, hl, hm, hz, _, hcell, hwz⟩
    · exact ⟨none, 0, 0, [], by simpa using hc, .inl ⟨rfl, rfl, rfl, rfl⟩⟩
    · exact ⟨some a, l, c, zs, by simpa using hc, .inr ⟨a, rfl, hl, hm, by simpa using hz, hcell, hwz⟩⟩
  obtain ⟨a, l, c, zs, rfl, hr⟩ := hrow
  obtain ⟨bs, h1, h2, h3, h4⟩ := hr.u8s
  have := hr.len_le
  exact ⟨a, bs, c, by rw [h1], h4, by omega⟩
theorem row_bl {n : Nat} {v : Value} {y : DataW H × List MemPlace} (h : DataW.trod enc Try.prog w base (fun _ => true) held n 24 [v] = some y) :
    ∃ (a : Option Addr) (ks : List Bool) (c : Nat), v = .slice a ks.length c ∧ Ro w w.heap.size a (bls ks) ∧ ks.length ≤ 9223372036854775807 := by
  rcases open_bools Try.underlying24 Try.underlying4 (by kernel_rfl) h with ⟨hc, _⟩ | ⟨a, l, c, B, hc, _, hl, hm, _, hcell⟩
  · exact ⟨none, [], 0, by simpa using hc, Ro.nil _ _ _, by simp⟩
  · refine ⟨some a, (List.range l).map B, c, by simpa using hc, ?_, by simp; unfold maxLen at hm; omega⟩
    rcases Nat.eq_zero_or_pos l with h0 | h0
    · subst h0; exact .inl (by simp [bls])
    · obtain ⟨b, off, spot⟩ := a
      have hc0 := hcell 0 (by omega)
      have hspot : spot = none := by simpa [Addr.add] using World.cell?_spot hc0
      subst hspot
      have hb := World.block_lt_of_cell? w _ hc0
      refine .inr ⟨b, off, rfl, by simpa [add_off] using hb, fun i hi => ?_⟩
      have hil : i < l := by simpa using hi
      have := hcell i (by omega)
      rw [add_off] at this
      rw [this]
      simp [bls, List.getD, hil]
theorem row_rows {n : Nat} {v : Value} {y : DataW H × List MemPlace} (h : DataW.trod enc Try.prog w base (fun _ => true) held n 22 [v] = some y) :
    ∃ (a : Option Addr) (xs : List SB) (c : Nat), v = .slice a xs.length c ∧ RoM w a xs := by
  rcases open_slice Try.underlying22 h with ⟨hc, _⟩ | ⟨a, len, cap, m, k, D, Pl, hc, _, hl, hm, hmm, _, hi⟩
  · exact ⟨none, [], 0, by simpa using hc, RoM.nil _ _⟩
  · have hc4 : Try.prog.cellsOf 35 = 1 := by kernel_rfl
    simp only [if_true] at hmm
    subst hmm
    have hall : ∀ i, i < m → ∃ x : SB, Ro w w.heap.size x.a (u8s x.bs) ∧ x.bs.length ≤ 9223372036854775807 ∧ w.cell? (a.add i) = some x.val := by
      intro i him
      obtain ⟨cs, h1, h2⟩ := hi i him
      rw [hc4] at h1
      obtain ⟨h0, _, h3⟩ := World.cells?_some h1
      match cs, h0 with
      | [v], _ =>
        obtain ⟨xa, bs, xc, rfl, hr, hlb⟩ := row_u8 h2
        refine ⟨⟨xa, bs, xc⟩, hr, hlb, ?_⟩
        have := h3 0 (by omega)
        simpa [Addr.add, SB.val] using this
    have dS : SB := ⟨none, [], 0⟩
    have hf : ∃ f : Nat → SB, ∀ i, i < m → Ro w w.heap.size (f i).a (u8s (f i).bs) ∧ (f i).bs.length ≤ 9223372036854775807 ∧ w.cell? (a.add i) = some (f i).val :=
      ⟨fun i => if hi : i < m then Classical.choose (hall i hi) else dS, fun i him => by
        have := Classical.choose_spec (hall i him)
        dsimp only
        rw [dif_pos him]
        exact this⟩
    obtain ⟨f, hf⟩ := hf
    refine ⟨some a, (List.range len).map f, m, by simpa using hc, ?_, ?_, by simp; unfold maxLen at hm; omega, ?_⟩
    · rcases Nat.eq_zero_or_pos len with h0 | h0
      · subst h0; exact .inl (by simp)
      · obtain ⟨b, off, spot⟩ := a
        have hc0 := (hf 0 (by omega)).2.2
        have hspot : spot = none := by simpa [Addr.add] using World.cell?_spot hc0
        subst hspot
        have hb := World.block_lt_of_cell? w _ hc0
        refine .inr ⟨b, off, rfl, by simpa [add_off] using hb, fun i hi => ?_⟩
        have hil : i < len := by simpa using hi
        have := (hf i (by omega)).2.2
        rw [add_off] at this
        rw [this]
        simp [List.getD, hil]
    · intro x hx
      obtain ⟨i, hi1, rfl⟩ := List.mem_map.1 hx
      exact (hf i (by have := List.mem_range.1 hi1; omega)).1
    · intro x hx
      obtain ⟨i, hi1, rfl⟩ := List.mem_map.1 hx
      exact (hf i (by have := List.mem_range.1 hi1; omega)).2.1
/-- an act -/
structure ActT where
  kd : Int
  i : Int
  ab : Option Addr
  bs : List UInt8
  cb : Nat
  al : Option Addr
  xs : List SB
  cl : Nat
  ak : Option Addr
  ks : List Bool
  ck : Nat
/-- its ranges, and the rows that it leads to -/
structure ActOk (w : World) (A : ActT) : Prop where
  kd : -9223372036854775808 ≤ A.kd ∧ A.kd ≤ 9223372036854775807
  i : -9223372036854775808 ≤ A.i ∧ A.i ≤ 9223372036854775807
  ab : Ro w w.heap.size A.ab (u8s A.bs)
  bs : A.bs.length ≤ 9223372036854775807
  al : RoM w A.al A.xs
  ak : Ro w w.heap.size A.ak (bls A.ks)
  ks : A.ks.length ≤ 9223372036854775807
def ActT.cells (A : ActT) : List Value := [.int .i64 A.kd, .int .i64 A.i, .slice A.ab A.bs.length A.cb, .slice A.al A.xs.length A.cl, .slice A.ak A.ks.length A.ck]
set_option maxRecDepth 100000 in
theorem trod_act {n : Nat} {cs : List Value} {y : DataW H × List MemPlace} (h : DataW.trod enc Try.prog w base (fun _ => true) held n 40 cs = some y) :
    ∃ A : ActT, cs = A.cells ∧ ActOk w A := by
  obtain ⟨xs, m, _, _, hlen, hxl, hf⟩ := DataW.trod_struct Try.underlying40 h
  have hc4 : cs.length = 5 := hlen.trans (by kernel_rfl)
  match cs, hc4, xs, hxl with
  | [c0, c1, c2, c3, c4], _, [x0, x1, x2, x3, x4], _ =>
    have g0 : DataW.trod enc Try.prog w base (fun _ => true) held m 3 (([c0, c1, c2, c3, c4].drop 0).take (Try.prog.cellsOf 3)) = some x0 := hf 0 _ rfl
    have g1 : DataW.trod enc Try.prog w base (fun _ => true) held m 3 (([c0, c1, c2, c3, c4].drop 1).take (Try.prog.cellsOf 3)) = some x1 := hf 1 _ rfl
    have g2 : DataW.trod enc Try.prog w base (fun _ => true) held m 35 (([c0, c1, c2, c3, c4].drop 2).take (Try.prog.cellsOf 35)) = some x2 := hf 2 _ rfl
    have g3 : DataW.trod enc Try.prog w base (fun _ => true) held m 22 (([c0, c1, c2, c3, c4].drop 3).take (Try.prog.cellsOf 22)) = some x3 := hf 3 _ rfl
    have g4 : DataW.trod enc Try.prog w base (fun _ => true) held m 24 (([c0, c1, c2, c3, c4].drop 4).take (Try.prog.cellsOf 24)) = some x4 := hf 4 _ rfl
    rw [show Try.prog.cellsOf 3 = 1 by kernel_rfl] at g0 g1
    rw [show Try.prog.cellsOf 35 = 1 by kernel_rfl] at g2
    rw [show Try.prog.cellsOf 22 = 1 by kernel_rfl] at g3
    rw [show Try.prog.cellsOf 24 = 1 by kernel_rfl] at g4
    simp only [List.drop_zero, List.drop_succ_cons, List.take_succ_cons, List.take_zero] at g0 g1 g2 g3 g4
    obtain ⟨kd, e0, _, hw0⟩ := DataW.trod_int Try.underlying3 g0
    obtain ⟨i, e1, _, hw1⟩ := DataW.trod_int Try.underlying3 g1
    obtain ⟨ab, bs, cb, e2, h2, h2'⟩ := row_u8 g2
    obtain ⟨al, ls, cl, e3, h3⟩ := row_rows g3
    obtain ⟨ak, ks, ck, e4, h4, h4'⟩ := row_bl g4
    simp only [List.cons.injEq, and_true] at e0 e1
    subst e0 e1 e2 e3 e4
    exact ⟨⟨kd, i, ab, bs, cb, al, ls, cl, ak, ks, ck⟩, rfl, ⟨bounds_i64 hw0, bounds_i64 hw1, h2, h2', h3, h4, h4'⟩⟩
set_option maxRecDepth 100000 in
theorem open_actV {r : Reach} {b0 : Nat} {v : Value} {d : DataW H} {p : List MemPlace} (hv : Value.okWide Try.prog w r b0 40 v) (h : DataW.Trod enc Try.prog w base (fun _ => true) held 40 v d p) :
    ∃ A : ActT, v = .agg A.cells.toArray ∧ ActOk w A := by
  obtain ⟨cs, rfl, hsz⟩ := okWide_struct Try.underlying40 hv
  obtain ⟨fuel, hf⟩ := h
  obtain ⟨A, hA, hok⟩ := trod_act hf
  refine ⟨A, ?_, hok⟩
  congr 1
  apply Array.ext'
  exact hA
set_option maxRecDepth 100000 in
theorem open_rowsV {r : Reach} {b0 : Nat} {v : Value} {d : DataW H} {p : List MemPlace} (hv : Value.okWide Try.prog w r b0 22 v) (h : DataW.Trod enc Try.prog w base (fun _ => true) held 22 v d p) :
    ∃ (a : Option Addr) (xs : List SB) (c : Nat), v = .slice a xs.length c ∧ RoM w a xs := by
  obtain ⟨a, l, c, rfl⟩ := okWide_slice Try.underlying22 hv
  obtain ⟨fuel, hf⟩ := h
  exact row_rows hf
set_option maxRecDepth 100000 in
theorem open_rows2 {r : Reach} {b0 : Nat} {v : Value} {d : DataW H} {p : List MemPlace} (hv : Value.okWide Try.prog w r b0 23 v) (h : DataW.Trod enc Try.prog w base (fun _ => true) held 23 v d p) :
    ∃ (a0 : Option Addr) (x0 : List SB) (c0 : Nat) (a1 : Option Addr) (x1 : List SB) (c1 : Nat), v = .agg #[.slice a0 x0.length c0, .slice a1 x1.length c1] ∧ RoM w a0 x0 ∧ RoM w a1 x1 := by
  have ht := Try.underlying23
  have hcs : Try.prog.cellsOf 22 = 1 := by kernel_rfl
  obtain ⟨cs, rfl, hsz⟩ : ∃ cs, v = .agg cs ∧ cs.size = Try.prog.cellsOf 23 := by
    simp only [Value.okWide, ht] at hv
    obtain ⟨cs, h1, h2, _⟩ := hv
    exact ⟨cs, h1, h2⟩
  have h2 : cs.toList.length = 2 := by rw [Array.length_toList, hsz]; kernel_rfl
  obtain ⟨fuel, hf⟩ := h
  obtain ⟨xs, m, _, _, _, hl, hi⟩ := DataW.trod_array ht hf
  obtain ⟨l⟩ := cs
  match l, h2, xs, hl with
  | [x, y], _, [u, v], _ =>
    have g0 := hi 0 (by omega)
    have g1 := hi 1 (by omega)
    rw [hcs] at g0 g1
    simp only [Value.cells, Nat.zero_mul, Nat.one_mul, List.drop_zero, List.drop_succ_cons, List.take_succ_cons, List.take_zero, List.getElem?_cons_zero, List.getElem?_cons_succ] at g0 g1
    obtain ⟨a0, x0, c0, rfl, h0⟩ := row_rows g0
    obtain ⟨a1, x1, c1, rfl, h1⟩ := row_rows g1
    exact ⟨a0, x0, c0, a1, x1, c1, rfl, h0, h1⟩
end
end Go.Proofs.Ytdiemejdbakffaa
