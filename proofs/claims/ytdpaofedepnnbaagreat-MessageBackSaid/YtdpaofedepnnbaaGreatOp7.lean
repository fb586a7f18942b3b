/-
  What a cell that came in is. Plain lemmas, no claim of their own.
-/
import Derived.Test.YtdpaofedepnnbaaGreatArgs
import Derived.Test.YtdpaofedepnnbaaGreatCe
import Derived.Deep.Grids
import Derived.Deep.Fields
import Derived.Lib.SmallJoins
namespace Go.Proofs.YtdpaofedepnnbaaGreat
open Go.RowKit Go.ChangeShapes Go.WideShapes Go.Deep
set_option linter.unusedVariables false
set_option linter.unusedSimpArgs false

section
variable {H : Type} {enc : TypeId × Value → H} {w : World} {base : Nat} {held : Bool}
theorem row_u8 {n : Nat} {v : Value} {y : DataW H × List MemPlace} (h : DataW.trod enc Tryz.prog w base (fun _ => true) held n 29 [v] = some y) :
    ∃ (a : Option Addr) (bs : List UInt8) (c : Nat), v = .slice a bs.length c ∧ Ro w w.heap.size a (u8s bs) ∧ bs.length ≤ c ∧ c ≤ 9223372036854775807 := by
  have hrow : ∃ a l c zs, v = .slice a l c ∧ IsRow .u8 w a l c zs := by
    rcases open_ints Tryz.underlying29 Tryz.underlying5 (by kernel_rfl) h with ⟨hc, _⟩ | ⟨a, l, c, zs, hc, _, hl, hm, hz, _, hcell, hwz⟩
    · exact ⟨none, 0, 0, [], by simpa using hc, .inl ⟨rfl, rfl, rfl, rfl⟩⟩
    · exact ⟨some a, l, c, zs, by simpa using hc, .inr ⟨a, rfl, hl, hm, by simpa using hz, hcell, hwz⟩⟩
  obtain ⟨a, l, c, zs, rfl, hr⟩ := hrow
  obtain ⟨bs, h1, h2, h3, h4⟩ := hr.u8s
  have := hr.cap_le
  exact ⟨a, bs, c, by rw [h1], h4, by omega, by omega⟩
set_option maxRecDepth 100000 in
theorem trod_back {n : Nat} {cs : List Value} {y : DataW H × List MemPlace} (h : DataW.trod enc Tryz.prog w base (fun _ => true) held n 70 cs = some y) :
    ∃ b : Bk, cs = [.int .i64 b.1, .int .u64 (b.2.1 : Int), .int .u64 (b.2.2 : Int)] ∧ FitB b := by
  obtain ⟨xs, m, _, _, hlen, hxl, hf⟩ := DataW.trod_struct Tryz.underlying70 h
  have hc3 : cs.length = 3 := hlen.trans (by kernel_rfl)
  match cs, hc3, xs, hxl with
  | [c0, c1, c2], _, [x0, x1], _ =>
    have g0 : DataW.trod enc Tryz.prog w base (fun _ => true) held m 3 (([c0, c1, c2].drop 0).take (Tryz.prog.cellsOf 3)) = some x0 := hf 0 _ rfl
    have g1 : DataW.trod enc Tryz.prog w base (fun _ => true) held m 68 (([c0, c1, c2].drop 1).take (Tryz.prog.cellsOf 68)) = some x1 := hf 1 _ rfl
    rw [show Tryz.prog.cellsOf 3 = 1 by kernel_rfl] at g0
    rw [show Tryz.prog.cellsOf 68 = 2 by kernel_rfl] at g1
    simp only [List.drop_zero, List.drop_succ_cons, List.take_succ_cons, List.take_zero] at g0 g1
    obtain ⟨s, e0, _, hw0⟩ := DataW.trod_int Tryz.underlying3 g0
    have hu : Tryz.prog.underlying 68 = some (.array 2 26) := by kernel_rfl
    obtain ⟨ys, m2, _, _, _, hl, hi⟩ := DataW.trod_array hu g1
    have hce : Tryz.prog.cellsOf 26 = 1 := by kernel_rfl
    have i0 := hi 0 (by omega)
    have i1 := hi 1 (by omega)
    rw [hce, Nat.mul_one, List.getElem?_eq_getElem (by omega)] at i0 i1
    simp only [List.drop_zero, List.drop_succ_cons, List.take_succ_cons, List.take_zero] at i0 i1
    obtain ⟨p, e1, _, hw1⟩ := DataW.trod_int Tryz.underlying26 i0
    obtain ⟨q, e2, _, hw2⟩ := DataW.trod_int Tryz.underlying26 i1
    simp only [List.cons.injEq, and_true] at e0 e1 e2
    subst e0 e1 e2
    have h0 := bounds_i64 hw0
    have h1 := bounds_u64 hw1
    have h2 := bounds_u64 hw2
    refine ⟨(s, p.toNat, q.toNat), ?_, ⟨h0.1, h0.2, ?_, ?_⟩⟩
    · simp only
      rw [show ((p.toNat : Nat) : Int) = p by omega, show ((q.toNat : Nat) : Int) = q by omega]
    · show p.toNat ≤ _; omega
    · show q.toNat ≤ _; omega
set_option maxRecDepth 100000 in
theorem row_backs {n : Nat} {v : Value} {y : DataW H × List MemPlace} (h : DataW.trod enc Tryz.prog w base (fun _ => true) held n 30 [v] = some y) :
    ∃ (a : Option Addr) (L : List Bk) (c : Nat), v = .slice a L.length c ∧ Ro w w.heap.size a (bcs L) ∧ (∀ b ∈ L, FitB b) ∧ L.length ≤ 9223372036854775807 := by
  rcases open_slice Tryz.underlying30 h with ⟨hc, _⟩ | ⟨a, len, cap, m, k, D, Pl, hc, _, hl, hm, hmm, _, hi⟩
  · exact ⟨none, [], 0, by simpa using hc, Ro.nil _ _ _, by simp, by simp⟩
  · have hc2 : Tryz.prog.cellsOf 70 = 3 := by kernel_rfl
    simp only [if_true] at hmm
    subst hmm
    have hall : ∀ i, i < m → ∃ b : Bk, FitB b ∧ w.cell? (a.add (i * 3)) = some (.int .i64 b.1) ∧ w.cell? ((a.add (i * 3)).add 1) = some (.int .u64 (b.2.1 : Int)) ∧ w.cell? ((a.add (i * 3)).add 2) = some (.int .u64 (b.2.2 : Int)) := by
      intro i him
      obtain ⟨cs, h1, h2⟩ := hi i him
      rw [hc2] at h1
      obtain ⟨_, _, h3⟩ := World.cells?_some h1
      obtain ⟨r, rfl, hr⟩ := trod_back h2
      refine ⟨r, hr, ?_, h3 1 (by omega), h3 2 (by omega)⟩
      have := h3 0 (by omega)
      simpa [Addr.add] using this
    obtain ⟨A, hA⟩ : ∃ A : Nat → Bk, ∀ i, i < m → FitB (A i) ∧ w.cell? (a.add (i * 3)) = some (.int .i64 (A i).1) ∧ w.cell? ((a.add (i * 3)).add 1) = some (.int .u64 ((A i).2.1 : Int)) ∧ w.cell? ((a.add (i * 3)).add 2) = some (.int .u64 ((A i).2.2 : Int)) :=
      ⟨fun i => if hi : i < m then Classical.choose (hall i hi) else (0, 0, 0), fun i him => by
        have := Classical.choose_spec (hall i him)
        dsimp only
        rw [dif_pos him]
        exact this⟩
    refine ⟨some a, (List.range len).map A, m, by simpa using hc, ?_, fun r hr => ?_, by simp; unfold maxLen at hm; omega⟩
    · rcases Nat.eq_zero_or_pos len with h0 | h0
      · subst h0; exact .inl rfl
      · obtain ⟨b, off, spot⟩ := a
        have hc0 := (hA 0 (by omega)).2.1
        have hspot : spot = none := by simpa [Addr.add] using World.cell?_spot hc0
        subst hspot
        have hb := World.block_lt_of_cell? w _ hc0
        refine .inr ⟨b, off, rfl, by simpa [add_off] using hb, fun i hi => ?_⟩
        rw [bcs_length, List.length_map, List.length_range] at hi
        have hel : ∀ t, t < len → bk ((List.range len).map A) t = A t := fun t ht => by simp [bk, List.getD, ht]
        have hi2 : i / 3 < len := by omega
        obtain ⟨_, g1, g2, g3⟩ := hA (i / 3) (by omega)
        have e := bcs_bk (L := (List.range len).map A) (i := i / 3) (by simpa using hi2)
        rw [hel _ hi2] at e
        have hp : i % 3 = 0 ∨ i % 3 = 1 ∨ i % 3 = 2 := by omega
        rcases hp with hp | hp | hp
        · have ei : i = i / 3 * 3 := by omega
          rw [ei, e.1]
          rw [add_off] at g1
          exact g1
        · have ei : i = i / 3 * 3 + 1 := by omega
          rw [ei, e.2.1]
          rw [add_off, add_off] at g2
          exact g2
        · have ei : i = i / 3 * 3 + 2 := by omega
          rw [ei, e.2.2]
          rw [add_off, add_off] at g3
          exact g3
    · rw [List.mem_map] at hr
      obtain ⟨i, hi, rfl⟩ := hr
      exact (hA i (by have := List.mem_range.1 hi; omega)).1
/-- a cell that came in: where its parts lie -/
structure CeT where
  x : Ce
  a : Option Addr
  c : Nat
  a2 : Option Addr
  c2 : Nat
/-- its ranges, and its rows -/
structure CeOk (w : World) (A : CeT) : Prop where
  k : -9223372036854775808 ≤ A.x.k ∧ A.x.k ≤ 9223372036854775807
  d : Ro w w.heap.size A.a (u8s A.x.d)
  dl : A.x.d.length ≤ 9223372036854775807
  b : Ro w w.heap.size A.a2 (bcs A.x.b)
  bl : A.x.b.length ≤ 9223372036854775807
  fit : ∀ b ∈ A.x.b, FitB b
def CeT.val (A : CeT) : Value := cev A.x.k A.a A.x.d.length A.c A.a2 A.x.b.length A.c2
set_option maxRecDepth 100000 in
theorem trod_cell {n : Nat} {cs : List Value} {y : DataW H × List MemPlace} (h : DataW.trod enc Tryz.prog w base (fun _ => true) held n 32 cs = some y) :
    ∃ A : CeT, cs = [.int .i64 A.x.k, .slice A.a A.x.d.length A.c, .slice A.a2 A.x.b.length A.c2] ∧ CeOk w A := by
  obtain ⟨xs, m, _, _, hlen, hxl, hf⟩ := DataW.trod_struct Tryz.underlying32 h
  have hc3 : cs.length = 3 := hlen.trans (by kernel_rfl)
  match cs, hc3, xs, hxl with
  | [c0, c1, c2], _, [x0, x1, x2], _ =>
    have g0 : DataW.trod enc Tryz.prog w base (fun _ => true) held m 28 (([c0, c1, c2].drop 0).take (Tryz.prog.cellsOf 28)) = some x0 := hf 0 _ rfl
    have g1 : DataW.trod enc Tryz.prog w base (fun _ => true) held m 29 (([c0, c1, c2].drop 1).take (Tryz.prog.cellsOf 29)) = some x1 := hf 1 _ rfl
    have g2 : DataW.trod enc Tryz.prog w base (fun _ => true) held m 30 (([c0, c1, c2].drop 2).take (Tryz.prog.cellsOf 30)) = some x2 := hf 2 _ rfl
    rw [show Tryz.prog.cellsOf 28 = 1 by kernel_rfl] at g0
    rw [show Tryz.prog.cellsOf 29 = 1 by kernel_rfl] at g1
    rw [show Tryz.prog.cellsOf 30 = 1 by kernel_rfl] at g2
    simp only [List.drop_zero, List.drop_succ_cons, List.take_succ_cons, List.take_zero] at g0 g1 g2
    obtain ⟨k, e0, _, hw0⟩ := DataW.trod_int Tryz.underlying28 g0
    obtain ⟨a, bs, c, e1, h1, h1', h1''⟩ := row_u8 g1
    obtain ⟨a2, L, c2', e2, h2, h2', h2''⟩ := row_backs g2
    simp only [List.cons.injEq, and_true] at e0
    subst e0 e1 e2
    exact ⟨⟨⟨k, bs, L⟩, a, c, a2, c2'⟩, rfl, ⟨bounds_i64 hw0, h1, by show bs.length ≤ _; omega, h2, h2'', h2'⟩⟩
set_option maxRecDepth 100000 in
theorem open_cellV {r : Reach} {b0 : Nat} {v : Value} {d : DataW H} {p : List MemPlace} (hv : Value.okWide Tryz.prog w r b0 32 v) (h : DataW.Trod enc Tryz.prog w base (fun _ => true) held 32 v d p) :
    ∃ A : CeT, v = A.val ∧ CeOk w A := by
  obtain ⟨cs, rfl, hsz⟩ := okWide_struct Tryz.underlying32 hv
  obtain ⟨fuel, hf⟩ := h
  obtain ⟨A, hA, hok⟩ := trod_cell hf
  refine ⟨A, ?_, hok⟩
  unfold CeT.val
  congr 1
  apply Array.ext'
  exact hA
end
end Go.Proofs.YtdpaofedepnnbaaGreat
