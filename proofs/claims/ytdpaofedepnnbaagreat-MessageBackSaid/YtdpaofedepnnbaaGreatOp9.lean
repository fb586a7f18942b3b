/-
  What a layout, and what is asked of one, that came in is. Plain lemmas, no claim of their own.
-/
import Derived.Test.YtdpaofedepnnbaaGreatArgs
import Derived.Test.YtdpaofedepnnbaaGreatLyH
import Derived.Deep.Grids
import Derived.Deep.Fields
import Derived.Lib.SmallJoins
namespace Go.Proofs.YtdpaofedepnnbaaGreat
open Go.RowKit Go.ChangeShapes Go.WideShapes Go.Deep
set_option linter.unusedVariables false
set_option linter.unusedSimpArgs false

section
variable {H : Type} {enc : TypeId × Value → H} {w : World} {base : Nat} {held : Bool}
theorem row_ints {n : Nat} {v : Value} {y : DataW H × List MemPlace} (h : DataW.trod enc Tryz.prog w base (fun _ => true) held n 33 [v] = some y) :
    ∃ (a : Option Addr) (L : List Int) (c : Nat), v = .slice a L.length c ∧ Ro w w.heap.size a (i64s L) ∧ L.length ≤ c ∧ c ≤ 9223372036854775807 ∧ (a = none → c = 0) := by
  have hrow : ∃ a l c zs, v = .slice a l c ∧ IsRow .i64 w a l c zs := by
    rcases open_ints Tryz.underlying33 Tryz.underlying3 (by kernel_rfl) h with ⟨hc, _⟩ | ⟨a, l, c, zs, hc, _, hl, hm, hz, _, hcell, hwz⟩
    · exact ⟨none, 0, 0, [], by simpa using hc, .inl ⟨rfl, rfl, rfl, rfl⟩⟩
    · exact ⟨some a, l, c, zs, by simpa using hc, .inr ⟨a, rfl, hl, hm, by simpa using hz, hcell, hwz⟩⟩
  obtain ⟨a, l, c, zs, rfl, hr⟩ := hrow
  obtain ⟨bs, h1, h2, h3, h4, _⟩ := hr.i64s
  have := hr.cap_le
  exact ⟨a, bs, c, by rw [h1], h4, by omega, by omega, h3⟩
set_option maxRecDepth 100000 in
theorem row_chs {n : Nat} {v : Value} {y : DataW H × List MemPlace} (h : DataW.trod enc Tryz.prog w base (fun _ => true) held n 100 [v] = some y) :
    ∃ (a : Option Addr) (M : List ChT) (c : Nat), v = .slice a M.length c ∧ Ro w w.heap.size a (chv M) ∧ ChIn w w.heap.size M ∧ ChFit M := by
  rcases open_slice Tryz.underlying100 h with ⟨hc, _⟩ | ⟨a, len, cap, m, k, D, Pl, hc, _, hl, hm, hmm, _, hi⟩
  · exact ⟨none, [], 0, by simpa using hc, Ro.nil _ _ _, by intro c hc; simp at hc, by constructor <;> simp⟩
  · have hc1 : Tryz.prog.cellsOf 33 = 1 := by kernel_rfl
    simp only [if_true] at hmm
    subst hmm
    have hall : ∀ i, i < m → ∃ T : ChT, w.cell? (a.add i) = some T.val ∧ Ro w w.heap.size T.a (i64s T.u) ∧ T.u.length ≤ 9223372036854775807 := by
      intro i him
      obtain ⟨cs, h1, h2⟩ := hi i him
      rw [hc1, Nat.mul_one] at h1
      obtain ⟨hl1, _, h3⟩ := World.cells?_some h1
      have hcs : ∃ v, cs = [v] := by
        match cs, hl1 with
        | [v], _ => exact ⟨v, rfl⟩
      obtain ⟨v, rfl⟩ := hcs
      obtain ⟨b, L, c, rfl, g1, g2, g3, _⟩ := row_ints h2
      refine ⟨⟨b, c, L⟩, ?_, g1, by show L.length ≤ _; omega⟩
      have := h3 0 (by omega)
      simpa [Addr.add, ChT.val] using this
    obtain ⟨A, hA⟩ : ∃ A : Nat → ChT, ∀ i, i < m → w.cell? (a.add i) = some (A i).val ∧ Ro w w.heap.size (A i).a (i64s (A i).u) ∧ (A i).u.length ≤ 9223372036854775807 :=
      ⟨fun i => if hi : i < m then Classical.choose (hall i hi) else ⟨none, 0, []⟩, fun i him => by
        have := Classical.choose_spec (hall i him)
        dsimp only
        rw [dif_pos him]
        exact this⟩
    refine ⟨some a, (List.range len).map A, m, by simpa using hc, ?_, fun c hcm => ?_, ?_, fun c hcm => ?_⟩
    · rcases Nat.eq_zero_or_pos len with h0 | h0
      · subst h0; exact .inl rfl
      · obtain ⟨b, off, spot⟩ := a
        have hc0 := (hA 0 (by omega)).1
        have hspot : spot = none := by simpa [Addr.add] using World.cell?_spot hc0
        subst hspot
        have hb := World.block_lt_of_cell? w _ hc0
        refine .inr ⟨b, off, rfl, by simpa [add_off] using hb, fun i hi => ?_⟩
        rw [chv_length, List.length_map, List.length_range] at hi
        have g1 := (hA i (by omega)).1
        rw [add_off] at g1
        rw [g1]
        simp [chv, List.getD, hi]
    · rw [List.mem_map] at hcm
      obtain ⟨i, hi, rfl⟩ := hcm
      exact (hA i (by have := List.mem_range.1 hi; omega)).2.1
    · simp; unfold maxLen at hm; omega
    · rw [List.mem_map] at hcm
      obtain ⟨i, hi, rfl⟩ := hcm
      exact (hA i (by have := List.mem_range.1 hi; omega)).2.2
set_option maxRecDepth 100000 in
theorem trod_seg {n : Nat} {cs : List Value} {y : DataW H × List MemPlace} (h : DataW.trod enc Tryz.prog w base (fun _ => true) held n 102 cs = some y) :
    ∃ S : SgT, cs = [.int .u64 (S.f : Int), .slice S.a S.ch.length S.c] ∧ Ro w w.heap.size S.a (chv S.ch) ∧ ChIn w w.heap.size S.ch ∧ ChFit S.ch := by
  obtain ⟨xs, m, _, _, hlen, hxl, hf⟩ := DataW.trod_struct Tryz.underlying102 h
  have hc2 : cs.length = 2 := hlen.trans (by kernel_rfl)
  match cs, hc2, xs, hxl with
  | [c0, c1], _, [x0, x1], _ =>
    have g0 : DataW.trod enc Tryz.prog w base (fun _ => true) held m 26 (([c0, c1].drop 0).take (Tryz.prog.cellsOf 26)) = some x0 := hf 0 _ rfl
    have g1 : DataW.trod enc Tryz.prog w base (fun _ => true) held m 100 (([c0, c1].drop 1).take (Tryz.prog.cellsOf 100)) = some x1 := hf 1 _ rfl
    rw [show Tryz.prog.cellsOf 26 = 1 by kernel_rfl] at g0
    rw [show Tryz.prog.cellsOf 100 = 1 by kernel_rfl] at g1
    simp only [List.drop_zero, List.drop_succ_cons, List.take_succ_cons, List.take_zero] at g0 g1
    obtain ⟨s, e0, _, hw0⟩ := DataW.trod_int Tryz.underlying26 g0
    obtain ⟨a, M, c, rfl, k1, k2, k3⟩ := row_chs g1
    simp only [List.cons.injEq, and_true] at e0
    subst e0
    have h1 := bounds_u64 hw0
    refine ⟨⟨s.toNat, a, c, M⟩, ?_, k1, k2, k3⟩
    simp only
    rw [show ((s.toNat : Nat) : Int) = s by omega]
set_option maxRecDepth 100000 in
theorem row_segs {n : Nat} {v : Value} {y : DataW H × List MemPlace} (h : DataW.trod enc Tryz.prog w base (fun _ => true) held n 36 [v] = some y) :
    ∃ (a : Option Addr) (L : List SgT) (c : Nat), v = .slice a L.length c ∧ Ro w w.heap.size a (sgv L) ∧ SgIn w w.heap.size L ∧ SgFit L := by
  rcases open_slice Tryz.underlying36 h with ⟨hc, _⟩ | ⟨a, len, cap, m, k, D, Pl, hc, _, hl, hm, hmm, _, hi⟩
  · exact ⟨none, [], 0, by simpa using hc, Ro.nil _ _ _, by intro c hc; simp at hc, by constructor <;> simp⟩
  · have hc2 : Tryz.prog.cellsOf 102 = 2 := by kernel_rfl
    simp only [if_true] at hmm
    subst hmm
    have hall : ∀ i, i < m → ∃ S : SgT, (Ro w w.heap.size S.a (chv S.ch) ∧ ChIn w w.heap.size S.ch ∧ ChFit S.ch) ∧ w.cell? (a.add (i * 2)) = some (.int .u64 (S.f : Int)) ∧ w.cell? ((a.add (i * 2)).add 1) = some (.slice S.a S.ch.length S.c) := by
      intro i him
      obtain ⟨cs, h1, h2⟩ := hi i him
      rw [hc2] at h1
      obtain ⟨_, _, h3⟩ := World.cells?_some h1
      obtain ⟨S, rfl, hr⟩ := trod_seg h2
      refine ⟨S, hr, ?_, h3 1 (by omega)⟩
      have := h3 0 (by omega)
      simpa [Addr.add] using this
    obtain ⟨A, hA⟩ : ∃ A : Nat → SgT, ∀ i, i < m → (Ro w w.heap.size (A i).a (chv (A i).ch) ∧ ChIn w w.heap.size (A i).ch ∧ ChFit (A i).ch) ∧ w.cell? (a.add (i * 2)) = some (.int .u64 ((A i).f : Int)) ∧ w.cell? ((a.add (i * 2)).add 1) = some (.slice (A i).a (A i).ch.length (A i).c) :=
      ⟨fun i => if hi : i < m then Classical.choose (hall i hi) else ⟨0, none, 0, []⟩, fun i him => by
        have := Classical.choose_spec (hall i him)
        dsimp only
        rw [dif_pos him]
        exact this⟩
    refine ⟨some a, (List.range len).map A, m, by simpa using hc, ?_, fun s hs => ?_, ?_, fun s hs => ?_⟩
    · rcases Nat.eq_zero_or_pos len with h0 | h0
      · subst h0; exact .inl rfl
      · obtain ⟨b, off, spot⟩ := a
        have hc0 := (hA 0 (by omega)).2.1
        have hspot : spot = none := by simpa [Addr.add] using World.cell?_spot hc0
        subst hspot
        have hb := World.block_lt_of_cell? w _ hc0
        refine .inr ⟨b, off, rfl, by simpa [add_off] using hb, fun i hi => ?_⟩
        rw [sgv_length, List.length_map, List.length_range] at hi
        have hi2 : i / 2 < len := by omega
        have hel : ((List.range len).map A)[i / 2]? = some (A (i / 2)) := by simp [hi2]
        obtain ⟨_, g1, g2⟩ := hA (i / 2) (by omega)
        obtain ⟨e1, e2⟩ := sgv_get ((List.range len).map A) (i / 2)
        rw [hel] at e1 e2
        have hp : i % 2 = 0 ∨ i % 2 = 1 := by omega
        rcases hp with hp | hp
        · have ei : i = i / 2 * 2 := by omega
          rw [ei]
          rw [add_off] at g1
          rw [g1]
          simp only [List.getD, e1, Option.map_some, Option.getD_some]
        · have ei : i = i / 2 * 2 + 1 := by omega
          rw [ei]
          rw [add_off, add_off] at g2
          rw [← Nat.add_assoc, g2]
          simp only [List.getD, e2, Option.map_some, Option.getD_some]
    · rw [List.mem_map] at hs
      obtain ⟨i, hi, rfl⟩ := hs
      have := (hA i (by have := List.mem_range.1 hi; omega)).1
      exact ⟨this.1, this.2.1⟩
    · simp; unfold maxLen at hm; omega
    · rw [List.mem_map] at hs
      obtain ⟨i, hi, rfl⟩ := hs
      exact (hA i (by have := List.mem_range.1 hi; omega)).1.2.2
/-- a layout that came in -/
structure LyOk (w : World) (A : LyT) : Prop where
  inn : LyIn w w.heap.size A
  fit : SgFit A.sg
  e : A.e ≤ 18446744073709551615
  q : -9223372036854775808 ≤ A.q ∧ A.q ≤ 9223372036854775807
set_option maxRecDepth 100000 in
theorem open_layoutV {r : Reach} {b0 : Nat} {v : Value} {d : DataW H} {p : List MemPlace} (hv : Value.okWide Tryz.prog w r b0 38 v) (h : DataW.Trod enc Tryz.prog w base (fun _ => true) held 38 v d p) :
    ∃ A : LyT, v = A.val ∧ LyOk w A := by
  obtain ⟨cs, rfl, hsz⟩ := okWide_struct Tryz.underlying38 hv
  obtain ⟨fuel, hf⟩ := h
  obtain ⟨xs, m, _, _, hlen, hxl, hf⟩ := DataW.trod_struct Tryz.underlying38 hf
  have hc3 : cs.toList.length = 3 := hlen.trans (by kernel_rfl)
  obtain ⟨cl⟩ := cs
  match cl, hc3, xs, hxl with
  | [c0, c1, c2], _, [x0, x1, x2], _ =>
    have g0 : DataW.trod enc Tryz.prog w base (fun _ => true) held m 26 (([c0, c1, c2].drop 0).take (Tryz.prog.cellsOf 26)) = some x0 := hf 0 _ rfl
    have g1 : DataW.trod enc Tryz.prog w base (fun _ => true) held m 36 (([c0, c1, c2].drop 1).take (Tryz.prog.cellsOf 36)) = some x1 := hf 1 _ rfl
    have g2 : DataW.trod enc Tryz.prog w base (fun _ => true) held m 3 (([c0, c1, c2].drop 2).take (Tryz.prog.cellsOf 3)) = some x2 := hf 2 _ rfl
    rw [show Tryz.prog.cellsOf 26 = 1 by kernel_rfl] at g0
    rw [show Tryz.prog.cellsOf 36 = 1 by kernel_rfl] at g1
    rw [show Tryz.prog.cellsOf 3 = 1 by kernel_rfl] at g2
    simp only [List.drop_zero, List.drop_succ_cons, List.take_succ_cons, List.take_zero] at g0 g1 g2
    obtain ⟨s, e0, _, hw0⟩ := DataW.trod_int Tryz.underlying26 g0
    obtain ⟨a, L, c, rfl, k1, k2, k3⟩ := row_segs g1
    obtain ⟨q, e2, _, hw2⟩ := DataW.trod_int Tryz.underlying3 g2
    simp only [List.cons.injEq, and_true] at e0 e2
    subst e0 e2
    have h1 := bounds_u64 hw0
    refine ⟨⟨s.toNat, a, c, L, q⟩, ?_, ⟨k1, k2⟩, k3, by show s.toNat ≤ _; omega, bounds_i64 hw2⟩
    unfold LyT.val
    simp only
    rw [show ((s.toNat : Nat) : Int) = s by omega]
/-- what is asked of a layout, that came in -/
structure FoT where
  a1 : Option Addr
  c1 : Nat
  dr : List Int
  a2 : Option Addr
  c2 : Nat
  fr : List Int
  q : Int
  f : Nat
  a3 : Option Addr
  c3 : Nat
  ch : List ChT
def FoT.val (F : FoT) : Value := folV F.a1 F.dr.length F.c1 F.a2 F.fr.length F.c2 F.q F.f F.a3 F.ch.length F.c3
structure FoOk (w : World) (F : FoT) : Prop where
  dr : Ro w w.heap.size F.a1 (i64s F.dr)
  fr : Ro w w.heap.size F.a2 (i64s F.fr)
  fc : F.fr.length ≤ F.c2 ∧ F.c2 ≤ 9223372036854775807 ∧ (F.a2 = none → F.c2 = 0)
  f : F.f ≤ 18446744073709551615
  ch : Ro w w.heap.size F.a3 (chv F.ch)
  chi : ChIn w w.heap.size F.ch
  chf : ChFit F.ch
end
end Go.Proofs.YtdpaofedepnnbaaGreat
