/-
  What a run, and a slice of runs, that came in is. Plain lemmas, no claim of their own.
-/
import Derived.Test.YtoadbkiklabceaaSg
import Derived.Test.YtoadbkiklabceaaRm
import Derived.OpenShut
import Derived.ChangeSlices
import Derived.Deep.Grids
import Derived.Deep.Fields
import Derived.Lib.SmallJoins
namespace Go.Proofs.Ytoadbkiklabceaa
open Go.RowKit Go.ChangeShapes Go.WideShapes Go.Deep

section
variable {H : Type} {enc : TypeId × Value → H} {w : World} {base : Nat} {held : Bool}
set_option maxRecDepth 100000 in
theorem trod_run {n : Nat} {cs : List Value} {y : DataW H × List MemPlace} (h : DataW.trod enc Try.prog w base (fun _ => true) held n 28 cs = some y) :
    ∃ r : Rn, cs = [.int .u64 (r.1 : Int), .int .u64 (r.2 : Int)] ∧ Fit r := by
  obtain ⟨xs, m, _, _, hlen, hxl, hf⟩ := DataW.trod_struct Try.underlying28 h
  have hc2 : cs.length = 2 := hlen.trans (by kernel_rfl)
  match cs, hc2, xs, hxl with
  | [c0, c1], _, [x0, x1], _ =>
    have g0 : DataW.trod enc Try.prog w base (fun _ => true) held m 23 (([c0, c1].drop 0).take (Try.prog.cellsOf 23)) = some x0 := hf 0 _ rfl
    have g1 : DataW.trod enc Try.prog w base (fun _ => true) held m 23 (([c0, c1].drop 1).take (Try.prog.cellsOf 23)) = some x1 := hf 1 _ rfl
    rw [show Try.prog.cellsOf 23 = 1 by kernel_rfl] at g0 g1
    simp only [List.drop_zero, List.drop_succ_cons, List.take_succ_cons, List.take_zero] at g0 g1
    obtain ⟨a, e0, _, hw0⟩ := DataW.trod_int Try.underlying23 g0
    obtain ⟨b, e1, _, hw1⟩ := DataW.trod_int Try.underlying23 g1
    simp only [List.cons.injEq, and_true] at e0 e1
    subst e0 e1
    have h1 := bounds_u64 hw0
    have h2 := bounds_u64 hw1
    refine ⟨(a.toNat, b.toNat), ?_, by unfold Fit; show a.toNat < _ ∧ b.toNat < _; omega⟩
    rw [show ((a.toNat : Nat) : Int) = a by omega, show ((b.toNat : Nat) : Int) = b by omega]
set_option maxRecDepth 100000 in
theorem open_runs {n : Nat} {v : Value} {y : DataW H × List MemPlace} (h : DataW.trod enc Try.prog w base (fun _ => true) held n 40 [v] = some y) :
    ∃ (a : Option Addr) (L : List Rn) (cap : Nat), v = .slice a L.length cap ∧ Ro w w.heap.size a (rcs L) ∧ (∀ r ∈ L, Fit r) ∧ L.length ≤ 9223372036854775807 := by
  rcases open_slice Try.underlying40 h with ⟨hc, _⟩ | ⟨a, len, cap, m, k, D, Pl, hc, _, hl, hm, hmm, _, hi⟩
  · exact ⟨none, [], 0, by simpa using hc, Ro.nil _ _ _, by simp, by simp⟩
  · have hc2 : Try.prog.cellsOf 28 = 2 := by kernel_rfl
    simp only [if_true] at hmm
    subst hmm
    have hall : ∀ i, i < m → ∃ r : Rn, Fit r ∧ w.cell? (a.add (i * 2)) = some (.int .u64 (r.1 : Int)) ∧ w.cell? ((a.add (i * 2)).add 1) = some (.int .u64 (r.2 : Int)) := by
      intro i him
      obtain ⟨cs, h1, h2⟩ := hi i him
      rw [hc2] at h1
      obtain ⟨_, _, h3⟩ := World.cells?_some h1
      obtain ⟨r, rfl, hr⟩ := trod_run h2
      refine ⟨r, hr, ?_, h3 1 (by omega)⟩
      have := h3 0 (by omega)
      simpa [Addr.add] using this
    let A : Nat → Rn := fun i => if hi : i < m then Classical.choose (hall i hi) else (0, 0)
    have hA : ∀ i, i < m → Fit (A i) ∧ w.cell? (a.add (i * 2)) = some (.int .u64 ((A i).1 : Int)) ∧ w.cell? ((a.add (i * 2)).add 1) = some (.int .u64 ((A i).2 : Int)) := fun i hi => by
      have := Classical.choose_spec (hall i hi)
      show Fit (if hi : i < m then Classical.choose (hall i hi) else (0, 0)) ∧ w.cell? (a.add (i * 2)) = some (.int .u64 ((if hi : i < m then Classical.choose (hall i hi) else (0, 0)).1 : Int)) ∧ w.cell? ((a.add (i * 2)).add 1) = some (.int .u64 ((if hi : i < m then Classical.choose (hall i hi) else (0, 0)).2 : Int))
      rw [dif_pos hi]
      exact this
    refine ⟨some a, (List.range len).map A, m, by simpa using hc, ?_, fun r hr => ?_, by simp; unfold maxLen at hm; omega⟩
    · rcases Nat.eq_zero_or_pos len with h0 | h0
      · subst h0; exact .inl rfl
      · obtain ⟨b, off, spot⟩ := a
        have hc0 := (hA 0 (by omega)).2.1
        have hspot : spot = none := by simpa [Addr.add] using World.cell?_spot hc0
        subst hspot
        have hb := World.block_lt_of_cell? w _ hc0
        refine .inr ⟨b, off, rfl, by simpa [add_off] using hb, fun i hi => ?_⟩
        rw [rcs_length, List.length_map, List.length_range] at hi
        have hel : ∀ t, t < len → el ((List.range len).map A) t = A t := fun t ht => by simp [el, List.getD, ht]
        have hi2 : i / 2 < len := by omega
        obtain ⟨_, g1, g2⟩ := hA (i / 2) (by omega)
        have e := rcs_el (L := (List.range len).map A) (i := i / 2) (by simpa using hi2)
        rw [hel _ hi2] at e
        rcases Nat.mod_two_eq_zero_or_one i with hp | hp
        · have ei : i = i / 2 * 2 := by omega
          rw [ei, e.1]
          rw [add_off] at g1
          exact g1
        · have ei : i = i / 2 * 2 + 1 := by omega
          rw [ei, e.2]
          rw [add_off, add_off] at g2
          exact g2
    · rw [List.mem_map] at hr
      obtain ⟨i, hi, rfl⟩ := hr
      exact (hA i (by have := List.mem_range.1 hi; omega)).1
set_option maxRecDepth 100000 in
theorem open_runV {r : Reach} {b0 : Nat} {v : Value} {d : DataW H} {p : List MemPlace} (hv : Value.okWide Try.prog w r b0 28 v) (h : DataW.Trod enc Try.prog w base (fun _ => true) held 28 v d p) :
    ∃ x : Rn, v = rv x ∧ Fit x := by
  obtain ⟨cs, rfl, hsz⟩ := okWide_struct Try.underlying28 hv
  obtain ⟨fuel, hf⟩ := h
  obtain ⟨x, hx, hok⟩ := trod_run hf
  refine ⟨x, ?_, hok⟩
  congr 1
  apply Array.ext'
  exact hx
set_option maxRecDepth 100000 in
theorem open_runsV {r : Reach} {b0 : Nat} {v : Value} {d : DataW H} {p : List MemPlace} (hv : Value.okWide Try.prog w r b0 40 v) (h : DataW.Trod enc Try.prog w base (fun _ => true) held 40 v d p) :
    ∃ (a : Option Addr) (L : List Rn) (cap : Nat), v = .slice a L.length cap ∧ Ro w w.heap.size a (rcs L) ∧ (∀ r ∈ L, Fit r) ∧ L.length ≤ 9223372036854775807 := by
  obtain ⟨a, l, c, rfl⟩ := okWide_slice Try.underlying40 hv
  obtain ⟨fuel, hf⟩ := h
  exact open_runs hf
end
end Go.Proofs.Ytoadbkiklabceaa
