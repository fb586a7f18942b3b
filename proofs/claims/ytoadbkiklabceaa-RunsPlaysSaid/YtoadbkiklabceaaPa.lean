/-
  What a slice of acts that came in is. Plain lemmas, no claim of their own.
-/
import Derived.Test.YtoadbkiklabceaaRArgs
namespace Go.Proofs.Ytoadbkiklabceaa
open Go.RowKit Go.ChangeShapes Go.WideShapes Go.Deep

/-- an act -/
structure ActP where
  dr : Bool
  cp : Bool
  r : Rn
section
variable {H : Type} {enc : TypeId × Value → H} {w : World} {base : Nat} {held : Bool}
set_option maxRecDepth 100000 in
theorem trod_actP {n : Nat} {cs : List Value} {y : DataW H × List MemPlace} (h : DataW.trod enc Try.prog w base (fun _ => true) held n 30 cs = some y) :
    ∃ A : ActP, cs = [.bool A.dr, .bool A.cp, .int .u64 (A.r.1 : Int), .int .u64 (A.r.2 : Int)] ∧ Fit A.r := by
  obtain ⟨xs, m, _, _, hlen, hxl, hf⟩ := DataW.trod_struct Try.underlying30 h
  have hc4 : cs.length = 4 := hlen.trans (by kernel_rfl)
  match cs, hc4, xs, hxl with
  | [c0, c1, c2, c3], _, [x0, x1, x2], _ =>
    have g0 : DataW.trod enc Try.prog w base (fun _ => true) held m 4 (([c0, c1, c2, c3].drop 0).take (Try.prog.cellsOf 4)) = some x0 := hf 0 _ rfl
    have g1 : DataW.trod enc Try.prog w base (fun _ => true) held m 4 (([c0, c1, c2, c3].drop 1).take (Try.prog.cellsOf 4)) = some x1 := hf 1 _ rfl
    have g2 : DataW.trod enc Try.prog w base (fun _ => true) held m 28 (([c0, c1, c2, c3].drop 2).take (Try.prog.cellsOf 28)) = some x2 := hf 2 _ rfl
    rw [show Try.prog.cellsOf 4 = 1 by kernel_rfl] at g0 g1
    rw [show Try.prog.cellsOf 28 = 2 by kernel_rfl] at g2
    simp only [List.drop_zero, List.drop_succ_cons, List.take_succ_cons, List.take_zero] at g0 g1 g2
    obtain ⟨d, e0, _⟩ := DataW.trod_bool Try.underlying4 g0
    obtain ⟨c, e1, _⟩ := DataW.trod_bool Try.underlying4 g1
    obtain ⟨r, e2, hr⟩ := trod_run g2
    simp only [List.cons.injEq, and_true] at e0 e1 e2
    obtain ⟨e2, e3⟩ := e2
    subst e0 e1 e2 e3
    exact ⟨⟨d, c, r⟩, rfl, hr⟩
/-- a slice of acts that came in -/
def IsActsP (w : World) (a : Option Addr) (len : Nat) (A : Nat → ActP) : Prop :=
  len ≤ 9223372036854775807 ∧ (0 < len → ∃ b off, a = some ⟨b, off, none⟩ ∧ b < w.heap.size ∧ ∀ i, i < len → Fit (A i).r ∧
    w.cell? ⟨b, off + i * 4, none⟩ = some (.bool (A i).dr) ∧ w.cell? ⟨b, off + i * 4 + 1, none⟩ = some (.bool (A i).cp) ∧
    w.cell? ⟨b, off + i * 4 + 2, none⟩ = some (.int .u64 ((A i).r.1 : Int)) ∧ w.cell? ⟨b, off + i * 4 + 3, none⟩ = some (.int .u64 ((A i).r.2 : Int)))
set_option maxRecDepth 100000 in
theorem open_actsP {n : Nat} {v : Value} {y : DataW H × List MemPlace} (h : DataW.trod enc Try.prog w base (fun _ => true) held n 22 [v] = some y) :
    ∃ (a : Option Addr) (len cap : Nat) (A : Nat → ActP), v = .slice a len cap ∧ IsActsP w a len A := by
  have dA : ActP := ⟨false, false, (0, 0)⟩
  rcases open_slice Try.underlying22 h with ⟨hc, _⟩ | ⟨a, len, cap, m, k, D, Pl, hc, _, hl, hm, hmm, _, hi⟩
  · exact ⟨none, 0, 0, fun _ => dA, by simpa using hc, by omega, fun h => by omega⟩
  · have hc4 : Try.prog.cellsOf 30 = 4 := by kernel_rfl
    simp only [if_true] at hmm
    subst hmm
    have hall : ∀ i, i < m → ∃ A : ActP, Fit A.r ∧ w.cell? (a.add (i * 4)) = some (.bool A.dr) ∧ w.cell? ((a.add (i * 4)).add 1) = some (.bool A.cp) ∧
        w.cell? ((a.add (i * 4)).add 2) = some (.int .u64 (A.r.1 : Int)) ∧ w.cell? ((a.add (i * 4)).add 3) = some (.int .u64 (A.r.2 : Int)) := by
      intro i him
      obtain ⟨cs, h1, h2⟩ := hi i him
      rw [hc4] at h1
      obtain ⟨_, _, h3⟩ := World.cells?_some h1
      obtain ⟨A, rfl, hA⟩ := trod_actP h2
      refine ⟨A, hA, ?_, h3 1 (by omega), h3 2 (by omega), h3 3 (by omega)⟩
      have := h3 0 (by omega)
      simpa [Addr.add] using this
    refine ⟨some a, len, m, fun i => if hi : i < m then Classical.choose (hall i hi) else dA, by simpa using hc, by unfold maxLen at hm; omega, fun hpos => ?_⟩
    obtain ⟨b, off, spot⟩ := a
    obtain ⟨A0, _, hc0, _⟩ := hall 0 (by omega)
    have hspot : spot = none := by simpa [Addr.add] using World.cell?_spot hc0
    subst hspot
    have hb := World.block_lt_of_cell? w _ hc0
    refine ⟨b, off, rfl, by simpa [add_off] using hb, fun i hil => ?_⟩
    have hsp := Classical.choose_spec (hall i (by omega))
    have e : ∀ j, ((⟨b, off, none⟩ : Addr).add (i * 4)).add j = ⟨b, off + i * 4 + j, none⟩ := fun j => by rw [add_off, add_off]
    dsimp only
    rw [dif_pos (show i < m by omega)]
    obtain ⟨g0, g1, g2, g3, g4⟩ := hsp
    exact ⟨g0, (congrArg w.cell? (add_off b off (i * 4))).symm.trans g1, (congrArg w.cell? (e 1)).symm.trans g2, (congrArg w.cell? (e 2)).symm.trans g3, (congrArg w.cell? (e 3)).symm.trans g4⟩
set_option maxRecDepth 100000 in
theorem open_actsPV {r : Reach} {b0 : Nat} {v : Value} {d : DataW H} {p : List MemPlace} (hv : Value.okWide Try.prog w r b0 22 v) (h : DataW.Trod enc Try.prog w base (fun _ => true) held 22 v d p) :
    ∃ (a : Option Addr) (len cap : Nat) (A : Nat → ActP), v = .slice a len cap ∧ IsActsP w a len A := by
  obtain ⟨a, l, c, rfl⟩ := okWide_slice Try.underlying22 hv
  obtain ⟨fuel, hf⟩ := h
  exact open_actsP hf
end
end Go.Proofs.Ytoadbkiklabceaa
