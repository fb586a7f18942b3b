/-
  What the third argument of TapeWhole is, and how many steps it asks. No claim of their own.
-/
import Derived.Test.YtdiemejdbakffaaOp6
namespace Go.Proofs.Ytdiemejdbakffaa
open Go.RowKit Go.ChangeShapes Go.WideShapes Go.Deep
set_option linter.unusedVariables false
set_option linter.unusedSimpArgs false

structure OfT where
  st : Int
  ak : Option Addr
  ks : List Bool
  ck : Nat
  fr : Bool
structure OfOk (w : World) (A : OfT) : Prop where
  st : -9223372036854775808 ≤ A.st ∧ A.st ≤ 9223372036854775807
  ak : Ro w w.heap.size A.ak (bls A.ks)
  ks : A.ks.length ≤ 9223372036854775807
def OfT.cells (A : OfT) : List Value := [.int .i64 A.st, .slice A.ak A.ks.length A.ck, .bool A.fr]
section
variable {H : Type} {enc : TypeId × Value → H} {w : World} {base : Nat} {held : Bool}
set_option maxRecDepth 100000 in
theorem trod_of {n : Nat} {cs : List Value} {y : DataW H × List MemPlace} (h : DataW.trod enc Try.prog w base (fun _ => true) held n 26 cs = some y) :
    ∃ A : OfT, cs = A.cells ∧ OfOk w A := by
  obtain ⟨xs, m, _, _, hlen, hxl, hf⟩ := DataW.trod_struct Try.underlying26 h
  have hc4 : cs.length = 3 := hlen.trans (by kernel_rfl)
  match cs, hc4, xs, hxl with
  | [c0, c1, c2], _, [x0, x1, x2], _ =>
    have g0 : DataW.trod enc Try.prog w base (fun _ => true) held m 3 (([c0, c1, c2].drop 0).take (Try.prog.cellsOf 3)) = some x0 := hf 0 _ rfl
    have g1 : DataW.trod enc Try.prog w base (fun _ => true) held m 24 (([c0, c1, c2].drop 1).take (Try.prog.cellsOf 24)) = some x1 := hf 1 _ rfl
    have g2 : DataW.trod enc Try.prog w base (fun _ => true) held m 4 (([c0, c1, c2].drop 2).take (Try.prog.cellsOf 4)) = some x2 := hf 2 _ rfl
    rw [show Try.prog.cellsOf 3 = 1 by kernel_rfl] at g0
    rw [show Try.prog.cellsOf 24 = 1 by kernel_rfl] at g1
    rw [show Try.prog.cellsOf 4 = 1 by kernel_rfl] at g2
    simp only [List.drop_zero, List.drop_succ_cons, List.take_succ_cons, List.take_zero] at g0 g1 g2
    obtain ⟨st, e0, _, hw0⟩ := DataW.trod_int Try.underlying3 g0
    obtain ⟨ak, ks, ck, e1, h1, h1'⟩ := row_bl g1
    obtain ⟨fr, e2, _⟩ := DataW.trod_bool Try.underlying4 g2
    simp only [List.cons.injEq, and_true] at e0 e2
    subst e0 e1 e2
    exact ⟨⟨st, ak, ks, ck, fr⟩, rfl, ⟨bounds_i64 hw0, h1, h1'⟩⟩
set_option maxRecDepth 100000 in
theorem open_ofV {r : Reach} {b0 : Nat} {v : Value} {d : DataW H} {p : List MemPlace} (hv : Value.okWide Try.prog w r b0 26 v) (h : DataW.Trod enc Try.prog w base (fun _ => true) held 26 v d p) :
    ∃ A : OfT, v = .agg A.cells.toArray ∧ OfOk w A := by
  obtain ⟨cs, rfl, hsz⟩ := okWide_struct Try.underlying26 hv
  obtain ⟨fuel, hf⟩ := h
  obtain ⟨A, hA, hok⟩ := trod_of hf
  refine ⟨A, ?_, hok⟩
  congr 1
  apply Array.ext'
  exact hA
end
set_option maxRecDepth 100000 in
theorem ofsteps_any (w : World) (z : Int) (ak : Option Addr) (lk ck : Nat) (fr : Bool) (hz : -9223372036854775808 ≤ z ∧ z ≤ 9223372036854775807) :
    Calls Try.prog 16 #[.agg #[.int .i64 z, .slice ak lk ck, .bool fr]] w fun e w' => ∃ k : Nat, k < 6 ∧ e = .returned (.int .i64 (k : Int)) ∧ Chg [] w w' := by
  by_cases h0 : z < 0
  · obtain ⟨m, rfl⟩ : ∃ m : Nat, z = -((m : Int) + 1) := ⟨(-(z + 1)).toNat, by omega⟩
    have d1 : decide (-((m : Int) + 1) < 0) = true := by simp; try omega
    have w1 : IntKind.i64.wrap (-((m : Int) + 1) + 1) = -(m : Int) := by rw [IntKind.wrap_i64]; omega
    have w2 : IntKind.i64.wrap (- -(m : Int)) = (m : Int) := by rw [IntKind.wrap_i64]; omega
    have hm : m ≤ 9223372036854775807 := by omega
    clear h0 hz
    go_enter Try.func16, Try.ntmps16
    go_wp2
    go_ret
    exact ⟨m % 6, by omega, by go_num, (Chg.refl [] w).alloc _⟩
  · obtain ⟨m, rfl⟩ : ∃ m : Nat, z = (m : Int) := ⟨z.toNat, by omega⟩
    have d1 : decide ((m : Int) < 0) = false := by simp
    have hm : m ≤ 9223372036854775807 := by omega
    clear h0 hz
    go_enter Try.func16, Try.ntmps16
    go_wp2
    go_ret
    exact ⟨m % 6, by omega, by go_num, (Chg.refl [] w).alloc _⟩
end Go.Proofs.Ytdiemejdbakffaa
