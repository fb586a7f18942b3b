/-
  The statements of layer 2 at arguments of their types: the walks, with the ranges out of the types.
-/
import Derived.Test.YtmpjmlcojhoaeaaLawCastTells
import Derived.Test.YtmpjmlcojhoaeaaLawCastBack
import Derived.Test.YtmpjmlcojhoaeaaLawCastSums
import Derived.Test.YtmpjmlcojhoaeaaLawCastBetween
import Derived.Test.YtmpjmlcojhoaeaaLawCastPowers
import Derived.Test.YtmpjmlcojhoaeaaLawCastHalves
import Derived.Test.YtmpjmlcojhoaeaaLawCastOrder
import Derived.OpenShut
namespace Go.Proofs.Ytmpjmlcojhoaeaa
open Go.RowKit
set_option linter.unusedVariables false

theorem quiet {P : Program} {k : Nat} {xs : Array Value} {w : World} (h : Calls P k xs w fun e w' => e = .returned (.bool true) ∧ w = w') : Calls P k xs w fun e w' => e = .returned (.bool true) ∧ Below w.heap.size w w' :=
  h.mono fun _ _ ⟨a, b⟩ => ⟨a, b ▸ Below.refl _ _⟩
theorem castTells_row (w : World) {a b n : Int} (wa : (Lit.int .i64 a).wf = true) (wb : (Lit.int .i64 b).wf = true) (wn : (Lit.int .i64 n).wf = true) :
    Calls Try.prog 3 #[.int .i64 a, .int .i64 b, .int .i64 n] w fun e w' => e = .returned (.bool true) ∧ Below w.heap.size w w' :=
  quiet (castTells_walk a b n w (bounds_i64 wa).1 (bounds_i64 wa).2 (bounds_i64 wb).1 (bounds_i64 wb).2)
theorem castBack_row (w : World) {v n : Int} (wv : (Lit.int .i64 v).wf = true) (wn : (Lit.int .i64 n).wf = true) :
    Calls Try.prog 4 #[.int .i64 v, .int .i64 n] w fun e w' => e = .returned (.bool true) ∧ Below w.heap.size w w' :=
  quiet (castBack_walk v n w (bounds_i64 wv).1 (bounds_i64 wv).2)
theorem castOrder_row (w : World) {a b n : Int} (wa : (Lit.int .i64 a).wf = true) (wb : (Lit.int .i64 b).wf = true) (wn : (Lit.int .i64 n).wf = true) :
    Calls Try.prog 5 #[.int .i64 a, .int .i64 b, .int .i64 n] w fun e w' => e = .returned (.bool true) ∧ Below w.heap.size w w' :=
  quiet (castOrder_walk a b n w (bounds_i64 wa).1 (bounds_i64 wa).2 (bounds_i64 wb).1 (bounds_i64 wb).2)
theorem castPowers_row (w : World) {v n : Int} (wv : (Lit.int .u64 v).wf = true) (wn : (Lit.int .i64 n).wf = true) :
    Calls Try.prog 6 #[.int .u64 v, .int .i64 n] w fun e w' => e = .returned (.bool true) ∧ Below w.heap.size w w' := by
  have hv := bounds_u64 wv
  obtain ⟨v, rfl⟩ := Int.eq_ofNat_of_zero_le hv.1
  exact quiet (castPowers_walk v n w (by omega))
theorem castBetween_row (w : World) {v f t : Int} (wv : (Lit.int .i64 v).wf = true) (wf : (Lit.int .i64 f).wf = true) (wt : (Lit.int .i64 t).wf = true) :
    Calls Try.prog 7 #[.int .i64 v, .int .i64 f, .int .i64 t] w fun e w' => e = .returned (.bool true) ∧ Below w.heap.size w w' :=
  quiet (castBetween_walk v f t w)
theorem castSums_row (w : World) {a b n : Int} (wa : (Lit.int .i64 a).wf = true) (wb : (Lit.int .i64 b).wf = true) (wn : (Lit.int .i64 n).wf = true) :
    Calls Try.prog 8 #[.int .i64 a, .int .i64 b, .int .i64 n] w fun e w' => e = .returned (.bool true) ∧ Below w.heap.size w w' :=
  quiet (castSums_walk a b n w)
theorem castHalves_row (w : World) {f t v : Int} (wf : (Lit.int .i64 f).wf = true) (wt : (Lit.int .i64 t).wf = true) (wv : (Lit.int .i64 v).wf = true) :
    Calls Try.prog 9 #[.int .i64 f, .int .i64 t, .int .i64 v] w fun e w' => e = .returned (.bool true) ∧ Below w.heap.size w w' :=
  quiet (castHalves_walk f t v w (bounds_i64 wf).1 (bounds_i64 wf).2 (bounds_i64 wt).1 (bounds_i64 wt).2)
end Go.Proofs.Ytmpjmlcojhoaeaa
