/-
  Plain lists: what Unpack gives is what Pack takes. Lemmas only, no claim of their own.
-/
import Derived.Test.YtmpajlpemabniaaGreatZk8
namespace Go.Proofs.YtmpajlpemabniaaGreat
set_option linter.unusedVariables false
set_option linter.unusedSimpArgs false

def UnpOk (l : List Int) (bs : List UInt8) : Prop := (spanOf l).isSome ∧ bs.length = ((nat l).sum + 7) / 8 ∧ num bs (nat l).sum (8 * bs.length - (nat l).sum) = 0
def IsUnpTo (l : List Int) (bs : List UInt8) (vs : List Nat) (i : Nat) : Prop := vs.length = l.length ∧ ∀ j, j < i → vs.getD j 0 = num bs ((nat l).take j).sum (l.getD j 0).toNat
def IsUnp (l : List Int) (bs : List UInt8) (vs : List Nat) : Prop := IsUnpTo l bs vs l.length
theorem setN_getD (vs : List Nat) (i j x : Nat) (hi : i < vs.length) : (vs.set i x).getD j 0 = if i = j then x else vs.getD j 0 := by
  simp only [List.getD, List.getElem?_set]
  by_cases h : i = j
  · subst h; simp [hi]
  · simp [h]
theorem IsUnpTo.step {l : List Int} {bs : List UInt8} {vs : List Nat} {i : Nat} (h : IsUnpTo l bs vs i) (hi : i < l.length) : IsUnpTo l bs (vs.set i (num bs ((nat l).take i).sum (l.getD i 0).toNat)) (i + 1) := by
  refine ⟨by simpa using h.1, fun j hj => ?_⟩
  rw [setN_getD _ _ _ _ (by rw [h.1]; exact hi)]
  by_cases e : i = j
  · rw [if_pos e, e]
  · rw [if_neg e]; exact h.2 j (by omega)
theorem IsUnp.unique {l : List Int} {bs : List UInt8} {a b : List Nat} (ha : IsUnp l bs a) (hb : IsUnp l bs b) : a = b := by
  apply List.ext_getElem (ha.1.trans hb.1.symm)
  intro i h1 h2
  have e1 := ha.2 i (by rw [← ha.1]; exact h1)
  have e2 := hb.2 i (by rw [← ha.1]; exact h1)
  rw [← e2] at e1
  simpa [List.getD, h1, h2] using e1

def unpL (l : List Int) (bs : List UInt8) (i : Nat) : List Nat := (List.range i).map fun j => num bs ((nat l).take j).sum (l.getD j 0).toNat
@[simp] theorem unpL_length (l : List Int) (bs : List UInt8) (i : Nat) : (unpL l bs i).length = i := by simp [unpL]
end Go.Proofs.YtmpajlpemabniaaGreat
namespace Go.Proofs.YtmpajlpemabniaaGreat
open Go.RowKit Go.Deep
set_option linter.unusedVariables false
set_option linter.unusedSimpArgs false

theorem Tryz.info_u64 : (Tryz.prog.info? 37).map (fun i => (i.zero, i.size, i.bytes)) = some (some (.int .u64 0), 1, 8) := by kernel_rfl
end Go.Proofs.YtmpajlpemabniaaGreat
