/-
  Contracts of Go's library laid at this program, in plain words, as printed by the library's own laying command. No claim of its own.
-/
import Derived.Shelf.SlGeneric
import Derived.Shelf.SlIterI.Nil
import Derived.Shelf.SlIterI.Sorted
import Derived.Shelf.SortM.Plain
import Derived.Shelf.SortM.SortNone
import Derived.Shelf.SlicesE.Clone
import Derived.Shelf.SlMaps.Clone
import Derived.Shelf.SlSortCmp.Xorshift
import Derived.Test.YtcadnlilijkneaaGreatGb6
import Derived.Test.YtcadnlilijkneaaGreatRows
import Derived.Shelf.AbstractIn
namespace Go.Proofs.YtcadnlilijkneaaGreat
open Go.Shelf
def xorA_ren : Go.Shelf.Ren := ⟨fun | 48 => 294 | n => n, fun | 76 => 361 | 55 => 23 | 0 => 0 | 66 => 353 | 39 => 308 | n => n, fun | n => n⟩
theorem xorA : Go.Proofs.SlLaysF0.n48 Tryz.prog xorA_ren := {
  mixed := by kernel_rfl
  f48 := Tryz.func294.trans (congrArg some (by kernel_rfl))
  t0 := Tryz.underlying0
  a0 := Tryz.isAgg0
  z0 := Tryz.sizeOf0
  v0 := Tryz.zeroValue0
  t39 := Tryz.underlying308
  a39 := Tryz.isAgg308
  z39 := Tryz.sizeOf308
  v39 := Tryz.zeroValue308
  t55 := Tryz.underlying23
  a55 := Tryz.isAgg23
  z55 := Tryz.sizeOf23
  v55 := Tryz.zeroValue23
  t66 := Tryz.underlying353
  a66 := Tryz.isAgg353
  z66 := Tryz.sizeOf353
  v66 := Tryz.zeroValue353
  t76 := Tryz.underlying361
  a76 := Tryz.isAgg361
  z76 := Tryz.sizeOf361
  v76 := Tryz.zeroValue361 }
def nextA_ren : Go.Shelf.Ren := ⟨fun | 47 => 293 | 15 => 242 | 28 => 273 | 29 => 274 | n => n, fun | 3 => 3 | 39 => 308 | 53 => 216 | 55 => 23 | 4 => 4 | 5 => 5 | 9 => 9 | n => n, fun | n => n⟩
theorem nextA : Go.Proofs.SlLaysF0.n47 Tryz.prog nextA_ren := {
  mixed := by kernel_rfl
  f15 := Tryz.func242.trans (congrArg some (by kernel_rfl))
  f28 := Tryz.func273.trans (congrArg some (by kernel_rfl))
  f29 := Tryz.func274.trans (congrArg some (by kernel_rfl))
  f47 := Tryz.func293.trans (congrArg some (by kernel_rfl))
  t3 := Tryz.underlying3
  a3 := Tryz.isAgg3
  z3 := Tryz.sizeOf3
  v3 := Tryz.zeroValue3
  t4 := Tryz.underlying4
  a4 := Tryz.isAgg4
  z4 := Tryz.sizeOf4
  v4 := Tryz.zeroValue4
  t5 := Tryz.underlying5
  a5 := Tryz.isAgg5
  z5 := Tryz.sizeOf5
  v5 := Tryz.zeroValue5
  t9 := Tryz.underlying9
  a9 := Tryz.isAgg9
  z9 := Tryz.sizeOf9
  v9 := Tryz.zeroValue9
  t39 := Tryz.underlying308
  a39 := Tryz.isAgg308
  z39 := Tryz.sizeOf308
  v39 := Tryz.zeroValue308
  t53 := Tryz.underlying216
  a53 := Tryz.isAgg216
  z53 := Tryz.sizeOf216
  v53 := Tryz.zeroValue216
  t55 := Tryz.underlying23
  a55 := Tryz.isAgg23
  z55 := Tryz.sizeOf23
  v55 := Tryz.zeroValue23 }
end Go.Proofs.YtcadnlilijkneaaGreat
namespace Go.Proofs.YtcadnlilijkneaaGreat
open Go.RowKit Go.Maps Go.Sort Go.Shelf
set_option linter.unusedVariables false
set_option linter.unusedSimpArgs false

end Go.Proofs.YtcadnlilijkneaaGreat
namespace Go.Proofs.YtcadnlilijkneaaGreat
open Go.RowKit Go.Maps Go.Shelf
set_option linter.unusedVariables false
set_option linter.unusedSimpArgs false

def bls (l : List Bool) : List Value := l.map Value.bool
@[simp] theorem bls_length (l : List Bool) : (bls l).length = l.length := by simp [bls]
theorem Ro.bl {w : World} {B : Nat} {a : Option Addr} {l : List Bool} (h : Ro w B a (bls l)) (hn : 0 < l.length) :
    ∃ b off, a = some ⟨b, off, none⟩ ∧ b < B ∧ ∀ i, i < l.length → w.cell? ⟨b, off + i, none⟩ = some (.bool (l.getD i false)) := by
  obtain ⟨b, off, h1, h2, h3⟩ := h.at_ (by intro e; have e2 := congrArg List.length e; simp only [bls_length, List.length_nil] at e2; omega)
  refine ⟨b, off, h1, h2, fun i hi => ?_⟩
  rw [h3 i (by simpa using hi)]
  simp [bls, List.getD, hi]
def rows (F : Nat → Sec) : Nat → List Value
  | 0 => []
  | n + 1 => rows F n ++ u8s (F n)
end Go.Proofs.YtcadnlilijkneaaGreat
