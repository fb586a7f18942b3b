/-
  Contracts of Go's library laid at this program, in plain words, as printed by the library's own laying command. No claim of its own.
-/
import Derived.Shelf.SlGeneric
import Derived.Shelf.SlicesE.Clone
import Derived.Shelf.SlSorted.Search
import Derived.Test.YtoadbkiklabceaaRows
namespace Go.Proofs.Ytoadbkiklabceaa
open Go.Shelf
def cloneA_ren : Go.Shelf.Ren := ⟨fun | 41 => 34 | n => n, fun | 22 => 40 | 23 => 28 | 4 => 4 | n => n, fun | n => n⟩
theorem cloneA : Go.Proofs.SlLaysE0.n41 Try.prog cloneA_ren := {
  mixed := by kernel_rfl
  f41 := ⟨Try.f34.name, by decide, Try.func34.trans (congrArg some (by kernel_rfl))⟩
  t4 := Try.underlying4
  a4 := Try.isAgg4
  z4 := Try.sizeOf4
  v4 := Try.zeroValue4
  t22 := Try.underlying40
  a22 := Try.isAgg40
  z22 := Try.sizeOf40
  v22 := Try.zeroValue40 }
def searchA_ren : Go.Shelf.Ren := ⟨fun | 16 => 52 | n => n, fun | 3 => 3 | 35 => 80 | 4 => 4 | 38 => 88 | n => n, fun | n => n⟩
theorem searchA : Go.Proofs.SlLaysO.n16 Try.prog searchA_ren := {
  mixed := by kernel_rfl
  f16 := Try.func52.trans (congrArg some (by kernel_rfl))
  t3 := Try.underlying3
  a3 := Try.isAgg3
  z3 := Try.sizeOf3
  v3 := Try.zeroValue3
  t4 := Try.underlying4
  a4 := Try.isAgg4
  z4 := Try.sizeOf4
  v4 := Try.zeroValue4
  t35 := Try.underlying80
  a35 := Try.isAgg80
  z35 := Try.sizeOf80
  v35 := Try.zeroValue80
  t38 := Try.underlying88
  a38 := Try.isAgg88
  z38 := Try.sizeOf88
  v38 := Try.zeroValue88 }
end Go.Proofs.Ytoadbkiklabceaa
