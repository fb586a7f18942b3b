/-
  No cell of these rows narrows 'for every input' (looked for: loops, veiled, ifaces, maps, wideKeys, modest, calm, conditions, laid).
  DERIVED. THE GIVEN ROWS OF THIS SEAT. 5 by the template 'for every input the law returns true; each argument reads behind the call as it read before'; 0 by the template 'total and deterministic' (their statements: YtdiemejdbakffaaTotals.lean).
  GIVEN WITH THE SEED: the statements are not yours to turn. If you find one false, say at which input.
  Laid BY PROGRAM, IN A SANDBOX (cutbox-rows.mjs): the forced cells as the released guide's own fill.sh prints them over the translation 272571ababf8c7e7… (all of the seat's roots in one cut). By AI agents, Wed Nov 11 2026. No macro, syntax, notation, axiom, sorry.
-/
import Derived.Test.YtdiemejdbakffaaChecked
import GoSem.Claim
import GoSem.ClaimJoined
import GoSem.ClaimMapViews
import Derived.JoinedTies
import Derived.KernelRfl
namespace Go.Proofs.Ytdiemejdbakffaa
/- THE CELL 'sum', in the pinned program and in every row, IS THE sha256 OF THE DUMP (.gsa) THAT YtdiemejdbakffaaProg.lean LOADS. Nothing in Lean hashes anything: it is a label: what it is worth is what the hold of that sum in a sandbox is worth. -/
noncomputable def Try.pinned : Pinned := { name := "ytdiemejdbakffaa", sum := "272571ababf8c7e7557ebdeda8d5f012bb33da7e6f20f6a62fc4c600fccc63f6", checked := Try.checked }
namespace Rows
def none {H : Type} : Left H := { results := [], args := [] }

/-- 'rotuletlaw06.TapeWhole': WHATEVER THE INPUT: true; the input reads as it did. -/
def tapeWholeSpec : ChangeSpec := { name := "tapeWhole", fn := fun _ => fun
  | [d1, d2, d3] => { results := [.lit (.bool true)], args := [d1, d2, d3] }
  | _ => none }
def tapeWholeRow : OpenClaim := { program := "ytdiemejdbakffaa", sum := "272571ababf8c7e7557ebdeda8d5f012bb33da7e6f20f6a62fc4c600fccc63f6", func := "rotulet/rotuletlaw06.TapeWhole", spec := "tapeWhole", unfollowed := true, recurses := true, apart := false }
def TapeWholeSaid : Prop := tapeWholeRow.holds Try.pinned (OpenSpec.ofChange tapeWholeSpec)

/-- ITS FALSE NEIGHBOUR: 'it returns false'. Refute it at one input. -/
def tapeWholeWrong : ChangeSpec := { name := "tapeWhole", fn := fun _ => fun
  | [d1, d2, d3] => { results := [.lit (.bool false)], args := [d1, d2, d3] }
  | _ => none }
def TapeWholeWrongFalsely : Prop := tapeWholeRow.holds Try.pinned (OpenSpec.ofChange tapeWholeWrong)

/-- 'rotuletlaw06.TapeRooms': WHATEVER THE INPUT: true; the input reads as it did. -/
def tapeRoomsSpec : ChangeSpec := { name := "tapeRooms", fn := fun _ => fun
  | [d1, d2] => { results := [.lit (.bool true)], args := [d1, d2] }
  | _ => none }
def tapeRoomsRow : OpenClaim := { program := "ytdiemejdbakffaa", sum := "272571ababf8c7e7557ebdeda8d5f012bb33da7e6f20f6a62fc4c600fccc63f6", func := "rotulet/rotuletlaw06.TapeRooms", spec := "tapeRooms", unfollowed := true, recurses := true, apart := false }
def TapeRoomsSaid : Prop := tapeRoomsRow.holds Try.pinned (OpenSpec.ofChange tapeRoomsSpec)

/-- ITS FALSE NEIGHBOUR: 'it returns false'. Refute it at one input. -/
def tapeRoomsWrong : ChangeSpec := { name := "tapeRooms", fn := fun _ => fun
  | [d1, d2] => { results := [.lit (.bool false)], args := [d1, d2] }
  | _ => none }
def TapeRoomsWrongFalsely : Prop := tapeRoomsRow.holds Try.pinned (OpenSpec.ofChange tapeRoomsWrong)

/-- 'rotuletlaw06.TapeNil': WHATEVER THE INPUT: true; the input reads as it did. -/
def tapeNilSpec : ChangeSpec := { name := "tapeNil", fn := fun _ => fun
  | [d] => { results := [.lit (.bool true)], args := [d] }
  | _ => none }
def tapeNilRow : OpenClaim := { program := "ytdiemejdbakffaa", sum := "272571ababf8c7e7557ebdeda8d5f012bb33da7e6f20f6a62fc4c600fccc63f6", func := "rotulet/rotuletlaw06.TapeNil", spec := "tapeNil", unfollowed := true, recurses := true, apart := false }
def TapeNilSaid : Prop := tapeNilRow.holds Try.pinned (OpenSpec.ofChange tapeNilSpec)

/-- ITS FALSE NEIGHBOUR: 'it returns false'. Refute it at one input. -/
def tapeNilWrong : ChangeSpec := { name := "tapeNil", fn := fun _ => fun
  | [d] => { results := [.lit (.bool false)], args := [d] }
  | _ => none }
def TapeNilWrongFalsely : Prop := tapeNilRow.holds Try.pinned (OpenSpec.ofChange tapeNilWrong)

/-- 'rotuletlaw06.TapeOpens': WHATEVER THE INPUT: true; the input reads as it did. -/
def tapeOpensSpec : ChangeSpec := { name := "tapeOpens", fn := fun _ => fun
  | [d1, d2, d3] => { results := [.lit (.bool true)], args := [d1, d2, d3] }
  | _ => none }
def tapeOpensRow : OpenClaim := { program := "ytdiemejdbakffaa", sum := "272571ababf8c7e7557ebdeda8d5f012bb33da7e6f20f6a62fc4c600fccc63f6", func := "rotulet/rotuletlaw06.TapeOpens", spec := "tapeOpens", unfollowed := true, recurses := true, apart := false }
def TapeOpensSaid : Prop := tapeOpensRow.holds Try.pinned (OpenSpec.ofChange tapeOpensSpec)

/-- ITS FALSE NEIGHBOUR: 'it returns false'. Refute it at one input. -/
def tapeOpensWrong : ChangeSpec := { name := "tapeOpens", fn := fun _ => fun
  | [d1, d2, d3] => { results := [.lit (.bool false)], args := [d1, d2, d3] }
  | _ => none }
def TapeOpensWrongFalsely : Prop := tapeOpensRow.holds Try.pinned (OpenSpec.ofChange tapeOpensWrong)

/-- 'rotuletlaw06.TapeFirst': WHATEVER THE INPUT: true; the input reads as it did. -/
def tapeFirstSpec : ChangeSpec := { name := "tapeFirst", fn := fun _ => fun
  | [d1, d2] => { results := [.lit (.bool true)], args := [d1, d2] }
  | _ => none }
def tapeFirstRow : OpenClaim := { program := "ytdiemejdbakffaa", sum := "272571ababf8c7e7557ebdeda8d5f012bb33da7e6f20f6a62fc4c600fccc63f6", func := "rotulet/rotuletlaw06.TapeFirst", spec := "tapeFirst", unfollowed := true, recurses := true, apart := false }
def TapeFirstSaid : Prop := tapeFirstRow.holds Try.pinned (OpenSpec.ofChange tapeFirstSpec)

/-- ITS FALSE NEIGHBOUR: 'it returns false'. Refute it at one input. -/
def tapeFirstWrong : ChangeSpec := { name := "tapeFirst", fn := fun _ => fun
  | [d1, d2] => { results := [.lit (.bool false)], args := [d1, d2] }
  | _ => none }
def TapeFirstWrongFalsely : Prop := tapeFirstRow.holds Try.pinned (OpenSpec.ofChange tapeFirstWrong)

/- THE SECOND FORM. 'bulk': how many values and letters a reading holds, each counted each time it is reached (what is shared counts as often as it is met; a slice's spare places count too). A statement '..UptoSaid' is the law's where the arguments, and the package variables that the reading takes, are together of bulk at most 1048576: NARROWER than '..Said'. Prove '..Said' where nothing that the law and all that it calls make is longer than what came in: it says more and counts as full. Else prove '..UptoSaid'. A law counts once. -/
mutual
def uptoBulk {H : Type} : DataW H → Nat
  | .lit (.string bytes) => bytes.length + 1
  | .lit _ => 1
  | .nil => 1
  | .ptr d => uptoBulk d + 1
  | .slice elems spare => uptoBulkAll elems + uptoBulkAll spare + 1
  | .agg parts => uptoBulkAll parts + 1
  | .iface _ d => uptoBulk d + 1
  | .map entries => uptoBulkEntries entries + 1
  | .held _ => 1
def uptoBulkAll {H : Type} : List (DataW H) → Nat
  | [] => 0
  | d :: r => uptoBulk d + uptoBulkAll r
def uptoBulkEntries {H : Type} : List (Lit × DataW H) → Nat
  | [] => 0
  | x :: r => uptoBulkEntry x + uptoBulkEntries r
def uptoBulkEntry {H : Type} : Lit × DataW H → Nat
  | (.string bytes, d) => bytes.length + uptoBulk d + 1
  | (_, d) => uptoBulk d + 1
 end
def uptoSmall : (H : Type) → List (DataW H) → Bool := fun _ ds => decide (uptoBulkAll ds ≤ 1048576)
def OpenSpec.upto (s : _root_.Go.ChangeSpec) : _root_.Go.OpenSpec := { _root_.Go.OpenSpec.ofChange s with cond := some uptoSmall }

/-- 'rotuletlaw06.TapeWhole', WHERE WHAT IT READS IS OF BULK AT MOST 1048576: true; the input reads as it did. -/
def tapeWholeUptoRow : OpenClaim := { program := "ytdiemejdbakffaa", sum := "272571ababf8c7e7557ebdeda8d5f012bb33da7e6f20f6a62fc4c600fccc63f6", func := "rotulet/rotuletlaw06.TapeWhole", spec := "tapeWhole", unfollowed := true, recurses := true, apart := false, narrowed := true }
def TapeWholeUptoSaid : Prop := tapeWholeUptoRow.holds Try.pinned (OpenSpec.upto tapeWholeSpec)

/-- 'rotuletlaw06.TapeRooms', WHERE WHAT IT READS IS OF BULK AT MOST 1048576: true; the input reads as it did. -/
def tapeRoomsUptoRow : OpenClaim := { program := "ytdiemejdbakffaa", sum := "272571ababf8c7e7557ebdeda8d5f012bb33da7e6f20f6a62fc4c600fccc63f6", func := "rotulet/rotuletlaw06.TapeRooms", spec := "tapeRooms", unfollowed := true, recurses := true, apart := false, narrowed := true }
def TapeRoomsUptoSaid : Prop := tapeRoomsUptoRow.holds Try.pinned (OpenSpec.upto tapeRoomsSpec)

/-- 'rotuletlaw06.TapeNil', WHERE WHAT IT READS IS OF BULK AT MOST 1048576: true; the input reads as it did. -/
def tapeNilUptoRow : OpenClaim := { program := "ytdiemejdbakffaa", sum := "272571ababf8c7e7557ebdeda8d5f012bb33da7e6f20f6a62fc4c600fccc63f6", func := "rotulet/rotuletlaw06.TapeNil", spec := "tapeNil", unfollowed := true, recurses := true, apart := false, narrowed := true }
def TapeNilUptoSaid : Prop := tapeNilUptoRow.holds Try.pinned (OpenSpec.upto tapeNilSpec)

/-- 'rotuletlaw06.TapeOpens', WHERE WHAT IT READS IS OF BULK AT MOST 1048576: true; the input reads as it did. -/
def tapeOpensUptoRow : OpenClaim := { program := "ytdiemejdbakffaa", sum := "272571ababf8c7e7557ebdeda8d5f012bb33da7e6f20f6a62fc4c600fccc63f6", func := "rotulet/rotuletlaw06.TapeOpens", spec := "tapeOpens", unfollowed := true, recurses := true, apart := false, narrowed := true }
def TapeOpensUptoSaid : Prop := tapeOpensUptoRow.holds Try.pinned (OpenSpec.upto tapeOpensSpec)

/-- 'rotuletlaw06.TapeFirst', WHERE WHAT IT READS IS OF BULK AT MOST 1048576: true; the input reads as it did. -/
def tapeFirstUptoRow : OpenClaim := { program := "ytdiemejdbakffaa", sum := "272571ababf8c7e7557ebdeda8d5f012bb33da7e6f20f6a62fc4c600fccc63f6", func := "rotulet/rotuletlaw06.TapeFirst", spec := "tapeFirst", unfollowed := true, recurses := true, apart := false, narrowed := true }
def TapeFirstUptoSaid : Prop := tapeFirstUptoRow.holds Try.pinned (OpenSpec.upto tapeFirstSpec)

end Rows
end Go.Proofs.Ytdiemejdbakffaa
