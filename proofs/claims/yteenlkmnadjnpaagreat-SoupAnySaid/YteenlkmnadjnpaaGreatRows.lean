/-
  No cell of these rows narrows 'for every input' (looked for: loops, veiled, ifaces, maps, wideKeys, modest, calm, conditions, laid).
  DERIVED. THE GIVEN ROWS OF THIS SEAT. 7 by the template 'for every input the law returns true; each argument reads behind the call as it read before'; 0 by the template 'total and deterministic' (their statements: YteenlkmnadjnpaaGreatTotals.lean).
  GIVEN WITH THE SEED: the statements are not yours to turn. If you find one false, say at which input.
  Laid BY PROGRAM, IN A SANDBOX (cutbox-rows.mjs): the forced cells as the released guide's own fill.sh prints them over the translation e929ece0a05ae390… (all of the seat's roots in one cut). By AI agents, Wed Nov 11 2026. No macro, syntax, notation, axiom, sorry.
-/
import Derived.Test.YteenlkmnadjnpaaGreatChecked
import GoSem.Claim
import GoSem.ClaimJoined
import GoSem.ClaimMapViews
import Derived.JoinedTies
import Derived.KernelRfl
namespace Go.Proofs.YteenlkmnadjnpaaGreat
/- THE CELL 'sum', in the pinned program and in every row, IS THE sha256 OF THE DUMP (.gsa) THAT YteenlkmnadjnpaaGreatProg.lean LOADS. Nothing in Lean hashes anything: it is a label: what it is worth is what the hold of that sum in a sandbox is worth. -/
noncomputable def Tryz.pinned : Pinned := { name := "yteenlkmnadjnpaagreat", sum := "e929ece0a05ae390ac7cd5a5d33593005221139d03ac91e5f87107f354cf8115", checked := Tryz.checked }
namespace Rows
def none {H : Type} : Left H := { results := [], args := [] }

/-- 'rotuletlaw10.MessageEncodes': WHATEVER THE INPUT: true; the input reads as it did. -/
def messageEncodesSpec : ChangeSpec := { name := "messageEncodes", fn := fun _ => fun
  | [d1, d2, d3] => { results := [.lit (.bool true)], args := [d1, d2, d3] }
  | _ => none }
def messageEncodesRow : OpenClaim := { program := "yteenlkmnadjnpaagreat", sum := "e929ece0a05ae390ac7cd5a5d33593005221139d03ac91e5f87107f354cf8115", func := "rotulet/rotuletlaw10.MessageEncodes", spec := "messageEncodes", unfollowed := true, recurses := true, plainKeys := false, apart := false }
def MessageEncodesSaid : Prop := messageEncodesRow.holds Tryz.pinned (OpenSpec.ofChange messageEncodesSpec)

/-- ITS FALSE NEIGHBOUR: 'it returns false'. Refute it at one input. -/
def messageEncodesWrong : ChangeSpec := { name := "messageEncodes", fn := fun _ => fun
  | [d1, d2, d3] => { results := [.lit (.bool false)], args := [d1, d2, d3] }
  | _ => none }
def MessageEncodesWrongFalsely : Prop := messageEncodesRow.holds Tryz.pinned (OpenSpec.ofChange messageEncodesWrong)

/-- 'rotuletlaw11.SoupPlays': WHATEVER THE INPUT: true; the input reads as it did. -/
def soupPlaysSpec : ChangeSpec := { name := "soupPlays", fn := fun _ => fun
  | [d] => { results := [.lit (.bool true)], args := [d] }
  | _ => none }
def soupPlaysRow : OpenClaim := { program := "yteenlkmnadjnpaagreat", sum := "e929ece0a05ae390ac7cd5a5d33593005221139d03ac91e5f87107f354cf8115", func := "rotulet/rotuletlaw11.SoupPlays", spec := "soupPlays", unfollowed := true, recurses := true, plainKeys := false, apart := false }
def SoupPlaysSaid : Prop := soupPlaysRow.holds Tryz.pinned (OpenSpec.ofChange soupPlaysSpec)

/-- ITS FALSE NEIGHBOUR: 'it returns false'. Refute it at one input. -/
def soupPlaysWrong : ChangeSpec := { name := "soupPlays", fn := fun _ => fun
  | [d] => { results := [.lit (.bool false)], args := [d] }
  | _ => none }
def SoupPlaysWrongFalsely : Prop := soupPlaysRow.holds Tryz.pinned (OpenSpec.ofChange soupPlaysWrong)

/-- 'rotuletlaw11.SoupWhole': WHATEVER THE INPUT: true; the input reads as it did. -/
def soupWholeSpec : ChangeSpec := { name := "soupWhole", fn := fun _ => fun
  | [d] => { results := [.lit (.bool true)], args := [d] }
  | _ => none }
def soupWholeRow : OpenClaim := { program := "yteenlkmnadjnpaagreat", sum := "e929ece0a05ae390ac7cd5a5d33593005221139d03ac91e5f87107f354cf8115", func := "rotulet/rotuletlaw11.SoupWhole", spec := "soupWhole", unfollowed := true, recurses := true, plainKeys := false, apart := false }
def SoupWholeSaid : Prop := soupWholeRow.holds Tryz.pinned (OpenSpec.ofChange soupWholeSpec)

/-- ITS FALSE NEIGHBOUR: 'it returns false'. Refute it at one input. -/
def soupWholeWrong : ChangeSpec := { name := "soupWhole", fn := fun _ => fun
  | [d] => { results := [.lit (.bool false)], args := [d] }
  | _ => none }
def SoupWholeWrongFalsely : Prop := soupWholeRow.holds Tryz.pinned (OpenSpec.ofChange soupWholeWrong)

/-- 'rotuletlaw11.SoupAny': WHATEVER THE INPUT: true; the input reads as it did. -/
def soupAnySpec : ChangeSpec := { name := "soupAny", fn := fun _ => fun
  | [d1, d2] => { results := [.lit (.bool true)], args := [d1, d2] }
  | _ => none }
def soupAnyRow : OpenClaim := { program := "yteenlkmnadjnpaagreat", sum := "e929ece0a05ae390ac7cd5a5d33593005221139d03ac91e5f87107f354cf8115", func := "rotulet/rotuletlaw11.SoupAny", spec := "soupAny", unfollowed := true, recurses := true, plainKeys := false, apart := false }
def SoupAnySaid : Prop := soupAnyRow.holds Tryz.pinned (OpenSpec.ofChange soupAnySpec)

/-- ITS FALSE NEIGHBOUR: 'it returns false'. Refute it at one input. -/
def soupAnyWrong : ChangeSpec := { name := "soupAny", fn := fun _ => fun
  | [d1, d2] => { results := [.lit (.bool false)], args := [d1, d2] }
  | _ => none }
def SoupAnyWrongFalsely : Prop := soupAnyRow.holds Tryz.pinned (OpenSpec.ofChange soupAnyWrong)

/-- 'rotuletlaw11.SoupFull': WHATEVER THE INPUT: true; the input reads as it did. -/
def soupFullSpec : ChangeSpec := { name := "soupFull", fn := fun _ => fun
  | [d1, d2] => { results := [.lit (.bool true)], args := [d1, d2] }
  | _ => none }
def soupFullRow : OpenClaim := { program := "yteenlkmnadjnpaagreat", sum := "e929ece0a05ae390ac7cd5a5d33593005221139d03ac91e5f87107f354cf8115", func := "rotulet/rotuletlaw11.SoupFull", spec := "soupFull", unfollowed := true, recurses := true, plainKeys := false, apart := false }
def SoupFullSaid : Prop := soupFullRow.holds Tryz.pinned (OpenSpec.ofChange soupFullSpec)

/-- ITS FALSE NEIGHBOUR: 'it returns false'. Refute it at one input. -/
def soupFullWrong : ChangeSpec := { name := "soupFull", fn := fun _ => fun
  | [d1, d2] => { results := [.lit (.bool false)], args := [d1, d2] }
  | _ => none }
def SoupFullWrongFalsely : Prop := soupFullRow.holds Tryz.pinned (OpenSpec.ofChange soupFullWrong)

/-- 'rotuletlaw11.SoupNil': WHATEVER THE INPUT: true; the input reads as it did. -/
def soupNilSpec : ChangeSpec := { name := "soupNil", fn := fun _ => fun
  | [d] => { results := [.lit (.bool true)], args := [d] }
  | _ => none }
def soupNilRow : OpenClaim := { program := "yteenlkmnadjnpaagreat", sum := "e929ece0a05ae390ac7cd5a5d33593005221139d03ac91e5f87107f354cf8115", func := "rotulet/rotuletlaw11.SoupNil", spec := "soupNil", unfollowed := true, recurses := true, plainKeys := false, apart := false }
def SoupNilSaid : Prop := soupNilRow.holds Tryz.pinned (OpenSpec.ofChange soupNilSpec)

/-- ITS FALSE NEIGHBOUR: 'it returns false'. Refute it at one input. -/
def soupNilWrong : ChangeSpec := { name := "soupNil", fn := fun _ => fun
  | [d] => { results := [.lit (.bool false)], args := [d] }
  | _ => none }
def SoupNilWrongFalsely : Prop := soupNilRow.holds Tryz.pinned (OpenSpec.ofChange soupNilWrong)

/-- 'rotuletlaw11.SoupDowns': WHATEVER THE INPUT: true; the input reads as it did. -/
def soupDownsSpec : ChangeSpec := { name := "soupDowns", fn := fun _ => fun
  | [d1, d2] => { results := [.lit (.bool true)], args := [d1, d2] }
  | _ => none }
def soupDownsRow : OpenClaim := { program := "yteenlkmnadjnpaagreat", sum := "e929ece0a05ae390ac7cd5a5d33593005221139d03ac91e5f87107f354cf8115", func := "rotulet/rotuletlaw11.SoupDowns", spec := "soupDowns", unfollowed := true, recurses := true, plainKeys := false, apart := false }
def SoupDownsSaid : Prop := soupDownsRow.holds Tryz.pinned (OpenSpec.ofChange soupDownsSpec)

/-- ITS FALSE NEIGHBOUR: 'it returns false'. Refute it at one input. -/
def soupDownsWrong : ChangeSpec := { name := "soupDowns", fn := fun _ => fun
  | [d1, d2] => { results := [.lit (.bool false)], args := [d1, d2] }
  | _ => none }
def SoupDownsWrongFalsely : Prop := soupDownsRow.holds Tryz.pinned (OpenSpec.ofChange soupDownsWrong)

/- THE SECOND FORM. 'bulk': how many values and letters a reading holds, each counted each time it is reached (what is shared counts as often as it is met; a slice's spare places count too). A statement '..UptoSaid' is the law's where the arguments, and the package variables that the reading takes, are together of bulk at most 1048576: NARROWER than '..Said'. Prove '..Said' where nothing that the law and all that it calls make is longer than what came in: it says more and counts as full. Else prove '..UptoSaid'. A law counts once. -/
mutual
def uptoBulk {H : Type} : DataW H → Nat
  | .lit (.string bytes) => bytes.length + 1
  | .lit _ => 1
  | .nil => 1
  | .ptr d => uptoBulk d + 1
  | .slice elems spare => uptoBulkAll elems + uptoBulkAll spare + 1
  | .agg parts => uptoBulkAll parts + 1
  | .iface _ d => uptoBulk d + 1
  | .map entries => uptoBulkEntries entries + 1
  | .held _ => 1
def uptoBulkAll {H : Type} : List (DataW H) → Nat
  | [] => 0
  | d :: r => uptoBulk d + uptoBulkAll r
def uptoBulkEntries {H : Type} : List (Lit × DataW H) → Nat
  | [] => 0
  | x :: r => uptoBulkEntry x + uptoBulkEntries r
def uptoBulkEntry {H : Type} : Lit × DataW H → Nat
  | (.string bytes, d) => bytes.length + uptoBulk d + 1
  | (_, d) => uptoBulk d + 1
 end
def uptoSmall : (H : Type) → List (DataW H) → Bool := fun _ ds => decide (uptoBulkAll ds ≤ 1048576)
def OpenSpec.upto (s : _root_.Go.ChangeSpec) : _root_.Go.OpenSpec := { _root_.Go.OpenSpec.ofChange s with cond := some uptoSmall }

/-- 'rotuletlaw10.MessageEncodes', WHERE WHAT IT READS IS OF BULK AT MOST 1048576: true; the input reads as it did. -/
def messageEncodesUptoRow : OpenClaim := { program := "yteenlkmnadjnpaagreat", sum := "e929ece0a05ae390ac7cd5a5d33593005221139d03ac91e5f87107f354cf8115", func := "rotulet/rotuletlaw10.MessageEncodes", spec := "messageEncodes", unfollowed := true, recurses := true, plainKeys := false, apart := false, narrowed := true }
def MessageEncodesUptoSaid : Prop := messageEncodesUptoRow.holds Tryz.pinned (OpenSpec.upto messageEncodesSpec)

/-- 'rotuletlaw11.SoupPlays', WHERE WHAT IT READS IS OF BULK AT MOST 1048576: true; the input reads as it did. -/
def soupPlaysUptoRow : OpenClaim := { program := "yteenlkmnadjnpaagreat", sum := "e929ece0a05ae390ac7cd5a5d33593005221139d03ac91e5f87107f354cf8115", func := "rotulet/rotuletlaw11.SoupPlays", spec := "soupPlays", unfollowed := true, recurses := true, plainKeys := false, apart := false, narrowed := true }
def SoupPlaysUptoSaid : Prop := soupPlaysUptoRow.holds Tryz.pinned (OpenSpec.upto soupPlaysSpec)

/-- 'rotuletlaw11.SoupWhole', WHERE WHAT IT READS IS OF BULK AT MOST 1048576: true; the input reads as it did. -/
def soupWholeUptoRow : OpenClaim := { program := "yteenlkmnadjnpaagreat", sum := "e929ece0a05ae390ac7cd5a5d33593005221139d03ac91e5f87107f354cf8115", func := "rotulet/rotuletlaw11.SoupWhole", spec := "soupWhole", unfollowed := true, recurses := true, plainKeys := false, apart := false, narrowed := true }
def SoupWholeUptoSaid : Prop := soupWholeUptoRow.holds Tryz.pinned (OpenSpec.upto soupWholeSpec)

/-- 'rotuletlaw11.SoupAny', WHERE WHAT IT READS IS OF BULK AT MOST 1048576: true; the input reads as it did. -/
def soupAnyUptoRow : OpenClaim := { program := "yteenlkmnadjnpaagreat", sum := "e929ece0a05ae390ac7cd5a5d33593005221139d03ac91e5f87107f354cf8115", func := "rotulet/rotuletlaw11.SoupAny", spec := "soupAny", unfollowed := true, recurses := true, plainKeys := false, apart := false, narrowed := true }
def SoupAnyUptoSaid : Prop := soupAnyUptoRow.holds Tryz.pinned (OpenSpec.upto soupAnySpec)

/-- 'rotuletlaw11.SoupFull', WHERE WHAT IT READS IS OF BULK AT MOST 1048576: true; the input reads as it did. -/
def soupFullUptoRow : OpenClaim := { program := "yteenlkmnadjnpaagreat", sum := "e929ece0a05ae390ac7cd5a5d33593005221139d03ac91e5f87107f354cf8115", func := "rotulet/rotuletlaw11.SoupFull", spec := "soupFull", unfollowed := true, recurses := true, plainKeys := false, apart := false, narrowed := true }
def SoupFullUptoSaid : Prop := soupFullUptoRow.holds Tryz.pinned (OpenSpec.upto soupFullSpec)

/-- 'rotuletlaw11.SoupNil', WHERE WHAT IT READS IS OF BULK AT MOST 1048576: true; the input reads as it did. -/
def soupNilUptoRow : OpenClaim := { program := "yteenlkmnadjnpaagreat", sum := "e929ece0a05ae390ac7cd5a5d33593005221139d03ac91e5f87107f354cf8115", func := "rotulet/rotuletlaw11.SoupNil", spec := "soupNil", unfollowed := true, recurses := true, plainKeys := false, apart := false, narrowed := true }
def SoupNilUptoSaid : Prop := soupNilUptoRow.holds Tryz.pinned (OpenSpec.upto soupNilSpec)

/-- 'rotuletlaw11.SoupDowns', WHERE WHAT IT READS IS OF BULK AT MOST 1048576: true; the input reads as it did. -/
def soupDownsUptoRow : OpenClaim := { program := "yteenlkmnadjnpaagreat", sum := "e929ece0a05ae390ac7cd5a5d33593005221139d03ac91e5f87107f354cf8115", func := "rotulet/rotuletlaw11.SoupDowns", spec := "soupDowns", unfollowed := true, recurses := true, plainKeys := false, apart := false, narrowed := true }
def SoupDownsUptoSaid : Prop := soupDownsUptoRow.holds Tryz.pinned (OpenSpec.upto soupDownsSpec)

end Rows
end Go.Proofs.YteenlkmnadjnpaaGreat
