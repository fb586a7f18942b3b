/-
  No cell of these rows narrows 'for every input' (looked for: loops, veiled, ifaces, maps, wideKeys, modest, calm, conditions, laid).
  DERIVED. THE GIVEN ROWS OF THIS SEAT. 5 by the template 'for every input the law returns true; each argument reads behind the call as it read before'; 0 by the template 'total and deterministic' (their statements: YtihbinphmlgjoaaGreatTotals.lean).
  GIVEN WITH THE SEED: the statements are not yours to turn. If you find one false, say at which input.
  Laid BY PROGRAM, IN A SANDBOX (cutbox-rows.mjs): the forced cells as the released guide's own fill.sh prints them over the translation 38ea263f082e2004… (all of the seat's roots in one cut). By AI agents, Wed Nov 11 2026. No macro, syntax, notation, axiom, sorry.
-/
import Derived.Test.YtihbinphmlgjoaaGreatChecked
import GoSem.Claim
import GoSem.ClaimJoined
import GoSem.ClaimMapViews
import Derived.JoinedTies
import Derived.KernelRfl
namespace Go.Proofs.YtihbinphmlgjoaaGreat
/- THE CELL 'sum', in the pinned program and in every row, IS THE sha256 OF THE DUMP (.gsa) THAT YtihbinphmlgjoaaGreatProg.lean LOADS. Nothing in Lean hashes anything: it is a label: what it is worth is what the hold of that sum in a sandbox is worth. -/
noncomputable def Tryz.pinned : Pinned := { name := "ytihbinphmlgjoaagreat", sum := "38ea263f082e20045c33c35d42961cf1eff890dc86aabfd26fd6822e68da3443", checked := Tryz.checked }
namespace Rows
def none {H : Type} : Left H := { results := [], args := [] }

/-- 'rotuletlaw12.AcceptorPlays': WHATEVER THE INPUT: true; the input reads as it did. -/
def acceptorPlaysSpec : ChangeSpec := { name := "acceptorPlays", fn := fun _ => fun
  | [d1, d2] => { results := [.lit (.bool true)], args := [d1, d2] }
  | _ => none }
def acceptorPlaysRow : OpenClaim := { program := "ytihbinphmlgjoaagreat", sum := "38ea263f082e20045c33c35d42961cf1eff890dc86aabfd26fd6822e68da3443", func := "rotulet/rotuletlaw12.AcceptorPlays", spec := "acceptorPlays", inPlace := ["maps.clone"], unfollowed := true, recurses := true, apart := false }
def AcceptorPlaysSaid : Prop := acceptorPlaysRow.holds Tryz.pinned (OpenSpec.ofChange acceptorPlaysSpec)

/-- ITS FALSE NEIGHBOUR: 'it returns false'. Refute it at one input. -/
def acceptorPlaysWrong : ChangeSpec := { name := "acceptorPlays", fn := fun _ => fun
  | [d1, d2] => { results := [.lit (.bool false)], args := [d1, d2] }
  | _ => none }
def AcceptorPlaysWrongFalsely : Prop := acceptorPlaysRow.holds Tryz.pinned (OpenSpec.ofChange acceptorPlaysWrong)

/-- 'rotuletlaw12.AcceptorKeeps': WHATEVER THE INPUT: true; the input reads as it did. -/
def acceptorKeepsSpec : ChangeSpec := { name := "acceptorKeeps", fn := fun _ => fun
  | [d1, d2, d3] => { results := [.lit (.bool true)], args := [d1, d2, d3] }
  | _ => none }
def acceptorKeepsRow : OpenClaim := { program := "ytihbinphmlgjoaagreat", sum := "38ea263f082e20045c33c35d42961cf1eff890dc86aabfd26fd6822e68da3443", func := "rotulet/rotuletlaw12.AcceptorKeeps", spec := "acceptorKeeps", inPlace := ["maps.clone"], unfollowed := true, recurses := true, apart := false }
def AcceptorKeepsSaid : Prop := acceptorKeepsRow.holds Tryz.pinned (OpenSpec.ofChange acceptorKeepsSpec)

/-- ITS FALSE NEIGHBOUR: 'it returns false'. Refute it at one input. -/
def acceptorKeepsWrong : ChangeSpec := { name := "acceptorKeeps", fn := fun _ => fun
  | [d1, d2, d3] => { results := [.lit (.bool false)], args := [d1, d2, d3] }
  | _ => none }
def AcceptorKeepsWrongFalsely : Prop := acceptorKeepsRow.holds Tryz.pinned (OpenSpec.ofChange acceptorKeepsWrong)

/-- 'rotuletlaw12.AcceptorAnswers': WHATEVER THE INPUT: true; the input reads as it did. -/
def acceptorAnswersSpec : ChangeSpec := { name := "acceptorAnswers", fn := fun _ => fun
  | [d1, d2, d3] => { results := [.lit (.bool true)], args := [d1, d2, d3] }
  | _ => none }
def acceptorAnswersRow : OpenClaim := { program := "ytihbinphmlgjoaagreat", sum := "38ea263f082e20045c33c35d42961cf1eff890dc86aabfd26fd6822e68da3443", func := "rotulet/rotuletlaw12.AcceptorAnswers", spec := "acceptorAnswers", inPlace := ["maps.clone"], unfollowed := true, recurses := true, apart := false }
def AcceptorAnswersSaid : Prop := acceptorAnswersRow.holds Tryz.pinned (OpenSpec.ofChange acceptorAnswersSpec)

/-- ITS FALSE NEIGHBOUR: 'it returns false'. Refute it at one input. -/
def acceptorAnswersWrong : ChangeSpec := { name := "acceptorAnswers", fn := fun _ => fun
  | [d1, d2, d3] => { results := [.lit (.bool false)], args := [d1, d2, d3] }
  | _ => none }
def AcceptorAnswersWrongFalsely : Prop := acceptorAnswersRow.holds Tryz.pinned (OpenSpec.ofChange acceptorAnswersWrong)

/-- 'rotuletlaw12.AcceptorNil': WHATEVER THE INPUT: true; the input reads as it did. -/
def acceptorNilSpec : ChangeSpec := { name := "acceptorNil", fn := fun _ => fun
  | [d] => { results := [.lit (.bool true)], args := [d] }
  | _ => none }
def acceptorNilRow : OpenClaim := { program := "ytihbinphmlgjoaagreat", sum := "38ea263f082e20045c33c35d42961cf1eff890dc86aabfd26fd6822e68da3443", func := "rotulet/rotuletlaw12.AcceptorNil", spec := "acceptorNil", inPlace := ["maps.clone"], unfollowed := true, recurses := true, apart := false }
def AcceptorNilSaid : Prop := acceptorNilRow.holds Tryz.pinned (OpenSpec.ofChange acceptorNilSpec)

/-- ITS FALSE NEIGHBOUR: 'it returns false'. Refute it at one input. -/
def acceptorNilWrong : ChangeSpec := { name := "acceptorNil", fn := fun _ => fun
  | [d] => { results := [.lit (.bool false)], args := [d] }
  | _ => none }
def AcceptorNilWrongFalsely : Prop := acceptorNilRow.holds Tryz.pinned (OpenSpec.ofChange acceptorNilWrong)

/-- 'rotuletlaw12.AcceptorCompacts': WHATEVER THE INPUT: true; the input reads as it did. -/
def acceptorCompactsSpec : ChangeSpec := { name := "acceptorCompacts", fn := fun _ => fun
  | [d1, d2] => { results := [.lit (.bool true)], args := [d1, d2] }
  | _ => none }
def acceptorCompactsRow : OpenClaim := { program := "ytihbinphmlgjoaagreat", sum := "38ea263f082e20045c33c35d42961cf1eff890dc86aabfd26fd6822e68da3443", func := "rotulet/rotuletlaw12.AcceptorCompacts", spec := "acceptorCompacts", inPlace := ["maps.clone"], unfollowed := true, recurses := true, apart := false }
def AcceptorCompactsSaid : Prop := acceptorCompactsRow.holds Tryz.pinned (OpenSpec.ofChange acceptorCompactsSpec)

/-- ITS FALSE NEIGHBOUR: 'it returns false'. Refute it at one input. -/
def acceptorCompactsWrong : ChangeSpec := { name := "acceptorCompacts", fn := fun _ => fun
  | [d1, d2] => { results := [.lit (.bool false)], args := [d1, d2] }
  | _ => none }
def AcceptorCompactsWrongFalsely : Prop := acceptorCompactsRow.holds Tryz.pinned (OpenSpec.ofChange acceptorCompactsWrong)

/- THE SECOND FORM. 'bulk': how many values and letters a reading holds, each counted each time it is reached (what is shared counts as often as it is met; a slice's spare places count too). A statement '..UptoSaid' is the law's where the arguments, and the package variables that the reading takes, are together of bulk at most 1048576: NARROWER than '..Said'. Prove '..Said' where nothing that the law and all that it calls make is longer than what came in: it says more and counts as full. Else prove '..UptoSaid'. A law counts once. -/
mutual
def uptoBulk {H : Type} : DataW H → Nat
  | .lit (.string bytes) => bytes.length + 1
  | .lit _ => 1
  | .nil => 1
  | .ptr d => uptoBulk d + 1
  | .slice elems spare => uptoBulkAll elems + uptoBulkAll spare + 1
  | .agg parts => uptoBulkAll parts + 1
  | .iface _ d => uptoBulk d + 1
  | .map entries => uptoBulkEntries entries + 1
  | .held _ => 1
def uptoBulkAll {H : Type} : List (DataW H) → Nat
  | [] => 0
  | d :: r => uptoBulk d + uptoBulkAll r
def uptoBulkEntries {H : Type} : List (Lit × DataW H) → Nat
  | [] => 0
  | x :: r => uptoBulkEntry x + uptoBulkEntries r
def uptoBulkEntry {H : Type} : Lit × DataW H → Nat
  | (.string bytes, d) => bytes.length + uptoBulk d + 1
  | (_, d) => uptoBulk d + 1
 end
def uptoSmall : (H : Type) → List (DataW H) → Bool := fun _ ds => decide (uptoBulkAll ds ≤ 1048576)
def OpenSpec.upto (s : _root_.Go.ChangeSpec) : _root_.Go.OpenSpec := { _root_.Go.OpenSpec.ofChange s with cond := some uptoSmall }

/-- 'rotuletlaw12.AcceptorPlays', WHERE WHAT IT READS IS OF BULK AT MOST 1048576: true; the input reads as it did. -/
def acceptorPlaysUptoRow : OpenClaim := { program := "ytihbinphmlgjoaagreat", sum := "38ea263f082e20045c33c35d42961cf1eff890dc86aabfd26fd6822e68da3443", func := "rotulet/rotuletlaw12.AcceptorPlays", spec := "acceptorPlays", inPlace := ["maps.clone"], unfollowed := true, recurses := true, apart := false, narrowed := true }
def AcceptorPlaysUptoSaid : Prop := acceptorPlaysUptoRow.holds Tryz.pinned (OpenSpec.upto acceptorPlaysSpec)

/-- 'rotuletlaw12.AcceptorKeeps', WHERE WHAT IT READS IS OF BULK AT MOST 1048576: true; the input reads as it did. -/
def acceptorKeepsUptoRow : OpenClaim := { program := "ytihbinphmlgjoaagreat", sum := "38ea263f082e20045c33c35d42961cf1eff890dc86aabfd26fd6822e68da3443", func := "rotulet/rotuletlaw12.AcceptorKeeps", spec := "acceptorKeeps", inPlace := ["maps.clone"], unfollowed := true, recurses := true, apart := false, narrowed := true }
def AcceptorKeepsUptoSaid : Prop := acceptorKeepsUptoRow.holds Tryz.pinned (OpenSpec.upto acceptorKeepsSpec)

/-- 'rotuletlaw12.AcceptorAnswers', WHERE WHAT IT READS IS OF BULK AT MOST 1048576: true; the input reads as it did. -/
def acceptorAnswersUptoRow : OpenClaim := { program := "ytihbinphmlgjoaagreat", sum := "38ea263f082e20045c33c35d42961cf1eff890dc86aabfd26fd6822e68da3443", func := "rotulet/rotuletlaw12.AcceptorAnswers", spec := "acceptorAnswers", inPlace := ["maps.clone"], unfollowed := true, recurses := true, apart := false, narrowed := true }
def AcceptorAnswersUptoSaid : Prop := acceptorAnswersUptoRow.holds Tryz.pinned (OpenSpec.upto acceptorAnswersSpec)

/-- 'rotuletlaw12.AcceptorNil', WHERE WHAT IT READS IS OF BULK AT MOST 1048576: true; the input reads as it did. -/
def acceptorNilUptoRow : OpenClaim := { program := "ytihbinphmlgjoaagreat", sum := "38ea263f082e20045c33c35d42961cf1eff890dc86aabfd26fd6822e68da3443", func := "rotulet/rotuletlaw12.AcceptorNil", spec := "acceptorNil", inPlace := ["maps.clone"], unfollowed := true, recurses := true, apart := false, narrowed := true }
def AcceptorNilUptoSaid : Prop := acceptorNilUptoRow.holds Tryz.pinned (OpenSpec.upto acceptorNilSpec)

/-- 'rotuletlaw12.AcceptorCompacts', WHERE WHAT IT READS IS OF BULK AT MOST 1048576: true; the input reads as it did. -/
def acceptorCompactsUptoRow : OpenClaim := { program := "ytihbinphmlgjoaagreat", sum := "38ea263f082e20045c33c35d42961cf1eff890dc86aabfd26fd6822e68da3443", func := "rotulet/rotuletlaw12.AcceptorCompacts", spec := "acceptorCompacts", inPlace := ["maps.clone"], unfollowed := true, recurses := true, apart := false, narrowed := true }
def AcceptorCompactsUptoSaid : Prop := acceptorCompactsUptoRow.holds Tryz.pinned (OpenSpec.upto acceptorCompactsSpec)

end Rows
end Go.Proofs.YtihbinphmlgjoaaGreat
