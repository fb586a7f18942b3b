/-
  No cell of these rows narrows 'for every input' (looked for: loops, veiled, ifaces, maps, wideKeys, modest, calm, conditions, laid).
  DERIVED. THE GIVEN ROWS OF THIS SEAT. 8 by the template 'for every input the law returns true; each argument reads behind the call as it read before'; 0 by the template 'total and deterministic' (their statements: YtcadnlilijkneaaGreatTotals.lean).
  GIVEN WITH THE SEED: the statements are not yours to turn. If you find one false, say at which input.
  Laid BY PROGRAM, IN A SANDBOX (cutbox-rows.mjs): the forced cells as the released guide's own fill.sh prints them over the translation bf54d53aefba26e8… (all of the seat's roots in one cut). By AI agents, Wed Nov 11 2026. No macro, syntax, notation, axiom, sorry.
-/
import Derived.Test.YtcadnlilijkneaaGreatChecked
import GoSem.Claim
import GoSem.ClaimJoined
import GoSem.ClaimMapViews
import Derived.JoinedTies
import Derived.KernelRfl
namespace Go.Proofs.YtcadnlilijkneaaGreat
/- THE CELL 'sum', in the pinned program and in every row, IS THE sha256 OF THE DUMP (.gsa) THAT YtcadnlilijkneaaGreatProg.lean LOADS. Nothing in Lean hashes anything: it is a label: what it is worth is what the hold of that sum in a sandbox is worth. -/
noncomputable def Tryz.pinned : Pinned := { name := "ytcadnlilijkneaagreat", sum := "bf54d53aefba26e83405298f2284b88bc79898bfb5d5916b1affe861541389ea", checked := Tryz.checked }
namespace Rows
def none {H : Type} : Left H := { results := [], args := [] }

/-- 'rotuletlaw13.ProposerPlays': WHATEVER THE INPUT: true; the input reads as it did. -/
def proposerPlaysSpec : ChangeSpec := { name := "proposerPlays", fn := fun _ => fun
  | [d1, d2, d3] => { results := [.lit (.bool true)], args := [d1, d2, d3] }
  | _ => none }
def proposerPlaysRow : OpenClaim := { program := "ytcadnlilijkneaagreat", sum := "bf54d53aefba26e83405298f2284b88bc79898bfb5d5916b1affe861541389ea", func := "rotulet/rotuletlaw13.ProposerPlays", spec := "proposerPlays", unfollowed := true, recurses := true, apart := false }
def ProposerPlaysSaid : Prop := proposerPlaysRow.holds Tryz.pinned (OpenSpec.ofChange proposerPlaysSpec)

/-- ITS FALSE NEIGHBOUR: 'it returns false'. Refute it at one input. -/
def proposerPlaysWrong : ChangeSpec := { name := "proposerPlays", fn := fun _ => fun
  | [d1, d2, d3] => { results := [.lit (.bool false)], args := [d1, d2, d3] }
  | _ => none }
def ProposerPlaysWrongFalsely : Prop := proposerPlaysRow.holds Tryz.pinned (OpenSpec.ofChange proposerPlaysWrong)

/-- 'rotuletlaw13.ProposerOne': WHATEVER THE INPUT: true; the input reads as it did. -/
def proposerOneSpec : ChangeSpec := { name := "proposerOne", fn := fun _ => fun
  | [d1, d2, d3] => { results := [.lit (.bool true)], args := [d1, d2, d3] }
  | _ => none }
def proposerOneRow : OpenClaim := { program := "ytcadnlilijkneaagreat", sum := "bf54d53aefba26e83405298f2284b88bc79898bfb5d5916b1affe861541389ea", func := "rotulet/rotuletlaw13.ProposerOne", spec := "proposerOne", inPlace := ["maps.clone"], unfollowed := true, recurses := true, apart := false }
def ProposerOneSaid : Prop := proposerOneRow.holds Tryz.pinned (OpenSpec.ofChange proposerOneSpec)

/-- ITS FALSE NEIGHBOUR: 'it returns false'. Refute it at one input. -/
def proposerOneWrong : ChangeSpec := { name := "proposerOne", fn := fun _ => fun
  | [d1, d2, d3] => { results := [.lit (.bool false)], args := [d1, d2, d3] }
  | _ => none }
def ProposerOneWrongFalsely : Prop := proposerOneRow.holds Tryz.pinned (OpenSpec.ofChange proposerOneWrong)

/-- 'rotuletlaw13.ProposerDecides': WHATEVER THE INPUT: true; the input reads as it did. -/
def proposerDecidesSpec : ChangeSpec := { name := "proposerDecides", fn := fun _ => fun
  | [d1, d2] => { results := [.lit (.bool true)], args := [d1, d2] }
  | _ => none }
def proposerDecidesRow : OpenClaim := { program := "ytcadnlilijkneaagreat", sum := "bf54d53aefba26e83405298f2284b88bc79898bfb5d5916b1affe861541389ea", func := "rotulet/rotuletlaw13.ProposerDecides", spec := "proposerDecides", inPlace := ["maps.clone"], unfollowed := true, recurses := true, apart := false }
def ProposerDecidesSaid : Prop := proposerDecidesRow.holds Tryz.pinned (OpenSpec.ofChange proposerDecidesSpec)

/-- ITS FALSE NEIGHBOUR: 'it returns false'. Refute it at one input. -/
def proposerDecidesWrong : ChangeSpec := { name := "proposerDecides", fn := fun _ => fun
  | [d1, d2] => { results := [.lit (.bool false)], args := [d1, d2] }
  | _ => none }
def ProposerDecidesWrongFalsely : Prop := proposerDecidesRow.holds Tryz.pinned (OpenSpec.ofChange proposerDecidesWrong)

/-- 'rotuletlaw12.AcceptorPlays': WHATEVER THE INPUT: true; the input reads as it did. -/
def acceptorPlaysSpec : ChangeSpec := { name := "acceptorPlays", fn := fun _ => fun
  | [d1, d2] => { results := [.lit (.bool true)], args := [d1, d2] }
  | _ => none }
def acceptorPlaysRow : OpenClaim := { program := "ytcadnlilijkneaagreat", sum := "bf54d53aefba26e83405298f2284b88bc79898bfb5d5916b1affe861541389ea", func := "rotulet/rotuletlaw12.AcceptorPlays", spec := "acceptorPlays", inPlace := ["maps.clone"], unfollowed := true, recurses := true, apart := false }
def AcceptorPlaysSaid : Prop := acceptorPlaysRow.holds Tryz.pinned (OpenSpec.ofChange acceptorPlaysSpec)

/-- ITS FALSE NEIGHBOUR: 'it returns false'. Refute it at one input. -/
def acceptorPlaysWrong : ChangeSpec := { name := "acceptorPlays", fn := fun _ => fun
  | [d1, d2] => { results := [.lit (.bool false)], args := [d1, d2] }
  | _ => none }
def AcceptorPlaysWrongFalsely : Prop := acceptorPlaysRow.holds Tryz.pinned (OpenSpec.ofChange acceptorPlaysWrong)

/-- 'rotuletlaw12.AcceptorKeeps': WHATEVER THE INPUT: true; the input reads as it did. -/
def acceptorKeepsSpec : ChangeSpec := { name := "acceptorKeeps", fn := fun _ => fun
  | [d1, d2, d3] => { results := [.lit (.bool true)], args := [d1, d2, d3] }
  | _ => none }
def acceptorKeepsRow : OpenClaim := { program := "ytcadnlilijkneaagreat", sum := "bf54d53aefba26e83405298f2284b88bc79898bfb5d5916b1affe861541389ea", func := "rotulet/rotuletlaw12.AcceptorKeeps", spec := "acceptorKeeps", inPlace := ["maps.clone"], unfollowed := true, recurses := true, apart := false }
def AcceptorKeepsSaid : Prop := acceptorKeepsRow.holds Tryz.pinned (OpenSpec.ofChange acceptorKeepsSpec)

/-- ITS FALSE NEIGHBOUR: 'it returns false'. Refute it at one input. -/
def acceptorKeepsWrong : ChangeSpec := { name := "acceptorKeeps", fn := fun _ => fun
  | [d1, d2, d3] => { results := [.lit (.bool false)], args := [d1, d2, d3] }
  | _ => none }
def AcceptorKeepsWrongFalsely : Prop := acceptorKeepsRow.holds Tryz.pinned (OpenSpec.ofChange acceptorKeepsWrong)

/-- 'rotuletlaw12.AcceptorAnswers': WHATEVER THE INPUT: true; the input reads as it did. -/
def acceptorAnswersSpec : ChangeSpec := { name := "acceptorAnswers", fn := fun _ => fun
  | [d1, d2, d3] => { results := [.lit (.bool true)], args := [d1, d2, d3] }
  | _ => none }
def acceptorAnswersRow : OpenClaim := { program := "ytcadnlilijkneaagreat", sum := "bf54d53aefba26e83405298f2284b88bc79898bfb5d5916b1affe861541389ea", func := "rotulet/rotuletlaw12.AcceptorAnswers", spec := "acceptorAnswers", inPlace := ["maps.clone"], unfollowed := true, recurses := true, apart := false }
def AcceptorAnswersSaid : Prop := acceptorAnswersRow.holds Tryz.pinned (OpenSpec.ofChange acceptorAnswersSpec)

/-- ITS FALSE NEIGHBOUR: 'it returns false'. Refute it at one input. -/
def acceptorAnswersWrong : ChangeSpec := { name := "acceptorAnswers", fn := fun _ => fun
  | [d1, d2, d3] => { results := [.lit (.bool false)], args := [d1, d2, d3] }
  | _ => none }
def AcceptorAnswersWrongFalsely : Prop := acceptorAnswersRow.holds Tryz.pinned (OpenSpec.ofChange acceptorAnswersWrong)

/-- 'rotuletlaw12.AcceptorNil': WHATEVER THE INPUT: true; the input reads as it did. -/
def acceptorNilSpec : ChangeSpec := { name := "acceptorNil", fn := fun _ => fun
  | [d] => { results := [.lit (.bool true)], args := [d] }
  | _ => none }
def acceptorNilRow : OpenClaim := { program := "ytcadnlilijkneaagreat", sum := "bf54d53aefba26e83405298f2284b88bc79898bfb5d5916b1affe861541389ea", func := "rotulet/rotuletlaw12.AcceptorNil", spec := "acceptorNil", inPlace := ["maps.clone"], unfollowed := true, recurses := true, apart := false }
def AcceptorNilSaid : Prop := acceptorNilRow.holds Tryz.pinned (OpenSpec.ofChange acceptorNilSpec)

/-- ITS FALSE NEIGHBOUR: 'it returns false'. Refute it at one input. -/
def acceptorNilWrong : ChangeSpec := { name := "acceptorNil", fn := fun _ => fun
  | [d] => { results := [.lit (.bool false)], args := [d] }
  | _ => none }
def AcceptorNilWrongFalsely : Prop := acceptorNilRow.holds Tryz.pinned (OpenSpec.ofChange acceptorNilWrong)

/-- 'rotuletlaw12.AcceptorCompacts': WHATEVER THE INPUT: true; the input reads as it did. -/
def acceptorCompactsSpec : ChangeSpec := { name := "acceptorCompacts", fn := fun _ => fun
  | [d1, d2] => { results := [.lit (.bool true)], args := [d1, d2] }
  | _ => none }
def acceptorCompactsRow : OpenClaim := { program := "ytcadnlilijkneaagreat", sum := "bf54d53aefba26e83405298f2284b88bc79898bfb5d5916b1affe861541389ea", func := "rotulet/rotuletlaw12.AcceptorCompacts", spec := "acceptorCompacts", inPlace := ["maps.clone"], unfollowed := true, recurses := true, apart := false }
def AcceptorCompactsSaid : Prop := acceptorCompactsRow.holds Tryz.pinned (OpenSpec.ofChange acceptorCompactsSpec)

/-- ITS FALSE NEIGHBOUR: 'it returns false'. Refute it at one input. -/
def acceptorCompactsWrong : ChangeSpec := { name := "acceptorCompacts", fn := fun _ => fun
  | [d1, d2] => { results := [.lit (.bool false)], args := [d1, d2] }
  | _ => none }
def AcceptorCompactsWrongFalsely : Prop := acceptorCompactsRow.holds Tryz.pinned (OpenSpec.ofChange acceptorCompactsWrong)

/- THE SECOND FORM. 'bulk': how many values and letters a reading holds, each counted each time it is reached (what is shared counts as often as it is met; a slice's spare places count too). A statement '..UptoSaid' is the law's where the arguments, and the package variables that the reading takes, are together of bulk at most 1048576: NARROWER than '..Said'. Prove '..Said' where nothing that the law and all that it calls make is longer than what came in: it says more and counts as full. Else prove '..UptoSaid'. A law counts once. -/
mutual
def uptoBulk {H : Type} : DataW H → Nat
  | .lit (.string bytes) => bytes.length + 1
  | .lit _ => 1
  | .nil => 1
  | .ptr d => uptoBulk d + 1
  | .slice elems spare => uptoBulkAll elems + uptoBulkAll spare + 1
  | .agg parts => uptoBulkAll parts + 1
  | .iface _ d => uptoBulk d + 1
  | .map entries => uptoBulkEntries entries + 1
  | .held _ => 1
def uptoBulkAll {H : Type} : List (DataW H) → Nat
  | [] => 0
  | d :: r => uptoBulk d + uptoBulkAll r
def uptoBulkEntries {H : Type} : List (Lit × DataW H) → Nat
  | [] => 0
  | x :: r => uptoBulkEntry x + uptoBulkEntries r
def uptoBulkEntry {H : Type} : Lit × DataW H → Nat
  | (.string bytes, d) => bytes.length + uptoBulk d + 1
  | (_, d) => uptoBulk d + 1
 end
def uptoSmall : (H : Type) → List (DataW H) → Bool := fun _ ds => decide (uptoBulkAll ds ≤ 1048576)
def OpenSpec.upto (s : _root_.Go.ChangeSpec) : _root_.Go.OpenSpec := { _root_.Go.OpenSpec.ofChange s with cond := some uptoSmall }

/-- 'rotuletlaw13.ProposerPlays', WHERE WHAT IT READS IS OF BULK AT MOST 1048576: true; the input reads as it did. -/
def proposerPlaysUptoRow : OpenClaim := { program := "ytcadnlilijkneaagreat", sum := "bf54d53aefba26e83405298f2284b88bc79898bfb5d5916b1affe861541389ea", func := "rotulet/rotuletlaw13.ProposerPlays", spec := "proposerPlays", unfollowed := true, recurses := true, apart := false, narrowed := true }
def ProposerPlaysUptoSaid : Prop := proposerPlaysUptoRow.holds Tryz.pinned (OpenSpec.upto proposerPlaysSpec)

/-- 'rotuletlaw13.ProposerOne', WHERE WHAT IT READS IS OF BULK AT MOST 1048576: true; the input reads as it did. -/
def proposerOneUptoRow : OpenClaim := { program := "ytcadnlilijkneaagreat", sum := "bf54d53aefba26e83405298f2284b88bc79898bfb5d5916b1affe861541389ea", func := "rotulet/rotuletlaw13.ProposerOne", spec := "proposerOne", inPlace := ["maps.clone"], unfollowed := true, recurses := true, apart := false, narrowed := true }
def ProposerOneUptoSaid : Prop := proposerOneUptoRow.holds Tryz.pinned (OpenSpec.upto proposerOneSpec)

/-- 'rotuletlaw13.ProposerDecides', WHERE WHAT IT READS IS OF BULK AT MOST 1048576: true; the input reads as it did. -/
def proposerDecidesUptoRow : OpenClaim := { program := "ytcadnlilijkneaagreat", sum := "bf54d53aefba26e83405298f2284b88bc79898bfb5d5916b1affe861541389ea", func := "rotulet/rotuletlaw13.ProposerDecides", spec := "proposerDecides", inPlace := ["maps.clone"], unfollowed := true, recurses := true, apart := false, narrowed := true }
def ProposerDecidesUptoSaid : Prop := proposerDecidesUptoRow.holds Tryz.pinned (OpenSpec.upto proposerDecidesSpec)

/-- 'rotuletlaw12.AcceptorPlays', WHERE WHAT IT READS IS OF BULK AT MOST 1048576: true; the input reads as it did. -/
def acceptorPlaysUptoRow : OpenClaim := { program := "ytcadnlilijkneaagreat", sum := "bf54d53aefba26e83405298f2284b88bc79898bfb5d5916b1affe861541389ea", func := "rotulet/rotuletlaw12.AcceptorPlays", spec := "acceptorPlays", inPlace := ["maps.clone"], unfollowed := true, recurses := true, apart := false, narrowed := true }
def AcceptorPlaysUptoSaid : Prop := acceptorPlaysUptoRow.holds Tryz.pinned (OpenSpec.upto acceptorPlaysSpec)

/-- 'rotuletlaw12.AcceptorKeeps', WHERE WHAT IT READS IS OF BULK AT MOST 1048576: true; the input reads as it did. -/
def acceptorKeepsUptoRow : OpenClaim := { program := "ytcadnlilijkneaagreat", sum := "bf54d53aefba26e83405298f2284b88bc79898bfb5d5916b1affe861541389ea", func := "rotulet/rotuletlaw12.AcceptorKeeps", spec := "acceptorKeeps", inPlace := ["maps.clone"], unfollowed := true, recurses := true, apart := false, narrowed := true }
def AcceptorKeepsUptoSaid : Prop := acceptorKeepsUptoRow.holds Tryz.pinned (OpenSpec.upto acceptorKeepsSpec)

/-- 'rotuletlaw12.AcceptorAnswers', WHERE WHAT IT READS IS OF BULK AT MOST 1048576: true; the input reads as it did. -/
def acceptorAnswersUptoRow : OpenClaim := { program := "ytcadnlilijkneaagreat", sum := "bf54d53aefba26e83405298f2284b88bc79898bfb5d5916b1affe861541389ea", func := "rotulet/rotuletlaw12.AcceptorAnswers", spec := "acceptorAnswers", inPlace := ["maps.clone"], unfollowed := true, recurses := true, apart := false, narrowed := true }
def AcceptorAnswersUptoSaid : Prop := acceptorAnswersUptoRow.holds Tryz.pinned (OpenSpec.upto acceptorAnswersSpec)

/-- 'rotuletlaw12.AcceptorNil', WHERE WHAT IT READS IS OF BULK AT MOST 1048576: true; the input reads as it did. -/
def acceptorNilUptoRow : OpenClaim := { program := "ytcadnlilijkneaagreat", sum := "bf54d53aefba26e83405298f2284b88bc79898bfb5d5916b1affe861541389ea", func := "rotulet/rotuletlaw12.AcceptorNil", spec := "acceptorNil", inPlace := ["maps.clone"], unfollowed := true, recurses := true, apart := false, narrowed := true }
def AcceptorNilUptoSaid : Prop := acceptorNilUptoRow.holds Tryz.pinned (OpenSpec.upto acceptorNilSpec)

/-- 'rotuletlaw12.AcceptorCompacts', WHERE WHAT IT READS IS OF BULK AT MOST 1048576: true; the input reads as it did. -/
def acceptorCompactsUptoRow : OpenClaim := { program := "ytcadnlilijkneaagreat", sum := "bf54d53aefba26e83405298f2284b88bc79898bfb5d5916b1affe861541389ea", func := "rotulet/rotuletlaw12.AcceptorCompacts", spec := "acceptorCompacts", inPlace := ["maps.clone"], unfollowed := true, recurses := true, apart := false, narrowed := true }
def AcceptorCompactsUptoSaid : Prop := acceptorCompactsUptoRow.holds Tryz.pinned (OpenSpec.upto acceptorCompactsSpec)

end Rows
end Go.Proofs.YtcadnlilijkneaaGreat
