/-
  No cell of these rows narrows 'for every input' (looked for: loops, veiled, ifaces, maps, wideKeys, modest, calm, conditions, laid).
  DERIVED. THE GIVEN ROWS OF THIS SEAT. 3 by the template 'for every input the law returns true; each argument reads behind the call as it read before'; 0 by the template 'total and deterministic' (their statements: YtdblplkaobeimaaTotals.lean).
  GIVEN WITH THE SEED: the statements are not yours to turn. If you find one false, say at which input.
  Laid BY PROGRAM, IN A SANDBOX (cutbox-rows.mjs): the forced cells as the released guide's own fill.sh prints them over the translation 2e162c51f5810379… (all of the seat's roots in one cut). By AI agents, Wed Nov 11 2026. No macro, syntax, notation, axiom, sorry.
-/
import Derived.Test.YtdblplkaobeimaaChecked
import GoSem.Claim
import GoSem.ClaimJoined
import GoSem.ClaimMapViews
import Derived.JoinedTies
import Derived.KernelRfl
namespace Go.Proofs.Ytdblplkaobeimaa
/- THE CELL 'sum', in the pinned program and in every row, IS THE sha256 OF THE DUMP (.gsa) THAT YtdblplkaobeimaaProg.lean LOADS. Nothing in Lean hashes anything: it is a label: what it is worth is what the hold of that sum in a sandbox is worth. -/
noncomputable def Try.pinned : Pinned := { name := "ytdblplkaobeimaa", sum := "2e162c51f5810379161f6c143fff2862358d374f8dfb7f83324cff17b8204f96", checked := Try.checked }
namespace Rows
def none {H : Type} : Left H := { results := [], args := [] }

/-- 'rotuletlaw15.SequencerOnce': WHATEVER THE INPUT: true; the input reads as it did. -/
def sequencerOnceSpec : ChangeSpec := { name := "sequencerOnce", fn := fun _ => fun
  | [d1, d2] => { results := [.lit (.bool true)], args := [d1, d2] }
  | _ => none }
def sequencerOnceRow : OpenClaim := { program := "ytdblplkaobeimaa", sum := "2e162c51f5810379161f6c143fff2862358d374f8dfb7f83324cff17b8204f96", func := "rotulet/rotuletlaw15.SequencerOnce", spec := "sequencerOnce", unfollowed := true, recurses := true, apart := false }
def SequencerOnceSaid : Prop := sequencerOnceRow.holds Try.pinned (OpenSpec.ofChange sequencerOnceSpec)

/-- ITS FALSE NEIGHBOUR: 'it returns false'. Refute it at one input. -/
def sequencerOnceWrong : ChangeSpec := { name := "sequencerOnce", fn := fun _ => fun
  | [d1, d2] => { results := [.lit (.bool false)], args := [d1, d2] }
  | _ => none }
def SequencerOnceWrongFalsely : Prop := sequencerOnceRow.holds Try.pinned (OpenSpec.ofChange sequencerOnceWrong)

/-- 'rotuletlaw15.SequencerNil': WHATEVER THE INPUT: true; the input reads as it did. -/
def sequencerNilSpec : ChangeSpec := { name := "sequencerNil", fn := fun _ => fun
  | [d] => { results := [.lit (.bool true)], args := [d] }
  | _ => none }
def sequencerNilRow : OpenClaim := { program := "ytdblplkaobeimaa", sum := "2e162c51f5810379161f6c143fff2862358d374f8dfb7f83324cff17b8204f96", func := "rotulet/rotuletlaw15.SequencerNil", spec := "sequencerNil", unfollowed := true, recurses := true, apart := false }
def SequencerNilSaid : Prop := sequencerNilRow.holds Try.pinned (OpenSpec.ofChange sequencerNilSpec)

/-- ITS FALSE NEIGHBOUR: 'it returns false'. Refute it at one input. -/
def sequencerNilWrong : ChangeSpec := { name := "sequencerNil", fn := fun _ => fun
  | [d] => { results := [.lit (.bool false)], args := [d] }
  | _ => none }
def SequencerNilWrongFalsely : Prop := sequencerNilRow.holds Try.pinned (OpenSpec.ofChange sequencerNilWrong)

/-- 'rotuletlaw15.SequencerStops': WHATEVER THE INPUT: true; the input reads as it did. -/
def sequencerStopsSpec : ChangeSpec := { name := "sequencerStops", fn := fun _ => fun
  | [d1, d2] => { results := [.lit (.bool true)], args := [d1, d2] }
  | _ => none }
def sequencerStopsRow : OpenClaim := { program := "ytdblplkaobeimaa", sum := "2e162c51f5810379161f6c143fff2862358d374f8dfb7f83324cff17b8204f96", func := "rotulet/rotuletlaw15.SequencerStops", spec := "sequencerStops", unfollowed := true, recurses := true, apart := false }
def SequencerStopsSaid : Prop := sequencerStopsRow.holds Try.pinned (OpenSpec.ofChange sequencerStopsSpec)

/-- ITS FALSE NEIGHBOUR: 'it returns false'. Refute it at one input. -/
def sequencerStopsWrong : ChangeSpec := { name := "sequencerStops", fn := fun _ => fun
  | [d1, d2] => { results := [.lit (.bool false)], args := [d1, d2] }
  | _ => none }
def SequencerStopsWrongFalsely : Prop := sequencerStopsRow.holds Try.pinned (OpenSpec.ofChange sequencerStopsWrong)

/- THE SECOND FORM. 'bulk': how many values and letters a reading holds, each counted each time it is reached (what is shared counts as often as it is met; a slice's spare places count too). A statement '..UptoSaid' is the law's where the arguments, and the package variables that the reading takes, are together of bulk at most 1048576: NARROWER than '..Said'. Prove '..Said' where nothing that the law and all that it calls make is longer than what came in: it says more and counts as full. Else prove '..UptoSaid'. A law counts once. -/
mutual
def uptoBulk {H : Type} : DataW H → Nat
  | .lit (.string bytes) => bytes.length + 1
  | .lit _ => 1
  | .nil => 1
  | .ptr d => uptoBulk d + 1
  | .slice elems spare => uptoBulkAll elems + uptoBulkAll spare + 1
  | .agg parts => uptoBulkAll parts + 1
  | .iface _ d => uptoBulk d + 1
  | .map entries => uptoBulkEntries entries + 1
  | .held _ => 1
def uptoBulkAll {H : Type} : List (DataW H) → Nat
  | [] => 0
  | d :: r => uptoBulk d + uptoBulkAll r
def uptoBulkEntries {H : Type} : List (Lit × DataW H) → Nat
  | [] => 0
  | x :: r => uptoBulkEntry x + uptoBulkEntries r
def uptoBulkEntry {H : Type} : Lit × DataW H → Nat
  | (.string bytes, d) => bytes.length + uptoBulk d + 1
  | (_, d) => uptoBulk d + 1
 end
def uptoSmall : (H : Type) → List (DataW H) → Bool := fun _ ds => decide (uptoBulkAll ds ≤ 1048576)
def OpenSpec.upto (s : _root_.Go.ChangeSpec) : _root_.Go.OpenSpec := { _root_.Go.OpenSpec.ofChange s with cond := some uptoSmall }

/-- 'rotuletlaw15.SequencerOnce', WHERE WHAT IT READS IS OF BULK AT MOST 1048576: true; the input reads as it did. -/
def sequencerOnceUptoRow : OpenClaim := { program := "ytdblplkaobeimaa", sum := "2e162c51f5810379161f6c143fff2862358d374f8dfb7f83324cff17b8204f96", func := "rotulet/rotuletlaw15.SequencerOnce", spec := "sequencerOnce", unfollowed := true, recurses := true, apart := false, narrowed := true }
def SequencerOnceUptoSaid : Prop := sequencerOnceUptoRow.holds Try.pinned (OpenSpec.upto sequencerOnceSpec)

/-- 'rotuletlaw15.SequencerNil', WHERE WHAT IT READS IS OF BULK AT MOST 1048576: true; the input reads as it did. -/
def sequencerNilUptoRow : OpenClaim := { program := "ytdblplkaobeimaa", sum := "2e162c51f5810379161f6c143fff2862358d374f8dfb7f83324cff17b8204f96", func := "rotulet/rotuletlaw15.SequencerNil", spec := "sequencerNil", unfollowed := true, recurses := true, apart := false, narrowed := true }
def SequencerNilUptoSaid : Prop := sequencerNilUptoRow.holds Try.pinned (OpenSpec.upto sequencerNilSpec)

/-- 'rotuletlaw15.SequencerStops', WHERE WHAT IT READS IS OF BULK AT MOST 1048576: true; the input reads as it did. -/
def sequencerStopsUptoRow : OpenClaim := { program := "ytdblplkaobeimaa", sum := "2e162c51f5810379161f6c143fff2862358d374f8dfb7f83324cff17b8204f96", func := "rotulet/rotuletlaw15.SequencerStops", spec := "sequencerStops", unfollowed := true, recurses := true, apart := false, narrowed := true }
def SequencerStopsUptoSaid : Prop := sequencerStopsUptoRow.holds Try.pinned (OpenSpec.upto sequencerStopsSpec)

end Rows
end Go.Proofs.Ytdblplkaobeimaa
