/-
  No cell of these rows narrows 'for every input' (looked for: loops, veiled, ifaces, maps, wideKeys, modest, calm, conditions, laid).
  DERIVED. THE GIVEN ROWS OF THIS SEAT. 6 by the template 'for every input the law returns true; each argument reads behind the call as it read before'; 0 by the template 'total and deterministic' (their statements: YtmpajlpemabniaaGreatTotals.lean).
  GIVEN WITH THE SEED: the statements are not yours to turn. If you find one false, say at which input.
  Laid BY PROGRAM, IN A SANDBOX (cutbox-rows.mjs): the forced cells as the released guide's own fill.sh prints them over the translation d841795647de53e4… (all of the seat's roots in one cut). By AI agents, Wed Nov 11 2026. No macro, syntax, notation, axiom, sorry.
-/
import Derived.Test.YtmpajlpemabniaaGreatChecked
import GoSem.Claim
import GoSem.ClaimJoined
import GoSem.ClaimMapViews
import Derived.JoinedTies
import Derived.KernelRfl
namespace Go.Proofs.YtmpajlpemabniaaGreat
/- THE CELL 'sum', in the pinned program and in every row, IS THE sha256 OF THE DUMP (.gsa) THAT YtmpajlpemabniaaGreatProg.lean LOADS. Nothing in Lean hashes anything: it is a label: what it is worth is what the hold of that sum in a sandbox is worth. -/
noncomputable def Tryz.pinned : Pinned := { name := "ytmpajlpemabniaagreat", sum := "d841795647de53e4aec1d4f46fa48ef9138c66a6b528e6ee067056b5ad63e17c", checked := Tryz.checked }
namespace Rows
def none {H : Type} : Left H := { results := [], args := [] }

/-- 'rotuletlaw08.PagesPlays': WHATEVER THE INPUT: true; the input reads as it did. -/
def pagesPlaysSpec : ChangeSpec := { name := "pagesPlays", fn := fun _ => fun
  | [d1, d2] => { results := [.lit (.bool true)], args := [d1, d2] }
  | _ => none }
def pagesPlaysRow : OpenClaim := { program := "ytmpajlpemabniaagreat", sum := "d841795647de53e4aec1d4f46fa48ef9138c66a6b528e6ee067056b5ad63e17c", func := "rotulet/rotuletlaw08.PagesPlays", spec := "pagesPlays", inPlace := ["slices.overlaps[rotulet/runs.Run]", "maps.clone"], unfollowed := true, recurses := true, apart := false }
def PagesPlaysSaid : Prop := pagesPlaysRow.holds Tryz.pinned (OpenSpec.ofChange pagesPlaysSpec)

/-- ITS FALSE NEIGHBOUR: 'it returns false'. Refute it at one input. -/
def pagesPlaysWrong : ChangeSpec := { name := "pagesPlays", fn := fun _ => fun
  | [d1, d2] => { results := [.lit (.bool false)], args := [d1, d2] }
  | _ => none }
def PagesPlaysWrongFalsely : Prop := pagesPlaysRow.holds Tryz.pinned (OpenSpec.ofChange pagesPlaysWrong)

/-- 'rotuletlaw08.PagesKeeps': WHATEVER THE INPUT: true; the input reads as it did. -/
def pagesKeepsSpec : ChangeSpec := { name := "pagesKeeps", fn := fun _ => fun
  | [d1, d2, d3] => { results := [.lit (.bool true)], args := [d1, d2, d3] }
  | _ => none }
def pagesKeepsRow : OpenClaim := { program := "ytmpajlpemabniaagreat", sum := "d841795647de53e4aec1d4f46fa48ef9138c66a6b528e6ee067056b5ad63e17c", func := "rotulet/rotuletlaw08.PagesKeeps", spec := "pagesKeeps", inPlace := ["slices.overlaps[rotulet/runs.Run]", "maps.clone"], unfollowed := true, recurses := true, apart := false }
def PagesKeepsSaid : Prop := pagesKeepsRow.holds Tryz.pinned (OpenSpec.ofChange pagesKeepsSpec)

/-- ITS FALSE NEIGHBOUR: 'it returns false'. Refute it at one input. -/
def pagesKeepsWrong : ChangeSpec := { name := "pagesKeeps", fn := fun _ => fun
  | [d1, d2, d3] => { results := [.lit (.bool false)], args := [d1, d2, d3] }
  | _ => none }
def PagesKeepsWrongFalsely : Prop := pagesKeepsRow.holds Tryz.pinned (OpenSpec.ofChange pagesKeepsWrong)

/-- 'rotuletlaw08.PagesOnce': WHATEVER THE INPUT: true; the input reads as it did. -/
def pagesOnceSpec : ChangeSpec := { name := "pagesOnce", fn := fun _ => fun
  | [d1, d2, d3] => { results := [.lit (.bool true)], args := [d1, d2, d3] }
  | _ => none }
def pagesOnceRow : OpenClaim := { program := "ytmpajlpemabniaagreat", sum := "d841795647de53e4aec1d4f46fa48ef9138c66a6b528e6ee067056b5ad63e17c", func := "rotulet/rotuletlaw08.PagesOnce", spec := "pagesOnce", inPlace := ["slices.overlaps[rotulet/runs.Run]", "maps.clone"], unfollowed := true, recurses := true, apart := false }
def PagesOnceSaid : Prop := pagesOnceRow.holds Tryz.pinned (OpenSpec.ofChange pagesOnceSpec)

/-- ITS FALSE NEIGHBOUR: 'it returns false'. Refute it at one input. -/
def pagesOnceWrong : ChangeSpec := { name := "pagesOnce", fn := fun _ => fun
  | [d1, d2, d3] => { results := [.lit (.bool false)], args := [d1, d2, d3] }
  | _ => none }
def PagesOnceWrongFalsely : Prop := pagesOnceRow.holds Tryz.pinned (OpenSpec.ofChange pagesOnceWrong)

/-- 'rotuletlaw08.PagesRoom': WHATEVER THE INPUT: true; the input reads as it did. -/
def pagesRoomSpec : ChangeSpec := { name := "pagesRoom", fn := fun _ => fun
  | [d1, d2, d3] => { results := [.lit (.bool true)], args := [d1, d2, d3] }
  | _ => none }
def pagesRoomRow : OpenClaim := { program := "ytmpajlpemabniaagreat", sum := "d841795647de53e4aec1d4f46fa48ef9138c66a6b528e6ee067056b5ad63e17c", func := "rotulet/rotuletlaw08.PagesRoom", spec := "pagesRoom", inPlace := ["slices.overlaps[rotulet/runs.Run]", "maps.clone"], unfollowed := true, recurses := true, apart := false }
def PagesRoomSaid : Prop := pagesRoomRow.holds Tryz.pinned (OpenSpec.ofChange pagesRoomSpec)

/-- ITS FALSE NEIGHBOUR: 'it returns false'. Refute it at one input. -/
def pagesRoomWrong : ChangeSpec := { name := "pagesRoom", fn := fun _ => fun
  | [d1, d2, d3] => { results := [.lit (.bool false)], args := [d1, d2, d3] }
  | _ => none }
def PagesRoomWrongFalsely : Prop := pagesRoomRow.holds Tryz.pinned (OpenSpec.ofChange pagesRoomWrong)

/-- 'rotuletlaw08.PagesNil': WHATEVER THE INPUT: true; the input reads as it did. -/
def pagesNilSpec : ChangeSpec := { name := "pagesNil", fn := fun _ => fun
  | [d] => { results := [.lit (.bool true)], args := [d] }
  | _ => none }
def pagesNilRow : OpenClaim := { program := "ytmpajlpemabniaagreat", sum := "d841795647de53e4aec1d4f46fa48ef9138c66a6b528e6ee067056b5ad63e17c", func := "rotulet/rotuletlaw08.PagesNil", spec := "pagesNil", inPlace := ["slices.overlaps[rotulet/runs.Run]", "maps.clone"], unfollowed := true, recurses := true, apart := false }
def PagesNilSaid : Prop := pagesNilRow.holds Tryz.pinned (OpenSpec.ofChange pagesNilSpec)

/-- ITS FALSE NEIGHBOUR: 'it returns false'. Refute it at one input. -/
def pagesNilWrong : ChangeSpec := { name := "pagesNil", fn := fun _ => fun
  | [d] => { results := [.lit (.bool false)], args := [d] }
  | _ => none }
def PagesNilWrongFalsely : Prop := pagesNilRow.holds Tryz.pinned (OpenSpec.ofChange pagesNilWrong)

/-- 'rotuletlaw08.PagesTrims': WHATEVER THE INPUT: true; the input reads as it did. -/
def pagesTrimsSpec : ChangeSpec := { name := "pagesTrims", fn := fun _ => fun
  | [d1, d2, d3] => { results := [.lit (.bool true)], args := [d1, d2, d3] }
  | _ => none }
def pagesTrimsRow : OpenClaim := { program := "ytmpajlpemabniaagreat", sum := "d841795647de53e4aec1d4f46fa48ef9138c66a6b528e6ee067056b5ad63e17c", func := "rotulet/rotuletlaw08.PagesTrims", spec := "pagesTrims", inPlace := ["slices.overlaps[rotulet/runs.Run]", "maps.clone"], unfollowed := true, recurses := true, apart := false }
def PagesTrimsSaid : Prop := pagesTrimsRow.holds Tryz.pinned (OpenSpec.ofChange pagesTrimsSpec)

/-- ITS FALSE NEIGHBOUR: 'it returns false'. Refute it at one input. -/
def pagesTrimsWrong : ChangeSpec := { name := "pagesTrims", fn := fun _ => fun
  | [d1, d2, d3] => { results := [.lit (.bool false)], args := [d1, d2, d3] }
  | _ => none }
def PagesTrimsWrongFalsely : Prop := pagesTrimsRow.holds Tryz.pinned (OpenSpec.ofChange pagesTrimsWrong)

/- THE SECOND FORM. 'bulk': how many values and letters a reading holds, each counted each time it is reached (what is shared counts as often as it is met; a slice's spare places count too). A statement '..UptoSaid' is the law's where the arguments, and the package variables that the reading takes, are together of bulk at most 1048576: NARROWER than '..Said'. Prove '..Said' where nothing that the law and all that it calls make is longer than what came in: it says more and counts as full. Else prove '..UptoSaid'. A law counts once. -/
mutual
def uptoBulk {H : Type} : DataW H → Nat
  | .lit (.string bytes) => bytes.length + 1
  | .lit _ => 1
  | .nil => 1
  | .ptr d => uptoBulk d + 1
  | .slice elems spare => uptoBulkAll elems + uptoBulkAll spare + 1
  | .agg parts => uptoBulkAll parts + 1
  | .iface _ d => uptoBulk d + 1
  | .map entries => uptoBulkEntries entries + 1
  | .held _ => 1
def uptoBulkAll {H : Type} : List (DataW H) → Nat
  | [] => 0
  | d :: r => uptoBulk d + uptoBulkAll r
def uptoBulkEntries {H : Type} : List (Lit × DataW H) → Nat
  | [] => 0
  | x :: r => uptoBulkEntry x + uptoBulkEntries r
def uptoBulkEntry {H : Type} : Lit × DataW H → Nat
  | (.string bytes, d) => bytes.length + uptoBulk d + 1
  | (_, d) => uptoBulk d + 1
 end
def uptoSmall : (H : Type) → List (DataW H) → Bool := fun _ ds => decide (uptoBulkAll ds ≤ 1048576)
def OpenSpec.upto (s : _root_.Go.ChangeSpec) : _root_.Go.OpenSpec := { _root_.Go.OpenSpec.ofChange s with cond := some uptoSmall }

/-- 'rotuletlaw08.PagesPlays', WHERE WHAT IT READS IS OF BULK AT MOST 1048576: true; the input reads as it did. -/
def pagesPlaysUptoRow : OpenClaim := { program := "ytmpajlpemabniaagreat", sum := "d841795647de53e4aec1d4f46fa48ef9138c66a6b528e6ee067056b5ad63e17c", func := "rotulet/rotuletlaw08.PagesPlays", spec := "pagesPlays", inPlace := ["slices.overlaps[rotulet/runs.Run]", "maps.clone"], unfollowed := true, recurses := true, apart := false, narrowed := true }
def PagesPlaysUptoSaid : Prop := pagesPlaysUptoRow.holds Tryz.pinned (OpenSpec.upto pagesPlaysSpec)

/-- 'rotuletlaw08.PagesKeeps', WHERE WHAT IT READS IS OF BULK AT MOST 1048576: true; the input reads as it did. -/
def pagesKeepsUptoRow : OpenClaim := { program := "ytmpajlpemabniaagreat", sum := "d841795647de53e4aec1d4f46fa48ef9138c66a6b528e6ee067056b5ad63e17c", func := "rotulet/rotuletlaw08.PagesKeeps", spec := "pagesKeeps", inPlace := ["slices.overlaps[rotulet/runs.Run]", "maps.clone"], unfollowed := true, recurses := true, apart := false, narrowed := true }
def PagesKeepsUptoSaid : Prop := pagesKeepsUptoRow.holds Tryz.pinned (OpenSpec.upto pagesKeepsSpec)

/-- 'rotuletlaw08.PagesOnce', WHERE WHAT IT READS IS OF BULK AT MOST 1048576: true; the input reads as it did. -/
def pagesOnceUptoRow : OpenClaim := { program := "ytmpajlpemabniaagreat", sum := "d841795647de53e4aec1d4f46fa48ef9138c66a6b528e6ee067056b5ad63e17c", func := "rotulet/rotuletlaw08.PagesOnce", spec := "pagesOnce", inPlace := ["slices.overlaps[rotulet/runs.Run]", "maps.clone"], unfollowed := true, recurses := true, apart := false, narrowed := true }
def PagesOnceUptoSaid : Prop := pagesOnceUptoRow.holds Tryz.pinned (OpenSpec.upto pagesOnceSpec)

/-- 'rotuletlaw08.PagesRoom', WHERE WHAT IT READS IS OF BULK AT MOST 1048576: true; the input reads as it did. -/
def pagesRoomUptoRow : OpenClaim := { program := "ytmpajlpemabniaagreat", sum := "d841795647de53e4aec1d4f46fa48ef9138c66a6b528e6ee067056b5ad63e17c", func := "rotulet/rotuletlaw08.PagesRoom", spec := "pagesRoom", inPlace := ["slices.overlaps[rotulet/runs.Run]", "maps.clone"], unfollowed := true, recurses := true, apart := false, narrowed := true }
def PagesRoomUptoSaid : Prop := pagesRoomUptoRow.holds Tryz.pinned (OpenSpec.upto pagesRoomSpec)

/-- 'rotuletlaw08.PagesNil', WHERE WHAT IT READS IS OF BULK AT MOST 1048576: true; the input reads as it did. -/
def pagesNilUptoRow : OpenClaim := { program := "ytmpajlpemabniaagreat", sum := "d841795647de53e4aec1d4f46fa48ef9138c66a6b528e6ee067056b5ad63e17c", func := "rotulet/rotuletlaw08.PagesNil", spec := "pagesNil", inPlace := ["slices.overlaps[rotulet/runs.Run]", "maps.clone"], unfollowed := true, recurses := true, apart := false, narrowed := true }
def PagesNilUptoSaid : Prop := pagesNilUptoRow.holds Tryz.pinned (OpenSpec.upto pagesNilSpec)

/-- 'rotuletlaw08.PagesTrims', WHERE WHAT IT READS IS OF BULK AT MOST 1048576: true; the input reads as it did. -/
def pagesTrimsUptoRow : OpenClaim := { program := "ytmpajlpemabniaagreat", sum := "d841795647de53e4aec1d4f46fa48ef9138c66a6b528e6ee067056b5ad63e17c", func := "rotulet/rotuletlaw08.PagesTrims", spec := "pagesTrims", inPlace := ["slices.overlaps[rotulet/runs.Run]", "maps.clone"], unfollowed := true, recurses := true, apart := false, narrowed := true }
def PagesTrimsUptoSaid : Prop := pagesTrimsUptoRow.holds Tryz.pinned (OpenSpec.upto pagesTrimsSpec)

end Rows
end Go.Proofs.YtmpajlpemabniaaGreat
