/-
  Small functions of package cell, by their contracts: joined, split, noLast. No claim of their own.
-/
import Derived.Test.YtcadnlilijkneaaGreatGb2
import Derived.Test.YtcadnlilijkneaaGreatGb12
import Derived.Test.YtcadnlilijkneaaGreatGb13
import Derived.Deep.RegionHeld3
import Derived.Shelf.Lay
namespace Go.Proofs.YtcadnlilijkneaaGreat
open Go.RowKit Go.Deep
set_option linter.unusedVariables false
set_option linter.unusedSimpArgs false

def headN (nbP nd : Nat) : Nat := (1 * 2 ^ 3 + nbP) * 2 ^ 7 + nd
def fieldN (b : Bk) : Nat := (b.1.toNat * 2 ^ 21 + min b.2.1 1048576) * 2 ^ 21 + min b.2.2 1048576
def lst (a : Nat) : Nat := if a = 1048576 then 18446744073709551615 else a
def backN (f : Nat) : Bk := (((f / 2 ^ 21 / 2 ^ 21 : Nat) : Int), lst (f / 2 ^ 21 % 2 ^ 21), lst (f % 2 ^ 21))

end Go.Proofs.YtcadnlilijkneaaGreat
namespace Go.Proofs.YtcadnlilijkneaaGreat
open Go.RowKit Go.Deep
set_option linter.unusedVariables false
set_option linter.unusedSimpArgs false

end Go.Proofs.YtcadnlilijkneaaGreat
namespace Go.Proofs.YtcadnlilijkneaaGreat
open Go.RowKit Go.Deep Go.Shelf
set_option linter.unusedVariables false
set_option linter.unusedSimpArgs false

def lbad (m x : Nat) : Bool := if x = 18446744073709551615 then false else decide (m ≤ x)
def nlim (x : Nat) : Nat := if x = 18446744073709551615 then 0 else x
def lim (l : List Nat) (k : Nat) : Nat := if k = 0 then 1048576 else nlim (l.getD (k - 1) 0)
def lastOk (b : Bk) : Bool := !anyN (fun k => lbad (lim [b.2.1, b.2.2] k) ([b.2.1, b.2.2].getD k 0)) 2
def least (L : List Bk) (k : Nat) : Int := if k = 0 then 0 else wrap64 ((bk L (k - 1)).1 + 1)
def bbad (m : Int) (b : Bk) : Bool := decide (b.1 < m) || decide (16 ≤ b.1) || !lastOk b
def backsOk (L : List Bk) : Bool := !anyN (fun k => bbad (least L k) (bk L k)) L.length
def right (x : Ce) : Bool := if x.k = 2 then decide (x.d.length = 0 ∧ x.b.length = 0) else if x.k = 1 then decide (x.d.length ≤ 100 ∧ x.b.length ≤ 4) && backsOk x.b else false

end Go.Proofs.YtcadnlilijkneaaGreat
