/-
  Words of this seat: a message in memory. Plain lemmas, no claim of their own.
-/
import Derived.Test.YtdblplkaobeimaaGc4
import Derived.Test.YtdblplkaobeimaaGc5
namespace Go.Proofs.Ytdblplkaobeimaa
open Go.RowKit Go.Deep
set_option linter.unusedVariables false
set_option linter.unusedSimpArgs false

/-- a message in memory: its numbers, where its slices lie -/
structure MgT where
  k : Int
  fr : Int × Int
  to : Int × Int
  id : Int
  f : Int
  ep : Nat
  ad : Nat
  er : Int
  c : Ce
  ca : Option Addr
  cc : Nat
  ca2 : Option Addr
  cc2 : Nat
  st : List Int
  sa : Option Addr
  sc : Nat
  bk : List Bk
  ka : Option Addr
  kc : Nat
  ba : Int × Int
  pr : Int × Int
  ly : LyT
def MgT.x (A : MgT) : Mg := ⟨A.k, A.fr, A.to, A.id, A.f, A.ep, A.ad, A.er, A.c, A.st, A.bk, A.ba, A.pr, A.ly.x⟩
/-- the cells of a message by value -/
abbrev mcs (k fr1 fr2 to1 to2 id f : Int) (ep ad : Nat) (er ck : Int) (ca : Option Addr) (cn cc : Nat) (ca2 : Option Addr) (cn2 cc2 : Nat) (sa : Option Addr) (sn sc : Nat) (ka : Option Addr) (kn kc : Nat) (ba1 ba2 pr1 pr2 : Int) (le : Nat) (la : Option Addr) (ln lc : Nat) (lq : Int) : List Value :=
  [.int .i64 k, .int .i64 fr1, .int .i64 fr2, .int .i64 to1, .int .i64 to2, .int .i64 id, .int .i64 f, .int .u64 (ep : Int), .int .u64 (ad : Int), .int .i64 er, .int .i64 ck, .slice ca cn cc, .slice ca2 cn2 cc2, .slice sa sn sc, .slice ka kn kc, .int .i64 ba1, .int .i64 ba2, .int .i64 pr1, .int .i64 pr2, .int .u64 (le : Int), .slice la ln lc, .int .i64 lq]
def MgT.cs (A : MgT) : List Value := mcs A.k A.fr.1 A.fr.2 A.to.1 A.to.2 A.id A.f A.ep A.ad A.er A.c.k A.ca A.c.d.length A.cc A.ca2 A.c.b.length A.cc2 A.sa A.st.length A.sc A.ka A.bk.length A.kc A.ba.1 A.ba.2 A.pr.1 A.pr.2 A.ly.e A.ly.a A.ly.sg.length A.ly.c A.ly.q
def MgT.val (A : MgT) : Value := .agg A.cs.toArray
/-- its slices lie below B -/
structure MgIn (w : World) (B : Nat) (A : MgT) : Prop where
  d : Ro w B A.ca (u8s A.c.d)
  b : Ro w B A.ca2 (bcs A.c.b)
  st : Ro w B A.sa (i64s A.st)
  bk : Ro w B A.ka (bcs A.bk)
  ly : LyIn w B A.ly
theorem MgIn.below {w w' : World} {B B' : Nat} {A : MgT} (h : MgIn w B A) (hb : Below B' w w') (hB : B ≤ B') : MgIn w' B A := ⟨h.d.below hb hB, h.b.below hb hB, h.st.below hb hB, h.bk.below hb hB, h.ly.below hb hB⟩
theorem MgIn.mono {w : World} {B B' : Nat} {A : MgT} (h : MgIn w B A) (hB : B ≤ B') : MgIn w B' A := ⟨h.d.mono hB, h.b.mono hB, h.st.mono hB, h.bk.mono hB, h.ly.mono hB⟩
/-- no length is beyond a machine's -/
structure MgFit (A : MgT) : Prop where
  d : A.c.d.length ≤ 9223372036854775807
  b : A.c.b.length ≤ 9223372036854775807
  st : A.st.length ≤ 9223372036854775807
  bk : A.bk.length ≤ 9223372036854775807
  ly : SgFit A.ly.sg
  fb : ∀ b ∈ A.c.b, FitB b
  fk : ∀ b ∈ A.bk, FitB b
end Go.Proofs.Ytdblplkaobeimaa
