/-
  Words of this seat: a slice that reads as a list of values in rows below a block number; bytes; what a call keeps. Plain lemmas, no claim of their own.
-/
import Derived.Test.YtdpaofedepnnbaaGreatRows
import Derived.Test.YtdpaofedepnnbaaGreatMath
import Derived.WalkKit
import Derived.WalkSpells
import Derived.WalkLawsBesides
import Derived.Lib.Hide
import Derived.Laws.BitsAllLaws
import Derived.Laws.BitsLemmas
import Derived.BigQuiet
import Derived.Deep.QuietTactic
import Derived.Laws.CopyOwn
import Derived.Deep.OwnRows
import Derived.Laws.OwnMore
import Derived.Laws.AppendOwn
import Derived.Laws.AppendOwnNone
namespace Go.Proofs.YtdpaofedepnnbaaGreat
set_option linter.unusedVariables false
set_option linter.unusedSimpArgs false
open Go.RowKit

theorem bcell {W w1 : World} (hb : Below W.heap.size W w1) : (∀ b o, b < W.heap.size → w1.cell? ⟨b, o, none⟩ = W.cell? ⟨b, o, none⟩) ∧ (∀ b o, b < W.heap.size → w1.frozen? ⟨b, o, none⟩ = W.frozen? ⟨b, o, none⟩) :=
  ⟨fun b o h => hb.cell (p := ⟨b, o, none⟩) h, fun b o h => hb.frozen (p := ⟨b, o, none⟩) h⟩

/-- the slice's elements are the values vs, in one row of a block below B -/
def Ro (w : World) (B : Nat) (a : Option Addr) (vs : List Value) : Prop :=
  vs = [] ∨ ∃ b off, a = some ⟨b, off, none⟩ ∧ b < B ∧ ∀ i, i < vs.length → w.cell? ⟨b, off + i, none⟩ = some (vs.getD i undef)

theorem Ro.nil (w : World) (B : Nat) (a : Option Addr) : Ro w B a [] := .inl rfl
theorem Ro.mono {w : World} {B B' : Nat} {a : Option Addr} {vs : List Value} (h : Ro w B a vs) (hB : B ≤ B') : Ro w B' a vs := by
  rcases h with h | ⟨b, off, h1, h2, h3⟩
  · exact .inl h
  · exact .inr ⟨b, off, h1, by omega, h3⟩
theorem Ro.keep {w w' : World} {B : Nat} {a : Option Addr} {vs : List Value} (h : Ro w B a vs) (hk : ∀ p : Addr, p.block < B → w'.cell? p = w.cell? p) : Ro w' B a vs := by
  rcases h with h | ⟨b, off, h1, h2, h3⟩
  · exact .inl h
  · exact .inr ⟨b, off, h1, h2, fun i hi => (hk _ h2).trans (h3 i hi)⟩
theorem Ro.below {w w' : World} {B B' : Nat} {a : Option Addr} {vs : List Value} (h : Ro w B a vs) (hb : Below B' w w') (hB : B ≤ B') : Ro w' B a vs :=
  h.keep fun _ hp => hb.cell (Nat.lt_of_lt_of_le hp hB)
theorem Ro.at_ {w : World} {B : Nat} {a : Option Addr} {vs : List Value} (h : Ro w B a vs) (hn : vs ≠ []) :
    ∃ b off, a = some ⟨b, off, none⟩ ∧ b < B ∧ ∀ i, i < vs.length → w.cell? ⟨b, off + i, none⟩ = some (vs.getD i undef) := by
  rcases h with h | h
  · exact absurd h hn
  · exact h

def u8s (bs : List UInt8) : List Value := bs.map fun x => .int .u8 x.toNat
def u64s (l : List Nat) : List Value := l.map fun (x : Nat) => .int .u64 (x : Int)
def i64s (l : List Int) : List Value := l.map fun x => .int .i64 x
@[simp] theorem u8s_length (bs : List UInt8) : (u8s bs).length = bs.length := by simp [u8s]
@[simp] theorem u64s_length (l : List Nat) : (u64s l).length = l.length := by simp [u64s]
@[simp] theorem i64s_length (l : List Int) : (i64s l).length = l.length := by simp [i64s]
theorem u8s_getD (bs : List UInt8) (i : Nat) (h : i < bs.length) : (u8s bs).getD i undef = .int .u8 ((bs.getD i 0).toNat : Nat) := by
  simp [u8s, List.getD, h]
theorem u64s_getD (l : List Nat) (i : Nat) (h : i < l.length) : (u64s l).getD i undef = .int .u64 (l.getD i 0 : Nat) := by
  simp [u64s, List.getD, h]
theorem i64s_getD (l : List Int) (i : Nat) (h : i < l.length) : (i64s l).getD i undef = .int .i64 (l.getD i 0) := by
  simp [i64s, List.getD, h]
theorem Ro.u8 {w : World} {B : Nat} {a : Option Addr} {bs : List UInt8} (h : Ro w B a (u8s bs)) (hn : 0 < bs.length) :
    ∃ b off, a = some ⟨b, off, none⟩ ∧ b < B ∧ ∀ i, i < bs.length → w.cell? ⟨b, off + i, none⟩ = some (.int .u8 ((bs.getD i 0).toNat : Nat)) := by
  obtain ⟨b, off, h1, h2, h3⟩ := h.at_ (by intro e; have e2 := congrArg List.length e; simp only [u8s_length, u64s_length, i64s_length, List.length_nil] at e2; omega)
  exact ⟨b, off, h1, h2, fun i hi => by rw [h3 i (by simpa using hi), u8s_getD bs i hi]⟩
theorem Ro.u64 {w : World} {B : Nat} {a : Option Addr} {l : List Nat} (h : Ro w B a (u64s l)) (hn : 0 < l.length) :
    ∃ b off, a = some ⟨b, off, none⟩ ∧ b < B ∧ ∀ i, i < l.length → w.cell? ⟨b, off + i, none⟩ = some (.int .u64 (l.getD i 0 : Nat)) := by
  obtain ⟨b, off, h1, h2, h3⟩ := h.at_ (by intro e; have e2 := congrArg List.length e; simp only [u8s_length, u64s_length, i64s_length, List.length_nil] at e2; omega)
  exact ⟨b, off, h1, h2, fun i hi => by rw [h3 i (by simpa using hi), u64s_getD l i hi]⟩
theorem Ro.i64 {w : World} {B : Nat} {a : Option Addr} {l : List Int} (h : Ro w B a (i64s l)) (hn : 0 < l.length) :
    ∃ b off, a = some ⟨b, off, none⟩ ∧ b < B ∧ ∀ i, i < l.length → w.cell? ⟨b, off + i, none⟩ = some (.int .i64 (l.getD i 0)) := by
  obtain ⟨b, off, h1, h2, h3⟩ := h.at_ (by intro e; have e2 := congrArg List.length e; simp only [u8s_length, u64s_length, i64s_length, List.length_nil] at e2; omega)
  exact ⟨b, off, h1, h2, fun i hi => by rw [h3 i (by simpa using hi), i64s_getD l i hi]⟩
theorem ret_int {k : IntKind} {a b : Int} (h : a = b) : Ending.returned (.int k a) = .returned (.int k b) := by rw [h]
theorem ret_bool {a b : Bool} (h : a = b) : Ending.returned (.bool a) = .returned (.bool b) := by rw [h]

theorem Ro.take {w : World} {B : Nat} {a : Option Addr} {vs : List Value} (h : Ro w B a vs) (k : Nat) : Ro w B a (vs.take k) := by
  rcases h with h | ⟨b, off, h1, h2, h3⟩
  · exact .inl (by rw [h]; simp)
  · refine .inr ⟨b, off, h1, h2, fun i hi => ?_⟩
    rw [List.length_take] at hi
    rw [h3 i (by omega)]
    simp only [List.getD, List.getElem?_take]
    rw [if_pos (by omega)]
theorem add_off (b off l : Nat) : (⟨b, off, none⟩ : Addr).add l = ⟨b, off + l, none⟩ := by unfold Addr.add; split <;> simp_all
theorem Ro.drop {w : World} {B : Nat} {a : Option Addr} {vs : List Value} (h : Ro w B a vs) (l c : Nat) (hc : vs.length ≤ c) : Ro w B (if c = l then a else a.map fun x => x.add l) (vs.drop l) := by
  rcases h with h | ⟨b, off, h1, h2, h3⟩
  · exact .inl (by rw [h]; simp)
  · rcases Nat.lt_or_ge l vs.length with hl | hl
    · rw [if_neg (by omega), h1]
      refine .inr ⟨b, off + l, by rw [← add_off]; rfl, h2, fun i hi => ?_⟩
      rw [List.length_drop] at hi
      rw [show off + l + i = off + (l + i) from by omega, h3 (l + i) (by omega)]
      simp [List.getD]
    · exact .inl (List.drop_of_length_le hl)
/-- block g is the row cs of element type t, none of it frozen -/
def Own (w : World) (g : Nat) (t : TypeId) (cs : List Value) : Prop := w.heap[g]? = some (.cells cs.toArray t (0, 0))
theorem Own.lt {w : World} {g : Nat} {t : TypeId} {cs : List Value} (h : Own w g t cs) : g < w.heap.size := by
  rcases Nat.lt_or_ge g w.heap.size with hlt | hge
  · exact hlt
  · unfold Own at h; rw [Array.getElem?_eq_none hge] at h; cases h
theorem Own.cell {w : World} {g : Nat} {t : TypeId} {cs : List Value} (h : Own w g t cs) (i : Nat) : w.cell? ⟨g, i, none⟩ = cs[i]? := by
  rw [cell_of_row w g i cs.toArray t (0, 0) h]; simp
theorem Own.frozen {w : World} {g : Nat} {t : TypeId} {cs : List Value} (h : Own w g t cs) (i : Nat) : w.frozen? ⟨g, i, none⟩ = false := by
  unfold Own at h
  simp [World.frozen?, h]
theorem Own.new (w : World) (t : TypeId) (cs : List Value) : Own (w.alloc (.cells cs.toArray t)) w.heap.size t cs := heap_alloc_new w _
theorem Own.set {w : World} {g : Nat} {t : TypeId} {cs : List Value} (h : Own w g t cs) (i : Nat) (u : Value) : Own (w.setCell ⟨g, i, none⟩ u) g t (cs.set i u) := by
  unfold Own at h ⊢
  simp [World.setCell, Array.getElem?_modify, h]
theorem Own.far {w : World} {g : Nat} {t : TypeId} {cs : List Value} (h : Own w g t cs) {p : Addr} (hp : g ≠ p.block) (u : Value) : Own (w.setCell p u) g t cs := (Below.heap_setCell w p u g hp).trans h
theorem Own.alloc {w : World} {g : Nat} {t : TypeId} {cs : List Value} (h : Own w g t cs) (o : Obj) : Own (w.alloc o) g t cs := (Below.heap_alloc w o g h.lt).trans h
theorem Own.below {w w' : World} {g B : Nat} {t : TypeId} {cs : List Value} (h : Own w g t cs) (hb : Below B w w') (hg : g < B) : Own w' g t cs := (hb.block g hg).trans h
theorem Own.grown {w w' : World} {g : Nat} {t : TypeId} {cs : List Value} {row : Option Nat} (h : Own w g t cs) (hb : w.grownBy w' row) (hg : some g ≠ row) : Own w' g t cs := (hb.block g h.lt hg).trans h
theorem Own.ro {w : World} {g : Nat} {t : TypeId} {cs : List Value} (h : Own w g t cs) (B : Nat) (hB : g < B) : Ro w B (some ⟨g, 0, none⟩) cs := by
  refine .inr ⟨g, 0, rfl, hB, fun i hi => ?_⟩
  rw [Nat.zero_add, h.cell i]
  simp [List.getD, hi]
/-- only block g, and what is new, has turned -/
theorem only_set {a w : World} {g : Nat} (h : a.grownBy w (some g)) (i : Nat) (u : Value) : a.grownBy (w.setCell ⟨g, i, none⟩ u) (some g) :=
  ⟨h.os, h.tape, h.output, by simpa [World.setCell] using h.size, fun b hb hne => (Below.heap_setCell w ⟨g, i, none⟩ u b (fun e => hne (by rw [e]))).trans (h.block b hb hne)⟩
theorem set_size (w : World) (p : Addr) (u : Value) : (w.setCell p u).heap.size = w.heap.size := by simp [World.setCell]
theorem only_refl (w : World) (r : Option Nat) : w.grownBy w r := World.grownBy.refl w r
theorem below_only {B : Nat} {a w w' : World} {g : Nat} (h : Below B a w) (hg : w.grownBy w' (some g)) (hB : B ≤ g) (hB2 : B ≤ w.heap.size) : Below B a w' :=
  ⟨hg.os.trans h.os, hg.tape.trans h.tape, hg.output.trans h.output, Nat.le_trans h.size hg.size, fun b hb => (hg.block b (by omega) (fun e => by injection e with e; omega)).trans (h.block b hb)⟩

/-- only the count of draws has moved -/
def Qt (w w' : World) : Prop := ∃ n, w' = w.drewN n
theorem Qt.refl (w : World) : Qt w w := ⟨0, rfl⟩
theorem Qt.trans {a b c : World} (h : Qt a b) (k : Qt b c) : Qt a c := by
  obtain ⟨n, rfl⟩ := h
  obtain ⟨m, rfl⟩ := k
  exact ⟨n + m, by rw [World.drewN_drewN]⟩
theorem Qt.drewN (w : World) (n : Nat) : Qt w (w.drewN n) := ⟨n, rfl⟩
theorem Qt.add {a b : World} (h : Qt a b) (n : Nat) : Qt a (b.drewN n) := h.trans ⟨n, rfl⟩
theorem Ro.qt {w w' : World} {B : Nat} {a : Option Addr} {vs : List Value} (h : Ro w B a vs) (k : Qt w w') : Ro w' B a vs := by
  obtain ⟨n, rfl⟩ := k
  exact h
theorem Own.qt {w w' : World} {g : Nat} {t : TypeId} {cs : List Value} (h : Own w g t cs) (k : Qt w w') : Own w' g t cs := by
  obtain ⟨n, rfl⟩ := k
  exact h
theorem Qt.below {a w w' : World} {B : Nat} (k : Qt w w') (h : Below B a w) : Below B a w' := by
  obtain ⟨n, rfl⟩ := k
  exact ⟨h.os, h.tape, h.output, h.size, h.block⟩
theorem Qt.size {w w' : World} (k : Qt w w') : w'.heap.size = w.heap.size := by
  obtain ⟨n, rfl⟩ := k
  rfl
end Go.Proofs.YtdpaofedepnnbaaGreat
