/-
  Plain arithmetic of bits in bytes: no Go in it. Lemmas only, no claim of their own.
-/
import Derived.Laws.BitsAllLaws
import Derived.Laws.BitsLemmas
import Derived.Test.YtkdgoopldaoihaaRows
import Derived.WalkKit
import Derived.WalkSpells
import Derived.WalkLawsBesides
import Derived.Lib.Hide
import Derived.BigQuiet
import Derived.Deep.QuietTactic
import Derived.Laws.CopyOwn
import Derived.Deep.OwnRows
import Derived.Laws.OwnMore
import Derived.Laws.AppendOwn
import Derived.Laws.AppendOwnNone
import Derived.OpenShut
import Derived.ChangeSlices
import Derived.Lib.SmallJoins
namespace Go.Proofs.Ytkdgoopldaoihaa
set_option linter.unusedVariables false
set_option linter.unusedSimpArgs false

def bit (bs : List UInt8) (i : Nat) : Nat := (bs.getD (i / 8) 0).toNat / 2 ^ (7 - i % 8) % 2
def num (bs : List UInt8) (k : Nat) : Nat → Nat
  | 0 => 0
  | n + 1 => 2 * num bs k n + bit bs (k + n)

theorem bit_lt (bs : List UInt8) (i : Nat) : bit bs i < 2 := Nat.mod_lt _ (by omega)
theorem num_lt (bs : List UInt8) (k n : Nat) : num bs k n < 2 ^ n := by
  induction n with
  | zero => simp [num]
  | succ n ih => have := bit_lt bs (k + n); simp only [num]; rw [Nat.pow_succ]; omega
theorem num_add (bs : List UInt8) (k j t : Nat) : num bs k (j + t) = num bs k j * 2 ^ t + num bs (k + j) t := by
  induction t with
  | zero => simp [num]
  | succ t ih =>
    have e : j + (t + 1) = (j + t) + 1 := rfl
    rw [e]; simp only [num]
    rw [ih, Nat.pow_succ, Nat.add_assoc k j t]
    have : 2 * (num bs k j * 2 ^ t) = num bs k j * (2 ^ t * 2) := by rw [Nat.mul_comm 2, Nat.mul_assoc]
    omega
theorem mod_two_mul (x m : Nat) : x % (m * 2) = 2 * (x / 2 % m) + x % 2 := by
  rw [Nat.mul_comm m 2, Nat.mod_mul]; omega
theorem num_byte (bs : List UInt8) (k t : Nat) (h : k % 8 + t ≤ 8) : num bs k t = (bs.getD (k / 8) 0).toNat / 2 ^ (8 - k % 8 - t) % 2 ^ t := by
  induction t with
  | zero => simp [num, Nat.mod_one]
  | succ t ih =>
    simp only [num]
    rw [ih (by omega), Nat.pow_succ, mod_two_mul]
    have e1 : (k + t) / 8 = k / 8 := by omega
    have e2 : (k + t) % 8 = k % 8 + t := by omega
    have e3 : 8 - k % 8 - t = (8 - k % 8 - (t + 1)) + 1 := by omega
    rw [e3, Nat.pow_succ, ← Nat.div_div_eq_div_mul]
    unfold bit
    rw [e1, e2]
    have e4 : 7 - (k % 8 + t) = 8 - k % 8 - (t + 1) := by omega
    rw [e4]
theorem pow_le_64 {n : Nat} (h : n ≤ 64) : 2 ^ n ≤ 18446744073709551616 := Nat.pow_le_pow_right (n := 2) (by omega) h
theorem wrap_u64_nat (n : Nat) (h : n < 18446744073709551616) : IntKind.u64.wrap (n : Int) = (n : Int) := by rw [IntKind.wrap_u64]; omega

theorem ofInt_emod_u64 (v : Int) : BitVec.ofInt 64 (v % 18446744073709551616) = BitVec.ofInt 64 v := by
  apply BitVec.eq_of_toNat_eq
  rw [BitVec.toNat_ofInt, BitVec.toNat_ofInt]
  simp
theorem and_wrap_left (v y : Int) : bits BinOp.and IntKind.u64 (v % 18446744073709551616) y = bits BinOp.and IntKind.u64 v y :=
  congrArg (fun a : BitVec 64 => IntKind.u64.wrap ((a &&& BitVec.ofInt 64 y).toNat : Int)) (ofInt_emod_u64 v)

/-- one step of reading: t more bits out of one byte -/
theorem load_step (bs : List UInt8) (k j t : Nat) (h : (k + j) % 8 + t ≤ 8) (hj : j + t ≤ 64) :
    bits BinOp.or IntKind.u64 (IntKind.u64.wrap ((num bs k j : Int) * 2 ^ t)) (((bs.getD ((k + j) / 8) 0).toNat / 2 ^ (8 - (k + j) % 8 - t) % 2 ^ t : Nat) : Int) = ((num bs k (j + t) : Nat) : Int) := by
  have h1 := num_lt bs k j
  have h2 : num bs k j * 2 ^ t < 2 ^ (j + t) := by rw [Nat.pow_add]; exact Nat.mul_lt_mul_of_pos_right h1 (Nat.pow_pos (by omega))
  have h3 := pow_le_64 hj
  have h4 := num_lt bs (k + j) t
  have h5 : (2 : Nat) ^ t ≤ 2 ^ (j + t) := Nat.pow_le_pow_right (by omega) (by omega)
  have e : ((num bs k j : Int) * 2 ^ t) = ((num bs k j * 2 ^ t : Nat) : Int) := by simp
  rw [e, wrap_u64_nat _ (by omega), ← num_byte bs (k + j) t h, u64_or_nat _ _ (by omega) (by omega), nat_join t _ _ (Nat.mul_mod_left _ _) h4, num_add]
theorem load_end (bs : List UInt8) (k j t : Nat) (h : (k + j) % 8 + t ≤ 8) (hj : j + t ≤ 64) :
    bits BinOp.or IntKind.u64 (IntKind.u64.wrap ((num bs k j : Int) * 2 ^ t)) (IntKind.u64.wrap ((bs[(k + j) / 8]?.getD 0).toNat : Int) / 2 ^ (8 - (k + j) % 8 - t) % 2 ^ t) = ((num bs k (j + t) : Nat) : Int) := by
  have hb : (bs[(k + j) / 8]?.getD 0).toNat < 256 := (bs[(k + j) / 8]?.getD 0).toNat_lt
  rw [wrap_u64_nat _ (by omega)]
  have := load_step bs k j t h hj
  rw [List.getD_eq_getElem?_getD] at this
  rw [← this]
  simp
theorem load_end1 (bs : List UInt8) (k j : Nat) (hj : j + (8 - (k + j) % 8) ≤ 64) :
    bits BinOp.or IntKind.u64 (IntKind.u64.wrap ((num bs k j : Int) * 2 ^ (8 - (k + j) % 8))) (IntKind.u64.wrap ((bs[(k + j) / 8]?.getD 0).toNat : Int) % 2 ^ (8 - (k + j) % 8)) = ((num bs k (j + (8 - (k + j) % 8)) : Nat) : Int) := by
  have := load_end bs k j (8 - (k + j) % 8) (by omega) hj
  rw [← this, Nat.sub_self]
  simp

/-- what span tells: the sum of the widths, or nothing -/
def spanOf (l : List Int) : Option Int := if l.all (fun n => decide (0 ≤ n ∧ n ≤ 64)) then some l.sum else none
theorem spanOf_bad (l : List Int) (k : Nat) (hk : k < l.length) (h : ¬ (0 ≤ l.getD k 0 ∧ l.getD k 0 ≤ 64)) : spanOf l = none := by
  unfold spanOf
  rw [if_neg]
  intro ha
  rw [List.all_eq_true] at ha
  have := ha l[k] (List.getElem_mem hk)
  have e : l.getD k 0 = l[k] := by simp [hk]
  rw [e] at h
  exact h (by simpa using this)
theorem spanOf_ok (l : List Int) (h : ∀ i, i < l.length → 0 ≤ l.getD i 0 ∧ l.getD i 0 ≤ 64) : spanOf l = some l.sum := by
  unfold spanOf
  rw [if_pos]
  rw [List.all_eq_true]
  intro x hx
  obtain ⟨i, hi, rfl⟩ := List.getElem_of_mem hx
  have e : l.getD i 0 = l[i] := by simp [hi]
  have := h i hi
  rw [e] at this
  simpa using this
theorem sum_take (l : List Int) (k : Nat) (hk : k < l.length) : (l.take (k + 1)).sum = (l.take k).sum + l.getD k 0 := by
  have e : l.getD k 0 = l[k] := by simp [hk]
  rw [e, List.take_succ_eq_append_getElem hk, List.sum_append]; simp
end Go.Proofs.Ytkdgoopldaoihaa
namespace Go.Proofs.Ytkdgoopldaoihaa
set_option linter.unusedVariables false
set_option linter.unusedSimpArgs false
open Go.RowKit

theorem bcell {W w1 : World} (hb : Below W.heap.size W w1) : (∀ b o, b < W.heap.size → w1.cell? ⟨b, o, none⟩ = W.cell? ⟨b, o, none⟩) ∧ (∀ b o, b < W.heap.size → w1.frozen? ⟨b, o, none⟩ = W.frozen? ⟨b, o, none⟩) :=
  ⟨fun b o h => hb.cell (p := ⟨b, o, none⟩) h, fun b o h => hb.frozen (p := ⟨b, o, none⟩) h⟩

/-- the slice's elements are the values vs, in one row of a block below B -/
def Ro (w : World) (B : Nat) (a : Option Addr) (vs : List Value) : Prop :=
  vs = [] ∨ ∃ b off, a = some ⟨b, off, none⟩ ∧ b < B ∧ ∀ i, i < vs.length → w.cell? ⟨b, off + i, none⟩ = some (vs.getD i undef)

theorem Ro.nil (w : World) (B : Nat) (a : Option Addr) : Ro w B a [] := .inl rfl
theorem Ro.mono {w : World} {B B' : Nat} {a : Option Addr} {vs : List Value} (h : Ro w B a vs) (hB : B ≤ B') : Ro w B' a vs := by
  rcases h with h | ⟨b, off, h1, h2, h3⟩
  · exact .inl h
  · exact .inr ⟨b, off, h1, by omega, h3⟩
theorem Ro.keep {w w' : World} {B : Nat} {a : Option Addr} {vs : List Value} (h : Ro w B a vs) (hk : ∀ p : Addr, p.block < B → w'.cell? p = w.cell? p) : Ro w' B a vs := by
  rcases h with h | ⟨b, off, h1, h2, h3⟩
  · exact .inl h
  · exact .inr ⟨b, off, h1, h2, fun i hi => (hk _ h2).trans (h3 i hi)⟩
theorem Ro.below {w w' : World} {B B' : Nat} {a : Option Addr} {vs : List Value} (h : Ro w B a vs) (hb : Below B' w w') (hB : B ≤ B') : Ro w' B a vs :=
  h.keep fun _ hp => hb.cell (Nat.lt_of_lt_of_le hp hB)
theorem Ro.at_ {w : World} {B : Nat} {a : Option Addr} {vs : List Value} (h : Ro w B a vs) (hn : vs ≠ []) :
    ∃ b off, a = some ⟨b, off, none⟩ ∧ b < B ∧ ∀ i, i < vs.length → w.cell? ⟨b, off + i, none⟩ = some (vs.getD i undef) := by
  rcases h with h | h
  · exact absurd h hn
  · exact h

def u8s (bs : List UInt8) : List Value := bs.map fun x => .int .u8 x.toNat
def u64s (l : List Nat) : List Value := l.map fun (x : Nat) => .int .u64 (x : Int)
def i64s (l : List Int) : List Value := l.map fun x => .int .i64 x
@[simp] theorem u8s_length (bs : List UInt8) : (u8s bs).length = bs.length := by simp [u8s]
@[simp] theorem u64s_length (l : List Nat) : (u64s l).length = l.length := by simp [u64s]
@[simp] theorem i64s_length (l : List Int) : (i64s l).length = l.length := by simp [i64s]
theorem u8s_getD (bs : List UInt8) (i : Nat) (h : i < bs.length) : (u8s bs).getD i undef = .int .u8 ((bs.getD i 0).toNat : Nat) := by
  simp [u8s, List.getD, h]
theorem u64s_getD (l : List Nat) (i : Nat) (h : i < l.length) : (u64s l).getD i undef = .int .u64 (l.getD i 0 : Nat) := by
  simp [u64s, List.getD, h]
theorem i64s_getD (l : List Int) (i : Nat) (h : i < l.length) : (i64s l).getD i undef = .int .i64 (l.getD i 0) := by
  simp [i64s, List.getD, h]
theorem Ro.u8 {w : World} {B : Nat} {a : Option Addr} {bs : List UInt8} (h : Ro w B a (u8s bs)) (hn : 0 < bs.length) :
    ∃ b off, a = some ⟨b, off, none⟩ ∧ b < B ∧ ∀ i, i < bs.length → w.cell? ⟨b, off + i, none⟩ = some (.int .u8 ((bs.getD i 0).toNat : Nat)) := by
  obtain ⟨b, off, h1, h2, h3⟩ := h.at_ (by intro e; have e2 := congrArg List.length e; simp only [u8s_length, u64s_length, i64s_length, List.length_nil] at e2; omega)
  exact ⟨b, off, h1, h2, fun i hi => by rw [h3 i (by simpa using hi), u8s_getD bs i hi]⟩
theorem Ro.u64 {w : World} {B : Nat} {a : Option Addr} {l : List Nat} (h : Ro w B a (u64s l)) (hn : 0 < l.length) :
    ∃ b off, a = some ⟨b, off, none⟩ ∧ b < B ∧ ∀ i, i < l.length → w.cell? ⟨b, off + i, none⟩ = some (.int .u64 (l.getD i 0 : Nat)) := by
  obtain ⟨b, off, h1, h2, h3⟩ := h.at_ (by intro e; have e2 := congrArg List.length e; simp only [u8s_length, u64s_length, i64s_length, List.length_nil] at e2; omega)
  exact ⟨b, off, h1, h2, fun i hi => by rw [h3 i (by simpa using hi), u64s_getD l i hi]⟩
theorem Ro.i64 {w : World} {B : Nat} {a : Option Addr} {l : List Int} (h : Ro w B a (i64s l)) (hn : 0 < l.length) :
    ∃ b off, a = some ⟨b, off, none⟩ ∧ b < B ∧ ∀ i, i < l.length → w.cell? ⟨b, off + i, none⟩ = some (.int .i64 (l.getD i 0)) := by
  obtain ⟨b, off, h1, h2, h3⟩ := h.at_ (by intro e; have e2 := congrArg List.length e; simp only [u8s_length, u64s_length, i64s_length, List.length_nil] at e2; omega)
  exact ⟨b, off, h1, h2, fun i hi => by rw [h3 i (by simpa using hi), i64s_getD l i hi]⟩
theorem ret_int {k : IntKind} {a b : Int} (h : a = b) : Ending.returned (.int k a) = .returned (.int k b) := by rw [h]
theorem ret_bool {a b : Bool} (h : a = b) : Ending.returned (.bool a) = .returned (.bool b) := by rw [h]

theorem Ro.take {w : World} {B : Nat} {a : Option Addr} {vs : List Value} (h : Ro w B a vs) (k : Nat) : Ro w B a (vs.take k) := by
  rcases h with h | ⟨b, off, h1, h2, h3⟩
  · exact .inl (by rw [h]; simp)
  · refine .inr ⟨b, off, h1, h2, fun i hi => ?_⟩
    rw [List.length_take] at hi
    rw [h3 i (by omega)]
    simp only [List.getD, List.getElem?_take]
    rw [if_pos (by omega)]
theorem add_off (b off l : Nat) : (⟨b, off, none⟩ : Addr).add l = ⟨b, off + l, none⟩ := by unfold Addr.add; split <;> simp_all
theorem Ro.drop {w : World} {B : Nat} {a : Option Addr} {vs : List Value} (h : Ro w B a vs) (l c : Nat) (hc : vs.length ≤ c) : Ro w B (if c = l then a else a.map fun x => x.add l) (vs.drop l) := by
  rcases h with h | ⟨b, off, h1, h2, h3⟩
  · exact .inl (by rw [h]; simp)
  · rcases Nat.lt_or_ge l vs.length with hl | hl
    · rw [if_neg (by omega), h1]
      refine .inr ⟨b, off + l, by rw [← add_off]; rfl, h2, fun i hi => ?_⟩
      rw [List.length_drop] at hi
      rw [show off + l + i = off + (l + i) from by omega, h3 (l + i) (by omega)]
      simp [List.getD]
    · exact .inl (List.drop_of_length_le hl)
/-- block g is the row cs of element type t, none of it frozen -/
def Own (w : World) (g : Nat) (t : TypeId) (cs : List Value) : Prop := w.heap[g]? = some (.cells cs.toArray t (0, 0))
theorem Own.lt {w : World} {g : Nat} {t : TypeId} {cs : List Value} (h : Own w g t cs) : g < w.heap.size := by
  rcases Nat.lt_or_ge g w.heap.size with hlt | hge
  · exact hlt
  · unfold Own at h; rw [Array.getElem?_eq_none hge] at h; cases h
theorem Own.cell {w : World} {g : Nat} {t : TypeId} {cs : List Value} (h : Own w g t cs) (i : Nat) : w.cell? ⟨g, i, none⟩ = cs[i]? := by
  rw [cell_of_row w g i cs.toArray t (0, 0) h]; simp
theorem Own.frozen {w : World} {g : Nat} {t : TypeId} {cs : List Value} (h : Own w g t cs) (i : Nat) : w.frozen? ⟨g, i, none⟩ = false := by
  unfold Own at h
  simp [World.frozen?, h]
theorem Own.new (w : World) (t : TypeId) (cs : List Value) : Own (w.alloc (.cells cs.toArray t)) w.heap.size t cs := heap_alloc_new w _
theorem Own.set {w : World} {g : Nat} {t : TypeId} {cs : List Value} (h : Own w g t cs) (i : Nat) (u : Value) : Own (w.setCell ⟨g, i, none⟩ u) g t (cs.set i u) := by
  unfold Own at h ⊢
  simp [World.setCell, Array.getElem?_modify, h]
theorem Own.far {w : World} {g : Nat} {t : TypeId} {cs : List Value} (h : Own w g t cs) {p : Addr} (hp : g ≠ p.block) (u : Value) : Own (w.setCell p u) g t cs := (Below.heap_setCell w p u g hp).trans h
theorem Own.alloc {w : World} {g : Nat} {t : TypeId} {cs : List Value} (h : Own w g t cs) (o : Obj) : Own (w.alloc o) g t cs := (Below.heap_alloc w o g h.lt).trans h
theorem Own.below {w w' : World} {g B : Nat} {t : TypeId} {cs : List Value} (h : Own w g t cs) (hb : Below B w w') (hg : g < B) : Own w' g t cs := (hb.block g hg).trans h
theorem Own.grown {w w' : World} {g : Nat} {t : TypeId} {cs : List Value} {row : Option Nat} (h : Own w g t cs) (hb : w.grownBy w' row) (hg : some g ≠ row) : Own w' g t cs := (hb.block g h.lt hg).trans h
theorem Own.ro {w : World} {g : Nat} {t : TypeId} {cs : List Value} (h : Own w g t cs) (B : Nat) (hB : g < B) : Ro w B (some ⟨g, 0, none⟩) cs := by
  refine .inr ⟨g, 0, rfl, hB, fun i hi => ?_⟩
  rw [Nat.zero_add, h.cell i]
  simp [List.getD, hi]
/-- only block g, and what is new, has turned -/
theorem only_set {a w : World} {g : Nat} (h : a.grownBy w (some g)) (i : Nat) (u : Value) : a.grownBy (w.setCell ⟨g, i, none⟩ u) (some g) :=
  ⟨h.os, h.tape, h.output, by simpa [World.setCell] using h.size, fun b hb hne => (Below.heap_setCell w ⟨g, i, none⟩ u b (fun e => hne (by rw [e]))).trans (h.block b hb hne)⟩
theorem set_size (w : World) (p : Addr) (u : Value) : (w.setCell p u).heap.size = w.heap.size := by simp [World.setCell]
theorem only_refl (w : World) (r : Option Nat) : w.grownBy w r := World.grownBy.refl w r
theorem below_only {B : Nat} {a w w' : World} {g : Nat} (h : Below B a w) (hg : w.grownBy w' (some g)) (hB : B ≤ g) (hB2 : B ≤ w.heap.size) : Below B a w' :=
  ⟨hg.os.trans h.os, hg.tape.trans h.tape, hg.output.trans h.output, Nat.le_trans h.size hg.size, fun b hb => (hg.block b (by omega) (fun e => by injection e with e; omega)).trans (h.block b hb)⟩

/-- only the count of draws has moved -/
def Qt (w w' : World) : Prop := ∃ n, w' = w.drewN n
theorem Qt.refl (w : World) : Qt w w := ⟨0, rfl⟩
theorem Qt.trans {a b c : World} (h : Qt a b) (k : Qt b c) : Qt a c := by
  obtain ⟨n, rfl⟩ := h
  obtain ⟨m, rfl⟩ := k
  exact ⟨n + m, by rw [World.drewN_drewN]⟩
theorem Qt.drewN (w : World) (n : Nat) : Qt w (w.drewN n) := ⟨n, rfl⟩
theorem Qt.add {a b : World} (h : Qt a b) (n : Nat) : Qt a (b.drewN n) := h.trans ⟨n, rfl⟩
theorem Ro.qt {w w' : World} {B : Nat} {a : Option Addr} {vs : List Value} (h : Ro w B a vs) (k : Qt w w') : Ro w' B a vs := by
  obtain ⟨n, rfl⟩ := k
  exact h
theorem Own.qt {w w' : World} {g : Nat} {t : TypeId} {cs : List Value} (h : Own w g t cs) (k : Qt w w') : Own w' g t cs := by
  obtain ⟨n, rfl⟩ := k
  exact h
theorem Qt.below {a w w' : World} {B : Nat} (k : Qt w w') (h : Below B a w) : Below B a w' := by
  obtain ⟨n, rfl⟩ := k
  exact ⟨h.os, h.tape, h.output, h.size, h.block⟩
theorem Qt.size {w w' : World} (k : Qt w w') : w'.heap.size = w.heap.size := by
  obtain ⟨n, rfl⟩ := k
  rfl
end Go.Proofs.Ytkdgoopldaoihaa
namespace Go.Proofs.Ytkdgoopldaoihaa
set_option linter.unusedVariables false
set_option linter.unusedSimpArgs false
open Go.RowKit

/-- a slice of integers that came in: nil, or a row of cells, each fitting its kind -/
def IsRow (k : IntKind) (w : World) (a : Option Addr) (len cap : Nat) (zs : List Int) : Prop :=
  (a = none ∧ len = 0 ∧ cap = 0 ∧ zs = []) ∨
  ∃ x, a = some x ∧ len ≤ cap ∧ cap ≤ maxLen ∧ zs.length = cap ∧ (∀ i, i < zs.length → w.cell? (x.add i) = some (.int k (zs.getD i 0))) ∧ ∀ n ∈ zs, (Lit.int k n).wf = true

/-- the elements alone, in a row below the heap's end -/
theorem IsRow.vals {k : IntKind} {w : World} {a : Option Addr} {len cap : Nat} {zs : List Int} (h : IsRow k w a len cap zs) :
    ∃ ys : List Int, ys.length = len ∧ len ≤ cap ∧ (a = none → cap = 0) ∧ Ro w w.heap.size a (ys.map fun x => .int k x) ∧ ∀ n ∈ ys, (Lit.int k n).wf = true := by
  rcases h with ⟨rfl, rfl, rfl, rfl⟩ | ⟨x, rfl, h1, h2, h3, h4, h5⟩
  · exact ⟨[], rfl, Nat.le_refl _, fun _ => rfl, .inl rfl, by simp⟩
  · refine ⟨zs.take len, by rw [List.length_take]; omega, h1, (fun h => by cases h), ?_, (fun n hn => h5 n (List.mem_of_mem_take hn))⟩
    by_cases h0 : len = 0
    · subst h0; exact .inl (by simp)
    · obtain ⟨b, off, spot⟩ := x
      have hc := h4 0 (by omega)
      have hspot : spot = none := by simpa [Addr.add] using World.cell?_spot hc
      subst hspot
      have hb := World.block_lt_of_cell? w _ hc
      refine .inr ⟨b, off, rfl, by simpa [add_off] using hb, fun i hi => ?_⟩
      rw [List.length_map, List.length_take] at hi
      have := h4 i (by omega)
      rw [add_off] at this
      rw [this]
      simp [List.getD, List.getElem?_take, show i < len from by omega, show i < zs.length from by omega]
theorem IsRow.len_le {k : IntKind} {w : World} {a : Option Addr} {len cap : Nat} {zs : List Int} (h : IsRow k w a len cap zs) : len ≤ 9223372036854775807 := by
  rcases h with ⟨_, rfl, _, _⟩ | ⟨x, _, h1, h2, _⟩
  · omega
  · unfold maxLen at h2; omega
theorem IsRow.cap_le {k : IntKind} {w : World} {a : Option Addr} {len cap : Nat} {zs : List Int} (h : IsRow k w a len cap zs) : cap ≤ 9223372036854775807 := by
  rcases h with ⟨_, _, rfl, _⟩ | ⟨x, _, h1, h2, _⟩
  · omega
  · unfold maxLen at h2; omega
/-- bytes -/
theorem IsRow.u8s {w : World} {a : Option Addr} {len cap : Nat} {zs : List Int} (h : IsRow .u8 w a len cap zs) :
    ∃ bs : List UInt8, bs.length = len ∧ len ≤ cap ∧ (a = none → cap = 0) ∧ Ro w w.heap.size a (u8s bs) := by
  obtain ⟨ys, h1, h2, h3, h4, h5⟩ := h.vals
  refine ⟨ys.map fun n => UInt8.ofNat n.toNat, by simpa using h1, h2, h3, ?_⟩
  have e : Ytkdgoopldaoihaa.u8s (ys.map fun n => UInt8.ofNat n.toNat) = ys.map fun x => .int .u8 x := by
    unfold Ytkdgoopldaoihaa.u8s
    rw [List.map_map]
    apply List.map_congr_left
    intro n hn
    have := bounds_u8 (h5 n hn)
    have e2 : (UInt8.ofNat n.toNat).toNat = n.toNat := by simp; omega
    simp only [Function.comp, e2]
    congr 1
    omega
  rw [e]; exact h4
/-- unsigned numbers -/
theorem IsRow.u64s {w : World} {a : Option Addr} {len cap : Nat} {zs : List Int} (h : IsRow .u64 w a len cap zs) :
    ∃ l : List Nat, l.length = len ∧ len ≤ cap ∧ (a = none → cap = 0) ∧ Ro w w.heap.size a (u64s l) ∧ ∀ i, l.getD i 0 < 18446744073709551616 := by
  obtain ⟨ys, h1, h2, h3, h4, h5⟩ := h.vals
  refine ⟨ys.map Int.toNat, by simpa using h1, h2, h3, ?_, fun i => ?_⟩
  · have e : Ytkdgoopldaoihaa.u64s (ys.map Int.toNat) = ys.map fun x => .int .u64 x := by
      unfold Ytkdgoopldaoihaa.u64s
      rw [List.map_map]
      apply List.map_congr_left
      intro n hn
      have := bounds_u64 (h5 n hn)
      simp only [Function.comp]
      congr 1
      omega
    rw [e]; exact h4
  · by_cases hi : i < ys.length
    · have := bounds_u64 (h5 ys[i] (List.getElem_mem hi))
      have e : (ys.map Int.toNat).getD i 0 = ys[i].toNat := by simp [List.getD, hi]
      rw [e]; omega
    · have e : (ys.map Int.toNat).getD i 0 = 0 := by simp [List.getD, hi]
      rw [e]; omega
/-- signed numbers -/
theorem IsRow.i64s {w : World} {a : Option Addr} {len cap : Nat} {zs : List Int} (h : IsRow .i64 w a len cap zs) :
    ∃ l : List Int, l.length = len ∧ len ≤ cap ∧ (a = none → cap = 0) ∧ Ro w w.heap.size a (i64s l) ∧ ∀ i, -9223372036854775808 ≤ l.getD i 0 ∧ l.getD i 0 ≤ 9223372036854775807 := by
  obtain ⟨ys, h1, h2, h3, h4, h5⟩ := h.vals
  refine ⟨ys, h1, h2, h3, h4, fun i => ?_⟩
  by_cases hi : i < ys.length
  · have := bounds_i64 (h5 ys[i] (List.getElem_mem hi))
    have e : ys.getD i 0 = ys[i] := by simp [List.getD, hi]
    rw [e]; omega
  · have e : ys.getD i 0 = 0 := by simp [List.getD, hi]
    rw [e]; omega
section
variable {H : Type} {enc : TypeId × Value → H} {P : Program} {w : World} {base : Nat} {spare : Nat → Bool} {held : Bool}
/-- an array of integers by value, opened -/
theorem open_array_ints {k : IntKind} {r : Reach} {b0 n : Nat} {t e : TypeId} {v : Value} {d : DataW H} {p : List MemPlace} (ht : P.underlying t = some (.array n e)) (he : P.underlying e = some (.int k)) (hce : P.cellsOf e = 1) (hct : P.cellsOf t = n)
    (hv : Value.okWide P w r b0 t v) (h : DataW.Trod enc P w base spare held t v d p) :
    ∃ zs : List Int, v = .agg (zs.map (Value.int k)).toArray ∧ zs.length = n ∧ ∀ x ∈ zs, (Lit.int k x).wf = true := by
  obtain ⟨cs, rfl, hsz⟩ : ∃ cs, v = .agg cs ∧ cs.size = P.cellsOf t := by
    simp only [Value.okWide, ht] at hv
    obtain ⟨cs, h1, h2, _⟩ := hv
    exact ⟨cs, h1, h2⟩
  obtain ⟨fuel, hf⟩ := h
  obtain ⟨xs, m, _, _, _, hl, hi⟩ := DataW.trod_array ht hf
  have hall : ∀ i (h : i < cs.toList.length), ∃ x, cs.toList[i] = .int k x ∧ (Lit.int k x).wf = true := by
    intro i h
    have hin : i < n := by simp only [Array.length_toList] at h; omega
    have h1 := hi i hin
    rw [hce, Nat.mul_one, List.getElem?_eq_getElem (by omega)] at h1
    obtain ⟨x, hx, _, hw⟩ := DataW.trod_int he h1
    refine ⟨x, ?_, hw⟩
    have e : ((Value.agg cs).cells.toList.drop i).take 1 = [cs.toList[i]] := by
      show (cs.toList.drop i).take 1 = _
      rw [List.drop_eq_getElem_cons h]
      simp
    rw [e] at hx
    simpa using hx
  refine ⟨cs.toList.map intOf, ?_, by simp; omega, ?_⟩
  · congr 1
    apply Array.ext'
    simp only [List.map_map]
    apply List.ext_getElem
    · simp
    · intro i h1 h2
      obtain ⟨x, hx, _⟩ := hall i h1
      simp only [List.getElem_map, Function.comp]
      rw [hx]
      rfl
  · intro x hx
    rw [List.mem_map] at hx
    obtain ⟨v, hv1, rfl⟩ := hx
    obtain ⟨i, h1, rfl⟩ := List.getElem_of_mem hv1
    obtain ⟨x, hx, hw⟩ := hall i h1
    rw [hx]
    exact hw
/-- an array of slices of integers by value, opened: each element a row -/
theorem open_array_rows {k : IntKind} {r : Reach} {b0 n : Nat} {t s e : TypeId} {v : Value} {d : DataW H} {p : List MemPlace} (ht : P.underlying t = some (.array n s)) (hs : P.underlying s = some (.slice e)) (he : P.underlying e = some (.int k)) (hce : P.cellsOf e = 1) (hcs : P.cellsOf s = 1) (hct : P.cellsOf t = n)
    (hv : Value.okWide P w r b0 t v) (h : DataW.Trod enc P w base (fun _ => true) held t v d p) :
    ∃ cs : List Value, v = .agg cs.toArray ∧ cs.length = n ∧ ∀ x ∈ cs, ∃ a l c zs, x = .slice a l c ∧ IsRow k w a l c zs := by
  obtain ⟨cs, rfl, hsz⟩ : ∃ cs, v = .agg cs ∧ cs.size = P.cellsOf t := by
    simp only [Value.okWide, ht] at hv
    obtain ⟨cs, h1, h2, _⟩ := hv
    exact ⟨cs, h1, h2⟩
  obtain ⟨fuel, hf⟩ := h
  obtain ⟨xs, m, _, _, _, hl, hi⟩ := DataW.trod_array ht hf
  refine ⟨cs.toList, by simp, by simp; omega, fun x hx => ?_⟩
  obtain ⟨i, h1, rfl⟩ := List.getElem_of_mem hx
  have hin : i < n := by simp only [Array.length_toList] at h1; omega
  have h2 := hi i hin
  rw [hcs, Nat.mul_one, List.getElem?_eq_getElem (by omega)] at h2
  have e1 : ((Value.agg cs).cells.toList.drop i).take 1 = [cs.toList[i]] := by
    show (cs.toList.drop i).take 1 = _
    rw [List.drop_eq_getElem_cons h1]
    simp
  rw [e1] at h2
  rcases ChangeShapes.open_ints hs he hce h2 with ⟨hc, _⟩ | ⟨a, l, c, zs, hc, _, hl, hm, hz, _, hcell, hwz⟩
  · exact ⟨none, 0, 0, [], by simpa using hc, .inl ⟨rfl, rfl, rfl, rfl⟩⟩
  · exact ⟨some a, l, c, zs, by simpa using hc, .inr ⟨a, rfl, hl, hm, by simpa using hz, hcell, hwz⟩⟩
end
end Go.Proofs.Ytkdgoopldaoihaa
namespace Go.Proofs.Ytkdgoopldaoihaa
set_option linter.unusedVariables false
set_option linter.unusedSimpArgs false
open Go.RowKit Go.Deep

/-- the value v is a slice of the call's own (blocks from base on), nil or not, with the elements xs -/
def Lst (w : World) (base : Nat) (e : TypeId) (v : Value) (xs : List Value) : Prop := w.ownsRow base e 1 v xs.length xs

theorem Lst.nil (w : World) (base : Nat) (e : TypeId) : Lst w base e (.slice none 0 0) [] := World.ownsRow_nil w base e 1
theorem Lst.lit (w : World) (base : Nat) (e : TypeId) (cs : Array Value) (hb : base ≤ w.heap.size) (hm : cs.size ≤ maxLen) : Lst (w.alloc (.cells cs e)) base e (.slice (some ⟨w.heap.size, 0, none⟩) cs.size cs.size) cs.toList := by
  have := World.ownsRow_lit (base := base) (e := e) (size := 1) w cs cs.size hb hm (by simp)
  unfold Lst
  simpa using this
theorem Lst.form {w : World} {base : Nat} {e : TypeId} {v : Value} {xs : List Value} (h : Lst w base e v xs) : ∃ a c, v = .slice a xs.length c ∧ Ro w w.heap.size a xs ∧ xs.length ≤ c ∧ (a = none → c = 0) := by
  unfold Lst at h
  rcases h.2 with ⟨rfl, h0⟩ | ⟨g, cap, cur, rfl, hb, hh, hle, hrest⟩
  · have : xs = [] := by simpa using h0
    subst this
    exact ⟨none, 0, rfl, .inl rfl, by simp, fun _ => rfl⟩
  · refine ⟨some ⟨g, 0, none⟩, cap, rfl, .inr ⟨g, 0, rfl, ?_, fun i hi => ?_⟩, hle, fun hh => by cases hh⟩
    · exact (World.ownsRow.lt h g rfl).2
    · have := World.ownsRow.cellAt h i (by omega)
      rw [Nat.zero_add, this]
      simp [List.getD, hi]
theorem Lst.base {w : World} {base base' : Nat} {e : TypeId} {v : Value} {xs : List Value} (h : Lst w base e v xs) (hb : base' ≤ base) : Lst w base' e v xs := by
  unfold Lst at h ⊢
  obtain ⟨h0, h1⟩ := h
  refine ⟨h0, ?_⟩
  rcases h1 with h1 | ⟨g, cap, cur, h2, h3, h4⟩
  · exact .inl h1
  · exact .inr ⟨g, cap, cur, h2, by omega, h4⟩
theorem Lst.alloc {w : World} {base : Nat} {e : TypeId} {v : Value} {xs : List Value} (h : Lst w base e v xs) (o : Obj) : Lst (w.alloc o) base e v xs := World.ownsRow.alloc h o
theorem Lst.qt {w w' : World} {base : Nat} {e : TypeId} {v : Value} {xs : List Value} (h : Lst w base e v xs) (k : Qt w w') : Lst w' base e v xs := by
  obtain ⟨n, rfl⟩ := k
  exact h
theorem Lst.below {w w' : World} {base B : Nat} {e : TypeId} {v : Value} {xs : List Value} (h : Lst w base e v xs) (hb : Below B w w') (hB : w.heap.size ≤ B) : Lst w' base e v xs := by
  unfold Lst at h ⊢
  refine World.ownsRow.kept (row := none) h ⟨hb.os, hb.tape, hb.output, hb.size, fun b hlt _ => hb.block b (by omega)⟩ ?_
  by_cases hv : v.ownBlock = none
  · exact .inl hv
  · exact .inr hv
theorem Lst.kept {w w' : World} {base : Nat} {e : TypeId} {v : Value} {xs : List Value} {row : Option Nat} (h : Lst w base e v xs) (hg : w.grownBy w' row) (hne : v.ownBlock = none ∨ v.ownBlock ≠ row) : Lst w' base e v xs :=
  World.ownsRow.kept h hg hne
theorem Lst.lt {w : World} {base : Nat} {e : TypeId} {v : Value} {xs : List Value} (h : Lst w base e v xs) : ∀ k, v.ownBlock = some k → base ≤ k ∧ k < w.heap.size := World.ownsRow.lt h
/-- what an append leaves below a number -/
theorem grown_below {B base : Nat} {a w w' : World} {e : TypeId} {v : Value} {xs : List Value} (h : Below B a w) (hl : Lst w base e v xs) (hg : w.grownBy w' v.ownBlock) (hB : B ≤ base) (hB2 : B ≤ w.heap.size) : Below B a w' :=
  ⟨hg.os.trans h.os, hg.tape.trans h.tape, hg.output.trans h.output, Nat.le_trans h.size hg.size, fun b hb => (hg.block b (by omega) (fun e => by have := (hl.lt b e.symm).1; omega)).trans (h.block b hb)⟩

section
variable {P : Program} {w : World}
theorem run_app_none (base : Nat) (t ty e : TypeId) (i : TypeInfo) (ht : P.underlying t = some (.slice e)) (hi : P.info? e = some i)
    (v : Value) (xs : List Value) (hown : Lst w base e v xs) (c : Nat) : (Builtin.append_ #[t, t] ty #[v, .slice none 0 c]).run P w = .ok v w := by
  rcases hown.2 with ⟨rfl, h0⟩ | ⟨g, cap, cur, rfl, _, _, hnc, _⟩
  · simp [Builtin.append_, run_underlying ht, sizeOf, typeInfo, hi, Builtin.lenOf, Builtin.firstCells]
  · simp [Builtin.append_, run_underlying ht, sizeOf, typeInfo, hi, Builtin.lenOf, Builtin.firstCells, hnc, storeCells]

/-- append to a slice of the call's own, whatever the source: nil, empty, or a row -/
theorem wpList_app {ops : Array Oper} {rest : List Oper} {o : Oper} {a : Act} {Q : Exit → Act → World → Prop} (hgd : o.guard = none) (s x : Operand) (t : TypeId)
    (ho : o.op = .call { callee := .builtin .append, args := #[s, x], argTypes := #[t, t] })
    (base : Nat) (e : TypeId) (z : Value) (bytes : Nat) (ht : P.underlying t = some (.slice e)) (hinfo : (P.info? e).map (fun i => (i.zero, i.size, i.bytes)) = some (some z, 1, bytes)) (hzs : z.cells.size = 1)
    (v : Value) (xs : List Value) (hs : a.eval s = v) (hown : Lst w base e v xs)
    (A : Option Addr) (B m c : Nat) (news : List Value) (hx : a.eval x = .slice A m c) (hm : news.length = m) (hro : Ro w B A news) (h1 : ∀ u ∈ news, u.oneCell' = true)
    (hlen : (xs.length + m) * bytes ≤ 140737488355328) (hlen2 : xs.length + m ≤ 140737488355328) (hbase : base ≤ w.heap.size)
    (h : ∀ v' w', Hid (Lst w' base e v' (xs ++ news)) → w.grownBy w' v.ownBlock → wpList P ops Q rest (a.put o.dst v') w') : wpList P ops Q (o :: rest) a w := by
  obtain ⟨i, hi, hzz⟩ := Option.map_eq_some_iff.1 hinfo
  simp only [Prod.mk.injEq] at hzz
  obtain ⟨hz, hsz, hby⟩ := hzz
  subst hm
  rcases A with _ | ad
  · have hn : news = [] := by
      rcases hro with h | ⟨b, off, h, _⟩
      · exact h
      · cases h
    subst hn
    refine wpList_plain hgd fun K hK => ?_
    have hrun := run_app_none (P := P) (w := w) base t o.type e i ht hi v xs hown c
    unfold Oper.wp
    simp only [List.length_nil] at hx
    simp [execOp, ho, resolve, invoke, builtin, hs, hx, hrun, Result.andThen]
    refine hK _ _ (h v w ?_ (World.grownBy.refl w _))
    rw [List.append_nil]
    exact hown
  · have hcells : ∀ j u, news[j]? = some u → w.cell? (ad.add j) = some u := by
      intro j u hu
      have hj : j < news.length := (List.getElem?_eq_some_iff.1 hu).1
      rcases hro with h | ⟨b, off, h, hb, hc⟩
      · subst h; simp at hj
      · injection h with h
        subst h
        have e2 : (⟨b, off, none⟩ : Addr).add j = ⟨b, off + j, none⟩ := by unfold Addr.add; split <;> simp_all
        rw [e2, hc j hj]
        simp [List.getD, hu]
    refine wpList_append_own w hgd s x t ho base e i z 1 bytes ht hi hz hsz hby hzs (by omega) v xs.length xs hs hown ad news.length c news hx (by omega) hcells h1 (by unfold maxLen; omega) hlen hbase fun v' w' h2 h3 _ => h v' w' ?_ h3
    show w'.ownsRow base e 1 v' (xs ++ news).length (xs ++ news)
    rw [List.length_append]
    exact h2

/-- the same, with what it keeps below B -/
theorem wpList_appB {ops : Array Oper} {rest : List Oper} {o : Oper} {a : Act} {Q : Exit → Act → World → Prop} (hgd : o.guard = none) (s x : Operand) (t : TypeId)
    (ho : o.op = .call { callee := .builtin .append, args := #[s, x], argTypes := #[t, t] })
    (base : Nat) (e : TypeId) (z : Value) (bytes : Nat) (ht : P.underlying t = some (.slice e)) (hinfo : (P.info? e).map (fun i => (i.zero, i.size, i.bytes)) = some (some z, 1, bytes)) (hzs : z.cells.size = 1)
    (v : Value) (xs : List Value) (hs : a.eval s = v) (hown : Lst w base e v xs)
    (A : Option Addr) (BB m c : Nat) (news : List Value) (hx : a.eval x = .slice A m c) (hm : news.length = m) (hro : Ro w BB A news) (h1 : ∀ u ∈ news, u.oneCell' = true)
    (hlen : (xs.length + m) * bytes ≤ 140737488355328) (hlen2 : xs.length + m ≤ 140737488355328) (B : Nat) (w0 : World) (hb : Below B w0 w) (hB : B ≤ base) (hbase : base ≤ w.heap.size)
    (h : ∀ v' w', Hid (Lst w' base e v' (xs ++ news)) → Below B w0 w' → w.heap.size ≤ w'.heap.size → wpList P ops Q rest (a.put o.dst v') w') : wpList P ops Q (o :: rest) a w :=
  wpList_app hgd s x t ho base e z bytes ht hinfo hzs v xs hs hown A BB m c news hx hm hro h1 hlen hlen2 hbase fun v' w' h2 h3 => h v' w' h2 (grown_below hb hown h3 hB (by omega)) h3.size
theorem ro_one (w0 : World) (t : TypeId) (u : Value) : Ro (w0.alloc (.cells #[u] t)) (w0.heap.size + 1) (some ⟨w0.heap.size, 0, none⟩) [u] :=
  (Own.new w0 t [u]).ro _ (by omega)
/-- append of one value -/
theorem wpList_app1 {ops : Array Oper} {rest : List Oper} {o : Oper} {a : Act} {Q : Exit → Act → World → Prop} (hgd : o.guard = none) (s x : Operand) (t : TypeId)
    (ho : o.op = .call { callee := .builtin .append, args := #[s, x], argTypes := #[t, t] })
    (base : Nat) (e : TypeId) (z : Value) (bytes : Nat) (ht : P.underlying t = some (.slice e)) (hinfo : (P.info? e).map (fun i => (i.zero, i.size, i.bytes)) = some (some z, 1, bytes)) (hzs : z.cells.size = 1)
    (u : Value) (h1 : u.oneCell' = true) (v : Value) (xs : List Value) (hs : a.eval s = v) (hown : Lst w base e v xs)
    (hx : a.eval x = .slice (some ⟨w.heap.size, 0, none⟩) 1 1)
    (hlen : (xs.length + 1) * bytes ≤ 140737488355328) (hlen2 : xs.length + 1 ≤ 140737488355328) (B : Nat) (w0 : World) (hb : Below B w0 w) (hB : B ≤ base) (hbase : base ≤ w.heap.size)
    (h : ∀ v' w', Hid (Lst w' base e v' (xs ++ [u])) → Below B w0 w' → w.heap.size ≤ w'.heap.size → wpList P ops Q rest (a.put o.dst v') w') : wpList P ops Q (o :: rest) a (w.alloc (.cells #[u] e)) :=
  wpList_appB hgd s x t ho base e z bytes ht hinfo hzs v xs hs (hown.alloc _) (some ⟨w.heap.size, 0, none⟩) (w.heap.size + 1) 1 1 [u] hx rfl (ro_one w e u) (by simpa using h1) hlen hlen2 B w0 (hb.alloc (by omega) _) hB (by simp; omega)
    fun v' w' h2 h3 h4 => h v' w' h2 h3 (by simp at h4; omega)

/-- the same laws at a step of a region that draws its order -/
theorem wp_app {o : Oper} {a : Act} {K : Act → World → Prop} {Q : Exit → Act → World → Prop} (s x : Operand) (t : TypeId)
    (ho : o.op = .call { callee := .builtin .append, args := #[s, x], argTypes := #[t, t] })
    (base : Nat) (e : TypeId) (z : Value) (bytes : Nat) (ht : P.underlying t = some (.slice e)) (hinfo : (P.info? e).map (fun i => (i.zero, i.size, i.bytes)) = some (some z, 1, bytes)) (hzs : z.cells.size = 1)
    (v : Value) (xs : List Value) (hs : a.eval s = v) (hown : Lst w base e v xs)
    (A : Option Addr) (B m c : Nat) (news : List Value) (hx : a.eval x = .slice A m c) (hm : news.length = m) (hro : Ro w B A news) (h1 : ∀ u ∈ news, u.oneCell' = true)
    (hlen : (xs.length + m) * bytes ≤ 140737488355328) (hlen2 : xs.length + m ≤ 140737488355328) (hbase : base ≤ w.heap.size)
    (h : ∀ v' w', Hid (Lst w' base e v' (xs ++ news)) → w.grownBy w' v.ownBlock → K (a.put o.dst v') w') : o.wp P a w K Q := by
  obtain ⟨i, hi, hzz⟩ := Option.map_eq_some_iff.1 hinfo
  simp only [Prod.mk.injEq] at hzz
  obtain ⟨hz, hsz, hby⟩ := hzz
  subst hm
  rcases A with _ | ad
  · have hn : news = [] := by
      rcases hro with h | ⟨b, off, h, _⟩
      · exact h
      · cases h
    subst hn
    have hrun := run_app_none (P := P) (w := w) base t o.type e i ht hi v xs hown c
    unfold Oper.wp
    simp only [List.length_nil] at hx
    simp [execOp, ho, resolve, invoke, builtin, hs, hx, hrun, Result.andThen]
    refine h v w ?_ (World.grownBy.refl w _)
    rw [List.append_nil]
    exact hown
  · have hcells : ∀ j u, news[j]? = some u → w.cell? (ad.add j) = some u := by
      intro j u hu
      have hj : j < news.length := (List.getElem?_eq_some_iff.1 hu).1
      rcases hro with h | ⟨b, off, h, hb, hc⟩
      · subst h; simp at hj
      · injection h with h
        subst h
        rw [add_off, hc j hj]
        simp [List.getD, hu]
    refine wp_append_own w s x t ho base e i z 1 bytes ht hi hz hsz hby hzs (by omega) v xs.length xs hs hown ad news.length c news hx (by omega) hcells h1 (by unfold maxLen; omega) hlen hbase fun v' w' h2 h3 _ => h v' w' ?_ h3
    show w'.ownsRow base e 1 v' (xs ++ news).length (xs ++ news)
    rw [List.length_append]
    exact h2
theorem step_appB {ops : Array Oper} {o : Oper} {a : Act} {K : Act → World → Prop} {Q : Exit → Act → World → Prop} {E : Prop} (hgd : o.guard = none) (s x : Operand) (t : TypeId)
    (ho : o.op = .call { callee := .builtin .append, args := #[s, x], argTypes := #[t, t] })
    (base : Nat) (e : TypeId) (z : Value) (bytes : Nat) (ht : P.underlying t = some (.slice e)) (hinfo : (P.info? e).map (fun i => (i.zero, i.size, i.bytes)) = some (some z, 1, bytes)) (hzs : z.cells.size = 1)
    (v : Value) (xs : List Value) (hs : a.eval s = v) (hown : Lst w base e v xs)
    (A : Option Addr) (BB m c : Nat) (news : List Value) (hx : a.eval x = .slice A m c) (hm : news.length = m) (hro : Ro w BB A news) (h1 : ∀ u ∈ news, u.oneCell' = true)
    (hlen : (xs.length + m) * bytes ≤ 140737488355328) (hlen2 : xs.length + m ≤ 140737488355328) (B : Nat) (w0 : World) (hb : Below B w0 w) (hB : B ≤ base) (hbase : base ≤ w.heap.size)
    (h : ∀ v' w', Hid (Lst w' base e v' (xs ++ news)) → Below B w0 w' → w.heap.size ≤ w'.heap.size → K (a.put o.dst v') w') :
    if Region.wanted o (yielded ops a.tmps) = true then Oper.wp P o a w K Q else E := by
  have hw : Region.wanted o (yielded ops a.tmps) = true := by simp [Region.wanted, hgd]
  rw [if_pos hw]
  exact wp_app s x t ho base e z bytes ht hinfo hzs v xs hs hown A BB m c news hx hm hro h1 hlen hlen2 hbase fun v' w' h2 h3 => h v' w' h2 (grown_below hb hown h3 hB (by omega)) h3.size
/-- the same at an operation that is guarded, its guard being met -/
theorem wpList_appG {ops : Array Oper} {rest : List Oper} {o : Oper} {a : Act} {Q : Exit → Act → World → Prop} (s x : Operand) (t : TypeId)
    (ho : o.op = .call { callee := .builtin .append, args := #[s, x], argTypes := #[t, t] })
    (base : Nat) (e : TypeId) (z : Value) (bytes : Nat) (ht : P.underlying t = some (.slice e)) (hinfo : (P.info? e).map (fun i => (i.zero, i.size, i.bytes)) = some (some z, 1, bytes)) (hzs : z.cells.size = 1)
    (v : Value) (xs : List Value) (hs : a.eval s = v) (hown : Lst w base e v xs)
    (A : Option Addr) (BB m c : Nat) (news : List Value) (hx : a.eval x = .slice A m c) (hm : news.length = m) (hro : Ro w BB A news) (h1 : ∀ u ∈ news, u.oneCell' = true)
    (hlen : (xs.length + m) * bytes ≤ 140737488355328) (hlen2 : xs.length + m ≤ 140737488355328) (B : Nat) (w0 : World) (hb : Below B w0 w) (hB : B ≤ base) (hbase : base ≤ w.heap.size)
    (hw : Region.wanted o (yielded ops a.tmps) = true)
    (h : ∀ v' w', Hid (Lst w' base e v' (xs ++ news)) → Below B w0 w' → w.heap.size ≤ w'.heap.size → wpList P ops Q rest (a.put o.dst v') w') : wpList P ops Q (o :: rest) a w :=
  wpList_step fun K hK => by
    rw [if_pos hw]
    exact wp_app s x t ho base e z bytes ht hinfo hzs v xs hs hown A BB m c news hx hm hro h1 hlen hlen2 hbase fun v' w' h2 h3 => hK _ _ (h v' w' h2 (grown_below hb hown h3 hB (by omega)) h3.size)
theorem cell_keep {B : Nat} {w w' : World} {b o : Nat} {v : Value} (hb : Below B w w') (h : w.cell? ⟨b, o, none⟩ = some v) (hlt : b < B) : w'.cell? ⟨b, o, none⟩ = some v := (hb.cell (p := ⟨b, o, none⟩) hlt).trans h
end
end Go.Proofs.Ytkdgoopldaoihaa
namespace Go.Proofs.Ytkdgoopldaoihaa
open Go.RowKit Go.Deep
set_option linter.unusedVariables false
set_option linter.unusedSimpArgs false

/-- a Back: its stream, its two addresses -/
abbrev Bk := Int × Nat × Nat
/-- a cell: its kind, its data, its Backs -/
structure Ce where
  k : Int
  d : List UInt8
  b : List Bk
theorem Ce.ext' {x y : Ce} (h1 : x.k = y.k) (h2 : x.d = y.d) (h3 : x.b = y.b) : x = y := by
  cases x; cases y; simp_all
def FitB (b : Bk) : Prop := -9223372036854775808 ≤ b.1 ∧ b.1 ≤ 9223372036854775807 ∧ b.2.1 ≤ 18446744073709551615 ∧ b.2.2 ≤ 18446744073709551615

/-- the cells of Backs -/
def bcs : List Bk → List Value
  | [] => []
  | b :: L => .int .i64 b.1 :: .int .u64 (b.2.1 : Int) :: .int .u64 (b.2.2 : Int) :: bcs L
/-- a Back by value -/
abbrev bkv (b : Bk) : Value := .agg #[.int .i64 b.1, .int .u64 (b.2.1 : Int), .int .u64 (b.2.2 : Int)]
@[simp] theorem bcs_length (L : List Bk) : (bcs L).length = L.length * 3 := by
  induction L with
  | nil => rfl
  | cons r L ih => simp [bcs, ih]; omega
theorem bcs_append (A B : List Bk) : bcs (A ++ B) = bcs A ++ bcs B := by
  induction A with
  | nil => rfl
  | cons r A ih => simp [bcs, ih]
theorem bcs_one (L : List Bk) : ∀ v ∈ bcs L, v.oneCell' = true := by
  induction L with
  | nil => intro v hv; cases hv
  | cons r L ih =>
    intro v hv
    simp only [bcs, List.mem_cons] at hv
    rcases hv with rfl | rfl | rfl | hv
    · rfl
    · rfl
    · rfl
    · exact ih v hv
theorem bcs_get (L : List Bk) (i : Nat) : (bcs L)[i * 3]? = L[i]?.map (fun r => Value.int .i64 r.1) ∧ (bcs L)[i * 3 + 1]? = L[i]?.map (fun r => Value.int .u64 (r.2.1 : Int)) ∧ (bcs L)[i * 3 + 2]? = L[i]?.map (fun r => Value.int .u64 (r.2.2 : Int)) := by
  induction L generalizing i with
  | nil => simp [bcs]
  | cons r L ih =>
    cases i with
    | zero => simp [bcs]
    | succ i => rw [show (i + 1) * 3 = i * 3 + 1 + 1 + 1 by omega]; simpa [bcs] using ih i
/-- the Back i -/
def bk (L : List Bk) (i : Nat) : Bk := L.getD i (0, 0, 0)
theorem bk_get {L : List Bk} {i : Nat} (h : i < L.length) : L[i]? = some (bk L i) := by simp [bk, List.getD, h]
theorem bk_mem {L : List Bk} {i : Nat} (h : i < L.length) : bk L i ∈ L := by
  have : bk L i = L[i] := by simp [bk, List.getD, h]
  rw [this]; exact List.getElem_mem h
theorem bk_take {L : List Bk} {k : Nat} (h : k < L.length) : L.take (k + 1) = L.take k ++ [bk L k] := by
  have : bk L k = L[k] := by simp [bk, List.getD, h]
  rw [List.take_succ_eq_append_getElem h, this]
theorem bcs_bk {L : List Bk} {i : Nat} (h : i < L.length) : (bcs L).getD (i * 3) undef = .int .i64 (bk L i).1 ∧ (bcs L).getD (i * 3 + 1) undef = .int .u64 ((bk L i).2.1 : Int) ∧ (bcs L).getD (i * 3 + 2) undef = .int .u64 ((bk L i).2.2 : Int) := by
  obtain ⟨h1, h2, h3⟩ := bcs_get L i
  rw [bk_get h] at h1 h2 h3
  simp [List.getD, h1, h2, h3]
theorem Ro.bk {w : World} {B : Nat} {a : Option Addr} {L : List Bk} (h : Ro w B a (bcs L)) (hn : 0 < L.length) :
    ∃ b off, a = some ⟨b, off, none⟩ ∧ b < B ∧ ∀ i, i < L.length → w.cell? ⟨b, off + i * 3, none⟩ = some (.int .i64 (bk L i).1) ∧ w.cell? ⟨b, off + i * 3 + 1, none⟩ = some (.int .u64 ((bk L i).2.1 : Int)) ∧ w.cell? ⟨b, off + i * 3 + 2, none⟩ = some (.int .u64 ((bk L i).2.2 : Int)) := by
  obtain ⟨b, off, h1, h2, h3⟩ := h.at_ (by intro e; have e2 := congrArg List.length e; simp at e2; omega)
  refine ⟨b, off, h1, h2, fun i hi => ?_⟩
  obtain ⟨e1, e2, e3⟩ := bcs_bk hi
  have g1 := h3 (i * 3) (by simp; omega)
  have g2 := h3 (i * 3 + 1) (by simp; omega)
  have g3 := h3 (i * 3 + 2) (by simp; omega)
  rw [e1] at g1
  rw [e2] at g2
  rw [e3] at g3
  exact ⟨g1, by rw [Nat.add_assoc]; exact g2, by rw [Nat.add_assoc]; exact g3⟩

/-- a cell by value -/
abbrev cev (k : Int) (a : Option Addr) (n c : Nat) (a2 : Option Addr) (n2 c2 : Nat) : Value := .agg #[.int .i64 k, .slice a n c, .slice a2 n2 c2]

/-- the first index below n that has p, or -1 -/
def fx (p : Nat → Bool) : Nat → Int
  | 0 => -1
  | n + 1 => if 0 ≤ fx p n then fx p n else if p n then (n : Int) else -1
/-- some index below n has p -/
def anyN (p : Nat → Bool) (n : Nat) : Bool := decide (0 ≤ fx p n)
theorem fx_miss (p : Nat → Bool) (n : Nat) (h : ∀ j, j < n → p j = false) : fx p n = -1 := by
  induction n with
  | zero => rfl
  | succ n ih => simp only [fx]; rw [ih (fun j hj => h j (by omega)), h n (by omega)]; simp
theorem fx_hit (p : Nat → Bool) (n k : Nat) (hk : k < n) (hp : p k = true) (h : ∀ j, j < k → p j = false) : fx p n = (k : Int) := by
  induction n with
  | zero => omega
  | succ n ih =>
    simp only [fx]
    by_cases e : k = n
    · subst e; rw [fx_miss p k h, hp]; simp
    · rw [ih (by omega), if_pos (by omega)]
theorem fx_or (p : Nat → Bool) (n : Nat) : (fx p n = -1 ∧ ∀ j, j < n → p j = false) ∨ ∃ k, k < n ∧ fx p n = (k : Int) ∧ p k = true ∧ ∀ j, j < k → p j = false := by
  induction n with
  | zero => exact .inl ⟨rfl, by omega⟩
  | succ n ih =>
    rcases ih with ⟨h1, h2⟩ | ⟨k, h0, h1, h2, h3⟩
    · by_cases hp : p n = true
      · exact .inr ⟨n, by omega, fx_hit p _ n (by omega) hp h2, hp, h2⟩
      · have hp' : p n = false := by simpa using hp
        exact .inl ⟨fx_miss p _ (fun j hj => by
          by_cases e : j = n
          · subst e; exact hp'
          · exact h2 j (by omega)), fun j hj => by
          by_cases e : j = n
          · subst e; exact hp'
          · exact h2 j (by omega)⟩
    · exact .inr ⟨k, by omega, fx_hit p _ k (by omega) h2 h3, h2, h3⟩
theorem anyN_false {p : Nat → Bool} {n : Nat} : anyN p n = false ↔ ∀ j, j < n → p j = false := by
  unfold anyN
  rcases fx_or p n with ⟨h1, h2⟩ | ⟨k, h0, h1, h2, h3⟩
  · rw [h1]; simp; exact h2
  · rw [h1]; simp; exact ⟨k, h0, by simp [h2]⟩
theorem fx_le (p : Nat → Bool) (n : Nat) : -1 ≤ fx p n ∧ fx p n < n := by
  rcases fx_or p n with ⟨h1, _⟩ | ⟨k, h0, h1, _⟩ <;> omega
end Go.Proofs.Ytkdgoopldaoihaa
namespace Go.Proofs.Ytkdgoopldaoihaa
open Go.RowKit Go.Deep
set_option linter.unusedVariables false
set_option linter.unusedSimpArgs false

/-- a segment: from where on, its chains -/
abbrev Sg := Nat × List (List Int)
/-- a layout: its epoch, its segments, its sequencer -/
structure Ly where
  e : Nat
  s : List Sg
  q : Int
/-- a chain in memory: where, room, its units -/
structure ChT where
  a : Option Addr
  c : Nat
  u : List Int
/-- a segment in memory -/
structure SgT where
  f : Nat
  a : Option Addr
  c : Nat
  ch : List ChT
/-- a layout in memory -/
structure LyT where
  e : Nat
  a : Option Addr
  c : Nat
  sg : List SgT
  q : Int
def chx (L : List ChT) : List (List Int) := L.map ChT.u
def SgT.x (A : SgT) : Sg := (A.f, chx A.ch)
def sgx (L : List SgT) : List Sg := L.map SgT.x
def LyT.x (A : LyT) : Ly := ⟨A.e, sgx A.sg, A.q⟩
@[simp] theorem chx_length (L : List ChT) : (chx L).length = L.length := by simp [chx]
@[simp] theorem sgx_length (L : List SgT) : (sgx L).length = L.length := by simp [sgx]
def ChT.val (A : ChT) : Value := .slice A.a A.u.length A.c
def SgT.val (A : SgT) : Value := .agg #[.int .u64 (A.f : Int), .slice A.a A.ch.length A.c]
def LyT.val (A : LyT) : Value := .agg #[.int .u64 (A.e : Int), .slice A.a A.sg.length A.c, .int .i64 A.q]
instance : Inhabited ChT := ⟨⟨none, 0, []⟩⟩
instance : Inhabited SgT := ⟨⟨0, none, 0, []⟩⟩
def ct (L : List ChT) (i : Nat) : ChT := L.getD i ⟨none, 0, []⟩
def st (L : List SgT) (i : Nat) : SgT := L.getD i ⟨0, none, 0, []⟩
def cx (L : List (List Int)) (i : Nat) : List Int := L.getD i []
def sx (L : List Sg) (i : Nat) : Sg := L.getD i (0, [])
theorem ct_mem {L : List ChT} {i : Nat} (h : i < L.length) : ct L i ∈ L := by
  have : ct L i = L[i] := by simp [ct, List.getD, h]
  rw [this]; exact List.getElem_mem h
theorem st_mem {L : List SgT} {i : Nat} (h : i < L.length) : st L i ∈ L := by
  have : st L i = L[i] := by simp [st, List.getD, h]
  rw [this]; exact List.getElem_mem h
theorem cx_chx (L : List ChT) (i : Nat) : cx (chx L) i = (ct L i).u := by
  simp only [cx, chx, ct, List.getD, List.getElem?_map]; cases L[i]? <;> rfl
theorem sx_sgx (L : List SgT) (i : Nat) : sx (sgx L) i = (st L i).x := by
  simp only [sx, sgx, st, List.getD, List.getElem?_map]; cases L[i]? <;> rfl
theorem cx_mem {L : List (List Int)} {i : Nat} (h : i < L.length) : cx L i ∈ L := by
  have : cx L i = L[i] := by simp [cx, List.getD, h]
  rw [this]; exact List.getElem_mem h
theorem cx_take {L : List (List Int)} {k : Nat} (h : k < L.length) : L.take (k + 1) = L.take k ++ [cx L k] := by
  have : cx L k = L[k] := by simp [cx, List.getD, h]
  rw [List.take_succ_eq_append_getElem h, this]
theorem sx_mem {L : List Sg} {i : Nat} (h : i < L.length) : sx L i ∈ L := by
  have : sx L i = L[i] := by simp [sx, List.getD, h]
  rw [this]; exact List.getElem_mem h
theorem mem_sx {L : List Sg} {s : Sg} (h : s ∈ L) : ∃ i, i < L.length ∧ sx L i = s := by
  obtain ⟨i, hi, rfl⟩ := List.getElem_of_mem h
  exact ⟨i, hi, by simp [sx, List.getD, hi]⟩
theorem mem_cx {L : List (List Int)} {s : List Int} (h : s ∈ L) : ∃ i, i < L.length ∧ cx L i = s := by
  obtain ⟨i, hi, rfl⟩ := List.getElem_of_mem h
  exact ⟨i, hi, by simp [cx, List.getD, hi]⟩

def chv (L : List ChT) : List Value := L.map ChT.val
@[simp] theorem chv_length (L : List ChT) : (chv L).length = L.length := by simp [chv]
def sgv : List SgT → List Value
  | [] => []
  | s :: L => .int .u64 (s.f : Int) :: .slice s.a s.ch.length s.c :: sgv L
@[simp] theorem sgv_length (L : List SgT) : (sgv L).length = L.length * 2 := by
  induction L with
  | nil => rfl
  | cons r L ih => simp [sgv, ih]; omega
theorem sgv_append (A B : List SgT) : sgv (A ++ B) = sgv A ++ sgv B := by
  induction A with
  | nil => rfl
  | cons r A ih => simp [sgv, ih]
theorem sgv_one (L : List SgT) : ∀ v ∈ sgv L, v.oneCell' = true := by
  induction L with
  | nil => intro v hv; cases hv
  | cons r L ih =>
    intro v hv
    simp only [sgv, List.mem_cons] at hv
    rcases hv with rfl | rfl | hv
    · rfl
    · rfl
    · exact ih v hv
theorem chv_one (L : List ChT) : ∀ v ∈ chv L, v.oneCell' = true := by
  intro v hv
  simp only [chv, List.mem_map] at hv
  obtain ⟨x, _, rfl⟩ := hv
  rfl
theorem sgv_get (L : List SgT) (i : Nat) : (sgv L)[i * 2]? = L[i]?.map (fun r => Value.int .u64 (r.f : Int)) ∧ (sgv L)[i * 2 + 1]? = L[i]?.map (fun r => Value.slice r.a r.ch.length r.c) := by
  induction L generalizing i with
  | nil => simp [sgv]
  | cons r L ih =>
    cases i with
    | zero => simp [sgv]
    | succ i => rw [show (i + 1) * 2 = i * 2 + 1 + 1 by omega]; simpa [sgv] using ih i
theorem Ro.sg {w : World} {B : Nat} {a : Option Addr} {L : List SgT} (h : Ro w B a (sgv L)) (hn : 0 < L.length) :
    ∃ b off, a = some ⟨b, off, none⟩ ∧ b < B ∧ ∀ i, i < L.length → w.cell? ⟨b, off + i * 2, none⟩ = some (.int .u64 ((st L i).f : Int)) ∧ w.cell? ⟨b, off + i * 2 + 1, none⟩ = some (.slice (st L i).a (st L i).ch.length (st L i).c) := by
  obtain ⟨b, off, h1, h2, h3⟩ := h.at_ (by intro e; have e2 := congrArg List.length e; simp at e2; omega)
  refine ⟨b, off, h1, h2, fun i hi => ?_⟩
  obtain ⟨e1, e2⟩ := sgv_get L i
  have es : L[i]? = some (st L i) := by simp [st, List.getD, hi]
  rw [es] at e1 e2
  have g1 := h3 (i * 2) (by simp; omega)
  have g2 := h3 (i * 2 + 1) (by simp; omega)
  simp only [List.getD, e1, e2, Option.map_some, Option.getD_some] at g1 g2
  exact ⟨g1, by rw [Nat.add_assoc]; exact g2⟩
theorem Ro.ch {w : World} {B : Nat} {a : Option Addr} {L : List ChT} (h : Ro w B a (chv L)) (hn : 0 < L.length) :
    ∃ b off, a = some ⟨b, off, none⟩ ∧ b < B ∧ ∀ i, i < L.length → w.cell? ⟨b, off + i, none⟩ = some (.slice (ct L i).a (ct L i).u.length (ct L i).c) := by
  obtain ⟨b, off, h1, h2, h3⟩ := h.at_ (by intro e; have e2 := congrArg List.length e; simp only [chv_length, List.length_nil] at e2; omega)
  refine ⟨b, off, h1, h2, fun i hi => ?_⟩
  rw [h3 i (by simpa using hi)]
  simp [chv, ct, List.getD, hi, ChT.val]

/-- chains, whose rows lie below B -/
def ChIn (w : World) (B : Nat) (L : List ChT) : Prop := ∀ c ∈ L, Ro w B c.a (i64s c.u)
/-- segments, likewise -/
def SgIn (w : World) (B : Nat) (L : List SgT) : Prop := ∀ s ∈ L, Ro w B s.a (chv s.ch) ∧ ChIn w B s.ch
/-- a layout, likewise -/
def LyIn (w : World) (B : Nat) (A : LyT) : Prop := Ro w B A.a (sgv A.sg) ∧ SgIn w B A.sg
theorem ChIn.below {w w' : World} {B B' : Nat} {L : List ChT} (h : ChIn w B L) (hb : Below B' w w') (hB : B ≤ B') : ChIn w' B L := fun c hc => (h c hc).below hb hB
theorem SgIn.below {w w' : World} {B B' : Nat} {L : List SgT} (h : SgIn w B L) (hb : Below B' w w') (hB : B ≤ B') : SgIn w' B L := fun s hs => ⟨(h s hs).1.below hb hB, (h s hs).2.below hb hB⟩
theorem LyIn.below {w w' : World} {B B' : Nat} {A : LyT} (h : LyIn w B A) (hb : Below B' w w') (hB : B ≤ B') : LyIn w' B A := ⟨h.1.below hb hB, h.2.below hb hB⟩
theorem ChIn.mono {w : World} {B B' : Nat} {L : List ChT} (h : ChIn w B L) (hB : B ≤ B') : ChIn w B' L := fun c hc => (h c hc).mono hB
theorem SgIn.mono {w : World} {B B' : Nat} {L : List SgT} (h : SgIn w B L) (hB : B ≤ B') : SgIn w B' L := fun s hs => ⟨(h s hs).1.mono hB, (h s hs).2.mono hB⟩
theorem LyIn.mono {w : World} {B B' : Nat} {A : LyT} (h : LyIn w B A) (hB : B ≤ B') : LyIn w B' A := ⟨h.1.mono hB, h.2.mono hB⟩
/-- no length is beyond a machine's -/
def ChFit (L : List ChT) : Prop := L.length ≤ 9223372036854775807 ∧ ∀ c ∈ L, c.u.length ≤ 9223372036854775807
def SgFit (L : List SgT) : Prop := L.length ≤ 9223372036854775807 ∧ ∀ s ∈ L, ChFit s.ch

/-! ### what is lright -/
/-- a unit that may not come behind these -/
def ubad (us : List Int) (u : Int) : Bool := !decide (0 ≤ u ∧ u < 32) || decide (u ∈ us)
/-- some unit of a chain may not -/
def cbadU (us c : List Int) : Bool := anyN (fun k => ubad (us ++ c.take k) (c.getD k 0)) c.length
def isLen (n : Nat) : Bool := decide (1 ≤ n ∧ n ≤ 4)
def cbad (us c : List Int) : Bool := !isLen c.length || cbadU us c
def chOk (L : List (List Int)) : Bool := isLen L.length && !anyN (fun k => cbad (L.take k).flatten (cx L k)) L.length
/-- the least From that may come ahead of the k-th -/
def leastF (L : List Sg) (k : Nat) : Nat := if k = 0 then 0 else ((sx L (k - 1)).1 + 1) % 18446744073709551616
def sbad (m : Nat) (s : Sg) : Bool := decide (s.1 < m) || (decide (1048576 ≤ s.1) || !chOk s.2)
def sgOk (L : List Sg) : Bool := isLen L.length && (decide ((sx L 0).1 = 0) && !anyN (fun k => sbad (leastF L k) (sx L k)) L.length)
def lright (x : Ly) : Bool := decide (1 ≤ x.e ∧ x.e ≤ 1048576) && (decide (0 ≤ x.q ∧ x.q < 32) && sgOk x.s)

theorem cbadU_iff {us c : List Int} (hus : us.Nodup) : cbadU us c = false ↔ (∀ u ∈ c, 0 ≤ u ∧ u < 32) ∧ (us ++ c).Nodup := by
  unfold cbadU
  rw [anyN_false]
  induction c generalizing us with
  | nil => simp [hus]
  | cons u c ih =>
    have e1 : (∀ j, j < (u :: c).length → ubad (us ++ (u :: c).take j) ((u :: c).getD j 0) = false) ↔ ubad us u = false ∧ ∀ j, j < c.length → ubad ((us ++ [u]) ++ c.take j) (c.getD j 0) = false := by
      constructor
      · intro h
        refine ⟨by simpa using h 0 (by simp), fun j hj => ?_⟩
        have := h (j + 1) (by simp; omega)
        simpa using this
      · rintro ⟨h1, h2⟩ j hj
        cases j with
        | zero => simpa using h1
        | succ j => have := h2 j (by simp at hj; omega); simpa using this
    rw [e1]
    unfold ubad
    simp only [Bool.or_eq_false_iff, Bool.not_eq_false', decide_eq_true_eq, decide_eq_false_iff_not]
    constructor
    · rintro ⟨⟨h1, h2⟩, h3⟩
      have hn : (us ++ [u]).Nodup := by rw [List.nodup_append]; exact ⟨hus, by simp, fun a ha b hb => by simp at hb; subst hb; intro e; subst e; exact h2 ha⟩
      have := (ih hn).1 (by simpa [ubad] using h3)
      refine ⟨fun x hx => ?_, by simpa using this.2⟩
      rcases List.mem_cons.1 hx with rfl | hx
      · exact h1
      · exact this.1 x hx
    · rintro ⟨h1, h2⟩
      have hs : us ++ u :: c = (us ++ [u]) ++ c := by simp
      rw [hs] at h2
      have hn : (us ++ [u]).Nodup := (List.nodup_append.1 h2).1
      refine ⟨⟨h1 u (by simp), fun hu => ?_⟩, ?_⟩
      · exact (List.nodup_append.1 hn).2.2 u hu u (by simp) rfl
      · have := (ih hn).2 ⟨fun x hx => h1 x (by simp [hx]), h2⟩
        simpa [ubad] using this
theorem isLen_iff {n : Nat} : isLen n = true ↔ 1 ≤ n ∧ n ≤ 4 := by simp [isLen]
theorem cbads_iff {us : List Int} (hus : us.Nodup) (L : List (List Int)) : (∀ k, k < L.length → cbad (us ++ (L.take k).flatten) (cx L k) = false) ↔ (∀ c ∈ L, 1 ≤ c.length ∧ c.length ≤ 4) ∧ (∀ u ∈ L.flatten, 0 ≤ u ∧ u < 32) ∧ (us ++ L.flatten).Nodup := by
  induction L generalizing us with
  | nil => simp [hus]
  | cons c L ih =>
    have e1 : (∀ k, k < (c :: L).length → cbad (us ++ ((c :: L).take k).flatten) (cx (c :: L) k) = false) ↔ cbad us c = false ∧ ∀ k, k < L.length → cbad ((us ++ c) ++ (L.take k).flatten) (cx L k) = false := by
      constructor
      · intro h
        refine ⟨by simpa [cx] using h 0 (by simp), fun j hj => ?_⟩
        have := h (j + 1) (by simp; omega)
        simpa [cx] using this
      · rintro ⟨h1, h2⟩ j hj
        cases j with
        | zero => simpa [cx] using h1
        | succ j => have := h2 j (by simp at hj; omega); simpa [cx] using this
    rw [e1]
    have e2 : cbad us c = false ↔ (1 ≤ c.length ∧ c.length ≤ 4) ∧ (∀ u ∈ c, 0 ≤ u ∧ u < 32) ∧ (us ++ c).Nodup := by
      unfold cbad
      rw [Bool.or_eq_false_iff, Bool.not_eq_false', isLen_iff, cbadU_iff hus]
    rw [e2]
    simp only [List.flatten_cons, List.mem_append, List.mem_cons]
    constructor
    · rintro ⟨⟨h1, h2, h3⟩, h4⟩
      obtain ⟨g1, g2, g3⟩ := (ih h3).1 h4
      refine ⟨?_, ?_, by simpa using g3⟩
      · rintro x (rfl | hx)
        · exact h1
        · exact g1 x hx
      · rintro u (hu | hu)
        · exact h2 u hu
        · exact g2 u hu
    · rintro ⟨h1, h2, h3⟩
      rw [← List.append_assoc] at h3
      have hn := (List.nodup_append.1 h3).1
      exact ⟨⟨h1 c (.inl rfl), fun u hu => h2 u (.inl hu), hn⟩, (ih hn).2 ⟨fun x hx => h1 x (.inr hx), fun u hu => h2 u (.inr hu), h3⟩⟩
theorem chOk_iff {L : List (List Int)} : chOk L = true ↔ (1 ≤ L.length ∧ L.length ≤ 4) ∧ (∀ c ∈ L, 1 ≤ c.length ∧ c.length ≤ 4) ∧ (∀ u ∈ L.flatten, 0 ≤ u ∧ u < 32) ∧ L.flatten.Nodup := by
  unfold chOk
  rw [Bool.and_eq_true, isLen_iff, Bool.not_eq_true', anyN_false]
  have := cbads_iff (us := []) (by simp) L
  simp only [List.nil_append] at this
  rw [this]
theorem sgOk_iff {L : List Sg} : sgOk L = true ↔ (1 ≤ L.length ∧ L.length ≤ 4) ∧ (sx L 0).1 = 0 ∧ (∀ i, i < L.length → (sx L i).1 < 1048576 ∧ chOk (sx L i).2 = true) ∧ ∀ i, i + 1 < L.length → (sx L i).1 < (sx L (i + 1)).1 := by
  unfold sgOk
  rw [Bool.and_eq_true, Bool.and_eq_true, isLen_iff, Bool.not_eq_true', anyN_false, decide_eq_true_eq]
  refine and_congr_right fun h1 => and_congr_right fun h2 => ?_
  unfold sbad
  simp only [Bool.or_eq_false_iff, decide_eq_false_iff_not, Bool.not_eq_false']
  constructor
  · intro h
    refine ⟨fun i hi => ⟨by have := (h i hi).2.1; omega, (h i hi).2.2⟩, fun i hi => ?_⟩
    have g1 := (h (i + 1) hi).1
    have g2 := (h i (by omega)).2.1
    unfold leastF at g1
    rw [if_neg (by omega), Nat.add_sub_cancel] at g1
    omega
  · rintro ⟨h3, h4⟩ j hj
    refine ⟨?_, by have := (h3 j hj).1; omega, (h3 j hj).2⟩
    unfold leastF
    split
    · omega
    · have := h4 (j - 1) (by omega)
      have g := (h3 (j - 1) (by omega)).1
      rw [show j - 1 + 1 = j by omega] at this
      omega
theorem lright_iff {x : Ly} : lright x = true ↔ (1 ≤ x.e ∧ x.e ≤ 1048576) ∧ (0 ≤ x.q ∧ x.q < 32) ∧ sgOk x.s = true := by
  unfold lright
  rw [Bool.and_eq_true, Bool.and_eq_true, decide_eq_true_eq, decide_eq_true_eq]
end Go.Proofs.Ytkdgoopldaoihaa
