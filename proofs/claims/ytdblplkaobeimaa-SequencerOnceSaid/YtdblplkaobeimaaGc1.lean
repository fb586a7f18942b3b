/-
  Plain arithmetic of bits in bytes: no Go in it. Lemmas only, no claim of their own.
-/
import Derived.Laws.BitsAllLaws
import Derived.Laws.BitsLemmas
import Derived.Test.YtdblplkaobeimaaRows
import Derived.WalkKit
import Derived.WalkSpells
import Derived.WalkLawsBesides
import Derived.Lib.Hide
import Derived.BigQuiet
import Derived.Deep.QuietTactic
import Derived.Laws.CopyOwn
import Derived.Deep.OwnRows
import Derived.Laws.OwnMore
import Derived.Laws.AppendOwn
import Derived.Laws.AppendOwnNone
import Derived.Lib.SmallJoins
namespace Go.Proofs.Ytdblplkaobeimaa
set_option linter.unusedVariables false
set_option linter.unusedSimpArgs false

def bit (bs : List UInt8) (i : Nat) : Nat := (bs.getD (i / 8) 0).toNat / 2 ^ (7 - i % 8) % 2
def num (bs : List UInt8) (k : Nat) : Nat → Nat
  | 0 => 0
  | n + 1 => 2 * num bs k n + bit bs (k + n)

theorem bit_lt (bs : List UInt8) (i : Nat) : bit bs i < 2 := Nat.mod_lt _ (by omega)
theorem num_lt (bs : List UInt8) (k n : Nat) : num bs k n < 2 ^ n := by
  induction n with
  | zero => simp [num]
  | succ n ih => have := bit_lt bs (k + n); simp only [num]; rw [Nat.pow_succ]; omega
theorem num_add (bs : List UInt8) (k j t : Nat) : num bs k (j + t) = num bs k j * 2 ^ t + num bs (k + j) t := by
  induction t with
  | zero => simp [num]
  | succ t ih =>
    have e : j + (t + 1) = (j + t) + 1 := rfl
    rw [e]; simp only [num]
    rw [ih, Nat.pow_succ, Nat.add_assoc k j t]
    have : 2 * (num bs k j * 2 ^ t) = num bs k j * (2 ^ t * 2) := by rw [Nat.mul_comm 2, Nat.mul_assoc]
    omega
theorem mod_two_mul (x m : Nat) : x % (m * 2) = 2 * (x / 2 % m) + x % 2 := by
  rw [Nat.mul_comm m 2, Nat.mod_mul]; omega
theorem num_byte (bs : List UInt8) (k t : Nat) (h : k % 8 + t ≤ 8) : num bs k t = (bs.getD (k / 8) 0).toNat / 2 ^ (8 - k % 8 - t) % 2 ^ t := by
  induction t with
  | zero => simp [num, Nat.mod_one]
  | succ t ih =>
    simp only [num]
    rw [ih (by omega), Nat.pow_succ, mod_two_mul]
    have e1 : (k + t) / 8 = k / 8 := by omega
    have e2 : (k + t) % 8 = k % 8 + t := by omega
    have e3 : 8 - k % 8 - t = (8 - k % 8 - (t + 1)) + 1 := by omega
    rw [e3, Nat.pow_succ, ← Nat.div_div_eq_div_mul]
    unfold bit
    rw [e1, e2]
    have e4 : 7 - (k % 8 + t) = 8 - k % 8 - (t + 1) := by omega
    rw [e4]
theorem pow_le_64 {n : Nat} (h : n ≤ 64) : 2 ^ n ≤ 18446744073709551616 := Nat.pow_le_pow_right (n := 2) (by omega) h
theorem wrap_u64_nat (n : Nat) (h : n < 18446744073709551616) : IntKind.u64.wrap (n : Int) = (n : Int) := by rw [IntKind.wrap_u64]; omega

theorem ofInt_emod_u64 (v : Int) : BitVec.ofInt 64 (v % 18446744073709551616) = BitVec.ofInt 64 v := by
  apply BitVec.eq_of_toNat_eq
  rw [BitVec.toNat_ofInt, BitVec.toNat_ofInt]
  simp
theorem and_wrap_left (v y : Int) : bits BinOp.and IntKind.u64 (v % 18446744073709551616) y = bits BinOp.and IntKind.u64 v y :=
  congrArg (fun a : BitVec 64 => IntKind.u64.wrap ((a &&& BitVec.ofInt 64 y).toNat : Int)) (ofInt_emod_u64 v)

/-- one step of reading: t more bits out of one byte -/
theorem load_step (bs : List UInt8) (k j t : Nat) (h : (k + j) % 8 + t ≤ 8) (hj : j + t ≤ 64) :
    bits BinOp.or IntKind.u64 (IntKind.u64.wrap ((num bs k j : Int) * 2 ^ t)) (((bs.getD ((k + j) / 8) 0).toNat / 2 ^ (8 - (k + j) % 8 - t) % 2 ^ t : Nat) : Int) = ((num bs k (j + t) : Nat) : Int) := by
  have h1 := num_lt bs k j
  have h2 : num bs k j * 2 ^ t < 2 ^ (j + t) := by rw [Nat.pow_add]; exact Nat.mul_lt_mul_of_pos_right h1 (Nat.pow_pos (by omega))
  have h3 := pow_le_64 hj
  have h4 := num_lt bs (k + j) t
  have h5 : (2 : Nat) ^ t ≤ 2 ^ (j + t) := Nat.pow_le_pow_right (by omega) (by omega)
  have e : ((num bs k j : Int) * 2 ^ t) = ((num bs k j * 2 ^ t : Nat) : Int) := by simp
  rw [e, wrap_u64_nat _ (by omega), ← num_byte bs (k + j) t h, u64_or_nat _ _ (by omega) (by omega), nat_join t _ _ (Nat.mul_mod_left _ _) h4, num_add]
theorem load_end (bs : List UInt8) (k j t : Nat) (h : (k + j) % 8 + t ≤ 8) (hj : j + t ≤ 64) :
    bits BinOp.or IntKind.u64 (IntKind.u64.wrap ((num bs k j : Int) * 2 ^ t)) (IntKind.u64.wrap ((bs[(k + j) / 8]?.getD 0).toNat : Int) / 2 ^ (8 - (k + j) % 8 - t) % 2 ^ t) = ((num bs k (j + t) : Nat) : Int) := by
  have hb : (bs[(k + j) / 8]?.getD 0).toNat < 256 := (bs[(k + j) / 8]?.getD 0).toNat_lt
  rw [wrap_u64_nat _ (by omega)]
  have := load_step bs k j t h hj
  rw [List.getD_eq_getElem?_getD] at this
  rw [← this]
  simp
theorem load_end1 (bs : List UInt8) (k j : Nat) (hj : j + (8 - (k + j) % 8) ≤ 64) :
    bits BinOp.or IntKind.u64 (IntKind.u64.wrap ((num bs k j : Int) * 2 ^ (8 - (k + j) % 8))) (IntKind.u64.wrap ((bs[(k + j) / 8]?.getD 0).toNat : Int) % 2 ^ (8 - (k + j) % 8)) = ((num bs k (j + (8 - (k + j) % 8)) : Nat) : Int) := by
  have := load_end bs k j (8 - (k + j) % 8) (by omega) hj
  rw [← this, Nat.sub_self]
  simp

/-- what span tells: the sum of the widths, or nothing -/
def spanOf (l : List Int) : Option Int := if l.all (fun n => decide (0 ≤ n ∧ n ≤ 64)) then some l.sum else none
theorem spanOf_bad (l : List Int) (k : Nat) (hk : k < l.length) (h : ¬ (0 ≤ l.getD k 0 ∧ l.getD k 0 ≤ 64)) : spanOf l = none := by
  unfold spanOf
  rw [if_neg]
  intro ha
  rw [List.all_eq_true] at ha
  have := ha l[k] (List.getElem_mem hk)
  have e : l.getD k 0 = l[k] := by simp [hk]
  rw [e] at h
  exact h (by simpa using this)
theorem spanOf_ok (l : List Int) (h : ∀ i, i < l.length → 0 ≤ l.getD i 0 ∧ l.getD i 0 ≤ 64) : spanOf l = some l.sum := by
  unfold spanOf
  rw [if_pos]
  rw [List.all_eq_true]
  intro x hx
  obtain ⟨i, hi, rfl⟩ := List.getElem_of_mem hx
  have e : l.getD i 0 = l[i] := by simp [hi]
  have := h i hi
  rw [e] at this
  simpa using this
theorem sum_take (l : List Int) (k : Nat) (hk : k < l.length) : (l.take (k + 1)).sum = (l.take k).sum + l.getD k 0 := by
  have e : l.getD k 0 = l[k] := by simp [hk]
  rw [e, List.take_succ_eq_append_getElem hk, List.sum_append]; simp
end Go.Proofs.Ytdblplkaobeimaa
namespace Go.Proofs.Ytdblplkaobeimaa
set_option linter.unusedVariables false
set_option linter.unusedSimpArgs false
open Go.RowKit

theorem bcell {W w1 : World} (hb : Below W.heap.size W w1) : (∀ b o, b < W.heap.size → w1.cell? ⟨b, o, none⟩ = W.cell? ⟨b, o, none⟩) ∧ (∀ b o, b < W.heap.size → w1.frozen? ⟨b, o, none⟩ = W.frozen? ⟨b, o, none⟩) :=
  ⟨fun b o h => hb.cell (p := ⟨b, o, none⟩) h, fun b o h => hb.frozen (p := ⟨b, o, none⟩) h⟩

/-- the slice's elements are the values vs, in one row of a block below B -/
def Ro (w : World) (B : Nat) (a : Option Addr) (vs : List Value) : Prop :=
  vs = [] ∨ ∃ b off, a = some ⟨b, off, none⟩ ∧ b < B ∧ ∀ i, i < vs.length → w.cell? ⟨b, off + i, none⟩ = some (vs.getD i undef)

theorem Ro.nil (w : World) (B : Nat) (a : Option Addr) : Ro w B a [] := .inl rfl
theorem Ro.mono {w : World} {B B' : Nat} {a : Option Addr} {vs : List Value} (h : Ro w B a vs) (hB : B ≤ B') : Ro w B' a vs := by
  rcases h with h | ⟨b, off, h1, h2, h3⟩
  · exact .inl h
  · exact .inr ⟨b, off, h1, by omega, h3⟩
theorem Ro.keep {w w' : World} {B : Nat} {a : Option Addr} {vs : List Value} (h : Ro w B a vs) (hk : ∀ p : Addr, p.block < B → w'.cell? p = w.cell? p) : Ro w' B a vs := by
  rcases h with h | ⟨b, off, h1, h2, h3⟩
  · exact .inl h
  · exact .inr ⟨b, off, h1, h2, fun i hi => (hk _ h2).trans (h3 i hi)⟩
theorem Ro.below {w w' : World} {B B' : Nat} {a : Option Addr} {vs : List Value} (h : Ro w B a vs) (hb : Below B' w w') (hB : B ≤ B') : Ro w' B a vs :=
  h.keep fun _ hp => hb.cell (Nat.lt_of_lt_of_le hp hB)
theorem Ro.at_ {w : World} {B : Nat} {a : Option Addr} {vs : List Value} (h : Ro w B a vs) (hn : vs ≠ []) :
    ∃ b off, a = some ⟨b, off, none⟩ ∧ b < B ∧ ∀ i, i < vs.length → w.cell? ⟨b, off + i, none⟩ = some (vs.getD i undef) := by
  rcases h with h | h
  · exact absurd h hn
  · exact h

def u8s (bs : List UInt8) : List Value := bs.map fun x => .int .u8 x.toNat
def u64s (l : List Nat) : List Value := l.map fun (x : Nat) => .int .u64 (x : Int)
def i64s (l : List Int) : List Value := l.map fun x => .int .i64 x
@[simp] theorem u8s_length (bs : List UInt8) : (u8s bs).length = bs.length := by simp [u8s]
@[simp] theorem u64s_length (l : List Nat) : (u64s l).length = l.length := by simp [u64s]
@[simp] theorem i64s_length (l : List Int) : (i64s l).length = l.length := by simp [i64s]
theorem u8s_getD (bs : List UInt8) (i : Nat) (h : i < bs.length) : (u8s bs).getD i undef = .int .u8 ((bs.getD i 0).toNat : Nat) := by
  simp [u8s, List.getD, h]
theorem u64s_getD (l : List Nat) (i : Nat) (h : i < l.length) : (u64s l).getD i undef = .int .u64 (l.getD i 0 : Nat) := by
  simp [u64s, List.getD, h]
theorem i64s_getD (l : List Int) (i : Nat) (h : i < l.length) : (i64s l).getD i undef = .int .i64 (l.getD i 0) := by
  simp [i64s, List.getD, h]
theorem Ro.u8 {w : World} {B : Nat} {a : Option Addr} {bs : List UInt8} (h : Ro w B a (u8s bs)) (hn : 0 < bs.length) :
    ∃ b off, a = some ⟨b, off, none⟩ ∧ b < B ∧ ∀ i, i < bs.length → w.cell? ⟨b, off + i, none⟩ = some (.int .u8 ((bs.getD i 0).toNat : Nat)) := by
  obtain ⟨b, off, h1, h2, h3⟩ := h.at_ (by intro e; have e2 := congrArg List.length e; simp only [u8s_length, u64s_length, i64s_length, List.length_nil] at e2; omega)
  exact ⟨b, off, h1, h2, fun i hi => by rw [h3 i (by simpa using hi), u8s_getD bs i hi]⟩
theorem Ro.u64 {w : World} {B : Nat} {a : Option Addr} {l : List Nat} (h : Ro w B a (u64s l)) (hn : 0 < l.length) :
    ∃ b off, a = some ⟨b, off, none⟩ ∧ b < B ∧ ∀ i, i < l.length → w.cell? ⟨b, off + i, none⟩ = some (.int .u64 (l.getD i 0 : Nat)) := by
  obtain ⟨b, off, h1, h2, h3⟩ := h.at_ (by intro e; have e2 := congrArg List.length e; simp only [u8s_length, u64s_length, i64s_length, List.length_nil] at e2; omega)
  exact ⟨b, off, h1, h2, fun i hi => by rw [h3 i (by simpa using hi), u64s_getD l i hi]⟩
theorem Ro.i64 {w : World} {B : Nat} {a : Option Addr} {l : List Int} (h : Ro w B a (i64s l)) (hn : 0 < l.length) :
    ∃ b off, a = some ⟨b, off, none⟩ ∧ b < B ∧ ∀ i, i < l.length → w.cell? ⟨b, off + i, none⟩ = some (.int .i64 (l.getD i 0)) := by
  obtain ⟨b, off, h1, h2, h3⟩ := h.at_ (by intro e; have e2 := congrArg List.length e; simp only [u8s_length, u64s_length, i64s_length, List.length_nil] at e2; omega)
  exact ⟨b, off, h1, h2, fun i hi => by rw [h3 i (by simpa using hi), i64s_getD l i hi]⟩
theorem ret_int {k : IntKind} {a b : Int} (h : a = b) : Ending.returned (.int k a) = .returned (.int k b) := by rw [h]
theorem ret_bool {a b : Bool} (h : a = b) : Ending.returned (.bool a) = .returned (.bool b) := by rw [h]

theorem Ro.take {w : World} {B : Nat} {a : Option Addr} {vs : List Value} (h : Ro w B a vs) (k : Nat) : Ro w B a (vs.take k) := by
  rcases h with h | ⟨b, off, h1, h2, h3⟩
  · exact .inl (by rw [h]; simp)
  · refine .inr ⟨b, off, h1, h2, fun i hi => ?_⟩
    rw [List.length_take] at hi
    rw [h3 i (by omega)]
    simp only [List.getD, List.getElem?_take]
    rw [if_pos (by omega)]
theorem add_off (b off l : Nat) : (⟨b, off, none⟩ : Addr).add l = ⟨b, off + l, none⟩ := by unfold Addr.add; split <;> simp_all
theorem Ro.drop {w : World} {B : Nat} {a : Option Addr} {vs : List Value} (h : Ro w B a vs) (l c : Nat) (hc : vs.length ≤ c) : Ro w B (if c = l then a else a.map fun x => x.add l) (vs.drop l) := by
  rcases h with h | ⟨b, off, h1, h2, h3⟩
  · exact .inl (by rw [h]; simp)
  · rcases Nat.lt_or_ge l vs.length with hl | hl
    · rw [if_neg (by omega), h1]
      refine .inr ⟨b, off + l, by rw [← add_off]; rfl, h2, fun i hi => ?_⟩
      rw [List.length_drop] at hi
      rw [show off + l + i = off + (l + i) from by omega, h3 (l + i) (by omega)]
      simp [List.getD]
    · exact .inl (List.drop_of_length_le hl)
/-- block g is the row cs of element type t, none of it frozen -/
def Own (w : World) (g : Nat) (t : TypeId) (cs : List Value) : Prop := w.heap[g]? = some (.cells cs.toArray t (0, 0))
theorem Own.lt {w : World} {g : Nat} {t : TypeId} {cs : List Value} (h : Own w g t cs) : g < w.heap.size := by
  rcases Nat.lt_or_ge g w.heap.size with hlt | hge
  · exact hlt
  · unfold Own at h; rw [Array.getElem?_eq_none hge] at h; cases h
theorem Own.cell {w : World} {g : Nat} {t : TypeId} {cs : List Value} (h : Own w g t cs) (i : Nat) : w.cell? ⟨g, i, none⟩ = cs[i]? := by
  rw [cell_of_row w g i cs.toArray t (0, 0) h]; simp
theorem Own.frozen {w : World} {g : Nat} {t : TypeId} {cs : List Value} (h : Own w g t cs) (i : Nat) : w.frozen? ⟨g, i, none⟩ = false := by
  unfold Own at h
  simp [World.frozen?, h]
theorem Own.new (w : World) (t : TypeId) (cs : List Value) : Own (w.alloc (.cells cs.toArray t)) w.heap.size t cs := heap_alloc_new w _
theorem Own.set {w : World} {g : Nat} {t : TypeId} {cs : List Value} (h : Own w g t cs) (i : Nat) (u : Value) : Own (w.setCell ⟨g, i, none⟩ u) g t (cs.set i u) := by
  unfold Own at h ⊢
  simp [World.setCell, Array.getElem?_modify, h]
theorem Own.far {w : World} {g : Nat} {t : TypeId} {cs : List Value} (h : Own w g t cs) {p : Addr} (hp : g ≠ p.block) (u : Value) : Own (w.setCell p u) g t cs := (Below.heap_setCell w p u g hp).trans h
theorem Own.alloc {w : World} {g : Nat} {t : TypeId} {cs : List Value} (h : Own w g t cs) (o : Obj) : Own (w.alloc o) g t cs := (Below.heap_alloc w o g h.lt).trans h
theorem Own.below {w w' : World} {g B : Nat} {t : TypeId} {cs : List Value} (h : Own w g t cs) (hb : Below B w w') (hg : g < B) : Own w' g t cs := (hb.block g hg).trans h
theorem Own.grown {w w' : World} {g : Nat} {t : TypeId} {cs : List Value} {row : Option Nat} (h : Own w g t cs) (hb : w.grownBy w' row) (hg : some g ≠ row) : Own w' g t cs := (hb.block g h.lt hg).trans h
theorem Own.ro {w : World} {g : Nat} {t : TypeId} {cs : List Value} (h : Own w g t cs) (B : Nat) (hB : g < B) : Ro w B (some ⟨g, 0, none⟩) cs := by
  refine .inr ⟨g, 0, rfl, hB, fun i hi => ?_⟩
  rw [Nat.zero_add, h.cell i]
  simp [List.getD, hi]
/-- only block g, and what is new, has turned -/
theorem only_set {a w : World} {g : Nat} (h : a.grownBy w (some g)) (i : Nat) (u : Value) : a.grownBy (w.setCell ⟨g, i, none⟩ u) (some g) :=
  ⟨h.os, h.tape, h.output, by simpa [World.setCell] using h.size, fun b hb hne => (Below.heap_setCell w ⟨g, i, none⟩ u b (fun e => hne (by rw [e]))).trans (h.block b hb hne)⟩
theorem set_size (w : World) (p : Addr) (u : Value) : (w.setCell p u).heap.size = w.heap.size := by simp [World.setCell]
theorem only_refl (w : World) (r : Option Nat) : w.grownBy w r := World.grownBy.refl w r
theorem below_only {B : Nat} {a w w' : World} {g : Nat} (h : Below B a w) (hg : w.grownBy w' (some g)) (hB : B ≤ g) (hB2 : B ≤ w.heap.size) : Below B a w' :=
  ⟨hg.os.trans h.os, hg.tape.trans h.tape, hg.output.trans h.output, Nat.le_trans h.size hg.size, fun b hb => (hg.block b (by omega) (fun e => by injection e with e; omega)).trans (h.block b hb)⟩

/-- only the count of draws has moved -/
def Qt (w w' : World) : Prop := ∃ n, w' = w.drewN n
theorem Qt.refl (w : World) : Qt w w := ⟨0, rfl⟩
theorem Qt.trans {a b c : World} (h : Qt a b) (k : Qt b c) : Qt a c := by
  obtain ⟨n, rfl⟩ := h
  obtain ⟨m, rfl⟩ := k
  exact ⟨n + m, by rw [World.drewN_drewN]⟩
theorem Qt.drewN (w : World) (n : Nat) : Qt w (w.drewN n) := ⟨n, rfl⟩
theorem Qt.add {a b : World} (h : Qt a b) (n : Nat) : Qt a (b.drewN n) := h.trans ⟨n, rfl⟩
theorem Ro.qt {w w' : World} {B : Nat} {a : Option Addr} {vs : List Value} (h : Ro w B a vs) (k : Qt w w') : Ro w' B a vs := by
  obtain ⟨n, rfl⟩ := k
  exact h
theorem Own.qt {w w' : World} {g : Nat} {t : TypeId} {cs : List Value} (h : Own w g t cs) (k : Qt w w') : Own w' g t cs := by
  obtain ⟨n, rfl⟩ := k
  exact h
theorem Qt.below {a w w' : World} {B : Nat} (k : Qt w w') (h : Below B a w) : Below B a w' := by
  obtain ⟨n, rfl⟩ := k
  exact ⟨h.os, h.tape, h.output, h.size, h.block⟩
theorem Qt.size {w w' : World} (k : Qt w w') : w'.heap.size = w.heap.size := by
  obtain ⟨n, rfl⟩ := k
  rfl
end Go.Proofs.Ytdblplkaobeimaa
namespace Go.Proofs.Ytdblplkaobeimaa
set_option linter.unusedVariables false
set_option linter.unusedSimpArgs false
open Go.RowKit Go.Deep

/-- the value v is a slice of the call's own (blocks from base on), nil or not, with the elements xs -/
def Lst (w : World) (base : Nat) (e : TypeId) (v : Value) (xs : List Value) : Prop := w.ownsRow base e 1 v xs.length xs

theorem Lst.nil (w : World) (base : Nat) (e : TypeId) : Lst w base e (.slice none 0 0) [] := World.ownsRow_nil w base e 1
theorem Lst.lit (w : World) (base : Nat) (e : TypeId) (cs : Array Value) (hb : base ≤ w.heap.size) (hm : cs.size ≤ maxLen) : Lst (w.alloc (.cells cs e)) base e (.slice (some ⟨w.heap.size, 0, none⟩) cs.size cs.size) cs.toList := by
  have := World.ownsRow_lit (base := base) (e := e) (size := 1) w cs cs.size hb hm (by simp)
  unfold Lst
  simpa using this
theorem Lst.form {w : World} {base : Nat} {e : TypeId} {v : Value} {xs : List Value} (h : Lst w base e v xs) : ∃ a c, v = .slice a xs.length c ∧ Ro w w.heap.size a xs ∧ xs.length ≤ c ∧ (a = none → c = 0) := by
  unfold Lst at h
  rcases h.2 with ⟨rfl, h0⟩ | ⟨g, cap, cur, rfl, hb, hh, hle, hrest⟩
  · have : xs = [] := by simpa using h0
    subst this
    exact ⟨none, 0, rfl, .inl rfl, by simp, fun _ => rfl⟩
  · refine ⟨some ⟨g, 0, none⟩, cap, rfl, .inr ⟨g, 0, rfl, ?_, fun i hi => ?_⟩, hle, fun hh => by cases hh⟩
    · exact (World.ownsRow.lt h g rfl).2
    · have := World.ownsRow.cellAt h i (by omega)
      rw [Nat.zero_add, this]
      simp [List.getD, hi]
theorem Lst.base {w : World} {base base' : Nat} {e : TypeId} {v : Value} {xs : List Value} (h : Lst w base e v xs) (hb : base' ≤ base) : Lst w base' e v xs := by
  unfold Lst at h ⊢
  obtain ⟨h0, h1⟩ := h
  refine ⟨h0, ?_⟩
  rcases h1 with h1 | ⟨g, cap, cur, h2, h3, h4⟩
  · exact .inl h1
  · exact .inr ⟨g, cap, cur, h2, by omega, h4⟩
theorem Lst.alloc {w : World} {base : Nat} {e : TypeId} {v : Value} {xs : List Value} (h : Lst w base e v xs) (o : Obj) : Lst (w.alloc o) base e v xs := World.ownsRow.alloc h o
theorem Lst.qt {w w' : World} {base : Nat} {e : TypeId} {v : Value} {xs : List Value} (h : Lst w base e v xs) (k : Qt w w') : Lst w' base e v xs := by
  obtain ⟨n, rfl⟩ := k
  exact h
theorem Lst.below {w w' : World} {base B : Nat} {e : TypeId} {v : Value} {xs : List Value} (h : Lst w base e v xs) (hb : Below B w w') (hB : w.heap.size ≤ B) : Lst w' base e v xs := by
  unfold Lst at h ⊢
  refine World.ownsRow.kept (row := none) h ⟨hb.os, hb.tape, hb.output, hb.size, fun b hlt _ => hb.block b (by omega)⟩ ?_
  by_cases hv : v.ownBlock = none
  · exact .inl hv
  · exact .inr hv
theorem Lst.kept {w w' : World} {base : Nat} {e : TypeId} {v : Value} {xs : List Value} {row : Option Nat} (h : Lst w base e v xs) (hg : w.grownBy w' row) (hne : v.ownBlock = none ∨ v.ownBlock ≠ row) : Lst w' base e v xs :=
  World.ownsRow.kept h hg hne
theorem Lst.lt {w : World} {base : Nat} {e : TypeId} {v : Value} {xs : List Value} (h : Lst w base e v xs) : ∀ k, v.ownBlock = some k → base ≤ k ∧ k < w.heap.size := World.ownsRow.lt h
/-- what an append leaves below a number -/
theorem grown_below {B base : Nat} {a w w' : World} {e : TypeId} {v : Value} {xs : List Value} (h : Below B a w) (hl : Lst w base e v xs) (hg : w.grownBy w' v.ownBlock) (hB : B ≤ base) (hB2 : B ≤ w.heap.size) : Below B a w' :=
  ⟨hg.os.trans h.os, hg.tape.trans h.tape, hg.output.trans h.output, Nat.le_trans h.size hg.size, fun b hb => (hg.block b (by omega) (fun e => by have := (hl.lt b e.symm).1; omega)).trans (h.block b hb)⟩

section
variable {P : Program} {w : World}
theorem run_app_none (base : Nat) (t ty e : TypeId) (i : TypeInfo) (ht : P.underlying t = some (.slice e)) (hi : P.info? e = some i)
    (v : Value) (xs : List Value) (hown : Lst w base e v xs) (c : Nat) : (Builtin.append_ #[t, t] ty #[v, .slice none 0 c]).run P w = .ok v w := by
  rcases hown.2 with ⟨rfl, h0⟩ | ⟨g, cap, cur, rfl, _, _, hnc, _⟩
  · simp [Builtin.append_, run_underlying ht, sizeOf, typeInfo, hi, Builtin.lenOf, Builtin.firstCells]
  · simp [Builtin.append_, run_underlying ht, sizeOf, typeInfo, hi, Builtin.lenOf, Builtin.firstCells, hnc, storeCells]

/-- append to a slice of the call's own, whatever the source: nil, empty, or a row -/
theorem wpList_app {ops : Array Oper} {rest : List Oper} {o : Oper} {a : Act} {Q : Exit → Act → World → Prop} (hgd : o.guard = none) (s x : Operand) (t : TypeId)
    (ho : o.op = .call { callee := .builtin .append, args := #[s, x], argTypes := #[t, t] })
    (base : Nat) (e : TypeId) (z : Value) (bytes : Nat) (ht : P.underlying t = some (.slice e)) (hinfo : (P.info? e).map (fun i => (i.zero, i.size, i.bytes)) = some (some z, 1, bytes)) (hzs : z.cells.size = 1)
    (v : Value) (xs : List Value) (hs : a.eval s = v) (hown : Lst w base e v xs)
    (A : Option Addr) (B m c : Nat) (news : List Value) (hx : a.eval x = .slice A m c) (hm : news.length = m) (hro : Ro w B A news) (h1 : ∀ u ∈ news, u.oneCell' = true)
    (hlen : (xs.length + m) * bytes ≤ 140737488355328) (hlen2 : xs.length + m ≤ 140737488355328) (hbase : base ≤ w.heap.size)
    (h : ∀ v' w', Hid (Lst w' base e v' (xs ++ news)) → w.grownBy w' v.ownBlock → wpList P ops Q rest (a.put o.dst v') w') : wpList P ops Q (o :: rest) a w := by
  obtain ⟨i, hi, hzz⟩ := Option.map_eq_some_iff.1 hinfo
  simp only [Prod.mk.injEq] at hzz
  obtain ⟨hz, hsz, hby⟩ := hzz
  subst hm
  rcases A with _ | ad
  · have hn : news = [] := by
      rcases hro with h | ⟨b, off, h, _⟩
      · exact h
      · cases h
    subst hn
    refine wpList_plain hgd fun K hK => ?_
    have hrun := run_app_none (P := P) (w := w) base t o.type e i ht hi v xs hown c
    unfold Oper.wp
    simp only [List.length_nil] at hx
    simp [execOp, ho, resolve, invoke, builtin, hs, hx, hrun, Result.andThen]
    refine hK _ _ (h v w ?_ (World.grownBy.refl w _))
    rw [List.append_nil]
    exact hown
  · have hcells : ∀ j u, news[j]? = some u → w.cell? (ad.add j) = some u := by
      intro j u hu
      have hj : j < news.length := (List.getElem?_eq_some_iff.1 hu).1
      rcases hro with h | ⟨b, off, h, hb, hc⟩
      · subst h; simp at hj
      · injection h with h
        subst h
        have e2 : (⟨b, off, none⟩ : Addr).add j = ⟨b, off + j, none⟩ := by unfold Addr.add; split <;> simp_all
        rw [e2, hc j hj]
        simp [List.getD, hu]
    refine wpList_append_own w hgd s x t ho base e i z 1 bytes ht hi hz hsz hby hzs (by omega) v xs.length xs hs hown ad news.length c news hx (by omega) hcells h1 (by unfold maxLen; omega) hlen hbase fun v' w' h2 h3 _ => h v' w' ?_ h3
    show w'.ownsRow base e 1 v' (xs ++ news).length (xs ++ news)
    rw [List.length_append]
    exact h2

/-- the same, with what it keeps below B -/
theorem wpList_appB {ops : Array Oper} {rest : List Oper} {o : Oper} {a : Act} {Q : Exit → Act → World → Prop} (hgd : o.guard = none) (s x : Operand) (t : TypeId)
    (ho : o.op = .call { callee := .builtin .append, args := #[s, x], argTypes := #[t, t] })
    (base : Nat) (e : TypeId) (z : Value) (bytes : Nat) (ht : P.underlying t = some (.slice e)) (hinfo : (P.info? e).map (fun i => (i.zero, i.size, i.bytes)) = some (some z, 1, bytes)) (hzs : z.cells.size = 1)
    (v : Value) (xs : List Value) (hs : a.eval s = v) (hown : Lst w base e v xs)
    (A : Option Addr) (BB m c : Nat) (news : List Value) (hx : a.eval x = .slice A m c) (hm : news.length = m) (hro : Ro w BB A news) (h1 : ∀ u ∈ news, u.oneCell' = true)
    (hlen : (xs.length + m) * bytes ≤ 140737488355328) (hlen2 : xs.length + m ≤ 140737488355328) (B : Nat) (w0 : World) (hb : Below B w0 w) (hB : B ≤ base) (hbase : base ≤ w.heap.size)
    (h : ∀ v' w', Hid (Lst w' base e v' (xs ++ news)) → Below B w0 w' → w.heap.size ≤ w'.heap.size → wpList P ops Q rest (a.put o.dst v') w') : wpList P ops Q (o :: rest) a w :=
  wpList_app hgd s x t ho base e z bytes ht hinfo hzs v xs hs hown A BB m c news hx hm hro h1 hlen hlen2 hbase fun v' w' h2 h3 => h v' w' h2 (grown_below hb hown h3 hB (by omega)) h3.size
theorem ro_one (w0 : World) (t : TypeId) (u : Value) : Ro (w0.alloc (.cells #[u] t)) (w0.heap.size + 1) (some ⟨w0.heap.size, 0, none⟩) [u] :=
  (Own.new w0 t [u]).ro _ (by omega)
/-- append of one value -/
theorem wpList_app1 {ops : Array Oper} {rest : List Oper} {o : Oper} {a : Act} {Q : Exit → Act → World → Prop} (hgd : o.guard = none) (s x : Operand) (t : TypeId)
    (ho : o.op = .call { callee := .builtin .append, args := #[s, x], argTypes := #[t, t] })
    (base : Nat) (e : TypeId) (z : Value) (bytes : Nat) (ht : P.underlying t = some (.slice e)) (hinfo : (P.info? e).map (fun i => (i.zero, i.size, i.bytes)) = some (some z, 1, bytes)) (hzs : z.cells.size = 1)
    (u : Value) (h1 : u.oneCell' = true) (v : Value) (xs : List Value) (hs : a.eval s = v) (hown : Lst w base e v xs)
    (hx : a.eval x = .slice (some ⟨w.heap.size, 0, none⟩) 1 1)
    (hlen : (xs.length + 1) * bytes ≤ 140737488355328) (hlen2 : xs.length + 1 ≤ 140737488355328) (B : Nat) (w0 : World) (hb : Below B w0 w) (hB : B ≤ base) (hbase : base ≤ w.heap.size)
    (h : ∀ v' w', Hid (Lst w' base e v' (xs ++ [u])) → Below B w0 w' → w.heap.size ≤ w'.heap.size → wpList P ops Q rest (a.put o.dst v') w') : wpList P ops Q (o :: rest) a (w.alloc (.cells #[u] e)) :=
  wpList_appB hgd s x t ho base e z bytes ht hinfo hzs v xs hs (hown.alloc _) (some ⟨w.heap.size, 0, none⟩) (w.heap.size + 1) 1 1 [u] hx rfl (ro_one w e u) (by simpa using h1) hlen hlen2 B w0 (hb.alloc (by omega) _) hB (by simp; omega)
    fun v' w' h2 h3 h4 => h v' w' h2 h3 (by simp at h4; omega)

/-- the same laws at a step of a region that draws its order -/
theorem wp_app {o : Oper} {a : Act} {K : Act → World → Prop} {Q : Exit → Act → World → Prop} (s x : Operand) (t : TypeId)
    (ho : o.op = .call { callee := .builtin .append, args := #[s, x], argTypes := #[t, t] })
    (base : Nat) (e : TypeId) (z : Value) (bytes : Nat) (ht : P.underlying t = some (.slice e)) (hinfo : (P.info? e).map (fun i => (i.zero, i.size, i.bytes)) = some (some z, 1, bytes)) (hzs : z.cells.size = 1)
    (v : Value) (xs : List Value) (hs : a.eval s = v) (hown : Lst w base e v xs)
    (A : Option Addr) (B m c : Nat) (news : List Value) (hx : a.eval x = .slice A m c) (hm : news.length = m) (hro : Ro w B A news) (h1 : ∀ u ∈ news, u.oneCell' = true)
    (hlen : (xs.length + m) * bytes ≤ 140737488355328) (hlen2 : xs.length + m ≤ 140737488355328) (hbase : base ≤ w.heap.size)
    (h : ∀ v' w', Hid (Lst w' base e v' (xs ++ news)) → w.grownBy w' v.ownBlock → K (a.put o.dst v') w') : o.wp P a w K Q := by
  obtain ⟨i, hi, hzz⟩ := Option.map_eq_some_iff.1 hinfo
  simp only [Prod.mk.injEq] at hzz
  obtain ⟨hz, hsz, hby⟩ := hzz
  subst hm
  rcases A with _ | ad
  · have hn : news = [] := by
      rcases hro with h | ⟨b, off, h, _⟩
      · exact h
      · cases h
    subst hn
    have hrun := run_app_none (P := P) (w := w) base t o.type e i ht hi v xs hown c
    unfold Oper.wp
    simp only [List.length_nil] at hx
    simp [execOp, ho, resolve, invoke, builtin, hs, hx, hrun, Result.andThen]
    refine h v w ?_ (World.grownBy.refl w _)
    rw [List.append_nil]
    exact hown
  · have hcells : ∀ j u, news[j]? = some u → w.cell? (ad.add j) = some u := by
      intro j u hu
      have hj : j < news.length := (List.getElem?_eq_some_iff.1 hu).1
      rcases hro with h | ⟨b, off, h, hb, hc⟩
      · subst h; simp at hj
      · injection h with h
        subst h
        rw [add_off, hc j hj]
        simp [List.getD, hu]
    refine wp_append_own w s x t ho base e i z 1 bytes ht hi hz hsz hby hzs (by omega) v xs.length xs hs hown ad news.length c news hx (by omega) hcells h1 (by unfold maxLen; omega) hlen hbase fun v' w' h2 h3 _ => h v' w' ?_ h3
    show w'.ownsRow base e 1 v' (xs ++ news).length (xs ++ news)
    rw [List.length_append]
    exact h2
theorem step_appB {ops : Array Oper} {o : Oper} {a : Act} {K : Act → World → Prop} {Q : Exit → Act → World → Prop} {E : Prop} (hgd : o.guard = none) (s x : Operand) (t : TypeId)
    (ho : o.op = .call { callee := .builtin .append, args := #[s, x], argTypes := #[t, t] })
    (base : Nat) (e : TypeId) (z : Value) (bytes : Nat) (ht : P.underlying t = some (.slice e)) (hinfo : (P.info? e).map (fun i => (i.zero, i.size, i.bytes)) = some (some z, 1, bytes)) (hzs : z.cells.size = 1)
    (v : Value) (xs : List Value) (hs : a.eval s = v) (hown : Lst w base e v xs)
    (A : Option Addr) (BB m c : Nat) (news : List Value) (hx : a.eval x = .slice A m c) (hm : news.length = m) (hro : Ro w BB A news) (h1 : ∀ u ∈ news, u.oneCell' = true)
    (hlen : (xs.length + m) * bytes ≤ 140737488355328) (hlen2 : xs.length + m ≤ 140737488355328) (B : Nat) (w0 : World) (hb : Below B w0 w) (hB : B ≤ base) (hbase : base ≤ w.heap.size)
    (h : ∀ v' w', Hid (Lst w' base e v' (xs ++ news)) → Below B w0 w' → w.heap.size ≤ w'.heap.size → K (a.put o.dst v') w') :
    if Region.wanted o (yielded ops a.tmps) = true then Oper.wp P o a w K Q else E := by
  have hw : Region.wanted o (yielded ops a.tmps) = true := by simp [Region.wanted, hgd]
  rw [if_pos hw]
  exact wp_app s x t ho base e z bytes ht hinfo hzs v xs hs hown A BB m c news hx hm hro h1 hlen hlen2 hbase fun v' w' h2 h3 => h v' w' h2 (grown_below hb hown h3 hB (by omega)) h3.size
/-- the same at an operation that is guarded, its guard being met -/
theorem wpList_appG {ops : Array Oper} {rest : List Oper} {o : Oper} {a : Act} {Q : Exit → Act → World → Prop} (s x : Operand) (t : TypeId)
    (ho : o.op = .call { callee := .builtin .append, args := #[s, x], argTypes := #[t, t] })
    (base : Nat) (e : TypeId) (z : Value) (bytes : Nat) (ht : P.underlying t = some (.slice e)) (hinfo : (P.info? e).map (fun i => (i.zero, i.size, i.bytes)) = some (some z, 1, bytes)) (hzs : z.cells.size = 1)
    (v : Value) (xs : List Value) (hs : a.eval s = v) (hown : Lst w base e v xs)
    (A : Option Addr) (BB m c : Nat) (news : List Value) (hx : a.eval x = .slice A m c) (hm : news.length = m) (hro : Ro w BB A news) (h1 : ∀ u ∈ news, u.oneCell' = true)
    (hlen : (xs.length + m) * bytes ≤ 140737488355328) (hlen2 : xs.length + m ≤ 140737488355328) (B : Nat) (w0 : World) (hb : Below B w0 w) (hB : B ≤ base) (hbase : base ≤ w.heap.size)
    (hw : Region.wanted o (yielded ops a.tmps) = true)
    (h : ∀ v' w', Hid (Lst w' base e v' (xs ++ news)) → Below B w0 w' → w.heap.size ≤ w'.heap.size → wpList P ops Q rest (a.put o.dst v') w') : wpList P ops Q (o :: rest) a w :=
  wpList_step fun K hK => by
    rw [if_pos hw]
    exact wp_app s x t ho base e z bytes ht hinfo hzs v xs hs hown A BB m c news hx hm hro h1 hlen hlen2 hbase fun v' w' h2 h3 => hK _ _ (h v' w' h2 (grown_below hb hown h3 hB (by omega)) h3.size)
theorem cell_keep {B : Nat} {w w' : World} {b o : Nat} {v : Value} (hb : Below B w w') (h : w.cell? ⟨b, o, none⟩ = some v) (hlt : b < B) : w'.cell? ⟨b, o, none⟩ = some v := (hb.cell (p := ⟨b, o, none⟩) hlt).trans h
end
end Go.Proofs.Ytdblplkaobeimaa
namespace Go.Proofs.Ytdblplkaobeimaa
open Go.RowKit Go.Deep
set_option linter.unusedVariables false
set_option linter.unusedSimpArgs false

/-- a Back: its stream, its two addresses -/
abbrev Bk := Int × Nat × Nat
/-- a cell: its kind, its data, its Backs -/
structure Ce where
  k : Int
  d : List UInt8
  b : List Bk
theorem Ce.ext' {x y : Ce} (h1 : x.k = y.k) (h2 : x.d = y.d) (h3 : x.b = y.b) : x = y := by
  cases x; cases y; simp_all
def FitB (b : Bk) : Prop := -9223372036854775808 ≤ b.1 ∧ b.1 ≤ 9223372036854775807 ∧ b.2.1 ≤ 18446744073709551615 ∧ b.2.2 ≤ 18446744073709551615

/-- the cells of Backs -/
def bcs : List Bk → List Value
  | [] => []
  | b :: L => .int .i64 b.1 :: .int .u64 (b.2.1 : Int) :: .int .u64 (b.2.2 : Int) :: bcs L
/-- a Back by value -/
abbrev bkv (b : Bk) : Value := .agg #[.int .i64 b.1, .int .u64 (b.2.1 : Int), .int .u64 (b.2.2 : Int)]
@[simp] theorem bcs_length (L : List Bk) : (bcs L).length = L.length * 3 := by
  induction L with
  | nil => rfl
  | cons r L ih => simp [bcs, ih]; omega
theorem bcs_append (A B : List Bk) : bcs (A ++ B) = bcs A ++ bcs B := by
  induction A with
  | nil => rfl
  | cons r A ih => simp [bcs, ih]
theorem bcs_one (L : List Bk) : ∀ v ∈ bcs L, v.oneCell' = true := by
  induction L with
  | nil => intro v hv; cases hv
  | cons r L ih =>
    intro v hv
    simp only [bcs, List.mem_cons] at hv
    rcases hv with rfl | rfl | rfl | hv
    · rfl
    · rfl
    · rfl
    · exact ih v hv
theorem bcs_get (L : List Bk) (i : Nat) : (bcs L)[i * 3]? = L[i]?.map (fun r => Value.int .i64 r.1) ∧ (bcs L)[i * 3 + 1]? = L[i]?.map (fun r => Value.int .u64 (r.2.1 : Int)) ∧ (bcs L)[i * 3 + 2]? = L[i]?.map (fun r => Value.int .u64 (r.2.2 : Int)) := by
  induction L generalizing i with
  | nil => simp [bcs]
  | cons r L ih =>
    cases i with
    | zero => simp [bcs]
    | succ i => rw [show (i + 1) * 3 = i * 3 + 1 + 1 + 1 by omega]; simpa [bcs] using ih i
/-- the Back i -/
def bk (L : List Bk) (i : Nat) : Bk := L.getD i (0, 0, 0)
theorem bk_get {L : List Bk} {i : Nat} (h : i < L.length) : L[i]? = some (bk L i) := by simp [bk, List.getD, h]
theorem bk_mem {L : List Bk} {i : Nat} (h : i < L.length) : bk L i ∈ L := by
  have : bk L i = L[i] := by simp [bk, List.getD, h]
  rw [this]; exact List.getElem_mem h
theorem bk_take {L : List Bk} {k : Nat} (h : k < L.length) : L.take (k + 1) = L.take k ++ [bk L k] := by
  have : bk L k = L[k] := by simp [bk, List.getD, h]
  rw [List.take_succ_eq_append_getElem h, this]
theorem bcs_bk {L : List Bk} {i : Nat} (h : i < L.length) : (bcs L).getD (i * 3) undef = .int .i64 (bk L i).1 ∧ (bcs L).getD (i * 3 + 1) undef = .int .u64 ((bk L i).2.1 : Int) ∧ (bcs L).getD (i * 3 + 2) undef = .int .u64 ((bk L i).2.2 : Int) := by
  obtain ⟨h1, h2, h3⟩ := bcs_get L i
  rw [bk_get h] at h1 h2 h3
  simp [List.getD, h1, h2, h3]
theorem Ro.bk {w : World} {B : Nat} {a : Option Addr} {L : List Bk} (h : Ro w B a (bcs L)) (hn : 0 < L.length) :
    ∃ b off, a = some ⟨b, off, none⟩ ∧ b < B ∧ ∀ i, i < L.length → w.cell? ⟨b, off + i * 3, none⟩ = some (.int .i64 (bk L i).1) ∧ w.cell? ⟨b, off + i * 3 + 1, none⟩ = some (.int .u64 ((bk L i).2.1 : Int)) ∧ w.cell? ⟨b, off + i * 3 + 2, none⟩ = some (.int .u64 ((bk L i).2.2 : Int)) := by
  obtain ⟨b, off, h1, h2, h3⟩ := h.at_ (by intro e; have e2 := congrArg List.length e; simp at e2; omega)
  refine ⟨b, off, h1, h2, fun i hi => ?_⟩
  obtain ⟨e1, e2, e3⟩ := bcs_bk hi
  have g1 := h3 (i * 3) (by simp; omega)
  have g2 := h3 (i * 3 + 1) (by simp; omega)
  have g3 := h3 (i * 3 + 2) (by simp; omega)
  rw [e1] at g1
  rw [e2] at g2
  rw [e3] at g3
  exact ⟨g1, by rw [Nat.add_assoc]; exact g2, by rw [Nat.add_assoc]; exact g3⟩

/-- a cell by value -/
abbrev cev (k : Int) (a : Option Addr) (n c : Nat) (a2 : Option Addr) (n2 c2 : Nat) : Value := .agg #[.int .i64 k, .slice a n c, .slice a2 n2 c2]

/-- the first index below n that has p, or -1 -/
def fx (p : Nat → Bool) : Nat → Int
  | 0 => -1
  | n + 1 => if 0 ≤ fx p n then fx p n else if p n then (n : Int) else -1
/-- some index below n has p -/
def anyN (p : Nat → Bool) (n : Nat) : Bool := decide (0 ≤ fx p n)
theorem fx_miss (p : Nat → Bool) (n : Nat) (h : ∀ j, j < n → p j = false) : fx p n = -1 := by
  induction n with
  | zero => rfl
  | succ n ih => simp only [fx]; rw [ih (fun j hj => h j (by omega)), h n (by omega)]; simp
theorem fx_hit (p : Nat → Bool) (n k : Nat) (hk : k < n) (hp : p k = true) (h : ∀ j, j < k → p j = false) : fx p n = (k : Int) := by
  induction n with
  | zero => omega
  | succ n ih =>
    simp only [fx]
    by_cases e : k = n
    · subst e; rw [fx_miss p k h, hp]; simp
    · rw [ih (by omega), if_pos (by omega)]
theorem fx_or (p : Nat → Bool) (n : Nat) : (fx p n = -1 ∧ ∀ j, j < n → p j = false) ∨ ∃ k, k < n ∧ fx p n = (k : Int) ∧ p k = true ∧ ∀ j, j < k → p j = false := by
  induction n with
  | zero => exact .inl ⟨rfl, by omega⟩
  | succ n ih =>
    rcases ih with ⟨h1, h2⟩ | ⟨k, h0, h1, h2, h3⟩
    · by_cases hp : p n = true
      · exact .inr ⟨n, by omega, fx_hit p _ n (by omega) hp h2, hp, h2⟩
      · have hp' : p n = false := by simpa using hp
        exact .inl ⟨fx_miss p _ (fun j hj => by
          by_cases e : j = n
          · subst e; exact hp'
          · exact h2 j (by omega)), fun j hj => by
          by_cases e : j = n
          · subst e; exact hp'
          · exact h2 j (by omega)⟩
    · exact .inr ⟨k, by omega, fx_hit p _ k (by omega) h2 h3, h2, h3⟩
theorem anyN_false {p : Nat → Bool} {n : Nat} : anyN p n = false ↔ ∀ j, j < n → p j = false := by
  unfold anyN
  rcases fx_or p n with ⟨h1, h2⟩ | ⟨k, h0, h1, h2, h3⟩
  · rw [h1]; simp; exact h2
  · rw [h1]; simp; exact ⟨k, h0, by simp [h2]⟩
theorem fx_le (p : Nat → Bool) (n : Nat) : -1 ≤ fx p n ∧ fx p n < n := by
  rcases fx_or p n with ⟨h1, _⟩ | ⟨k, h0, h1, _⟩ <;> omega
end Go.Proofs.Ytdblplkaobeimaa
namespace Go.Proofs.Ytdblplkaobeimaa
set_option linter.unusedVariables false
set_option linter.unusedSimpArgs false
open Go.RowKit

theorem lowest_eq (v : Int) (n : Nat) (hn : n ≤ 64) :
    bits BinOp.and IntKind.u64 v (IntKind.u64.wrap (IntKind.u64.wrap (2 ^ n) - 1)) = v % 2 ^ n := by
  have h2 : (2 : Nat) ^ n ≤ 2 ^ 64 := Nat.pow_le_pow_right (by omega) hn
  have h3 : 0 < 2 ^ n := Nat.pow_pos (by omega)
  have e2 : ((2 : Int) ^ n) = ((2 ^ n : Nat) : Int) := by simp
  have e : IntKind.u64.wrap (IntKind.u64.wrap (2 ^ n) - 1) = ((2 ^ n - 1 : Nat) : Int) := by
    rw [IntKind.wrap_u64, IntKind.wrap_u64, e2]
    omega
  have hx := and_wrap_left v ((2 ^ n - 1 : Nat) : Int)
  obtain ⟨x, hx0⟩ : ∃ x : Nat, v % 18446744073709551616 = (x : Int) := ⟨(v % 18446744073709551616).toNat, by omega⟩
  rw [e, ← hx, hx0, u64_and_nat x (2 ^ n - 1) (by omega) (by omega), Nat.and_two_pow_sub_one_eq_mod]
  have hd : ((2 : Int) ^ n) ∣ 18446744073709551616 := by
    rw [e2]
    exact Int.natCast_dvd_natCast.2 (Nat.pow_dvd_pow 2 hn : 2 ^ n ∣ 2 ^ 64)
  have h5 := Int.emod_emod_of_dvd v hd
  rw [← h5, hx0]; simp

end Go.Proofs.Ytdblplkaobeimaa
namespace Go.Proofs.Ytdblplkaobeimaa
set_option linter.unusedVariables false
set_option linter.unusedSimpArgs false

def bitB (bs : List UInt8) (i : Nat) : Bool := (bs.getD (i / 8) 0).toNat.testBit (7 - i % 8)
theorem bit_bitB (bs : List UInt8) (i : Nat) : bit bs i = (bitB bs i).toNat := by
  unfold bit bitB
  rw [Nat.toNat_testBit]

def nb (x V s t : Nat) : Nat := (x &&& (255 - (2 ^ t - 1) * 2 ^ s)) ||| ((V % 256 * 2 ^ s % 256) &&& ((2 ^ t - 1) * 2 ^ s))
theorem mask_lt (s t : Nat) (h : s + t ≤ 8) : (2 ^ t - 1) * 2 ^ s < 256 := by
  have h1 : 0 < 2 ^ t := Nat.pow_pos (by omega)
  have h2 : 0 < 2 ^ s := Nat.pow_pos (by omega)
  have h3 : (2 : Nat) ^ (s + t) ≤ 2 ^ 8 := Nat.pow_le_pow_right (by omega) h
  rw [Nat.pow_add, Nat.mul_comm] at h3
  have h4 : (2 ^ t - 1) * 2 ^ s < 2 ^ t * 2 ^ s := Nat.mul_lt_mul_of_pos_right (by omega) h2
  omega
theorem nb_lt (x V s t : Nat) (hx : x < 256) (h : s + t ≤ 8) : nb x V s t < 256 := by
  unfold nb
  have h1 := mask_lt s t h
  exact Nat.or_lt_two_pow (n := 8) (Nat.lt_of_le_of_lt Nat.and_le_left hx) (Nat.lt_of_le_of_lt Nat.and_le_right h1)
theorem nb_bit (x V s t q : Nat) (h : s + t ≤ 8) (hq : q < 8) : (nb x V s t).testBit q = if s ≤ q ∧ q < s + t then V.testBit (q - s) else x.testBit q := by
  have h1 := mask_lt s t h
  unfold nb
  have e : 255 - (2 ^ t - 1) * 2 ^ s = 2 ^ 8 - ((2 ^ t - 1) * 2 ^ s + 1) := by omega
  rw [Nat.testBit_or, Nat.testBit_and, Nat.testBit_and, e, Nat.testBit_two_pow_sub_succ h1, show (256 : Nat) = 2 ^ 8 from rfl]
  simp only [Nat.testBit_mod_two_pow, Nat.testBit_mul_two_pow, Nat.testBit_two_pow_sub_one, decide_eq_true hq]
  by_cases c1 : s ≤ q
  · by_cases c2 : q < s + t
    · rw [if_pos ⟨c1, c2⟩, decide_eq_true c1, decide_eq_true (show q - s < t by omega), decide_eq_true (show q - s < 8 by omega)]; simp
    · rw [if_neg (by omega), decide_eq_true c1, decide_eq_false (show ¬ q - s < t by omega)]; simp
  · rw [if_neg (by omega), decide_eq_false c1]; simp
theorem nb_int (x V s t : Nat) (hx : x < 256) (h : s + t ≤ 8) :
    bits BinOp.or IntKind.u8 (bits BinOp.andNot IntKind.u8 (x : Int) ((2 ^ t - 1) % 256 * 2 ^ s % 256)) (bits BinOp.and IntKind.u8 ((V : Int) % 256 * 2 ^ s % 256) ((2 ^ t - 1) % 256 * 2 ^ s % 256)) = ((nb x V s t : Nat) : Int) := by
  have h1 := mask_lt s t h
  have h2 : 0 < 2 ^ t := Nat.pow_pos (by omega)
  have h3 : (2 : Nat) ^ t ≤ 2 ^ 8 := Nat.pow_le_pow_right (by omega) (by omega)
  have e0 : ((2 : Int) ^ t - 1) % 256 = ((2 ^ t - 1 : Nat) : Int) := by
    have : ((2 : Int) ^ t) = ((2 ^ t : Nat) : Int) := by simp
    rw [this]; omega
  have e1 : ((2 : Int) ^ t - 1) % 256 * 2 ^ s % 256 = (((2 ^ t - 1) * 2 ^ s : Nat) : Int) := by
    rw [e0]
    have : (((2 ^ t - 1 : Nat) : Int) * 2 ^ s) = (((2 ^ t - 1) * 2 ^ s : Nat) : Int) := by simp
    rw [this]; omega
  have e2 : ((V : Int) % 256 * 2 ^ s % 256) = ((V % 256 * 2 ^ s % 256 : Nat) : Int) := by rw [Int.natCast_emod, Int.natCast_mul, Int.natCast_emod, Int.natCast_pow]; rfl
  have h4 : x &&& (255 - (2 ^ t - 1) * 2 ^ s) ≤ x := Nat.and_le_left
  have h5 : V % 256 * 2 ^ s % 256 &&& ((2 ^ t - 1) * 2 ^ s) ≤ (2 ^ t - 1) * 2 ^ s := Nat.and_le_right
  rw [e1, e2, u8_andNot_nat _ _ hx h1, u8_and_nat _ _ (by omega) h1, u8_or_nat _ _ (by omega) (by omega)]
  rfl
theorem nb_int0 (x V t : Nat) (hx : x < 256) (h : t ≤ 8) :
    bits BinOp.or IntKind.u8 (bits BinOp.andNot IntKind.u8 (x : Int) ((2 ^ t - 1) % 256)) (bits BinOp.and IntKind.u8 ((V : Int) % 256) ((2 ^ t - 1) % 256)) = ((nb x V 0 t : Nat) : Int) := by
  have := nb_int x V 0 t hx (by omega)
  rw [← this]
  simp

/-- the bytes cs are bs with the lowest n bits of v at k -/
def IsPut (bs cs : List UInt8) (k n v : Nat) : Prop := cs.length = bs.length ∧ ∀ m, m < 8 * bs.length → bitB cs m = if k ≤ m ∧ m < k + n then v.testBit (n - 1 - (m - k)) else bitB bs m
/-- on the way: the first j of them -/
def IsPutTo (bs cs : List UInt8) (k n v j : Nat) : Prop := cs.length = bs.length ∧ ∀ m, m < 8 * bs.length → bitB cs m = if k ≤ m ∧ m < k + j then v.testBit (n - 1 - (m - k)) else bitB bs m
theorem IsPutTo.start (bs : List UInt8) (k n v : Nat) : IsPutTo bs bs k n v 0 := ⟨rfl, fun m _ => by rw [if_neg (by omega)]⟩
theorem IsPutTo.stop {bs cs : List UInt8} {k n v : Nat} (h : IsPutTo bs cs k n v n) : IsPut bs cs k n v := h
theorem set_getD (cs : List UInt8) (i j : Nat) (x : UInt8) (hi : i < cs.length) : (cs.set i x).getD j 0 = if i = j then x else cs.getD j 0 := by
  simp only [List.getD, List.getElem?_set]
  by_cases h : i = j
  · subst h; simp [hi]
  · simp [h]
theorem IsPutTo.step {bs cs : List UInt8} {k n v j : Nat} (h : IsPutTo bs cs k n v j) (t : Nat) (hk : k + n ≤ 8 * bs.length) (hjt : j + t ≤ n) (ht : 0 < t) (hr : (k + j) % 8 + t ≤ 8) (N : Nat)
    (hN : N = nb (cs.getD ((k + j) / 8) 0).toNat (v / 2 ^ (n - j - t)) (8 - (k + j) % 8 - t) t) : IsPutTo bs (cs.set ((k + j) / 8) (UInt8.ofNat N)) k n v (j + t) := by
  obtain ⟨h1, h2⟩ := h
  have hNlt : N < 256 := by rw [hN]; exact nb_lt _ _ _ _ (cs.getD ((k + j) / 8) 0).toNat_lt (by omega)
  refine ⟨by simpa using h1, fun m hm => ?_⟩
  have h2 := h2 m hm
  unfold bitB at h2 ⊢
  rw [set_getD _ _ _ _ (by omega)]
  by_cases e : (k + j) / 8 = m / 8
  · rw [if_pos e]
    have eN : (UInt8.ofNat N).toNat = N := by simp; omega
    rw [eN, hN, nb_bit _ _ _ _ _ (by omega) (by omega)]
    by_cases c : k + j ≤ m ∧ m < k + j + t
    · rw [if_pos (by omega), if_pos (by omega), Nat.testBit_div_two_pow]
      congr 1
      omega
    · rw [if_neg (by omega), e, h2]
      by_cases c2 : k ≤ m ∧ m < k + j
      · rw [if_pos c2, if_pos (by omega)]
      · rw [if_neg c2, if_neg (by omega)]
  · rw [if_neg e, h2]
    by_cases c2 : k ≤ m ∧ m < k + j
    · rw [if_pos c2, if_pos (by omega)]
    · rw [if_neg c2, if_neg (by omega)]
theorem u8_of (N : Nat) (h : N < 256) : ((UInt8.ofNat N).toNat : Int) = (N : Int) := by simp; omega
end Go.Proofs.Ytdblplkaobeimaa
