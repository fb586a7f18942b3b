/-
  Plain arithmetic of bits in bytes: no Go in it. Lemmas only, no claim of their own.
-/
import Derived.Laws.BitsAllLaws
import Derived.Laws.BitsLemmas
import Derived.Test.YtcadnlilijkneaaGreatRows
import Derived.WalkKit
import Derived.WalkSpells
import Derived.WalkLawsBesides
import Derived.Lib.Hide
import Derived.BigQuiet
import Derived.Deep.QuietTactic
import Derived.Laws.CopyOwn
import Derived.Deep.OwnRows
import Derived.Laws.OwnMore
import Derived.Laws.AppendOwn
import Derived.Laws.AppendOwnNone
import Derived.OpenShut
import Derived.ChangeSlices
namespace Go.Proofs.YtcadnlilijkneaaGreat
set_option linter.unusedVariables false
set_option linter.unusedSimpArgs false

def bit (bs : List UInt8) (i : Nat) : Nat := (bs.getD (i / 8) 0).toNat / 2 ^ (7 - i % 8) % 2
def num (bs : List UInt8) (k : Nat) : Nat → Nat
  | 0 => 0
  | n + 1 => 2 * num bs k n + bit bs (k + n)

theorem wrap_u64_nat (n : Nat) (h : n < 18446744073709551616) : IntKind.u64.wrap (n : Int) = (n : Int) := by rw [IntKind.wrap_u64]; omega

theorem ofInt_emod_u64 (v : Int) : BitVec.ofInt 64 (v % 18446744073709551616) = BitVec.ofInt 64 v := by
  apply BitVec.eq_of_toNat_eq
  rw [BitVec.toNat_ofInt, BitVec.toNat_ofInt]
  simp
theorem and_wrap_left (v y : Int) : bits BinOp.and IntKind.u64 (v % 18446744073709551616) y = bits BinOp.and IntKind.u64 v y :=
  congrArg (fun a : BitVec 64 => IntKind.u64.wrap ((a &&& BitVec.ofInt 64 y).toNat : Int)) (ofInt_emod_u64 v)

def spanOf (l : List Int) : Option Int := if l.all (fun n => decide (0 ≤ n ∧ n ≤ 64)) then some l.sum else none
theorem spanOf_bad (l : List Int) (k : Nat) (hk : k < l.length) (h : ¬ (0 ≤ l.getD k 0 ∧ l.getD k 0 ≤ 64)) : spanOf l = none := by
  unfold spanOf
  rw [if_neg]
  intro ha
  rw [List.all_eq_true] at ha
  have := ha l[k] (List.getElem_mem hk)
  have e : l.getD k 0 = l[k] := by simp [hk]
  rw [e] at h
  exact h (by simpa using this)
theorem spanOf_ok (l : List Int) (h : ∀ i, i < l.length → 0 ≤ l.getD i 0 ∧ l.getD i 0 ≤ 64) : spanOf l = some l.sum := by
  unfold spanOf
  rw [if_pos]
  rw [List.all_eq_true]
  intro x hx
  obtain ⟨i, hi, rfl⟩ := List.getElem_of_mem hx
  have e : l.getD i 0 = l[i] := by simp [hi]
  have := h i hi
  rw [e] at this
  simpa using this
theorem sum_take (l : List Int) (k : Nat) (hk : k < l.length) : (l.take (k + 1)).sum = (l.take k).sum + l.getD k 0 := by
  have e : l.getD k 0 = l[k] := by simp [hk]
  rw [e, List.take_succ_eq_append_getElem hk, List.sum_append]; simp
end Go.Proofs.YtcadnlilijkneaaGreat
namespace Go.Proofs.YtcadnlilijkneaaGreat
set_option linter.unusedVariables false
set_option linter.unusedSimpArgs false
open Go.RowKit

def Ro (w : World) (B : Nat) (a : Option Addr) (vs : List Value) : Prop :=
  vs = [] ∨ ∃ b off, a = some ⟨b, off, none⟩ ∧ b < B ∧ ∀ i, i < vs.length → w.cell? ⟨b, off + i, none⟩ = some (vs.getD i undef)

theorem Ro.nil (w : World) (B : Nat) (a : Option Addr) : Ro w B a [] := .inl rfl
theorem Ro.mono {w : World} {B B' : Nat} {a : Option Addr} {vs : List Value} (h : Ro w B a vs) (hB : B ≤ B') : Ro w B' a vs := by
  rcases h with h | ⟨b, off, h1, h2, h3⟩
  · exact .inl h
  · exact .inr ⟨b, off, h1, by omega, h3⟩
theorem Ro.keep {w w' : World} {B : Nat} {a : Option Addr} {vs : List Value} (h : Ro w B a vs) (hk : ∀ p : Addr, p.block < B → w'.cell? p = w.cell? p) : Ro w' B a vs := by
  rcases h with h | ⟨b, off, h1, h2, h3⟩
  · exact .inl h
  · exact .inr ⟨b, off, h1, h2, fun i hi => (hk _ h2).trans (h3 i hi)⟩
theorem Ro.below {w w' : World} {B B' : Nat} {a : Option Addr} {vs : List Value} (h : Ro w B a vs) (hb : Below B' w w') (hB : B ≤ B') : Ro w' B a vs :=
  h.keep fun _ hp => hb.cell (Nat.lt_of_lt_of_le hp hB)
theorem Ro.at_ {w : World} {B : Nat} {a : Option Addr} {vs : List Value} (h : Ro w B a vs) (hn : vs ≠ []) :
    ∃ b off, a = some ⟨b, off, none⟩ ∧ b < B ∧ ∀ i, i < vs.length → w.cell? ⟨b, off + i, none⟩ = some (vs.getD i undef) := by
  rcases h with h | h
  · exact absurd h hn
  · exact h

def u8s (bs : List UInt8) : List Value := bs.map fun x => .int .u8 x.toNat
def u64s (l : List Nat) : List Value := l.map fun (x : Nat) => .int .u64 (x : Int)
def i64s (l : List Int) : List Value := l.map fun x => .int .i64 x
@[simp] theorem u8s_length (bs : List UInt8) : (u8s bs).length = bs.length := by simp [u8s]
@[simp] theorem u64s_length (l : List Nat) : (u64s l).length = l.length := by simp [u64s]
@[simp] theorem i64s_length (l : List Int) : (i64s l).length = l.length := by simp [i64s]
theorem u8s_getD (bs : List UInt8) (i : Nat) (h : i < bs.length) : (u8s bs).getD i undef = .int .u8 ((bs.getD i 0).toNat : Nat) := by
  simp [u8s, List.getD, h]
theorem u64s_getD (l : List Nat) (i : Nat) (h : i < l.length) : (u64s l).getD i undef = .int .u64 (l.getD i 0 : Nat) := by
  simp [u64s, List.getD, h]
theorem i64s_getD (l : List Int) (i : Nat) (h : i < l.length) : (i64s l).getD i undef = .int .i64 (l.getD i 0) := by
  simp [i64s, List.getD, h]
theorem Ro.u8 {w : World} {B : Nat} {a : Option Addr} {bs : List UInt8} (h : Ro w B a (u8s bs)) (hn : 0 < bs.length) :
    ∃ b off, a = some ⟨b, off, none⟩ ∧ b < B ∧ ∀ i, i < bs.length → w.cell? ⟨b, off + i, none⟩ = some (.int .u8 ((bs.getD i 0).toNat : Nat)) := by
  obtain ⟨b, off, h1, h2, h3⟩ := h.at_ (by intro e; have e2 := congrArg List.length e; simp only [u8s_length, u64s_length, i64s_length, List.length_nil] at e2; omega)
  exact ⟨b, off, h1, h2, fun i hi => by rw [h3 i (by simpa using hi), u8s_getD bs i hi]⟩
theorem Ro.u64 {w : World} {B : Nat} {a : Option Addr} {l : List Nat} (h : Ro w B a (u64s l)) (hn : 0 < l.length) :
    ∃ b off, a = some ⟨b, off, none⟩ ∧ b < B ∧ ∀ i, i < l.length → w.cell? ⟨b, off + i, none⟩ = some (.int .u64 (l.getD i 0 : Nat)) := by
  obtain ⟨b, off, h1, h2, h3⟩ := h.at_ (by intro e; have e2 := congrArg List.length e; simp only [u8s_length, u64s_length, i64s_length, List.length_nil] at e2; omega)
  exact ⟨b, off, h1, h2, fun i hi => by rw [h3 i (by simpa using hi), u64s_getD l i hi]⟩
theorem Ro.i64 {w : World} {B : Nat} {a : Option Addr} {l : List Int} (h : Ro w B a (i64s l)) (hn : 0 < l.length) :
    ∃ b off, a = some ⟨b, off, none⟩ ∧ b < B ∧ ∀ i, i < l.length → w.cell? ⟨b, off + i, none⟩ = some (.int .i64 (l.getD i 0)) := by
  obtain ⟨b, off, h1, h2, h3⟩ := h.at_ (by intro e; have e2 := congrArg List.length e; simp only [u8s_length, u64s_length, i64s_length, List.length_nil] at e2; omega)
  exact ⟨b, off, h1, h2, fun i hi => by rw [h3 i (by simpa using hi), i64s_getD l i hi]⟩
theorem ret_int {k : IntKind} {a b : Int} (h : a = b) : Ending.returned (.int k a) = .returned (.int k b) := by rw [h]
theorem Ro.take {w : World} {B : Nat} {a : Option Addr} {vs : List Value} (h : Ro w B a vs) (k : Nat) : Ro w B a (vs.take k) := by
  rcases h with h | ⟨b, off, h1, h2, h3⟩
  · exact .inl (by rw [h]; simp)
  · refine .inr ⟨b, off, h1, h2, fun i hi => ?_⟩
    rw [List.length_take] at hi
    rw [h3 i (by omega)]
    simp only [List.getD, List.getElem?_take]
    rw [if_pos (by omega)]
theorem add_off (b off l : Nat) : (⟨b, off, none⟩ : Addr).add l = ⟨b, off + l, none⟩ := by unfold Addr.add; split <;> simp_all
theorem Ro.drop {w : World} {B : Nat} {a : Option Addr} {vs : List Value} (h : Ro w B a vs) (l c : Nat) (hc : vs.length ≤ c) : Ro w B (if c = l then a else a.map fun x => x.add l) (vs.drop l) := by
  rcases h with h | ⟨b, off, h1, h2, h3⟩
  · exact .inl (by rw [h]; simp)
  · rcases Nat.lt_or_ge l vs.length with hl | hl
    · rw [if_neg (by omega), h1]
      refine .inr ⟨b, off + l, by rw [← add_off]; rfl, h2, fun i hi => ?_⟩
      rw [List.length_drop] at hi
      rw [show off + l + i = off + (l + i) from by omega, h3 (l + i) (by omega)]
      simp [List.getD]
    · exact .inl (List.drop_of_length_le hl)
def Own (w : World) (g : Nat) (t : TypeId) (cs : List Value) : Prop := w.heap[g]? = some (.cells cs.toArray t (0, 0))
theorem Own.lt {w : World} {g : Nat} {t : TypeId} {cs : List Value} (h : Own w g t cs) : g < w.heap.size := by
  rcases Nat.lt_or_ge g w.heap.size with hlt | hge
  · exact hlt
  · unfold Own at h; rw [Array.getElem?_eq_none hge] at h; cases h
theorem Own.cell {w : World} {g : Nat} {t : TypeId} {cs : List Value} (h : Own w g t cs) (i : Nat) : w.cell? ⟨g, i, none⟩ = cs[i]? := by
  rw [cell_of_row w g i cs.toArray t (0, 0) h]; simp
theorem Own.frozen {w : World} {g : Nat} {t : TypeId} {cs : List Value} (h : Own w g t cs) (i : Nat) : w.frozen? ⟨g, i, none⟩ = false := by
  unfold Own at h
  simp [World.frozen?, h]
theorem Own.new (w : World) (t : TypeId) (cs : List Value) : Own (w.alloc (.cells cs.toArray t)) w.heap.size t cs := heap_alloc_new w _
theorem Own.set {w : World} {g : Nat} {t : TypeId} {cs : List Value} (h : Own w g t cs) (i : Nat) (u : Value) : Own (w.setCell ⟨g, i, none⟩ u) g t (cs.set i u) := by
  unfold Own at h ⊢
  simp [World.setCell, Array.getElem?_modify, h]
theorem Own.far {w : World} {g : Nat} {t : TypeId} {cs : List Value} (h : Own w g t cs) {p : Addr} (hp : g ≠ p.block) (u : Value) : Own (w.setCell p u) g t cs := (Below.heap_setCell w p u g hp).trans h
theorem Own.alloc {w : World} {g : Nat} {t : TypeId} {cs : List Value} (h : Own w g t cs) (o : Obj) : Own (w.alloc o) g t cs := (Below.heap_alloc w o g h.lt).trans h
theorem Own.below {w w' : World} {g B : Nat} {t : TypeId} {cs : List Value} (h : Own w g t cs) (hb : Below B w w') (hg : g < B) : Own w' g t cs := (hb.block g hg).trans h
theorem Own.grown {w w' : World} {g : Nat} {t : TypeId} {cs : List Value} {row : Option Nat} (h : Own w g t cs) (hb : w.grownBy w' row) (hg : some g ≠ row) : Own w' g t cs := (hb.block g h.lt hg).trans h
theorem Own.ro {w : World} {g : Nat} {t : TypeId} {cs : List Value} (h : Own w g t cs) (B : Nat) (hB : g < B) : Ro w B (some ⟨g, 0, none⟩) cs := by
  refine .inr ⟨g, 0, rfl, hB, fun i hi => ?_⟩
  rw [Nat.zero_add, h.cell i]
  simp [List.getD, hi]
theorem only_set {a w : World} {g : Nat} (h : a.grownBy w (some g)) (i : Nat) (u : Value) : a.grownBy (w.setCell ⟨g, i, none⟩ u) (some g) :=
  ⟨h.os, h.tape, h.output, by simpa [World.setCell] using h.size, fun b hb hne => (Below.heap_setCell w ⟨g, i, none⟩ u b (fun e => hne (by rw [e]))).trans (h.block b hb hne)⟩
theorem set_size (w : World) (p : Addr) (u : Value) : (w.setCell p u).heap.size = w.heap.size := by simp [World.setCell]
theorem only_refl (w : World) (r : Option Nat) : w.grownBy w r := World.grownBy.refl w r
theorem below_only {B : Nat} {a w w' : World} {g : Nat} (h : Below B a w) (hg : w.grownBy w' (some g)) (hB : B ≤ g) (hB2 : B ≤ w.heap.size) : Below B a w' :=
  ⟨hg.os.trans h.os, hg.tape.trans h.tape, hg.output.trans h.output, Nat.le_trans h.size hg.size, fun b hb => (hg.block b (by omega) (fun e => by injection e with e; omega)).trans (h.block b hb)⟩

def Qt (w w' : World) : Prop := ∃ n, w' = w.drewN n
theorem Qt.refl (w : World) : Qt w w := ⟨0, rfl⟩
theorem Qt.trans {a b c : World} (h : Qt a b) (k : Qt b c) : Qt a c := by
  obtain ⟨n, rfl⟩ := h
  obtain ⟨m, rfl⟩ := k
  exact ⟨n + m, by rw [World.drewN_drewN]⟩
theorem Qt.drewN (w : World) (n : Nat) : Qt w (w.drewN n) := ⟨n, rfl⟩
theorem Qt.add {a b : World} (h : Qt a b) (n : Nat) : Qt a (b.drewN n) := h.trans ⟨n, rfl⟩
theorem Ro.qt {w w' : World} {B : Nat} {a : Option Addr} {vs : List Value} (h : Ro w B a vs) (k : Qt w w') : Ro w' B a vs := by
  obtain ⟨n, rfl⟩ := k
  exact h
theorem Own.qt {w w' : World} {g : Nat} {t : TypeId} {cs : List Value} (h : Own w g t cs) (k : Qt w w') : Own w' g t cs := by
  obtain ⟨n, rfl⟩ := k
  exact h
theorem Qt.below {a w w' : World} {B : Nat} (k : Qt w w') (h : Below B a w) : Below B a w' := by
  obtain ⟨n, rfl⟩ := k
  exact ⟨h.os, h.tape, h.output, h.size, h.block⟩
theorem Qt.size {w w' : World} (k : Qt w w') : w'.heap.size = w.heap.size := by
  obtain ⟨n, rfl⟩ := k
  rfl
end Go.Proofs.YtcadnlilijkneaaGreat
namespace Go.Proofs.YtcadnlilijkneaaGreat
set_option linter.unusedVariables false
set_option linter.unusedSimpArgs false
open Go.RowKit

def IsRow (k : IntKind) (w : World) (a : Option Addr) (len cap : Nat) (zs : List Int) : Prop :=
  (a = none ∧ len = 0 ∧ cap = 0 ∧ zs = []) ∨
  ∃ x, a = some x ∧ len ≤ cap ∧ cap ≤ maxLen ∧ zs.length = cap ∧ (∀ i, i < zs.length → w.cell? (x.add i) = some (.int k (zs.getD i 0))) ∧ ∀ n ∈ zs, (Lit.int k n).wf = true

theorem IsRow.vals {k : IntKind} {w : World} {a : Option Addr} {len cap : Nat} {zs : List Int} (h : IsRow k w a len cap zs) :
    ∃ ys : List Int, ys.length = len ∧ len ≤ cap ∧ (a = none → cap = 0) ∧ Ro w w.heap.size a (ys.map fun x => .int k x) ∧ ∀ n ∈ ys, (Lit.int k n).wf = true := by
  rcases h with ⟨rfl, rfl, rfl, rfl⟩ | ⟨x, rfl, h1, h2, h3, h4, h5⟩
  · exact ⟨[], rfl, Nat.le_refl _, fun _ => rfl, .inl rfl, by simp⟩
  · refine ⟨zs.take len, by rw [List.length_take]; omega, h1, (fun h => by cases h), ?_, (fun n hn => h5 n (List.mem_of_mem_take hn))⟩
    by_cases h0 : len = 0
    · subst h0; exact .inl (by simp)
    · obtain ⟨b, off, spot⟩ := x
      have hc := h4 0 (by omega)
      have hspot : spot = none := by simpa [Addr.add] using World.cell?_spot hc
      subst hspot
      have hb := World.block_lt_of_cell? w _ hc
      refine .inr ⟨b, off, rfl, by simpa [add_off] using hb, fun i hi => ?_⟩
      rw [List.length_map, List.length_take] at hi
      have := h4 i (by omega)
      rw [add_off] at this
      rw [this]
      simp [List.getD, List.getElem?_take, show i < len from by omega, show i < zs.length from by omega]
theorem IsRow.len_le {k : IntKind} {w : World} {a : Option Addr} {len cap : Nat} {zs : List Int} (h : IsRow k w a len cap zs) : len ≤ 9223372036854775807 := by
  rcases h with ⟨_, rfl, _, _⟩ | ⟨x, _, h1, h2, _⟩
  · omega
  · unfold maxLen at h2; omega
theorem IsRow.cap_le {k : IntKind} {w : World} {a : Option Addr} {len cap : Nat} {zs : List Int} (h : IsRow k w a len cap zs) : cap ≤ 9223372036854775807 := by
  rcases h with ⟨_, _, rfl, _⟩ | ⟨x, _, h1, h2, _⟩
  · omega
  · unfold maxLen at h2; omega
theorem IsRow.u8s {w : World} {a : Option Addr} {len cap : Nat} {zs : List Int} (h : IsRow .u8 w a len cap zs) :
    ∃ bs : List UInt8, bs.length = len ∧ len ≤ cap ∧ (a = none → cap = 0) ∧ Ro w w.heap.size a (u8s bs) := by
  obtain ⟨ys, h1, h2, h3, h4, h5⟩ := h.vals
  refine ⟨ys.map fun n => UInt8.ofNat n.toNat, by simpa using h1, h2, h3, ?_⟩
  have e : YtcadnlilijkneaaGreat.u8s (ys.map fun n => UInt8.ofNat n.toNat) = ys.map fun x => .int .u8 x := by
    unfold YtcadnlilijkneaaGreat.u8s
    rw [List.map_map]
    apply List.map_congr_left
    intro n hn
    have := bounds_u8 (h5 n hn)
    have e2 : (UInt8.ofNat n.toNat).toNat = n.toNat := by simp; omega
    simp only [Function.comp, e2]
    congr 1
    omega
  rw [e]; exact h4
theorem IsRow.u64s {w : World} {a : Option Addr} {len cap : Nat} {zs : List Int} (h : IsRow .u64 w a len cap zs) :
    ∃ l : List Nat, l.length = len ∧ len ≤ cap ∧ (a = none → cap = 0) ∧ Ro w w.heap.size a (u64s l) ∧ ∀ i, l.getD i 0 < 18446744073709551616 := by
  obtain ⟨ys, h1, h2, h3, h4, h5⟩ := h.vals
  refine ⟨ys.map Int.toNat, by simpa using h1, h2, h3, ?_, fun i => ?_⟩
  · have e : YtcadnlilijkneaaGreat.u64s (ys.map Int.toNat) = ys.map fun x => .int .u64 x := by
      unfold YtcadnlilijkneaaGreat.u64s
      rw [List.map_map]
      apply List.map_congr_left
      intro n hn
      have := bounds_u64 (h5 n hn)
      simp only [Function.comp]
      congr 1
      omega
    rw [e]; exact h4
  · by_cases hi : i < ys.length
    · have := bounds_u64 (h5 ys[i] (List.getElem_mem hi))
      have e : (ys.map Int.toNat).getD i 0 = ys[i].toNat := by simp [List.getD, hi]
      rw [e]; omega
    · have e : (ys.map Int.toNat).getD i 0 = 0 := by simp [List.getD, hi]
      rw [e]; omega
theorem IsRow.i64s {w : World} {a : Option Addr} {len cap : Nat} {zs : List Int} (h : IsRow .i64 w a len cap zs) :
    ∃ l : List Int, l.length = len ∧ len ≤ cap ∧ (a = none → cap = 0) ∧ Ro w w.heap.size a (i64s l) ∧ ∀ i, -9223372036854775808 ≤ l.getD i 0 ∧ l.getD i 0 ≤ 9223372036854775807 := by
  obtain ⟨ys, h1, h2, h3, h4, h5⟩ := h.vals
  refine ⟨ys, h1, h2, h3, h4, fun i => ?_⟩
  by_cases hi : i < ys.length
  · have := bounds_i64 (h5 ys[i] (List.getElem_mem hi))
    have e : ys.getD i 0 = ys[i] := by simp [List.getD, hi]
    rw [e]; omega
  · have e : ys.getD i 0 = 0 := by simp [List.getD, hi]
    rw [e]; omega
section
variable {H : Type} {enc : TypeId × Value → H} {P : Program} {w : World} {base : Nat} {spare : Nat → Bool} {held : Bool}
end
end Go.Proofs.YtcadnlilijkneaaGreat
