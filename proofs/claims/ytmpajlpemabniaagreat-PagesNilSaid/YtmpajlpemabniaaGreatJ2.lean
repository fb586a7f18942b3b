/-
  What a call keeps (Chg, Same), and what the disk's, the tape's, the runs' and the cells' texts have in common. Plain lemmas, no claim of their own.
-/
import Derived.Test.YtmpajlpemabniaaGreatJ1
import Derived.Deep.MidRow
import Derived.Lib.SlBytesConst
import Derived.Lib.BitFns
import Derived.Laws.StructEq
import Derived.Shelf.Abstract
import Derived.Shelf.RegionOpen
import Derived.RangeFuncNested
import Derived.RangeFuncBound
import Derived.RangeFuncCalls
import Derived.RangeFuncLeaves
import Derived.WalkKit
import Derived.OwnWalkIn
import Derived.TacticsInMore
import Derived.LoopNIn
import Derived.LoopIn
import Derived.Lib.SmallJoins
import Derived.Deep.Grids
import Derived.Deep.Fields
import Derived.Maps.RangeWalk
import Derived.Maps.OwnSet
import Derived.Maps.Ext
import Derived.Lib.SlKeysI
namespace Go.Proofs.YtmpajlpemabniaaGreat
set_option linter.unusedVariables false
set_option linter.unusedSimpArgs false
open Go.RowKit Go.Shelf Go.Deep

/-- only the blocks that are named, and what is new, has turned -/
structure Chg (l : List Nat) (a w : World) : Prop where
  os : w.os = a.os
  tape : w.tape = a.tape
  output : w.output = a.output
  size : a.heap.size ≤ w.heap.size
  block : ∀ k, k < a.heap.size → k ∉ l → w.heap[k]? = a.heap[k]?
theorem Chg.refl (l : List Nat) (a : World) : Chg l a a := ⟨rfl, rfl, rfl, Nat.le_refl _, fun _ _ _ => rfl⟩
theorem Chg.trans {l : List Nat} {a b c : World} (h : Chg l a b) (k : Chg l b c) : Chg l a c :=
  ⟨k.os.trans h.os, k.tape.trans h.tape, k.output.trans h.output, Nat.le_trans h.size k.size, fun i hi hn => (k.block i (Nat.lt_of_lt_of_le hi h.size) hn).trans (h.block i hi hn)⟩
theorem Chg.mono {l l' : List Nat} {a b : World} (h : Chg l a b) (hs : ∀ x ∈ l, x ∈ l' ∨ a.heap.size ≤ x) : Chg l' a b :=
  ⟨h.os, h.tape, h.output, h.size, fun k hk hn => h.block k hk (fun hm => by rcases hs k hm with h1 | h1; exact hn h1; omega)⟩
theorem Chg.then {l l' : List Nat} {a b c : World} (h : Chg l a b) (k : Chg l' b c) (hs : ∀ x ∈ l', x ∈ l ∨ a.heap.size ≤ x) : Chg l a c :=
  ⟨k.os.trans h.os, k.tape.trans h.tape, k.output.trans h.output, Nat.le_trans h.size k.size, fun i hi hn => (k.block i (Nat.lt_of_lt_of_le hi h.size) (fun hm => by rcases hs i hm with h1 | h1; exact hn h1; omega)).trans (h.block i hi hn)⟩
theorem Chg.drew {l : List Nat} {a b : World} (h : Chg l a b) : Chg l a b.drew := ⟨h.os, h.tape, h.output, h.size, h.block⟩
theorem Chg.drewN {l : List Nat} {a b : World} (h : Chg l a b) (n : Nat) : Chg l a (b.drewN n) := ⟨h.os, h.tape, h.output, h.size, h.block⟩
theorem Chg.qt {l : List Nat} {a b c : World} (h : Chg l a b) (k : Qt b c) : Chg l a c := by obtain ⟨n, rfl⟩ := k; exact h.drewN n
theorem Chg.alloc {l : List Nat} {a b : World} (h : Chg l a b) (o : Obj) : Chg l a (b.alloc o) :=
  ⟨h.os, h.tape, h.output, by simp; have := h.size; omega, fun k hk hn => (Below.heap_alloc b o k (by have := h.size; omega)).trans (h.block k hk hn)⟩
theorem setCells_heap (b : Nat) : ∀ (vs : List Value) (o : Nat) (w : World), (w.setCells b o vs).os = w.os ∧ (w.setCells b o vs).tape = w.tape ∧ (w.setCells b o vs).output = w.output ∧ (w.setCells b o vs).heap.size = w.heap.size ∧ ∀ k, k ≠ b → (w.setCells b o vs).heap[k]? = w.heap[k]?
  | [], _, _ => ⟨rfl, rfl, rfl, rfl, fun _ _ => rfl⟩
  | v :: r, o, w => by
    obtain ⟨h1, h2, h3, h4, h5⟩ := setCells_heap b r (o + 1) (w.setCell ⟨b, o, none⟩ v)
    rw [World.setCells]
    exact ⟨h1, h2, h3, by rw [h4, set_size], fun k hk => by rw [h5 k hk, Below.heap_setCell w ⟨b, o, none⟩ v k hk]⟩
theorem Chg.setCells {l : List Nat} {a w : World} (h : Chg l a w) {b : Nat} (hb : b ∈ l ∨ a.heap.size ≤ b) (o : Nat) (vs : List Value) : Chg l a (w.setCells b o vs) := by
  obtain ⟨h1, h2, h3, h4, h5⟩ := setCells_heap b vs o w
  refine ⟨h1.trans h.os, h2.trans h.tape, h3.trans h.output, by rw [h4]; exact h.size, fun k hk hn => (h5 k (fun e => ?_)).trans (h.block k hk hn)⟩
  subst e
  rcases hb with hb | hb
  · exact hn hb
  · omega
theorem Chg.setCell {l : List Nat} {a w : World} (h : Chg l a w) {p : Addr} (hb : p.block ∈ l ∨ a.heap.size ≤ p.block) (v : Value) : Chg l a (w.setCell p v) := by
  refine ⟨h.os, h.tape, h.output, by rw [set_size]; exact h.size, fun k hk hn => (Below.heap_setCell w p v k (fun e => ?_)).trans (h.block k hk hn)⟩
  subst e
  rcases hb with hb | hb
  · exact hn hb
  · omega
theorem Chg.grown {l : List Nat} {a w w' : World} (h : Chg l a w) {row : Option Nat} (hg : w.grownBy w' row) (hr : ∀ k, row = some k → k ∈ l ∨ a.heap.size ≤ k) : Chg l a w' :=
  ⟨hg.os.trans h.os, hg.tape.trans h.tape, hg.output.trans h.output, Nat.le_trans h.size hg.size, fun k hk hn => (hg.block k (by have := h.size; omega) (fun e => by
    rcases hr k e.symm with h1 | h1
    · exact hn h1
    · omega)).trans (h.block k hk hn)⟩
theorem Chg.of_below {l : List Nat} {a w w' : World} (h : Chg l a w) (hb : Below w.heap.size w w') : Chg l a w' :=
  ⟨hb.os.trans h.os, hb.tape.trans h.tape, hb.output.trans h.output, Nat.le_trans h.size hb.size, fun k hk hn => (hb.block k (by have := h.size; omega)).trans (h.block k hk hn)⟩
theorem Chg.below {l : List Nat} {a w : World} (h : Chg l a w) {B : Nat} (hB : B ≤ a.heap.size) (hl : ∀ x ∈ l, B ≤ x) : Below B a w :=
  ⟨h.os, h.tape, h.output, h.size, fun k hk => h.block k (by omega) (fun hm => by have := hl k hm; omega)⟩
theorem Chg.low {a w : World} (h : Chg [] a w) : Below a.heap.size a w := h.below (Nat.le_refl _) (by simp)
theorem below_chg {l : List Nat} {a w w' : World} {B : Nat} (hb : Below B a w) (h : Chg l w w') (hB : B ≤ w.heap.size) (hl : ∀ x ∈ l, B ≤ x) : Below B a w' := hb.trans (h.below hB hl)
theorem Chg.cell {l : List Nat} {a w : World} (h : Chg l a w) {b o : Nat} {v : Value} (hc : a.cell? ⟨b, o, none⟩ = some v) (hb : b ∉ l) : w.cell? ⟨b, o, none⟩ = some v :=
  (World.cell?_of_block (w := a) (w' := w) (a := ⟨b, o, none⟩) (h.block b (World.block_lt_of_cell? a _ hc) hb)).trans hc
theorem Chg.range {l : List Nat} {a w : World} (h : Chg l a w) {b o : Nat} {cs : List Value} (hc : a.rangeAt b o cs) (hb : b ∉ l) : w.rangeAt b o cs :=
  fun j v hv => h.cell (hc j v hv) hb
theorem Chg.there {l : List Nat} {a w : World} (h : Chg l a w) {b o n : Nat} (hc : a.there b o n) (hb : b ∉ l) : w.there b o n := fun j hj => by
  obtain ⟨h1, h2⟩ := hc j hj
  obtain ⟨u, hu⟩ := Option.isSome_iff_exists.1 h1
  have hlt := World.block_lt_of_cell? a _ hu
  exact ⟨by rw [h.cell hu hb]; rfl, (World.frozen?_of_block (w := a) (w' := w) (a := ⟨b, o + j, none⟩) (h.block b hlt hb)).trans h2⟩
theorem Chg.grownBy {b : Nat} {a w : World} (h : Chg [b] a w) : a.grownBy w (some b) := ⟨h.os, h.tape, h.output, h.size, fun k hk hn => h.block k hk (by simpa using hn)⟩
theorem Chg.grownBy0 {a w : World} (h : Chg [] a w) (row : Option Nat) : a.grownBy w row := ⟨h.os, h.tape, h.output, h.size, fun k hk _ => h.block k hk (by simp)⟩
theorem Own.chg {l : List Nat} {a w : World} {g : Nat} {t : TypeId} {cs : List Value} (ho : Own a g t cs) (h : Chg l a w) (hg : g ∉ l) : Own w g t cs := (h.block g ho.lt hg).trans ho
/-- the blocks of FS lie as they lay -/
def Same (FS : List Nat) (a w : World) : Prop := a.heap.size ≤ w.heap.size ∧ ∀ k ∈ FS, w.heap[k]? = a.heap[k]?
theorem Same.refl (FS : List Nat) (a : World) : Same FS a a := ⟨Nat.le_refl _, fun _ _ => rfl⟩
theorem Same.trans {FS : List Nat} {a b c : World} (h : Same FS a b) (k : Same FS b c) : Same FS a c := ⟨Nat.le_trans h.1 k.1, fun i hi => (k.2 i hi).trans (h.2 i hi)⟩
theorem Same.low {FS : List Nat} {a b : World} (h : Below a.heap.size a b) (hF : ∀ k ∈ FS, k < a.heap.size) : Same FS a b := ⟨h.size, fun k hk => h.block k (hF k hk)⟩
theorem Own.same {FS : List Nat} {a w : World} {g : Nat} {t : TypeId} {cs : List Value} (ho : Own a g t cs) (h : Same FS a w) (hg : g ∈ FS) : Own w g t cs := (h.2 g hg).trans ho
theorem Below.grow0 {a b : World} (h : Below a.heap.size a b) : a.grownBy b none := ⟨h.os, h.tape, h.output, h.size, fun k hk _ => h.block k hk⟩
theorem roundIn_any {P : Program} {n m l : Nat} {f : FuncId} {tmps : Array Value} {assign body : Code} {w : World} {R : Ending → World → Prop} (h : RoundIn Fence.wide n P l f tmps assign body w R) : RoundIn Fence.wide m P l f tmps assign body w R :=
  ⟨h.1, fun c cs _ => h.2 c cs (room_wide _)⟩
theorem keepsFrom_below {B : Nat} {W W' : World} (h : Below W.heap.size W W') : KeepsFrom B W W' := ⟨h.size, fun k o _ hk _ => (h.block k (Array.getElem?_eq_some_iff.1 hk).1).trans hk⟩
theorem own_kept {A B : World} {row : Option Nat} {g : Nat} {t : TypeId} {cs : List Value} (h : Own A g t cs) (hg : A.grownBy B row) (hr : ∀ r, row = some r → ∃ o : Obj, A.heap[r]? = some o ∧ o.isCells = false) : Own B g t cs :=
  h.grown hg fun e => by
    obtain ⟨o, ho, hc⟩ := hr g e.symm
    rw [show A.heap[g]? = _ from h] at ho
    cases ho
    cases hc
theorem same_put {FS : List Nat} {B : Nat} (hF : ∀ k ∈ FS, k < B) : ∀ (W : World) (l : Nat) (o o' : Obj), B ≤ l → W.heap[l]? = some o → o.isCells = false → o.isWalk = false → Same FS W (W.putObj l o') :=
  fun W l o o' hl _ _ _ => ⟨by simp, fun k hk => World.putObj_heap_other (by have := hF k hk; omega)⟩
theorem run_part_cell {P : Program} {e : TypeId} {k : IntKind} (he : P.underlying e = some (.int k)) {xs : Array Value} {off : Nat} {v : Value} (hx : xs[off]? = some v) (w : World) : (part e xs off).run P w = .ok v w := by
  unfold part
  have ha : (isAgg e).run P w = .ok false w := by
    unfold isAgg; rw [Sem.run_bind, run_underlying he w]; rfl
  rw [Sem.run_bind, ha]
  simp [hx]
theorem conv_ro {w : World} {B len c : Nat} {a : Option Addr} {bs : List UInt8} (h : Ro w B a (u8s bs)) (hl : bs.length = len) :
    (convert 39 9 (.slice a len c)).run Tryz.prog w = .ok (.string ⟨bs.toArray⟩) w := by
  subst hl
  by_cases h0 : 0 < bs.length
  · obtain ⟨b, off, rfl, hb, hc⟩ := h.u8 h0
    exact run_convert_bytes_back w _ _ _ _ _ bs Tryz.underlying39 Tryz.underlying5 Tryz.underlying9 fun j hj => by
      rw [add_off, hc j hj]
      simp [List.getD, hj]
  · have e : bs = [] := List.eq_nil_of_length_eq_zero (by omega)
    subst e
    rw [run_convert_bytes_string w _ _ _ a _ c Tryz.underlying39 Tryz.underlying5 Tryz.underlying9]
    cases a <;> simp [Conv.bytesToString, loadCells]
    all_goals rfl
end Go.Proofs.YtmpajlpemabniaaGreat
namespace Go.Proofs.YtmpajlpemabniaaGreat
open Go.RowKit Go.Deep
set_option linter.unusedVariables false
set_option linter.unusedSimpArgs false

/-- a Back: its stream, its two addresses -/
abbrev Bk := Int × Nat × Nat
/-- a cell: its kind, its data, its Backs -/
structure Ce where
  k : Int
  d : List UInt8
  b : List Bk
theorem Ce.ext' {x y : Ce} (h1 : x.k = y.k) (h2 : x.d = y.d) (h3 : x.b = y.b) : x = y := by
  cases x; cases y; simp_all
def FitB (b : Bk) : Prop := -9223372036854775808 ≤ b.1 ∧ b.1 ≤ 9223372036854775807 ∧ b.2.1 ≤ 18446744073709551615 ∧ b.2.2 ≤ 18446744073709551615

/-- the cells of Backs -/
def bcs : List Bk → List Value
  | [] => []
  | b :: L => .int .i64 b.1 :: .int .u64 (b.2.1 : Int) :: .int .u64 (b.2.2 : Int) :: bcs L
/-- a Back by value -/
abbrev bkv (b : Bk) : Value := .agg #[.int .i64 b.1, .int .u64 (b.2.1 : Int), .int .u64 (b.2.2 : Int)]
@[simp] theorem bcs_length (L : List Bk) : (bcs L).length = L.length * 3 := by
  induction L with
  | nil => rfl
  | cons r L ih => simp [bcs, ih]; omega
theorem bcs_append (A B : List Bk) : bcs (A ++ B) = bcs A ++ bcs B := by
  induction A with
  | nil => rfl
  | cons r A ih => simp [bcs, ih]
theorem bcs_one (L : List Bk) : ∀ v ∈ bcs L, v.oneCell' = true := by
  induction L with
  | nil => intro v hv; cases hv
  | cons r L ih =>
    intro v hv
    simp only [bcs, List.mem_cons] at hv
    rcases hv with rfl | rfl | rfl | hv
    · rfl
    · rfl
    · rfl
    · exact ih v hv
theorem bcs_get (L : List Bk) (i : Nat) : (bcs L)[i * 3]? = L[i]?.map (fun r => Value.int .i64 r.1) ∧ (bcs L)[i * 3 + 1]? = L[i]?.map (fun r => Value.int .u64 (r.2.1 : Int)) ∧ (bcs L)[i * 3 + 2]? = L[i]?.map (fun r => Value.int .u64 (r.2.2 : Int)) := by
  induction L generalizing i with
  | nil => simp [bcs]
  | cons r L ih =>
    cases i with
    | zero => simp [bcs]
    | succ i => rw [show (i + 1) * 3 = i * 3 + 1 + 1 + 1 by omega]; simpa [bcs] using ih i
/-- the Back i -/
def bk (L : List Bk) (i : Nat) : Bk := L.getD i (0, 0, 0)
theorem bk_get {L : List Bk} {i : Nat} (h : i < L.length) : L[i]? = some (bk L i) := by simp [bk, List.getD, h]
theorem bk_mem {L : List Bk} {i : Nat} (h : i < L.length) : bk L i ∈ L := by
  have : bk L i = L[i] := by simp [bk, List.getD, h]
  rw [this]; exact List.getElem_mem h
theorem bk_take {L : List Bk} {k : Nat} (h : k < L.length) : L.take (k + 1) = L.take k ++ [bk L k] := by
  have : bk L k = L[k] := by simp [bk, List.getD, h]
  rw [List.take_succ_eq_append_getElem h, this]
theorem bcs_bk {L : List Bk} {i : Nat} (h : i < L.length) : (bcs L).getD (i * 3) undef = .int .i64 (bk L i).1 ∧ (bcs L).getD (i * 3 + 1) undef = .int .u64 ((bk L i).2.1 : Int) ∧ (bcs L).getD (i * 3 + 2) undef = .int .u64 ((bk L i).2.2 : Int) := by
  obtain ⟨h1, h2, h3⟩ := bcs_get L i
  rw [bk_get h] at h1 h2 h3
  simp [List.getD, h1, h2, h3]
theorem Ro.bk {w : World} {B : Nat} {a : Option Addr} {L : List Bk} (h : Ro w B a (bcs L)) (hn : 0 < L.length) :
    ∃ b off, a = some ⟨b, off, none⟩ ∧ b < B ∧ ∀ i, i < L.length → w.cell? ⟨b, off + i * 3, none⟩ = some (.int .i64 (bk L i).1) ∧ w.cell? ⟨b, off + i * 3 + 1, none⟩ = some (.int .u64 ((bk L i).2.1 : Int)) ∧ w.cell? ⟨b, off + i * 3 + 2, none⟩ = some (.int .u64 ((bk L i).2.2 : Int)) := by
  obtain ⟨b, off, h1, h2, h3⟩ := h.at_ (by intro e; have e2 := congrArg List.length e; simp at e2; omega)
  refine ⟨b, off, h1, h2, fun i hi => ?_⟩
  obtain ⟨e1, e2, e3⟩ := bcs_bk hi
  have g1 := h3 (i * 3) (by simp; omega)
  have g2 := h3 (i * 3 + 1) (by simp; omega)
  have g3 := h3 (i * 3 + 2) (by simp; omega)
  rw [e1] at g1
  rw [e2] at g2
  rw [e3] at g3
  exact ⟨g1, by rw [Nat.add_assoc]; exact g2, by rw [Nat.add_assoc]; exact g3⟩

/-- a cell by value -/
abbrev cev (k : Int) (a : Option Addr) (n c : Nat) (a2 : Option Addr) (n2 c2 : Nat) : Value := .agg #[.int .i64 k, .slice a n c, .slice a2 n2 c2]

/-- the first index below n that has p, or -1 -/
def fx (p : Nat → Bool) : Nat → Int
  | 0 => -1
  | n + 1 => if 0 ≤ fx p n then fx p n else if p n then (n : Int) else -1
/-- some index below n has p -/
def anyN (p : Nat → Bool) (n : Nat) : Bool := decide (0 ≤ fx p n)
theorem fx_miss (p : Nat → Bool) (n : Nat) (h : ∀ j, j < n → p j = false) : fx p n = -1 := by
  induction n with
  | zero => rfl
  | succ n ih => simp only [fx]; rw [ih (fun j hj => h j (by omega)), h n (by omega)]; simp
theorem fx_hit (p : Nat → Bool) (n k : Nat) (hk : k < n) (hp : p k = true) (h : ∀ j, j < k → p j = false) : fx p n = (k : Int) := by
  induction n with
  | zero => omega
  | succ n ih =>
    simp only [fx]
    by_cases e : k = n
    · subst e; rw [fx_miss p k h, hp]; simp
    · rw [ih (by omega), if_pos (by omega)]
theorem fx_or (p : Nat → Bool) (n : Nat) : (fx p n = -1 ∧ ∀ j, j < n → p j = false) ∨ ∃ k, k < n ∧ fx p n = (k : Int) ∧ p k = true ∧ ∀ j, j < k → p j = false := by
  induction n with
  | zero => exact .inl ⟨rfl, by omega⟩
  | succ n ih =>
    rcases ih with ⟨h1, h2⟩ | ⟨k, h0, h1, h2, h3⟩
    · by_cases hp : p n = true
      · exact .inr ⟨n, by omega, fx_hit p _ n (by omega) hp h2, hp, h2⟩
      · have hp' : p n = false := by simpa using hp
        exact .inl ⟨fx_miss p _ (fun j hj => by
          by_cases e : j = n
          · subst e; exact hp'
          · exact h2 j (by omega)), fun j hj => by
          by_cases e : j = n
          · subst e; exact hp'
          · exact h2 j (by omega)⟩
    · exact .inr ⟨k, by omega, fx_hit p _ k (by omega) h2 h3, h2, h3⟩
theorem anyN_false {p : Nat → Bool} {n : Nat} : anyN p n = false ↔ ∀ j, j < n → p j = false := by
  unfold anyN
  rcases fx_or p n with ⟨h1, h2⟩ | ⟨k, h0, h1, h2, h3⟩
  · rw [h1]; simp; exact h2
  · rw [h1]; simp; exact ⟨k, h0, by simp [h2]⟩
theorem fx_le (p : Nat → Bool) (n : Nat) : -1 ≤ fx p n ∧ fx p n < n := by
  rcases fx_or p n with ⟨h1, _⟩ | ⟨k, h0, h1, _⟩ <;> omega
end Go.Proofs.YtmpajlpemabniaaGreat
namespace Go.Proofs.YtmpajlpemabniaaGreat
open Go.RowKit Go.ChangeShapes Go.WideShapes Go.Deep
set_option linter.unusedVariables false
set_option linter.unusedSimpArgs false

section
variable {H : Type} {enc : TypeId × Value → H} {w : World} {base : Nat} {held : Bool}
theorem row_u8 {n : Nat} {v : Value} {y : DataW H × List MemPlace} (h : DataW.trod enc Tryz.prog w base (fun _ => true) held n 39 [v] = some y) :
    ∃ (a : Option Addr) (bs : List UInt8) (c : Nat), v = .slice a bs.length c ∧ Ro w w.heap.size a (u8s bs) ∧ bs.length ≤ c ∧ c ≤ 9223372036854775807 := by
  have hrow : ∃ a l c zs, v = .slice a l c ∧ IsRow .u8 w a l c zs := by
    rcases open_ints Tryz.underlying39 Tryz.underlying5 (by kernel_rfl) h with ⟨hc, _⟩ | ⟨a, l, c, zs, hc, _, hl, hm, hz, _, hcell, hwz⟩
    · exact ⟨none, 0, 0, [], by simpa using hc, .inl ⟨rfl, rfl, rfl, rfl⟩⟩
    · exact ⟨some a, l, c, zs, by simpa using hc, .inr ⟨a, rfl, hl, hm, by simpa using hz, hcell, hwz⟩⟩
  obtain ⟨a, l, c, zs, rfl, hr⟩ := hrow
  obtain ⟨bs, h1, h2, h3, h4⟩ := hr.u8s
  have := hr.cap_le
  exact ⟨a, bs, c, by rw [h1], h4, by omega, by omega⟩
set_option maxRecDepth 100000 in
theorem trod_back {n : Nat} {cs : List Value} {y : DataW H × List MemPlace} (h : DataW.trod enc Tryz.prog w base (fun _ => true) held n 143 cs = some y) :
    ∃ b : Bk, cs = [.int .i64 b.1, .int .u64 (b.2.1 : Int), .int .u64 (b.2.2 : Int)] ∧ FitB b := by
  obtain ⟨xs, m, _, _, hlen, hxl, hf⟩ := DataW.trod_struct Tryz.underlying143 h
  have hc3 : cs.length = 3 := hlen.trans (by kernel_rfl)
  match cs, hc3, xs, hxl with
  | [c0, c1, c2], _, [x0, x1], _ =>
    have g0 : DataW.trod enc Tryz.prog w base (fun _ => true) held m 3 (([c0, c1, c2].drop 0).take (Tryz.prog.cellsOf 3)) = some x0 := hf 0 _ rfl
    have g1 : DataW.trod enc Tryz.prog w base (fun _ => true) held m 141 (([c0, c1, c2].drop 1).take (Tryz.prog.cellsOf 141)) = some x1 := hf 1 _ rfl
    rw [show Tryz.prog.cellsOf 3 = 1 by kernel_rfl] at g0
    rw [show Tryz.prog.cellsOf 141 = 2 by kernel_rfl] at g1
    simp only [List.drop_zero, List.drop_succ_cons, List.take_succ_cons, List.take_zero] at g0 g1
    obtain ⟨s, e0, _, hw0⟩ := DataW.trod_int Tryz.underlying3 g0
    have hu : Tryz.prog.underlying 141 = some (.array 2 37) := by kernel_rfl
    obtain ⟨ys, m2, _, _, _, hl, hi⟩ := DataW.trod_array hu g1
    have hce : Tryz.prog.cellsOf 37 = 1 := by kernel_rfl
    have i0 := hi 0 (by omega)
    have i1 := hi 1 (by omega)
    rw [hce, Nat.mul_one, List.getElem?_eq_getElem (by omega)] at i0 i1
    simp only [List.drop_zero, List.drop_succ_cons, List.take_succ_cons, List.take_zero] at i0 i1
    obtain ⟨p, e1, _, hw1⟩ := DataW.trod_int Tryz.underlying37 i0
    obtain ⟨q, e2, _, hw2⟩ := DataW.trod_int Tryz.underlying37 i1
    simp only [List.cons.injEq, and_true] at e0 e1 e2
    subst e0 e1 e2
    have h0 := bounds_i64 hw0
    have h1 := bounds_u64 hw1
    have h2 := bounds_u64 hw2
    refine ⟨(s, p.toNat, q.toNat), ?_, ⟨h0.1, h0.2, ?_, ?_⟩⟩
    · simp only
      rw [show ((p.toNat : Nat) : Int) = p by omega, show ((q.toNat : Nat) : Int) = q by omega]
    · show p.toNat ≤ _; omega
    · show q.toNat ≤ _; omega
set_option maxRecDepth 100000 in
theorem row_backs {n : Nat} {v : Value} {y : DataW H × List MemPlace} (h : DataW.trod enc Tryz.prog w base (fun _ => true) held n 40 [v] = some y) :
    ∃ (a : Option Addr) (L : List Bk) (c : Nat), v = .slice a L.length c ∧ Ro w w.heap.size a (bcs L) ∧ (∀ b ∈ L, FitB b) ∧ L.length ≤ 9223372036854775807 := by
  rcases open_slice Tryz.underlying40 h with ⟨hc, _⟩ | ⟨a, len, cap, m, k, D, Pl, hc, _, hl, hm, hmm, _, hi⟩
  · exact ⟨none, [], 0, by simpa using hc, Ro.nil _ _ _, by simp, by simp⟩
  · have hc2 : Tryz.prog.cellsOf 143 = 3 := by kernel_rfl
    simp only [if_true] at hmm
    subst hmm
    have hall : ∀ i, i < m → ∃ b : Bk, FitB b ∧ w.cell? (a.add (i * 3)) = some (.int .i64 b.1) ∧ w.cell? ((a.add (i * 3)).add 1) = some (.int .u64 (b.2.1 : Int)) ∧ w.cell? ((a.add (i * 3)).add 2) = some (.int .u64 (b.2.2 : Int)) := by
      intro i him
      obtain ⟨cs, h1, h2⟩ := hi i him
      rw [hc2] at h1
      obtain ⟨_, _, h3⟩ := World.cells?_some h1
      obtain ⟨r, rfl, hr⟩ := trod_back h2
      refine ⟨r, hr, ?_, h3 1 (by omega), h3 2 (by omega)⟩
      have := h3 0 (by omega)
      simpa [Addr.add] using this
    obtain ⟨A, hA⟩ : ∃ A : Nat → Bk, ∀ i, i < m → FitB (A i) ∧ w.cell? (a.add (i * 3)) = some (.int .i64 (A i).1) ∧ w.cell? ((a.add (i * 3)).add 1) = some (.int .u64 ((A i).2.1 : Int)) ∧ w.cell? ((a.add (i * 3)).add 2) = some (.int .u64 ((A i).2.2 : Int)) :=
      ⟨fun i => if hi : i < m then Classical.choose (hall i hi) else (0, 0, 0), fun i him => by
        have := Classical.choose_spec (hall i him)
        dsimp only
        rw [dif_pos him]
        exact this⟩
    refine ⟨some a, (List.range len).map A, m, by simpa using hc, ?_, fun r hr => ?_, by simp; unfold maxLen at hm; omega⟩
    · rcases Nat.eq_zero_or_pos len with h0 | h0
      · subst h0; exact .inl rfl
      · obtain ⟨b, off, spot⟩ := a
        have hc0 := (hA 0 (by omega)).2.1
        have hspot : spot = none := by simpa [Addr.add] using World.cell?_spot hc0
        subst hspot
        have hb := World.block_lt_of_cell? w _ hc0
        refine .inr ⟨b, off, rfl, by simpa [add_off] using hb, fun i hi => ?_⟩
        rw [bcs_length, List.length_map, List.length_range] at hi
        have hel : ∀ t, t < len → bk ((List.range len).map A) t = A t := fun t ht => by simp [bk, List.getD, ht]
        have hi2 : i / 3 < len := by omega
        obtain ⟨_, g1, g2, g3⟩ := hA (i / 3) (by omega)
        have e := bcs_bk (L := (List.range len).map A) (i := i / 3) (by simpa using hi2)
        rw [hel _ hi2] at e
        have hp : i % 3 = 0 ∨ i % 3 = 1 ∨ i % 3 = 2 := by omega
        rcases hp with hp | hp | hp
        · have ei : i = i / 3 * 3 := by omega
          rw [ei, e.1]
          rw [add_off] at g1
          exact g1
        · have ei : i = i / 3 * 3 + 1 := by omega
          rw [ei, e.2.1]
          rw [add_off, add_off] at g2
          exact g2
        · have ei : i = i / 3 * 3 + 2 := by omega
          rw [ei, e.2.2]
          rw [add_off, add_off] at g3
          exact g3
    · rw [List.mem_map] at hr
      obtain ⟨i, hi, rfl⟩ := hr
      exact (hA i (by have := List.mem_range.1 hi; omega)).1
/-- a cell that came in: where its parts lie -/
structure CeT where
  x : Ce
  a : Option Addr
  c : Nat
  a2 : Option Addr
  c2 : Nat
/-- its ranges, and its rows -/
structure CeOk (w : World) (A : CeT) : Prop where
  k : -9223372036854775808 ≤ A.x.k ∧ A.x.k ≤ 9223372036854775807
  d : Ro w w.heap.size A.a (u8s A.x.d)
  dl : A.x.d.length ≤ 9223372036854775807
  b : Ro w w.heap.size A.a2 (bcs A.x.b)
  bl : A.x.b.length ≤ 9223372036854775807
  fit : ∀ b ∈ A.x.b, FitB b
def CeT.val (A : CeT) : Value := cev A.x.k A.a A.x.d.length A.c A.a2 A.x.b.length A.c2
set_option maxRecDepth 100000 in
theorem trod_cell {n : Nat} {cs : List Value} {y : DataW H × List MemPlace} (h : DataW.trod enc Tryz.prog w base (fun _ => true) held n 42 cs = some y) :
    ∃ A : CeT, cs = [.int .i64 A.x.k, .slice A.a A.x.d.length A.c, .slice A.a2 A.x.b.length A.c2] ∧ CeOk w A := by
  obtain ⟨xs, m, _, _, hlen, hxl, hf⟩ := DataW.trod_struct Tryz.underlying42 h
  have hc3 : cs.length = 3 := hlen.trans (by kernel_rfl)
  match cs, hc3, xs, hxl with
  | [c0, c1, c2], _, [x0, x1, x2], _ =>
    have g0 : DataW.trod enc Tryz.prog w base (fun _ => true) held m 38 (([c0, c1, c2].drop 0).take (Tryz.prog.cellsOf 38)) = some x0 := hf 0 _ rfl
    have g1 : DataW.trod enc Tryz.prog w base (fun _ => true) held m 39 (([c0, c1, c2].drop 1).take (Tryz.prog.cellsOf 39)) = some x1 := hf 1 _ rfl
    have g2 : DataW.trod enc Tryz.prog w base (fun _ => true) held m 40 (([c0, c1, c2].drop 2).take (Tryz.prog.cellsOf 40)) = some x2 := hf 2 _ rfl
    rw [show Tryz.prog.cellsOf 38 = 1 by kernel_rfl] at g0
    rw [show Tryz.prog.cellsOf 39 = 1 by kernel_rfl] at g1
    rw [show Tryz.prog.cellsOf 40 = 1 by kernel_rfl] at g2
    simp only [List.drop_zero, List.drop_succ_cons, List.take_succ_cons, List.take_zero] at g0 g1 g2
    obtain ⟨k, e0, _, hw0⟩ := DataW.trod_int Tryz.underlying38 g0
    obtain ⟨a, bs, c, e1, h1, h1', h1''⟩ := row_u8 g1
    obtain ⟨a2, L, c2', e2, h2, h2', h2''⟩ := row_backs g2
    simp only [List.cons.injEq, and_true] at e0
    subst e0 e1 e2
    exact ⟨⟨⟨k, bs, L⟩, a, c, a2, c2'⟩, rfl, ⟨bounds_i64 hw0, h1, by show bs.length ≤ _; omega, h2, h2'', h2'⟩⟩
set_option maxRecDepth 100000 in
theorem open_cellV {r : Reach} {b0 : Nat} {v : Value} {d : DataW H} {p : List MemPlace} (hv : Value.okWide Tryz.prog w r b0 42 v) (h : DataW.Trod enc Tryz.prog w base (fun _ => true) held 42 v d p) :
    ∃ A : CeT, v = A.val ∧ CeOk w A := by
  obtain ⟨cs, rfl, hsz⟩ := okWide_struct Tryz.underlying42 hv
  obtain ⟨fuel, hf⟩ := h
  obtain ⟨A, hA, hok⟩ := trod_cell hf
  refine ⟨A, ?_, hok⟩
  unfold CeT.val
  congr 1
  apply Array.ext'
  exact hA
end
end Go.Proofs.YtmpajlpemabniaaGreat
namespace Go.Proofs.YtmpajlpemabniaaGreat
set_option linter.unusedVariables false
set_option linter.unusedSimpArgs false
open Go.RowKit Go.Maps

abbrev Sec := List UInt8
def zsec : Sec := List.replicate 64 0
theorem zsec_len : zsec.length = 64 := by simp [zsec]
/-- a sector as a value -/
abbrev sv (S : Sec) : Value := .agg (u8s S).toArray
theorem u8s_one (S : Sec) : ∀ v ∈ u8s S, v.oneCell' = true := by
  intro v hv
  simp only [u8s, List.mem_map] at hv
  obtain ⟨x, _, rfl⟩ := hv
  rfl
theorem u8s_inj {S T : Sec} (h : u8s S = u8s T) : S = T := by
  unfold u8s at h
  refine List.map_inj_right (fun x y e => ?_) |>.1 h
  simp only [Value.int.injEq, true_and] at e
  exact UInt8.toNat_inj.1 (by omega)
theorem sv_inj {S T : Sec} (h : sv S = sv T) : S = T := by
  unfold sv at h
  simp only [Value.agg.injEq] at h
  exact u8s_inj (by simpa using h)

/-- how a sector's value reads -/
def secD (S : Sec) : DataW Unit := .agg (S.map fun x => .lit (.int .u8 (x.toNat : Int)))
theorem secD_inj {S T : Sec} (h : secD S = secD T) : S = T := by
  unfold secD at h
  simp only [DataW.agg.injEq] at h
  refine List.map_inj_right (fun x y e => ?_) |>.1 h
  simp only [DataW.lit.injEq, Lit.int.injEq, true_and] at e
  exact UInt8.toNat_inj.1 (by omega)
open Classical in
noncomputable def secR (v : Value) : Option (DataW Unit × List MemPlace) :=
  if h : ∃ S : Sec, S.length = 64 ∧ v = sv S then some (secD (Classical.choose h), []) else none
theorem secR_sv {S : Sec} (h : S.length = 64) : secR (sv S) = some (secD S, []) := by
  unfold secR
  have hx : ∃ T : Sec, T.length = 64 ∧ sv S = sv T := ⟨S, h, rfl⟩
  rw [dif_pos hx]
  have := Classical.choose_spec hx
  rw [← sv_inj this.2]
theorem secR_inv {v : Value} {z : DataW Unit × List MemPlace} (h : secR v = some z) : ∃ S : Sec, S.length = 64 ∧ v = sv S ∧ z = (secD S, []) := by
  unfold secR at h
  split at h
  · rename_i hx
    cases h
    have := Classical.choose_spec hx
    exact ⟨_, this.1, this.2, rfl⟩
  · cases h

/-- the literal of key i -/
def ik (i : Nat) : Lit := .int .i64 (i : Int)
theorem ik_inj {i j : Nat} (h : ik i = ik j) : i = j := by
  simp only [ik, Lit.int.injEq, true_and] at h
  omega
theorem ik_isKey (i : Nat) : WideAt.IsKeyLit (ik i) := by simp [ik, WideAt.IsKeyLit]
/-- the datum of the map m -/
structure MapOf (m : Nat → Option Sec) (D : DataW Unit) : Prop where
  some_ : ∀ i S, m i = some S → has D (ik i) = true ∧ ∀ z, D.atKey (ik i) z = secD S
  none_ : ∀ i, m i = none → has D (ik i) = false
  keys : ∀ kl, has D kl = true → ∃ i, kl = ik i

def upd (m : Nat → Option Sec) (i : Nat) (S : Sec) : Nat → Option Sec := fun j => if j = i then some S else m j
def updF (F : Nat → Sec) (i : Nat) (S : Sec) : Nat → Sec := fun j => if j = i then S else F j
/-- what is read -/
def now (F : Nat → Sec) (m : Nat → Option Sec) (i : Nat) : Sec := (m i).getD (F i)

theorem MapOf.empty : MapOf (fun _ => none) (.map []) := ⟨fun _ _ h => (by cases h), fun _ _ => rfl, fun kl h => by simp [has] at h⟩
theorem MapOf.put {m : Nat → Option Sec} {D : DataW Unit} (h : MapOf m D) (hD : IsMap D) (i : Nat) (S : Sec) : MapOf (upd m i S) (D.put (ik i) (secD S)) := by
  have hne : ∀ j, j ≠ i → ik j ≠ ik i := fun j hj e => hj (ik_inj e)
  refine ⟨fun j T hj => ?_, fun j hj => ?_, fun kl hkl => ?_⟩
  · by_cases e : j = i
    · subst e
      simp only [upd, if_true, Option.some.injEq] at hj
      subst hj
      exact ⟨has_put_same hD (ik_isKey j) _, fun z => atKey_put_same hD (ik_isKey j) _ z⟩
    · simp only [upd, if_neg e] at hj
      obtain ⟨h1, h2⟩ := h.some_ j T hj
      exact ⟨by rw [has_put_other (hne j e)]; exact h1, fun z => by rw [atKey_put_other (hne j e)]; exact h2 z⟩
  · by_cases e : j = i
    · subst e
      simp [upd] at hj
    · simp only [upd, if_neg e] at hj
      rw [has_put_other (hne j e)]
      exact h.none_ j hj
  · by_cases e : kl = ik i
    · exact ⟨i, e⟩
    · rw [has_put_other e] at hkl
      exact h.keys kl hkl

/-- the dirty sectors in increasing order -/
def dirtyL (n : Nat) (m : Nat → Option Sec) : List Nat := (List.range n).filter fun i => (m i).isSome
theorem dirtyL_le (n : Nat) (m : Nat → Option Sec) : (dirtyL n m).length ≤ n := by
  have := List.length_filter_le (fun i => (m i).isSome) (List.range n)
  simpa [dirtyL] using this
theorem dirtyL_nodup (n : Nat) (m : Nat → Option Sec) : (dirtyL n m).Nodup := List.nodup_range.filter _
theorem mem_dirtyL {n : Nat} {m : Nat → Option Sec} {i : Nat} : i ∈ dirtyL n m ↔ i < n ∧ (m i).isSome = true := by simp [dirtyL]
def dirtyZ (n : Nat) (m : Nat → Option Sec) : List Int := (dirtyL n m).map fun (i : Nat) => (i : Int)
theorem keys_perm {m : Nat → Option Sec} {D : DataW Unit} {n : Nat} (h : MapOf m D) (hm : ∀ i S, m i = some S → i < n) (hT : ∃ es, D = .map es ∧ es.Pairwise (fun p q => p.1 ≠ q.1) ∧ ∀ p ∈ es, WideAt.IsKeyLit p.1) : (dirtyZ n m).Perm (intKeys D) := by
  obtain ⟨es, rfl, hpw, hk⟩ := hT
  refine perm_intKeys hpw (fun p hp => ?_) ?_ (fun x => ?_)
  · obtain ⟨i, hi⟩ := h.keys p.1 (List.any_eq_true.2 ⟨p, hp, WideAt.sameKey_self (hk p hp)⟩)
    exact ⟨i, hi⟩
  · exact List.Pairwise.map _ (fun a b (hab : a ≠ b) e => hab (by omega)) (dirtyL_nodup n m)
  · simp only [dirtyZ, List.mem_map]
    constructor
    · rintro ⟨i, hi, rfl⟩
      obtain ⟨_, h2⟩ := mem_dirtyL.1 hi
      obtain ⟨S, hS⟩ := Option.isSome_iff_exists.1 h2
      exact (h.some_ i S hS).1
    · intro hx
      obtain ⟨i, hi⟩ := h.keys _ hx
      have e : x = (i : Int) := by simpa [ik] using hi
      subst e
      refine ⟨i, mem_dirtyL.2 ?_, rfl⟩
      cases hS : m i with
      | none => have := h.none_ i hS; rw [ik] at this; rw [this] at hx; cases hx
      | some S => exact ⟨hm i S hS, rfl⟩
theorem dirtyZ_sorted (n : Nat) (m : Nat → Option Sec) : (dirtyZ n m).Pairwise (fun a b => leI a b = true) := by
  refine List.Pairwise.map _ (fun a b (hab : a < b) => ?_) (List.Pairwise.filter _ List.pairwise_lt_range)
  simp only [leI, decide_eq_true_eq]
  omega
theorem keys_sorted {m : Nat → Option Sec} {D : DataW Unit} {n : Nat} {ss : List Int} (hp : (dirtyZ n m).Perm (intKeys D)) (hs : ss.Perm (intKeys D)) : ss.mergeSort (fun x y => decide (x ≤ y)) = dirtyZ n m := by
  have e := mergeSort_of_perm_i (hs.trans hp.symm)
  have e2 : (dirtyZ n m).mergeSort leI = dirtyZ n m := List.mergeSort_of_pairwise (dirtyZ_sorted n m)
  exact e.trans e2
theorem size_intKeys {H : Type} (D : DataW H) : (intKeys D).length = size D := by cases D <;> simp [intKeys, size]

/-- a disk: its struct in block p, its row in block g, its map in block b; n sectors, F what was flushed, m what is dirty -/
structure Dsk (w : World) (p g b n : Nat) (F : Nat → Sec) (m : Nat → Option Sec) : Prop where
  flu : ∃ c, w.cell? ⟨p, 0, none⟩ = some (.slice (some ⟨g, 0, none⟩) n c)
  dir : w.cell? ⟨p, 1, none⟩ = some (.map (some b))
  one : 1 ≤ n
  top : n ≤ 1024
  lenF : ∀ i, (F i).length = 64
  lenM : ∀ i S, m i = some S → S.length = 64 ∧ i < n
  rng : ∀ i, i < n → w.rangeAt g (i * 64) (u8s (F i))
  the : w.there g 0 (n * 64)
  own : ∃ D, w.ownsMap Tryz.prog 3 secR b n D ∧ MapOf m D
  pg : p ≠ g
  pb : p ≠ b
  gb : g ≠ b
theorem Dsk.lenN {w : World} {p g b n : Nat} {F : Nat → Sec} {m : Nat → Option Sec} (h : Dsk w p g b n F m) (i : Nat) : (now F m i).length = 64 := by
  unfold now
  cases hm : m i with
  | none => simpa using h.lenF i
  | some S => simpa using (h.lenM i S hm).1
theorem Dsk.ltp {w : World} {p g b n : Nat} {F : Nat → Sec} {m : Nat → Option Sec} (h : Dsk w p g b n F m) : p < w.heap.size := World.block_lt_of_cell? w _ h.dir
theorem Dsk.ltb {w : World} {p g b n : Nat} {F : Nat → Sec} {m : Nat → Option Sec} (h : Dsk w p g b n F m) : b < w.heap.size := by obtain ⟨D, h1, _⟩ := h.own; exact h1.lt
theorem Dsk.ltg {w : World} {p g b n : Nat} {F : Nat → Sec} {m : Nat → Option Sec} (h : Dsk w p g b n F m) : g < w.heap.size := by
  have h1 := (h.the 0 (by have := h.one; omega)).1
  obtain ⟨u, hu⟩ := Option.isSome_iff_exists.1 h1
  exact World.block_lt_of_cell? w _ hu
/-- a disk is kept while other blocks turn -/
theorem Dsk.keep {w w' : World} {p g b n : Nat} {F : Nat → Sec} {m : Nat → Option Sec} (h : Dsk w p g b n F m) {l : List Nat} (hc : Chg l w w') (hp : p ∉ l) (hg : g ∉ l) (hb : b ∉ l) : Dsk w' p g b n F m := by
  obtain ⟨c, hf⟩ := h.flu
  obtain ⟨D, ho, hm⟩ := h.own
  have hlt := h.ltb
  refine ⟨⟨c, hc.cell hf hp⟩, hc.cell h.dir hp, h.one, h.top, h.lenF, h.lenM, fun i hi => hc.range (h.rng i hi) hg, hc.there h.the hg, ⟨D, ?_, hm⟩, h.pg, h.pb, h.gb⟩
  obtain ⟨es, clock, hes, hrest⟩ := ho
  exact ⟨es, clock, (hc.block b hlt hb).trans hes, hrest⟩
theorem Dsk.kept {w w' : World} {p g b n : Nat} {F : Nat → Sec} {m : Nat → Option Sec} (h : Dsk w p g b n F m) (hc : Chg [] w w') : Dsk w' p g b n F m := h.keep hc (by simp) (by simp) (by simp)
theorem Dsk.low {w w' : World} {p g b n : Nat} {F : Nat → Sec} {m : Nat → Option Sec} (h : Dsk w p g b n F m) (hb : Below w.heap.size w w') : Dsk w' p g b n F m := h.kept ((Chg.refl [] w).of_below hb)
end Go.Proofs.YtmpajlpemabniaaGreat
