/-
  What a call keeps: the blocks that are named, and what is new, may have turned. Plain lemmas, no claim of their own.
-/
import Derived.Test.YtkdgoopldaoihaaGb1
import Derived.Test.YtkdgoopldaoihaaGb5
import Derived.Test.YtkdgoopldaoihaaGb4
import Derived.Deep.Cut
import Derived.Deep.RegionHeld3
import Derived.Test.YtkdgoopldaoihaaGb2
namespace Go.Proofs.Ytkdgoopldaoihaa
set_option linter.unusedVariables false
set_option linter.unusedSimpArgs false
open Go.RowKit

/-- only the blocks that are named, and what is new, has turned -/
structure Chg (l : List Nat) (a w : World) : Prop where
  os : w.os = a.os
  tape : w.tape = a.tape
  output : w.output = a.output
  size : a.heap.size ≤ w.heap.size
  block : ∀ k, k < a.heap.size → k ∉ l → w.heap[k]? = a.heap[k]?
theorem Chg.refl (l : List Nat) (a : World) : Chg l a a := ⟨rfl, rfl, rfl, Nat.le_refl _, fun _ _ _ => rfl⟩
theorem Chg.trans {l : List Nat} {a b c : World} (h : Chg l a b) (k : Chg l b c) : Chg l a c :=
  ⟨k.os.trans h.os, k.tape.trans h.tape, k.output.trans h.output, Nat.le_trans h.size k.size, fun i hi hn => (k.block i (Nat.lt_of_lt_of_le hi h.size) hn).trans (h.block i hi hn)⟩
theorem Chg.mono {l l' : List Nat} {a b : World} (h : Chg l a b) (hs : ∀ x ∈ l, x ∈ l' ∨ a.heap.size ≤ x) : Chg l' a b :=
  ⟨h.os, h.tape, h.output, h.size, fun k hk hn => h.block k hk (fun hm => by rcases hs k hm with h1 | h1; exact hn h1; omega)⟩
theorem Chg.then {l l' : List Nat} {a b c : World} (h : Chg l a b) (k : Chg l' b c) (hs : ∀ x ∈ l', x ∈ l ∨ a.heap.size ≤ x) : Chg l a c :=
  ⟨k.os.trans h.os, k.tape.trans h.tape, k.output.trans h.output, Nat.le_trans h.size k.size, fun i hi hn => (k.block i (Nat.lt_of_lt_of_le hi h.size) (fun hm => by rcases hs i hm with h1 | h1; exact hn h1; omega)).trans (h.block i hi hn)⟩
theorem Chg.drew {l : List Nat} {a b : World} (h : Chg l a b) : Chg l a b.drew := ⟨h.os, h.tape, h.output, h.size, h.block⟩
theorem Chg.drewN {l : List Nat} {a b : World} (h : Chg l a b) (n : Nat) : Chg l a (b.drewN n) := ⟨h.os, h.tape, h.output, h.size, h.block⟩
theorem Chg.qt {l : List Nat} {a b c : World} (h : Chg l a b) (k : Qt b c) : Chg l a c := by obtain ⟨n, rfl⟩ := k; exact h.drewN n
theorem Chg.alloc {l : List Nat} {a b : World} (h : Chg l a b) (o : Obj) : Chg l a (b.alloc o) :=
  ⟨h.os, h.tape, h.output, by simp; have := h.size; omega, fun k hk hn => (Below.heap_alloc b o k (by have := h.size; omega)).trans (h.block k hk hn)⟩
theorem setCells_heap (b : Nat) : ∀ (vs : List Value) (o : Nat) (w : World), (w.setCells b o vs).os = w.os ∧ (w.setCells b o vs).tape = w.tape ∧ (w.setCells b o vs).output = w.output ∧ (w.setCells b o vs).heap.size = w.heap.size ∧ ∀ k, k ≠ b → (w.setCells b o vs).heap[k]? = w.heap[k]?
  | [], _, _ => ⟨rfl, rfl, rfl, rfl, fun _ _ => rfl⟩
  | v :: r, o, w => by
    obtain ⟨h1, h2, h3, h4, h5⟩ := setCells_heap b r (o + 1) (w.setCell ⟨b, o, none⟩ v)
    rw [World.setCells]
    exact ⟨h1, h2, h3, by rw [h4, set_size], fun k hk => by rw [h5 k hk, Below.heap_setCell w ⟨b, o, none⟩ v k hk]⟩
theorem Chg.setCells {l : List Nat} {a w : World} (h : Chg l a w) {b : Nat} (hb : b ∈ l ∨ a.heap.size ≤ b) (o : Nat) (vs : List Value) : Chg l a (w.setCells b o vs) := by
  obtain ⟨h1, h2, h3, h4, h5⟩ := setCells_heap b vs o w
  refine ⟨h1.trans h.os, h2.trans h.tape, h3.trans h.output, by rw [h4]; exact h.size, fun k hk hn => (h5 k (fun e => ?_)).trans (h.block k hk hn)⟩
  subst e
  rcases hb with hb | hb
  · exact hn hb
  · omega
theorem Chg.setCell {l : List Nat} {a w : World} (h : Chg l a w) {p : Addr} (hb : p.block ∈ l ∨ a.heap.size ≤ p.block) (v : Value) : Chg l a (w.setCell p v) := by
  refine ⟨h.os, h.tape, h.output, by rw [set_size]; exact h.size, fun k hk hn => (Below.heap_setCell w p v k (fun e => ?_)).trans (h.block k hk hn)⟩
  subst e
  rcases hb with hb | hb
  · exact hn hb
  · omega
theorem Chg.grown {l : List Nat} {a w w' : World} (h : Chg l a w) {row : Option Nat} (hg : w.grownBy w' row) (hr : ∀ k, row = some k → k ∈ l ∨ a.heap.size ≤ k) : Chg l a w' :=
  ⟨hg.os.trans h.os, hg.tape.trans h.tape, hg.output.trans h.output, Nat.le_trans h.size hg.size, fun k hk hn => (hg.block k (by have := h.size; omega) (fun e => by
    rcases hr k e.symm with h1 | h1
    · exact hn h1
    · omega)).trans (h.block k hk hn)⟩
theorem Chg.of_below {l : List Nat} {a w w' : World} (h : Chg l a w) (hb : Below w.heap.size w w') : Chg l a w' :=
  ⟨hb.os.trans h.os, hb.tape.trans h.tape, hb.output.trans h.output, Nat.le_trans h.size hb.size, fun k hk hn => (hb.block k (by have := h.size; omega)).trans (h.block k hk hn)⟩
theorem Chg.below {l : List Nat} {a w : World} (h : Chg l a w) {B : Nat} (hB : B ≤ a.heap.size) (hl : ∀ x ∈ l, B ≤ x) : Below B a w :=
  ⟨h.os, h.tape, h.output, h.size, fun k hk => h.block k (by omega) (fun hm => by have := hl k hm; omega)⟩
theorem Chg.low {a w : World} (h : Chg [] a w) : Below a.heap.size a w := h.below (Nat.le_refl _) (by simp)
theorem below_chg {l : List Nat} {a w w' : World} {B : Nat} (hb : Below B a w) (h : Chg l w w') (hB : B ≤ w.heap.size) (hl : ∀ x ∈ l, B ≤ x) : Below B a w' := hb.trans (h.below hB hl)
theorem Chg.cell {l : List Nat} {a w : World} (h : Chg l a w) {b o : Nat} {v : Value} (hc : a.cell? ⟨b, o, none⟩ = some v) (hb : b ∉ l) : w.cell? ⟨b, o, none⟩ = some v :=
  (World.cell?_of_block (w := a) (w' := w) (a := ⟨b, o, none⟩) (h.block b (World.block_lt_of_cell? a _ hc) hb)).trans hc
end Go.Proofs.Ytkdgoopldaoihaa
namespace Go.Proofs.Ytkdgoopldaoihaa
open Go.RowKit Go.Deep
set_option linter.unusedVariables false
set_option linter.unusedSimpArgs false

theorem Lst.chg {w w' : World} {base : Nat} {e : TypeId} {v : Value} {xs : List Value} {l : List Nat} (h : Lst w base e v xs) (hc : Chg l w w') (hl : ∀ x ∈ l, ∀ cur, w.heap[x]? ≠ some (.cells cur e (0, 0))) : Lst w' base e v xs := by
  refine ⟨h.1, ?_⟩
  rcases h.2 with h1 | ⟨g, cap, cur, h1, h2, h3, h4⟩
  · exact .inl h1
  · exact .inr ⟨g, cap, cur, h1, h2, (hc.block g (Array.getElem?_eq_some_iff.1 h3).1 (fun hm => hl g hm cur h3)).trans h3, h4⟩
/-- the row that a slice of the call's own lies in -/
def rowOf (v : Value) : List Nat := match v.ownBlock with | some g => [g] | none => []
theorem grown_chg {w w' : World} {v : Value} (h : w.grownBy w' v.ownBlock) : Chg (rowOf v) w w' := (Chg.refl (rowOf v) w).grown h (fun k hk => .inl (by unfold rowOf; rw [hk]; simp))
theorem Lst.row {w : World} {base : Nat} {e : TypeId} {v : Value} {xs : List Value} (h : Lst w base e v xs) : ∀ x ∈ rowOf v, base ≤ x ∧ ∃ cur, w.heap[x]? = some (.cells cur e (0, 0)) := by
  intro x hx
  rcases h.2 with ⟨rfl, _⟩ | ⟨g, cap, cur, rfl, h2, h3, _⟩
  · simp [rowOf, Value.ownBlock] at hx
  · simp [rowOf, Value.ownBlock] at hx
    subst hx
    exact ⟨h2, cur, h3⟩
theorem Own.chg {w w' : World} {g : Nat} {t : TypeId} {cs : List Value} {l : List Nat} (h : Own w g t cs) (hc : Chg l w w') (hg : g ∉ l) : Own w' g t cs := (hc.block g h.lt hg).trans h
/-- append of one value, with all that it keeps -/
theorem wpList_app1g {P : Program} {w : World} {ops : Array Oper} {rest : List Oper} {o : Oper} {a : Act} {Q : Exit → Act → World → Prop} (hgd : o.guard = none) (s x : Operand) (t : TypeId)
    (ho : o.op = .call { callee := .builtin .append, args := #[s, x], argTypes := #[t, t] })
    (base : Nat) (e : TypeId) (z : Value) (bytes : Nat) (ht : P.underlying t = some (.slice e)) (hinfo : (P.info? e).map (fun i => (i.zero, i.size, i.bytes)) = some (some z, 1, bytes)) (hzs : z.cells.size = 1)
    (u : Value) (h1 : u.oneCell' = true) (v : Value) (xs : List Value) (hs : a.eval s = v) (hown : Lst w base e v xs)
    (hx : a.eval x = .slice (some ⟨w.heap.size, 0, none⟩) 1 1)
    (hlen : (xs.length + 1) * bytes ≤ 140737488355328) (hlen2 : xs.length + 1 ≤ 140737488355328) (hbase : base ≤ w.heap.size)
    (h : ∀ v' w', Hid (Lst w' base e v' (xs ++ [u])) → Chg (rowOf v) w w' → wpList P ops Q rest (a.put o.dst v') w') : wpList P ops Q (o :: rest) a (w.alloc (.cells #[u] e)) :=
  wpList_app hgd s x t ho base e z bytes ht hinfo hzs v xs hs (hown.alloc _) (some ⟨w.heap.size, 0, none⟩) (w.heap.size + 1) 1 1 [u] hx rfl (ro_one w e u) (by simpa using h1) hlen hlen2 (by simp; omega) fun v' w' h2 h3 => h v' w' h2 (((Chg.refl _ w).alloc _).trans (grown_chg h3))
/-- a row that lies apart from the blocks of l -/
def RoX (w : World) (l : List Nat) (a : Option Addr) (vs : List Value) : Prop := vs = [] ∨ ∃ b off, a = some ⟨b, off, none⟩ ∧ b < w.heap.size ∧ b ∉ l ∧ ∀ i, i < vs.length → w.cell? ⟨b, off + i, none⟩ = some (vs.getD i undef)
theorem RoX.ro {w : World} {l : List Nat} {a : Option Addr} {vs : List Value} (h : RoX w l a vs) : Ro w w.heap.size a vs := by
  rcases h with h | ⟨b, off, h1, h2, h3, h4⟩
  · exact .inl h
  · exact .inr ⟨b, off, h1, h2, h4⟩
theorem RoX.chg {w w' : World} {l : List Nat} {a : Option Addr} {vs : List Value} (h : RoX w l a vs) (hc : Chg l w w') : RoX w' l a vs := by
  rcases h with h | ⟨b, off, h1, h2, h3, h4⟩
  · exact .inl h
  · exact .inr ⟨b, off, h1, Nat.lt_of_lt_of_le h2 hc.size, h3, fun i hi => hc.cell (h4 i hi) h3⟩
theorem Ro.apart {w : World} {B : Nat} {l : List Nat} {a : Option Addr} {vs : List Value} (h : Ro w B a vs) (hB : B ≤ w.heap.size) (hl : ∀ x ∈ l, B ≤ x) : RoX w l a vs := by
  rcases h with h | ⟨b, off, h1, h2, h3⟩
  · exact .inl h
  · exact .inr ⟨b, off, h1, by omega, fun hm => by have := hl b hm; omega, h3⟩
theorem Lst.apart {w : World} {base : Nat} {e : TypeId} {a : Option Addr} {n c : Nat} {xs : List Value} {l : List Nat} (h : Lst w base e (.slice a n c) xs) (hl : ∀ x ∈ l, ∀ cur, w.heap[x]? ≠ some (.cells cur e (0, 0))) : RoX w l a xs := by
  obtain ⟨a', c', h1, h2, _⟩ := h.form
  injection h1 with h1 _ _
  subst h1
  rcases h2 with h2 | ⟨b, off, g1, g2, g3⟩
  · exact .inl h2
  · refine .inr ⟨b, off, g1, g2, fun hm => ?_, g3⟩
    rcases h.2 with ⟨hv, _⟩ | ⟨g, cap, cur, hv, _, hh, _⟩
    · injection hv with hv _ _
      rw [hv] at g1; cases g1
    · injection hv with hv _ _
      rw [hv] at g1
      injection g1 with g1
      injection g1 with g1 _ _
      subst g1
      exact hl g hm cur hh
theorem Lst.apart2 {w : World} {base : Nat} {e : TypeId} {a : Option Addr} {n c : Nat} {xs : List Value} {l : List Nat} (h : Lst w base e (.slice a n c) xs) (hl : ∀ x ∈ l, x < base ∨ ∀ cur, w.heap[x]? ≠ some (.cells cur e (0, 0))) : RoX w l a xs := by
  obtain ⟨a', c', h1, h2, _⟩ := h.form
  injection h1 with h1 _ _
  subst h1
  rcases h2 with h2 | ⟨b, off, g1, g2, g3⟩
  · exact .inl h2
  · refine .inr ⟨b, off, g1, g2, fun hm => ?_, g3⟩
    rcases h.2 with ⟨hv, _⟩ | ⟨g, cap, cur, hv, hb, hh, _⟩
    · injection hv with hv _ _
      rw [hv] at g1; cases g1
    · injection hv with hv _ _
      rw [hv] at g1
      injection g1 with g1
      injection g1 with g1 _ _
      subst g1
      rcases hl g hm with h | h
      · omega
      · exact h cur hh
end Go.Proofs.Ytkdgoopldaoihaa
namespace Go.Proofs.Ytkdgoopldaoihaa
open Go.RowKit Go.Deep
set_option linter.unusedVariables false
set_option linter.unusedSimpArgs false

/-- no row of int, or of uint64 -/
def Qui (w : World) (k : Nat) : Prop := ∀ cur, w.heap[k]? ≠ some (.cells cur 3 (0, 0)) ∧ w.heap[k]? ≠ some (.cells cur 22 (0, 0))
/-- all blocks stay, but for g, and rows of int and uint64 from base on -/
structure Fc (base g : Nat) (a w : World) : Prop where
  os : w.os = a.os
  tape : w.tape = a.tape
  output : w.output = a.output
  size : a.heap.size ≤ w.heap.size
  block : ∀ k, k < a.heap.size → k ≠ g → (k < base ∨ Qui a k) → w.heap[k]? = a.heap[k]?
theorem Fc.refl (base g : Nat) (w : World) : Fc base g w w := ⟨rfl, rfl, rfl, Nat.le_refl _, fun _ _ _ _ => rfl⟩
theorem Fc.trans {base g : Nat} {a b c : World} (h : Fc base g a b) (k : Fc base g b c) : Fc base g a c :=
  ⟨k.os.trans h.os, k.tape.trans h.tape, k.output.trans h.output, Nat.le_trans h.size k.size, fun i h1 h2 h3 => by
    have e := h.block i h1 h2 h3
    refine (k.block i (Nat.lt_of_lt_of_le h1 h.size) h2 ?_).trans e
    rcases h3 with h3 | h3
    · exact .inl h3
    · exact .inr (fun cur => by rw [e]; exact h3 cur)⟩
theorem Fc.of_chg {base g : Nat} {a b : World} {l : List Nat} (h : Chg l a b) (hl : ∀ x ∈ l, x = g ∨ (base ≤ x ∧ ¬ Qui a x)) : Fc base g a b :=
  ⟨h.os, h.tape, h.output, h.size, fun k h1 h2 h3 => h.block k h1 (fun hm => by
    rcases hl k hm with h4 | ⟨h4, h5⟩
    · exact h2 h4
    · rcases h3 with h3 | h3
      · omega
      · exact h5 h3)⟩
theorem Fc.below {base g B : Nat} {a b : World} (h : Fc base g a b) (hB : B ≤ a.heap.size) (hg : B ≤ g) (hb : B ≤ base) : Below B a b :=
  ⟨h.os, h.tape, h.output, h.size, fun k hk => h.block k (by omega) (by omega) (.inl (by omega))⟩
theorem Fc.of_below {base g : Nat} {a b : World} (h : Below a.heap.size a b) : Fc base g a b := ⟨h.os, h.tape, h.output, h.size, fun k hk _ _ => h.block k hk⟩
theorem Fc.alloc {base g : Nat} {a b : World} (h : Fc base g a b) (o : Obj) : Fc base g a (b.alloc o) := h.trans (.of_below ((Below.refl _ _).alloc (Nat.le_refl _) _))
theorem Own.quiT {w : World} {g : Nat} {t : TypeId} {cs : List Value} (h : Own w g t cs) (h1 : t ≠ 3) (h2 : t ≠ 22) : Qui w g := fun cur => by
  unfold Own at h
  rw [h]
  refine ⟨fun e => ?_, fun e => ?_⟩
  · injection e with e
    injection e with _ e _
    exact h1 e
  · injection e with e
    injection e with _ e _
    exact h2 e
theorem Own.fc {base g k : Nat} {a b : World} {t : TypeId} {cs : List Value} (h : Own a k t cs) (hc : Fc base g a b) (hk : k ≠ g) (h1 : t ≠ 3) (h2 : t ≠ 22) : Own b k t cs :=
  (hc.block k h.lt hk (.inr (h.quiT h1 h2))).trans h
theorem Own.fcl {base g k : Nat} {a b : World} {t : TypeId} {cs : List Value} (h : Own a k t cs) (hc : Fc base g a b) (hk : k ≠ g) (h1 : k < base) : Own b k t cs :=
  (hc.block k h.lt hk (.inl h1)).trans h
/-- a row whose block is no row of int or uint64, and not g -/
def RoQ (w : World) (g : Nat) (a : Option Addr) (vs : List Value) : Prop := vs = [] ∨ ∃ b off, a = some ⟨b, off, none⟩ ∧ b < w.heap.size ∧ b ≠ g ∧ Qui w b ∧ ∀ i, i < vs.length → w.cell? ⟨b, off + i, none⟩ = some (vs.getD i undef)
theorem RoQ.ro {w : World} {g : Nat} {a : Option Addr} {vs : List Value} (h : RoQ w g a vs) : Ro w w.heap.size a vs := by
  rcases h with h | ⟨b, off, h1, h2, _, _, h3⟩
  · exact .inl h
  · exact .inr ⟨b, off, h1, h2, h3⟩
theorem RoQ.fc {base g : Nat} {w w' : World} {a : Option Addr} {vs : List Value} (h : RoQ w g a vs) (hc : Fc base g w w') : RoQ w' g a vs := by
  rcases h with h | ⟨b, off, h1, h2, h3, h4, h5⟩
  · exact .inl h
  · have e := hc.block b h2 h3 (.inr h4)
    refine .inr ⟨b, off, h1, Nat.lt_of_lt_of_le h2 hc.size, h3, fun cur => by rw [e]; exact h4 cur, fun i hi => ?_⟩
    exact (World.cell?_of_block (w := w) (w' := w') (a := ⟨b, off + i, none⟩) e).trans (h5 i hi)
/-- a struct of two slices in block g, of type T: the widths and the numbers of F; the rows lie from base on -/
def Fst (w : World) (T : TypeId) (base g : Nat) (F : List (Nat × Nat)) : Prop :=
  ∃ v1 v2, Own w g T [v1, v2] ∧ Lst w base 3 v1 (i64s (fw F)) ∧ Lst w base 22 v2 (u64s (fv F))
theorem Fst.lt {w : World} {T : TypeId} {base g : Nat} {F : List (Nat × Nat)} (h : Fst w T base g F) : g < w.heap.size := by
  obtain ⟨v1, v2, h1, _⟩ := h
  exact h1.lt
theorem Fst.alloc {w : World} {T : TypeId} {base g : Nat} {F : List (Nat × Nat)} (h : Fst w T base g F) (o : Obj) : Fst (w.alloc o) T base g F := by
  obtain ⟨v1, v2, h1, h2, h3⟩ := h
  exact ⟨v1, v2, h1.alloc o, h2.alloc o, h3.alloc o⟩
theorem Fst.below {w w' : World} {T : TypeId} {base g : Nat} {F : List (Nat × Nat)} (h : Fst w T base g F) (hb : Below w.heap.size w w') : Fst w' T base g F := by
  obtain ⟨v1, v2, h1, h2, h3⟩ := h
  exact ⟨v1, v2, h1.below hb h1.lt, h2.below hb (Nat.le_refl _), h3.below hb (Nat.le_refl _)⟩
theorem Fst.new (w : World) (T : TypeId) (base : Nat) : Fst (w.alloc (.cells #[.slice none 0 0, .slice none 0 0] T)) T base w.heap.size [] :=
  ⟨_, _, Own.new w T _, Lst.nil _ _ _, Lst.nil _ _ _⟩
/-- rows of other element types are other blocks -/
theorem Lst.otherT {w : World} {base base' : Nat} {e e' : TypeId} {v v' : Value} {xs xs' : List Value} (h : Lst w base e v xs) (h' : Lst w base' e' v' xs') (hne : e ≠ e') : ∀ x ∈ rowOf v', ∀ cur, w.heap[x]? ≠ some (.cells cur e (0, 0)) := by
  intro x hx cur he
  obtain ⟨_, cur', h2⟩ := h'.row x hx
  rw [he] at h2
  injection h2 with h2
  injection h2 with _ h2 _
  exact hne h2
theorem Lst.ownT {w : World} {base : Nat} {e T : TypeId} {v : Value} {xs cs : List Value} {g : Nat} (h : Lst w base e v xs) (h' : Own w g T cs) (hne : e ≠ T) : g ∉ rowOf v := by
  intro hx
  obtain ⟨_, cur, h2⟩ := h.row g hx
  unfold Own at h'
  rw [h'] at h2
  injection h2 with h2
  injection h2 with _ h2 _
  exact hne h2.symm
theorem Own.notT' {w : World} {g : Nat} {t t' : TypeId} {cs : List Value} (h : Own w g t cs) (ht : t' ≠ t) : ∀ x ∈ [g], ∀ cur, w.heap[x]? ≠ some (.cells cur t' (0, 0)) := by
  intro x hx cur he
  simp only [List.mem_singleton] at hx
  subst hx
  unfold Own at h
  rw [he] at h
  injection h with h
  injection h with _ h _
  exact ht h
/-- an append to a row of int, or of uint64, from base on -/
theorem Fc.row {base g : Nat} {w w' : World} {e : TypeId} {v : Value} {xs : List Value} (h : Lst w base e v xs) (hc : Chg (rowOf v) w w') (he : e = 3 ∨ e = 22) : Fc base g w w' :=
  .of_chg hc fun x hx => .inr (by
    obtain ⟨h1, cur, h2⟩ := h.row x hx
    refine ⟨h1, fun hq => ?_⟩
    rcases he with rfl | rfl
    · exact (hq cur).1 h2
    · exact (hq cur).2 h2)
theorem Fc.set {base g : Nat} (w : World) (i : Nat) (v : Value) : Fc base g w (w.setCell ⟨g, i, none⟩ v) :=
  .of_chg ((Chg.refl [g] w).setCell (by simp) v) fun x hx => .inl (by simpa using hx)
/-- behind an append to the widths, and their store -/
theorem Fst.step1 {w w1 : World} {T : TypeId} {base g : Nat} {v1 v2 v1' : Value} {A A' B : List Value} (h1 : Own w g T [v1, v2]) (h2 : Lst w base 3 v1 A) (h3 : Lst w base 22 v2 B) (hT : T ≠ 3) (hT2 : T ≠ 22) (hl : Lst w1 base 3 v1' A') (hc : Chg (rowOf v1) w w1) :
    Own w1 g T [v1, v2] ∧ Own (w1.setCell ⟨g, 0, none⟩ v1') g T [v1', v2] ∧ Lst (w1.setCell ⟨g, 0, none⟩ v1') base 3 v1' A' ∧ Lst (w1.setCell ⟨g, 0, none⟩ v1') base 22 v2 B ∧ Fc base g w (w1.setCell ⟨g, 0, none⟩ v1') := by
  have g1 := h1.chg hc (h2.ownT h1 hT.symm)
  have g3 := h3.chg hc (h3.otherT h2 (by decide))
  have s1 : Chg [g] w1 (w1.setCell ⟨g, 0, none⟩ v1') := (Chg.refl [g] w1).setCell (by simp) _
  exact ⟨g1, g1.set 0 v1', hl.chg s1 (g1.notT' hT.symm), g3.chg s1 (g1.notT' hT2.symm), (Fc.row h2 hc (.inl rfl)).trans (Fc.set w1 0 v1')⟩
theorem Fst.step2 {w w1 : World} {T : TypeId} {base g : Nat} {v1 v2 v2' : Value} {A B' B : List Value} (h1 : Own w g T [v1, v2]) (h2 : Lst w base 3 v1 A) (h3 : Lst w base 22 v2 B) (hT : T ≠ 3) (hT2 : T ≠ 22) (hl : Lst w1 base 22 v2' B') (hc : Chg (rowOf v2) w w1) :
    Own w1 g T [v1, v2] ∧ Own (w1.setCell ⟨g, 1, none⟩ v2') g T [v1, v2'] ∧ Lst (w1.setCell ⟨g, 1, none⟩ v2') base 3 v1 A ∧ Lst (w1.setCell ⟨g, 1, none⟩ v2') base 22 v2' B' ∧ Fc base g w (w1.setCell ⟨g, 1, none⟩ v2') := by
  have g1 := h1.chg hc (h3.ownT h1 hT2.symm)
  have g3 := h2.chg hc (h2.otherT h3 (by decide))
  have s1 : Chg [g] w1 (w1.setCell ⟨g, 1, none⟩ v2') := (Chg.refl [g] w1).setCell (by simp) _
  exact ⟨g1, g1.set 1 v2', g3.chg s1 (g1.notT' hT.symm), hl.chg s1 (g1.notT' hT2.symm), (Fc.row h3 hc (.inr rfl)).trans (Fc.set w1 1 v2')⟩
end Go.Proofs.Ytkdgoopldaoihaa
namespace Go.Proofs.Ytkdgoopldaoihaa
open Go.RowKit Go.Deep
set_option linter.unusedVariables false
set_option linter.unusedSimpArgs false

theorem getN_any (bs : List UInt8) (n : Nat) (a : Option Addr) (c B k m : Nat) (w : World) (hn : bs.length = n) (h : Ro w B a (u8s bs)) (hB : B ≤ w.heap.size) (hl : n ≤ 1000000) (hk : k ≤ 100000000) (hm : m ≤ 64) :
    Calls Try.prog 66 #[.slice a n c, .int .i64 (k : Int), .int .i64 (m : Int)] w fun e w' => ∃ ok, e = .returned (.tuple #[.int .u64 (tkN bs k m : Nat), .bool ok]) ∧ Below w.heap.size w w' := by
  subst hn
  by_cases hle : k + m ≤ 8 * bs.length
  · refine (get_yes bs a c B k m w h hB hl (by omega) (by omega) (by omega) (by omega)).mono ?_
    rintro e w' ⟨rfl, hb⟩
    exact ⟨true, by simp [tkN, hle], hb⟩
  · refine (get_no a bs.length c k m w hl (by omega) (by omega) (by omega)).mono ?_
    rintro e w' ⟨rfl, hb⟩
    exact ⟨false, by simp [tkN, hle], hb⟩

/-- bytes that are read from the k-th bit on: a struct in block s, of type T -/
def Src (w : World) (T : TypeId) (B s : Nat) (bs : List UInt8) (k : Nat) : Prop :=
  (∃ a c, Own w s T [.slice a bs.length c, .int .i64 (k : Int)] ∧ Ro w B a (u8s bs)) ∧ B ≤ s ∧ bs.length ≤ 1000000
theorem Src.lt {w : World} {T : TypeId} {B s : Nat} {bs : List UInt8} {k : Nat} (h : Src w T B s bs k) : s < w.heap.size := by
  obtain ⟨⟨a, c, h1, _⟩, _⟩ := h
  exact h1.lt
theorem Src.chg {w w' : World} {T : TypeId} {B s : Nat} {bs : List UInt8} {k : Nat} {l : List Nat} (h : Src w T B s bs k) (hc : Chg l w w') (hs : s ∉ l) (hl : ∀ x ∈ l, B ≤ x) : Src w' T B s bs k := by
  obtain ⟨⟨a, c, h1, h2⟩, h3, h4⟩ := h
  exact ⟨⟨a, c, h1.chg hc hs, h2.below (hc.below (Nat.le_trans h3 (Nat.le_of_lt h1.lt)) hl) (Nat.le_refl _)⟩, h3, h4⟩
theorem Src.new0 {w w' : World} {T : TypeId} {B s : Nat} {bs : List UInt8} {k : Nat} (h : Src w T B s bs k) (hc : Chg [] w w') : Src w' T B s bs k := h.chg hc (by simp) (by simp)
theorem Src.notT {w : World} {T t : TypeId} {B s : Nat} {bs : List UInt8} {k : Nat} (h : Src w T B s bs k) (ht : t ≠ T) : ∀ x ∈ [s], ∀ cur, w.heap[x]? ≠ some (.cells cur t (0, 0)) := by
  obtain ⟨⟨a, c, h1, h2⟩, h3, h4⟩ := h
  exact h1.notT' ht

set_option maxHeartbeats 1000000 in
theorem ltake_any (bs : List UInt8) (B s k m : Nat) (w : World) (h : Src w 59 B s bs k) (hk : k ≤ 1000000) (hm : m ≤ 64) :
    Calls Try.prog 53 #[.pointer (some ⟨s, 0, none⟩), .int .i64 (m : Int)] w fun e w' => e = .returned (.int .u64 (tkN bs k m : Nat)) ∧ Src w' 59 B s bs (k + m) ∧ Chg [s] w w' := by
  obtain ⟨⟨a, c, h1, h2⟩, h3, h4⟩ := h
  have HG : Hid (∀ W, Below w.heap.size w W → Calls Try.prog 66 #[.slice a bs.length c, .int .i64 (k : Int), .int .i64 (m : Int)] W fun e w' => ∃ ok, e = .returned (.tuple #[.int .u64 (tkN bs k m : Nat), .bool ok]) ∧ Below W.heap.size W w') := Lib.hid fun W hW =>
    getN_any bs bs.length a c B k m W rfl (h2.below hW (by have := h1.lt; omega)) (by have := h1.lt; have := hW.size; omega) h4 (by omega) hm
  obtain ⟨v, hv⟩ : ∃ v, tkN bs k m = v := ⟨_, rfl⟩
  rw [hv] at HG ⊢
  have c0 := h1.cell 0
  have c1 := h1.cell 1
  have hz := h1.lt
  simp at c0 c1
  have HO := Lib.hid h1
  have HR := Lib.hid (And.intro h2 (And.intro h3 h4))
  obtain ⟨n, hn⟩ : ∃ n, bs.length = n := ⟨_, rfl⟩
  rw [hn] at HO HG c0
  have HN := Lib.hid hn
  have e1 : wrap64 ((k : Int) + (m : Int)) = ((k + m : Nat) : Int) := by unfold wrap64; omega
  have HSS : Hid (Below w.heap.size w w.drew ∧ w.drew.cell? ⟨s, 0, none⟩ = some (.slice a n c) ∧ w.drew.cell? ⟨s, 1, none⟩ = some (.int .i64 (k : Int))) := Lib.hid ⟨(Below.refl _ _).drew, c0, c1⟩
  have HZ := Lib.hid hz
  clear h1 h2 h3 h4 hn hv
  go_enter Try.func53, Try.ntmps53
  go_wp2_with fail
  clear c0 c1 hz
  refine wp_region_held_drew (S := (fun W => Below w.heap.size w W ∧ W.cell? ⟨s, 0, none⟩ = some (.slice a n c) ∧ W.cell? ⟨s, 1, none⟩ = some (.int .i64 (k : Int)))) (by kernel_rfl) HSS.out (fun hHeld => ?_)
  refine wpAnyH_take (i := 0) (v := ?_) rfl (by kernel_rfl) (by kernel_rfl) (by kernel_rfl) (fun _ _ _ h => h) (Or.inl ⟨by kernel_rfl, ?_⟩) hHeld ?_
  rotate_left
  · (intro w hSw; first | (go_simp; done) | (go_simp; with_reducible rfl))
  (try simp only [Act.put, List.getElem_toArray, List.getElem_cons_succ, List.getElem_cons_zero, List.setIfInBounds_toArray, List.set_cons_zero, List.set_cons_succ])
  refine wpAnyH_take (i := 1) (v := ?_) rfl (by kernel_rfl) (by kernel_rfl) (by kernel_rfl) (fun _ _ _ h => h) (Or.inl ⟨by kernel_rfl, ?_⟩) hHeld ?_
  rotate_left
  · (intro w hSw; first | (go_simp; done) | (go_simp; with_reducible rfl))
  (try simp only [Act.put, List.getElem_toArray, List.getElem_cons_succ, List.getElem_cons_zero, List.setIfInBounds_toArray, List.set_cons_zero, List.set_cons_succ])
  refine wpAnyH_take (i := 2) (v := ?_) rfl (by kernel_rfl) (by kernel_rfl) (by kernel_rfl) (fun _ _ _ h => h) (Or.inl ⟨by kernel_rfl, ?_⟩) hHeld ?_
  rotate_left
  · (intro w hSw; first | (go_simp; done) | (go_simp; with_reducible rfl))
  (try simp only [Act.put, List.getElem_toArray, List.getElem_cons_succ, List.getElem_cons_zero, List.setIfInBounds_toArray, List.set_cons_zero, List.set_cons_succ])
  refine wpAnyH_take (i := 3) (v := ?_) rfl (by kernel_rfl) (by kernel_rfl) (by kernel_rfl) (fun _ _ _ h => h) (Or.inl ⟨by kernel_rfl, ?_⟩) hHeld ?_
  rotate_left
  · (intro w hSw; first | (go_simp; done) | (go_simp; with_reducible rfl))
  (try simp only [Act.put, List.getElem_toArray, List.getElem_cons_succ, List.getElem_cons_zero, List.setIfInBounds_toArray, List.set_cons_zero, List.set_cons_succ])
  refine wpAnyH_take (i := 4) (v := ?_) rfl (by kernel_rfl) (by kernel_rfl) (by kernel_rfl) (fun _ _ _ h => h) (Or.inl ⟨by kernel_rfl, ?_⟩) hHeld ?_
  rotate_left
  · (intro w hSw; first | (go_simp; done) | (go_simp; with_reducible rfl))
  (try simp only [Act.put, List.getElem_toArray, List.getElem_cons_succ, List.getElem_cons_zero, List.setIfInBounds_toArray, List.set_cons_zero, List.set_cons_succ])
  refine wpAnyH_take (i := 5) (v := ?_) rfl (by kernel_rfl) (by kernel_rfl) (by kernel_rfl) (fun _ _ _ h => h) (Or.inl ⟨by kernel_rfl, ?_⟩) hHeld ?_
  rotate_left
  · (intro w hSw; first | (go_simp; done) | (go_simp; with_reducible rfl))
  (try simp only [Act.put, List.getElem_toArray, List.getElem_cons_succ, List.getElem_cons_zero, List.setIfInBounds_toArray, List.set_cons_zero, List.set_cons_succ])
  refine wpAnyH_take (i := 6) (v := ?_) rfl (by kernel_rfl) (by kernel_rfl) (by kernel_rfl) (fun _ _ _ h => h) (Or.inl ⟨by kernel_rfl, ?_⟩) hHeld ?_
  rotate_left
  · (intro w hSw; first | (go_simp; done) | (go_simp; with_reducible rfl))
  (try simp only [Act.put, List.getElem_toArray, List.getElem_cons_succ, List.getElem_cons_zero, List.setIfInBounds_toArray, List.set_cons_zero, List.set_cons_succ])
  refine wpAnyH_take (i := 7) (v := ?_) rfl (by kernel_rfl) (by kernel_rfl) (by kernel_rfl) (fun _ _ _ h => h) (Or.inl ⟨by kernel_rfl, ?_⟩) hHeld ?_
  rotate_left
  · (intro w hSw; first | (go_simp; done) | (go_simp; with_reducible rfl))
  (try simp only [Act.put, List.getElem_toArray, List.getElem_cons_succ, List.getElem_cons_zero, List.setIfInBounds_toArray, List.set_cons_zero, List.set_cons_succ])
  refine wpAnyH_take (i := 8) (v := ?_) rfl (by kernel_rfl) (by kernel_rfl) (by kernel_rfl) (fun _ _ _ h => h) (Or.inl ⟨by kernel_rfl, ?_⟩) hHeld ?_
  rotate_left
  · (intro w hSw; first | (go_simp; done) | (go_simp; with_reducible rfl))
  (try simp only [Act.put, List.getElem_toArray, List.getElem_cons_succ, List.getElem_cons_zero, List.setIfInBounds_toArray, List.set_cons_zero, List.set_cons_succ])
  refine wpAnyH_ready (rs := [9]) (by kernel_rfl) (by simp) (AllReadyH.cons rfl (fun K hK => ?_) AllReadyH.nil)
  have hH := hHeld
  (go_simp; go_at_call 66; refine (HG.out _ hH.1).mono ?_; rintro e w6 ⟨ok, rfl, hb6⟩)
  refine hK.out _ _ (by exact ⟨hH.1.trans (hb6.mono hH.1.size), cell_keep hb6 hH.2.1 (World.block_lt_of_cell? _ _ hH.2.1), cell_keep hb6 hH.2.2 (World.block_lt_of_cell? _ _ hH.2.2)⟩) (fun hHq1 => ?_)
  clear hK K hH 
  (try simp only [Act.put, List.getElem_toArray, List.getElem_cons_succ, List.getElem_cons_zero, List.setIfInBounds_toArray, List.set_cons_zero, List.set_cons_succ])
  refine wpAnyH_take (i := 10) (v := ?_) rfl (by kernel_rfl) (by kernel_rfl) (by kernel_rfl) (fun _ _ _ h => h) (Or.inl ⟨by kernel_rfl, ?_⟩) hHq1 ?_
  rotate_left
  · (intro w hSw; first | (go_simp; done) | (go_simp; with_reducible rfl))
  (try simp only [Act.put, List.getElem_toArray, List.getElem_cons_succ, List.getElem_cons_zero, List.setIfInBounds_toArray, List.set_cons_zero, List.set_cons_succ])
  refine wpAnyH_take (i := 11) (v := ?_) rfl (by kernel_rfl) (by kernel_rfl) (by kernel_rfl) (fun _ _ _ h => h) (Or.inl ⟨by kernel_rfl, ?_⟩) hHq1 ?_
  rotate_left
  · (intro w hSw; first | (go_simp; done) | (go_simp; with_reducible rfl))
  (try simp only [Act.put, List.getElem_toArray, List.getElem_cons_succ, List.getElem_cons_zero, List.setIfInBounds_toArray, List.set_cons_zero, List.set_cons_succ])
  refine wpAnyH_take (i := 12) (v := ?_) rfl (by kernel_rfl) (by kernel_rfl) (by kernel_rfl) (fun _ _ _ h => h) (Or.inl ⟨by kernel_rfl, ?_⟩) hHq1 ?_
  rotate_left
  · (intro w hSw; first | (go_simp; done) | (go_simp; with_reducible rfl))
  (try simp only [Act.put, List.getElem_toArray, List.getElem_cons_succ, List.getElem_cons_zero, List.setIfInBounds_toArray, List.set_cons_zero, List.set_cons_succ])
  refine wpAnyH_take (i := 13) (v := ?_) rfl (by kernel_rfl) (by kernel_rfl) (by kernel_rfl) (fun _ _ _ h => h) (Or.inl ⟨by kernel_rfl, ?_⟩) hHq1 ?_
  rotate_left
  · (intro w hSw; first | (go_simp; done) | (go_simp; with_reducible rfl))
  (try simp only [Act.put, List.getElem_toArray, List.getElem_cons_succ, List.getElem_cons_zero, List.setIfInBounds_toArray, List.set_cons_zero, List.set_cons_succ])
  refine wpAnyH_take (i := 14) (v := ?_) rfl (by kernel_rfl) (by kernel_rfl) (by kernel_rfl) (fun _ _ _ h => h) (Or.inl ⟨by kernel_rfl, ?_⟩) hHq1 ?_
  rotate_left
  · (intro w hSw; first | (go_simp; done) | (go_simp; with_reducible rfl))
  (try simp only [Act.put, List.getElem_toArray, List.getElem_cons_succ, List.getElem_cons_zero, List.setIfInBounds_toArray, List.set_cons_zero, List.set_cons_succ])
  refine wpAnyH_done (by kernel_rfl) ?_ _
  have hEnd := hHq1
  have hb := hEnd.1
  have HB := Lib.hid hb
  have HO2 := Lib.hid (HO.out.below hb HZ.out)
  have q1 := HO2.out.cell 1
  have f1 := HO2.out.frozen 1
  have hz2 := HO2.out.lt
  simp at q1
  clear hHeld hEnd hb hb6
  go_wp2_with fail
  go_ret
  refine ⟨rfl, ⟨⟨a, c, ?_, (HR.out.1.below HB.out (by have := HZ.out; have := HR.out.2.1; omega)).below ((Below.refl B _).setCell (by exact HR.out.2.1) _) (Nat.le_refl _)⟩, HR.out.2.1, HR.out.2.2⟩, ?_⟩
  · rw [HN.out]
    exact HO2.out.set 1 _
  · exact ((Chg.refl [s] w).of_below HB.out).setCell (by simp) _

theorem tkN_64 (bs : List UInt8) (k m : Nat) (hm : m ≤ 64) : tkN bs k m < 18446744073709551616 := by
  have h1 := tkN_lt bs k m
  have h2 := pow_le_64 hm
  omega
set_option maxHeartbeats 1000000 in
theorem ltakeC_any (bs : List UInt8) (B s k : Nat) (w : World) (h : Src w 59 B s bs k) (hk : k ≤ 1000000) :
    Calls Try.prog 54 #[.pointer (some ⟨s, 0, none⟩)] w fun e w' => e = .returned (.int .u64 (tkN bs k 2 + 1 : Nat)) ∧ Src w' 59 B s bs (k + 2) ∧ Chg [s] w w' := by
  have HT := Lib.hid (ltake_any bs B s k 2 w h hk (by omega))
  have h4 := tkN_lt bs k 2
  generalize tkN bs k 2 = v at *
  have e1 : IntKind.u64.wrap ((v : Int) + 1) = ((v + 1 : Nat) : Int) := wrap_u64_nat (v + 1) (by omega)
  clear h
  go_enter Try.func54, Try.ntmps54
  go_wp2_with fail
  refine HT.out.mono ?_
  rintro e w1 ⟨rfl, h1, h2⟩
  have H1 := Lib.hid h1
  have H2 := Lib.hid h2
  clear h1 h2
  go_wp2_with fail
  go_ret
  exact ⟨ret_int (by omega), H1.out, H2.out⟩
theorem rep_at {α : Type} {p : Nat → α × Nat} {d : Nat} (h : ∀ k, (p k).2 ≤ k + d) : ∀ n k, (rep p n k).2 ≤ k + n * d
  | 0, k => by simp [rep]
  | n + 1, k => by
    have ih := rep_at h n k
    have := h (rep p n k).2
    rw [rep, Nat.succ_mul]
    simp only
    omega
theorem pCh_at (bs : List UInt8) (k : Nat) : (pCh bs k).2 ≤ k + 22 ∧ (pCh bs k).1.length ≤ 4 := by
  have h1 := rep_at (p := pU bs) (d := 5) (fun k => Nat.le_refl _) (tkN bs k 2 + 1) (k + 2)
  have h2 := tkN_lt bs k 2
  unfold pCh
  rw [rep_length]
  omega
theorem pU_at (bs : List UInt8) (n k : Nat) : (rep (pU bs) n k).2 = k + 5 * n := by
  induction n with
  | zero => rfl
  | succ n ih => simp only [rep, ih, pU]; omega
set_option maxHeartbeats 1000000 in
theorem lpch_any (bs : List UInt8) (B s k : Nat) (w : World) (h : Src w 59 B s bs k) (hk : k ≤ 900000) :
    Calls Try.prog 67 #[.pointer (some ⟨s, 0, none⟩)] w fun e w' => ∃ a c, e = .returned (.slice a (pCh bs k).1.length c) ∧ Lst w' w.heap.size 3 (.slice a (pCh bs k).1.length c) (i64s (pCh bs k).1) ∧ Src w' 59 B s bs (pCh bs k).2 ∧ Chg [s] w w' := by
  have HT := Lib.hid (ltakeC_any bs B s k w h (by omega))
  have HZ := Lib.hid h.lt
  obtain ⟨n, hn⟩ : ∃ n, tkN bs k 2 + 1 = n := ⟨_, rfl⟩
  have hn4 : n ≤ 4 := by have := tkN_lt bs k 2; omega
  have HP : Hid (pCh bs k = rep (pU bs) n (k + 2)) := Lib.hid (by unfold pCh; rw [hn])
  rw [hn] at HT
  have hn4' : (n : Int) ≤ 4 := by omega
  have HK := Lib.hid hk
  clear h hn hk
  go_enter Try.func67, Try.ntmps67
  go_wp2_with fail
  refine HT.out.mono ?_
  rintro e w1 ⟨rfl, h1, h2⟩
  have H1 : Hid (Src w1 59 B s bs (rep (pU bs) 0 (k + 2)).2) := Lib.hid h1
  have H2 := Lib.hid h2
  clear h1 h2
  go_wp2_with fail
  go_loopw [3, 6] (fun v i wr => ∃ (j : Nat) (al : Option Addr) (cl : Nat), j ≤ n ∧ i = .int .u64 (j : Int) ∧ v = .slice al j cl ∧ Hid (Lst wr w.heap.size 3 (.slice al j cl) (i64s (rep (pU bs) j (k + 2)).1)) ∧ Hid (Src wr 59 B s bs (rep (pU bs) j (k + 2)).2) ∧ Hid (Chg [s] w wr)) (fun _ i _ => n - (intOf i).toNat)
  case atStart => exact ⟨0, none, 0, Nat.zero_le _, rfl, rfl, Lib.hid (Lst.nil _ _ _), H1, H2⟩
  case round =>
    obtain ⟨j, al, cl, hj, rfl, rfl, HL, HX, HC⟩ := hrel
    rename World => w6
    by_cases hlt : j < n
    · have hj0 : (0 : Int) ≤ (j : Int) := by omega
      have hj1 : (j : Int) < (n : Int) := by omega
      have HR : Hid (rep (pU bs) (j + 1) (k + 2) = ((rep (pU bs) j (k + 2)).1 ++ [(pU bs (rep (pU bs) j (k + 2)).2).1], (pU bs (rep (pU bs) j (k + 2)).2).2)) := Lib.hid rfl
      have HLn : Hid ((i64s (rep (pU bs) j (k + 2)).1).length ≤ 4) := Lib.hid (by simp [i64s, rep_length]; omega)
      have HQ := pU_at bs j (k + 2)
      generalize rep (pU bs) j (k + 2) = r at *
      obtain ⟨xs, q⟩ := r
      simp only [pU] at HR HL HX HLn HQ
      have HTK := Lib.hid (ltake_any bs B s q 5 w6 HX.out (by have := HK.out; omega) (by omega))
      have hv := tkN_lt bs q 5
      generalize tkN bs q 5 = v at *
      have e2 : IntKind.i64.wrap (v : Int) = (v : Int) := by rw [IntKind.wrap_i64]; omega
      clear HQ
      go_wp2_with fail
      refine HTK.out.mono ?_
      rintro e w7 ⟨rfl, h1, h2⟩
      have H1 := Lib.hid h1
      have HC7 := Lib.hid (HC.out.trans h2)
      have HL7 := Lib.hid (HL.out.chg h2 (HX.out.notT (by decide)))
      clear h1 h2
      go_wp2_with (at_builtin; refine wpList_app1g rfl (.tmp 8) (.tmp 12) 36 rfl w.heap.size 3 (.int .i64 0) 8 Try.underlying36 Try.info_i64 rfl (.int .i64 (v : Int)) rfl (.slice al j cl) (i64s xs) rfl HL7.out rfl (by have := HLn.out; omega) (by have := HLn.out; omega) HC7.out.size ?_)
      intro v' w8 hl8 hc8
      have hrow := fun x (hx : x ∈ rowOf (.slice al j cl)) => (HL7.out.row x hx).1
      have hns : s ∉ rowOf (.slice al j cl) := fun hx => by have := hrow s hx; have := HZ.out; omega
      have HX8 := Lib.hid (H1.out.chg hc8 hns (fun x hx => by have := hrow x hx; have := H1.out.2.1; have := HZ.out; omega))
      have HC8 : Hid (Chg [s] w w8) := Lib.hid (HC7.out.then hc8 (fun x hx => .inr (hrow x hx)))
      have HL8 : Hid (Lst w8 w.heap.size 3 v' (i64s (xs ++ [(v : Int)]))) := Lib.hid (by have := hl8.out; simpa [i64s] using this)
      have HLen : Hid ((i64s (xs ++ [(v : Int)])).length = j + 1) := Lib.hid (by
        obtain ⟨a', c', he, _⟩ := HL7.out.form
        injection he with _ h2 _
        simp [i64s] at h2 ⊢
        omega)
      clear hrow hns hl8 hc8
      obtain ⟨a8, c8, hv8, _, _, _⟩ := HL8.out.form
      rw [HLen.out] at hv8
      subst hv8
      go_wp2_with fail
      go_roundw
      case rel => exact ⟨j + 1, a8, c8, by omega, by go_num, rfl, by rw [HR.out]; exact HL8, by rw [HR.out]; exact HX8, HC8⟩
      case measure => simp [intOf]; omega
    · obtain rfl : j = n := by omega
      go_wp2_with fail
      go_ret
      rw [HP.out]
      have e : (rep (pU bs) j (k + 2)).1.length = j := rep_length _ _ _
      rw [e]
      exact ⟨al, cl, rfl, HL.out, HX.out, HC.out⟩
end Go.Proofs.Ytkdgoopldaoihaa
namespace Go.Proofs.Ytkdgoopldaoihaa
open Go.RowKit Go.Deep Go.Shelf
set_option linter.unusedVariables false
set_option linter.unusedSimpArgs false

/-- the last one below n whose From is at most a, or 0 -/
def lastLe (L : List Sg) (a : Nat) : Nat → Nat
  | 0 => 0
  | n + 1 => if (sx L n).1 ≤ a then n else lastLe L a n
def segN (x : Ly) (a : Nat) : Nat := lastLe x.s a x.s.length
def segI (x : Ly) (a : Nat) : Int := if lright x = true ∧ a < 1048576 then (segN x a : Int) else -1
theorem lastLe_lt (L : List Sg) (a n : Nat) (h : 0 < n) : lastLe L a n < n := by
  induction n with
  | zero => omega
  | succ n ih =>
    simp only [lastLe]
    split
    · omega
    · rcases Nat.eq_zero_or_pos n with rfl | h0
      · simp [lastLe]
      · have := ih h0; omega
theorem lastLe_is (L : List Sg) (a n : Nat) (hn : 0 < n) (h0 : (sx L 0).1 ≤ a) : (sx L (lastLe L a n)).1 ≤ a ∧ ∀ j, lastLe L a n < j → j < n → a < (sx L j).1 := by
  induction n with
  | zero => omega
  | succ n ih =>
    simp only [lastLe]
    split
    · exact ⟨by assumption, by omega⟩
    · rename_i hc
      rcases Nat.eq_zero_or_pos n with rfl | hp
      · exact absurd h0 hc
      · obtain ⟨g1, g2⟩ := ih hp
        refine ⟨g1, fun j h1 h2 => ?_⟩
        by_cases e : j = n
        · subst e; omega
        · exact g2 j h1 (by omega)
theorem sg_mono {L : List Sg} (h : sgOk L = true) {i j : Nat} (hij : i < j) (hj : j < L.length) : (sx L i).1 < (sx L j).1 := by
  have hs := (sgOk_iff.1 h).2.2.2
  induction j with
  | zero => omega
  | succ j ih =>
    have := hs j hj
    by_cases e : i = j
    · subst e; exact this
    · have := ih (by omega) (by omega); omega
/-- the index is the only one of its kind -/
theorem segN_eq {x : Ly} (h : lright x = true) {a i : Nat} (hi : i < x.s.length) (h1 : (sx x.s i).1 ≤ a) (h2 : ∀ j, i < j → j < x.s.length → a < (sx x.s j).1) : segN x a = i := by
  have hs := (lright_iff.1 h).2.2
  have h0 := (sgOk_iff.1 hs).2.1
  obtain ⟨g1, g2⟩ := lastLe_is x.s a x.s.length (by omega) (by omega)
  have hlt := lastLe_lt x.s a x.s.length (by omega)
  unfold segN
  rcases Nat.lt_trichotomy (lastLe x.s a x.s.length) i with hc | hc | hc
  · have := g2 i hc hi; omega
  · exact hc
  · have := h2 _ hc hlt; omega
theorem segN_is {x : Ly} (h : lright x = true) (a : Nat) : segN x a < x.s.length ∧ (sx x.s (segN x a)).1 ≤ a ∧ ∀ j, segN x a < j → j < x.s.length → a < (sx x.s j).1 := by
  have hs := (lright_iff.1 h).2.2
  have h0 := sgOk_iff.1 hs
  obtain ⟨g1, g2⟩ := lastLe_is x.s a x.s.length (by omega) (by omega)
  exact ⟨lastLe_lt _ _ _ (by omega), g1, g2⟩

set_option maxHeartbeats 1000000 in
set_option maxRecDepth 100000 in
theorem segment_any (A : LyT) (B : Nat) (a : Nat) (w : World) (h : LyIn w B A) (hB : B ≤ w.heap.size) (hf : SgFit A.sg) :
    Calls Try.prog 19 #[A.val, .int .u64 (a : Int)] w fun e w' => e = .returned (.int .i64 (segI A.x a)) ∧ Below w.heap.size w w' := by
  obtain ⟨W, HWW⟩ : ∃ W, Hid (w.alloc (.cells #[.int .u64 (A.e : Int), .slice A.a A.sg.length A.c, .int .i64 A.q] 25) = W) := ⟨_, Lib.hid rfl⟩
  have hWb : Below w.heap.size w W := by rw [← HWW.out]; exact (Below.refl _ _).alloc (Nat.le_refl _) _
  have hws : W.heap.size = w.heap.size + 1 := by rw [← HWW.out]; simp
  have hR := lright_any A B W (h.below hWb hB) (by omega) hf
  have o1 : Own W w.heap.size 25 [.int .u64 (A.e : Int), .slice A.a A.sg.length A.c, .int .i64 A.q] := by rw [← HWW.out]; exact Own.new w _ _
  unfold segI
  obtain ⟨r, HR0⟩ : ∃ r, Hid (lright A.x = r) := ⟨_, Lib.hid rfl⟩
  rw [HR0.out] at hR ⊢
  have HI := Lib.hid h
  have HR := Lib.hid hR
  have HB := Lib.hid hWb
  have HO := Lib.hid o1
  have HS := Lib.hid hB
  have HF := Lib.hid hf
  have HZ := Lib.hid hws
  have hz := o1.lt
  have c0 := o1.cell 0
  have c1 := o1.cell 1
  have c2 := o1.cell 2
  simp at c0 c1 c2
  clear hR hWb o1 h hB hf hws
  cases r with
  | false =>
    rw [if_neg (by simp)]
    obtain ⟨ep, sa, c, L, q⟩ := A
    simp only [LyT.val] at *
    generalize L.length = n at *
    go_enter Try.func19, Try.ntmps19
    go_upto_region 1 with fail
    rw [HWW.out]
    go_wp2_with fail
    refine HR.out.mono ?_
    rintro e w' ⟨rfl, hb⟩
    have H2 := Lib.hid (HB.out.trans (hb.mono HB.out.size))
    clear hb
    go_wp2_with fail
    go_ret
    exact ⟨rfl, H2.out⟩
  | true =>
    by_cases ha : a < 1048576
    · rw [if_pos ⟨rfl, ha⟩]
      have ha1 : decide ((1048576 : Int) ≤ (a : Int)) = false := by simp; omega
      have HN2 : Hid (segN A.x a = lastLe (sgx A.sg) a A.sg.length) := Lib.hid (by unfold segN; simp [LyT.x])
      have hn4 : 1 ≤ A.sg.length ∧ A.sg.length ≤ 4 := by
        have := (sgOk_iff.1 (lright_iff.1 HR0.out).2.2).1
        simpa [LyT.x] using this
      obtain ⟨hn4, hn5⟩ := hn4
      rw [HN2.out]
      clear HN2 HR0 ha
      obtain ⟨ep, sa, c, L, q⟩ := A
      simp only [LyT.val] at *
      generalize hN : L.length = n at *
      have HN := Lib.hid hN
      have hn6 : (n : Int) ≤ 4 := by omega
      clear hN hn4 hn5
      go_enter Try.func19, Try.ntmps19
      go_upto_region 1 with fail
      rw [HWW.out]
      go_wp2_with fail
      refine HR.out.mono ?_
      rintro e w1 ⟨rfl, hb⟩
      have HB2 := Lib.hid (HB.out.trans (hb.mono HB.out.size))
      have HO2 := Lib.hid (HO.out.below hb HO.out.lt)
      have d0 := HO2.out.cell 0
      have d1 := HO2.out.cell 1
      have d2 := HO2.out.cell 2
      have hz1 := HO2.out.lt
      simp at d0 d1 d2
      clear hb c0 c1 c2
      go_wp2_with fail
      go_loopw [5, 18] (fun x i wr => ∃ k : Nat, k ≤ n ∧ i = .int .i64 (k : Int) ∧ x = .int .i64 (lastLe (sgx L) a k : Nat) ∧ Hid (Below w.heap.size w wr)) (fun _ i _ => n - (intOf i).toNat)
      case atStart => exact ⟨0, Nat.zero_le _, rfl, rfl, HB2⟩
      case round =>
        obtain ⟨k, hk, rfl, rfl, HBk⟩ := hrel
        by_cases hlt : k < n
        · have hkL : k < L.length := by rw [HN.out]; exact hlt
          obtain ⟨b, off, rfl, hb, hc⟩ := (HI.out.1.below HBk.out HS.out).sg (show 0 < L.length by omega)
          obtain ⟨e1, e2⟩ := hc k hkL
          clear hc
          have hk0 : (0 : Int) ≤ (k : Int) := by omega
          have hk1 : (k : Int) < (n : Int) := by omega
          obtain ⟨f, hf⟩ : ∃ f, (st L k).f = f := ⟨_, rfl⟩
          have HL : Hid (lastLe (sgx L) a (k + 1) = if f ≤ a then k else lastLe (sgx L) a k) := Lib.hid (by have e : (sx (sgx L) k).1 = f := (by rw [sx_sgx]; exact hf); simp only [lastLe, e])
          rw [hf] at e1
          generalize (st L k).a = x2 at *
          generalize (st L k).ch.length = x3 at *
          generalize (st L k).c = x4 at *
          by_cases hfa : f ≤ a
          · have hfa' : (f : Int) ≤ (a : Int) := by omega
            have HL2 := Lib.hid (HL.out.trans (if_pos hfa))
            clear hfa HL hf
            go_wp2_with fail
            go_roundw
            case rel => exact ⟨k + 1, by omega, by go_num, by rw [HL2.out], Lib.hid (HBk.out.alloc (HBk.out.size) _)⟩
            case measure => simp [intOf]; omega
          · have hfa' : ¬ (f : Int) ≤ (a : Int) := by omega
            have HL2 := Lib.hid (HL.out.trans (if_neg hfa))
            clear hfa HL hf
            go_wp2_with fail
            go_roundw
            case rel => exact ⟨k + 1, by omega, by go_num, by rw [HL2.out], Lib.hid (HBk.out.alloc (HBk.out.size) _)⟩
            case measure => simp [intOf]; omega
        · obtain rfl : k = n := by omega
          go_wp2_with fail
          go_ret
          exact ⟨rfl, HBk.out⟩
    · rw [if_neg (by omega)]
      have ha1 : (1048576 : Int) ≤ (a : Int) := by omega
      clear ha
      obtain ⟨ep, sa, c, L, q⟩ := A
      simp only [LyT.val] at *
      generalize L.length = n at *
      go_enter Try.func19, Try.ntmps19
      go_upto_region 1 with fail
      rw [HWW.out]
      go_wp2_with fail
      refine HR.out.mono ?_
      rintro e w' ⟨rfl, hb⟩
      have H2 := Lib.hid (HB.out.trans (hb.mono HB.out.size))
      clear hb
      go_wp2_with fail
      go_ret
      exact ⟨rfl, H2.out⟩
end Go.Proofs.Ytkdgoopldaoihaa
namespace Go.Proofs.Ytkdgoopldaoihaa
open Go.RowKit Go.Deep
set_option linter.unusedVariables false
set_option linter.unusedSimpArgs false

/-- a slice of segments of the call's own -/
def Sl (w : World) (base : Nat) (v : Value) (L : List SgT) : Prop := w.ownsRow base 49 2 v L.length (sgv L)
theorem Sl.nil (w : World) (base : Nat) : Sl w base (.slice none 0 0) [] := World.ownsRow_nil w base _ 2
theorem Sl.alloc {w : World} {base : Nat} {v : Value} {L : List SgT} (h : Sl w base v L) (o : Obj) : Sl (w.alloc o) base v L := World.ownsRow.alloc h o
theorem Sl.lt {w : World} {base : Nat} {v : Value} {L : List SgT} (h : Sl w base v L) : ∀ k, v.ownBlock = some k → base ≤ k ∧ k < w.heap.size := World.ownsRow.lt h
theorem Sl.chg {w w' : World} {base : Nat} {v : Value} {L : List SgT} {l : List Nat} (h : Sl w base v L) (hc : Chg l w w') (hl : ∀ x ∈ l, ∀ cur, w.heap[x]? ≠ some (.cells cur 49 (0, 0))) : Sl w' base v L := by
  refine ⟨h.1, ?_⟩
  rcases h.2 with h1 | ⟨g, cap, cur, h1, h2, h3, h4⟩
  · exact .inl h1
  · exact .inr ⟨g, cap, cur, h1, h2, (hc.block g (Array.getElem?_eq_some_iff.1 h3).1 (fun hm => hl g hm cur h3)).trans h3, h4⟩
theorem Sl.below {w w' : World} {base : Nat} {v : Value} {L : List SgT} (h : Sl w base v L) (hb : Below w.heap.size w w') : Sl w' base v L := h.chg ((Chg.refl [] w).of_below hb) (by simp)
theorem Sl.base {w : World} {base base' : Nat} {v : Value} {L : List SgT} (h : Sl w base v L) (hb : base' ≤ base) : Sl w base' v L := by
  refine ⟨h.1, ?_⟩
  rcases h.2 with h1 | ⟨g, cap, cur, h1, h2, h3⟩
  · exact .inl h1
  · exact .inr ⟨g, cap, cur, h1, by omega, h3⟩
theorem Sl.form {w : World} {base : Nat} {v : Value} {L : List SgT} (h : Sl w base v L) : ∃ a c, v = .slice a L.length c ∧ Ro w w.heap.size a (sgv L) ∧ L.length ≤ c := by
  rcases h.2 with ⟨rfl, h0⟩ | ⟨g, cap, cur, rfl, hb, hh, hle, hm, hrest⟩
  · have : L = [] := by simpa using h0
    subst this
    exact ⟨none, 0, rfl, .inl rfl, by simp⟩
  · refine ⟨some ⟨g, 0, none⟩, cap, rfl, .inr ⟨g, 0, rfl, ?_, fun i hi => ?_⟩, hle⟩
    · exact (World.ownsRow.lt h g rfl).2
    · have := World.ownsRow.cellAt h i (by rw [sgv_length] at hi; exact hi)
      rw [Nat.zero_add, this]
      simp only [List.getD, List.getElem?_eq_getElem hi, Option.getD_some]
theorem Try.info_seg : (Try.prog.info? 49).map (fun i => (i.zero, i.size, i.bytes)) = some (some (.agg #[.int .u64 0, .slice none 0 0]), 2, 32) := by kernel_rfl
theorem Try.info_ch : (Try.prog.info? 36).map (fun i => (i.zero, i.size, i.bytes)) = some (some (.slice none 0 0), 1, 24) := by kernel_rfl
theorem Sl.grown_below {B base : Nat} {a w w' : World} {v : Value} {L : List SgT} (h : Below B a w) (hl : Sl w base v L) (hg : w.grownBy w' v.ownBlock) (hB : B ≤ base) (hB2 : B ≤ w.heap.size) : Below B a w' :=
  ⟨hg.os.trans h.os, hg.tape.trans h.tape, hg.output.trans h.output, Nat.le_trans h.size hg.size, fun b hb => (hg.block b (by omega) (fun e => by have := (hl.lt b e.symm).1; omega)).trans (h.block b hb)⟩
/-- append of one segment -/
theorem wpList_appSg {ops : Array Oper} {rest : List Oper} {o : Oper} {a : Act} {w : World} {Q : Exit → Act → World → Prop} (hgd : o.guard = none) (s x : Operand)
    (ho : o.op = .call { callee := .builtin .append, args := #[s, x], argTypes := #[23, 23] })
    (base : Nat) (v : Value) (L : List SgT) (hs : a.eval s = v) (hown : Sl w base v L) (g : Nat) (y : SgT) (t : TypeId) (hnew : Own w g t (sgv [y]))
    (hx : a.eval x = .slice (some ⟨g, 0, none⟩) 1 1) (hlen : L.length ≤ 1000000) (hbase : base ≤ w.heap.size)
    (h : ∀ v' w', Hid (Sl w' base v' (L ++ [y])) → w.grownBy w' v.ownBlock → wpList Try.prog ops Q rest (a.put o.dst v') w') : wpList Try.prog ops Q (o :: rest) a w := by
  obtain ⟨i, hi, hzz⟩ := Option.map_eq_some_iff.1 Try.info_seg
  simp only [Prod.mk.injEq] at hzz
  obtain ⟨hz, hsz, hby⟩ := hzz
  refine wpList_append_own w hgd s x 23 ho base 49 i _ 2 32 Try.underlying23 hi hz hsz hby rfl (by omega) v L.length (sgv L) hs hown ⟨g, 0, none⟩ 1 1 (sgv [y]) hx (by simp) (fun j u hu => ?_) (sgv_one _) (by unfold maxLen; omega) (by omega) hbase fun v' w' h2 h3 _ => h v' w' ?_ h3
  · rw [add_off, Nat.zero_add, hnew.cell j]; exact hu
  · show w'.ownsRow base 49 2 v' (L ++ [y]).length (sgv (L ++ [y]))
    rw [List.length_append, sgv_append]
    exact h2
theorem Sl.row {w : World} {base : Nat} {v : Value} {L : List SgT} (h : Sl w base v L) : ∀ x ∈ rowOf v, base ≤ x ∧ ∃ cur, w.heap[x]? = some (.cells cur 49 (0, 0)) := by
  intro x hx
  rcases h.2 with ⟨rfl, _⟩ | ⟨g, cap, cur, rfl, h2, h3, _⟩
  · simp [rowOf, Value.ownBlock] at hx
  · simp [rowOf, Value.ownBlock] at hx
    subst hx
    exact ⟨h2, cur, h3⟩
theorem Sl.notT {w : World} {base : Nat} {v : Value} {L : List SgT} {t' : TypeId} (h : Sl w base v L) (ht : 49 ≠ t') : ∀ x ∈ rowOf v, ∀ cur, w.heap[x]? ≠ some (.cells cur t' (0, 0)) := by
  intro x hx cur he
  obtain ⟨_, cur', h2⟩ := h.row x hx
  rw [he] at h2
  injection h2 with h2
  injection h2 with _ h2 _
  exact ht h2.symm
theorem Own.out_row {w : World} {base g : Nat} {t : TypeId} {cs : List Value} {v : Value} {L : List SgT} (h : Own w g t cs) (hv : Sl w base v L) (ht : t ≠ 49) : g ∉ rowOf v := by
  intro hm
  obtain ⟨_, cur, h2⟩ := hv.row g hm
  unfold Own at h
  rw [h] at h2
  injection h2 with h2
  injection h2 with _ h2 _
  exact ht h2
end Go.Proofs.Ytkdgoopldaoihaa
