/-
  The words of Cm, under this name.
-/
import Derived.Test.YtcadnlilijkneaaGreatGb2
import Derived.Test.YtcadnlilijkneaaGreatGb15
import Derived.Test.YtcadnlilijkneaaGreatGb12
namespace Go.Proofs.YtcadnlilijkneaaGreat
end Go.Proofs.YtcadnlilijkneaaGreat
namespace Go.Proofs.YtcadnlilijkneaaGreat
open Go.RowKit Go.Deep
set_option linter.unusedVariables false
set_option linter.unusedSimpArgs false

theorem Lst.chgc {w w' : World} {base : Nat} {e : TypeId} {v : Value} {xs : List Value} {l : List Nat} (h : Lst w base e v xs) (hc : Chg l w w') (hl : ∀ x ∈ l, ∀ cur, w.heap[x]? ≠ some (.cells cur e (0, 0))) : Lst w' base e v xs := by
  refine ⟨h.1, ?_⟩
  rcases h.2 with h1 | ⟨g, cap, cur, h1, h2, h3, h4⟩
  · exact .inl h1
  · exact .inr ⟨g, cap, cur, h1, h2, (hc.block g (Array.getElem?_eq_some_iff.1 h3).1 (fun hm => hl g hm cur h3)).trans h3, h4⟩
def rowOf (v : Value) : List Nat := match v.ownBlock with | some g => [g] | none => []
theorem grown_chgR {w w' : World} {v : Value} (h : w.grownBy w' v.ownBlock) : Chg (rowOf v) w w' := (Chg.refl (rowOf v) w).grown h (fun k hk => .inl (by unfold rowOf; rw [hk]; simp))
theorem Lst.row {w : World} {base : Nat} {e : TypeId} {v : Value} {xs : List Value} (h : Lst w base e v xs) : ∀ x ∈ rowOf v, base ≤ x ∧ ∃ cur, w.heap[x]? = some (.cells cur e (0, 0)) := by
  intro x hx
  rcases h.2 with ⟨rfl, _⟩ | ⟨g, cap, cur, rfl, h2, h3, _⟩
  · simp [rowOf, Value.ownBlock] at hx
  · simp [rowOf, Value.ownBlock] at hx
    subst hx
    exact ⟨h2, cur, h3⟩
theorem wpList_app1g {P : Program} {w : World} {ops : Array Oper} {rest : List Oper} {o : Oper} {a : Act} {Q : Exit → Act → World → Prop} (hgd : o.guard = none) (s x : Operand) (t : TypeId)
    (ho : o.op = .call { callee := .builtin .append, args := #[s, x], argTypes := #[t, t] })
    (base : Nat) (e : TypeId) (z : Value) (bytes : Nat) (ht : P.underlying t = some (.slice e)) (hinfo : (P.info? e).map (fun i => (i.zero, i.size, i.bytes)) = some (some z, 1, bytes)) (hzs : z.cells.size = 1)
    (u : Value) (h1 : u.oneCell' = true) (v : Value) (xs : List Value) (hs : a.eval s = v) (hown : Lst w base e v xs)
    (hx : a.eval x = .slice (some ⟨w.heap.size, 0, none⟩) 1 1)
    (hlen : (xs.length + 1) * bytes ≤ 140737488355328) (hlen2 : xs.length + 1 ≤ 140737488355328) (hbase : base ≤ w.heap.size)
    (h : ∀ v' w', Hid (Lst w' base e v' (xs ++ [u])) → Chg (rowOf v) w w' → wpList P ops Q rest (a.put o.dst v') w') : wpList P ops Q (o :: rest) a (w.alloc (.cells #[u] e)) :=
  wpList_app hgd s x t ho base e z bytes ht hinfo hzs v xs hs (hown.alloc _) (some ⟨w.heap.size, 0, none⟩) (w.heap.size + 1) 1 1 [u] hx rfl (ro_one w e u) (by simpa using h1) hlen hlen2 (by simp; omega) fun v' w' h2 h3 => h v' w' h2 (((Chg.refl _ w).alloc _).trans (grown_chgR h3))
def RoX (w : World) (l : List Nat) (a : Option Addr) (vs : List Value) : Prop := vs = [] ∨ ∃ b off, a = some ⟨b, off, none⟩ ∧ b < w.heap.size ∧ b ∉ l ∧ ∀ i, i < vs.length → w.cell? ⟨b, off + i, none⟩ = some (vs.getD i undef)
theorem RoX.ro {w : World} {l : List Nat} {a : Option Addr} {vs : List Value} (h : RoX w l a vs) : Ro w w.heap.size a vs := by
  rcases h with h | ⟨b, off, h1, h2, h3, h4⟩
  · exact .inl h
  · exact .inr ⟨b, off, h1, h2, h4⟩
theorem RoX.chg {w w' : World} {l : List Nat} {a : Option Addr} {vs : List Value} (h : RoX w l a vs) (hc : Chg l w w') : RoX w' l a vs := by
  rcases h with h | ⟨b, off, h1, h2, h3, h4⟩
  · exact .inl h
  · exact .inr ⟨b, off, h1, Nat.lt_of_lt_of_le h2 hc.size, h3, fun i hi => hc.cell (h4 i hi) h3⟩
theorem Ro.apart {w : World} {B : Nat} {l : List Nat} {a : Option Addr} {vs : List Value} (h : Ro w B a vs) (hB : B ≤ w.heap.size) (hl : ∀ x ∈ l, B ≤ x) : RoX w l a vs := by
  rcases h with h | ⟨b, off, h1, h2, h3⟩
  · exact .inl h
  · exact .inr ⟨b, off, h1, by omega, fun hm => by have := hl b hm; omega, h3⟩
theorem Lst.apart {w : World} {base : Nat} {e : TypeId} {a : Option Addr} {n c : Nat} {xs : List Value} {l : List Nat} (h : Lst w base e (.slice a n c) xs) (hl : ∀ x ∈ l, ∀ cur, w.heap[x]? ≠ some (.cells cur e (0, 0))) : RoX w l a xs := by
  obtain ⟨a', c', h1, h2, _⟩ := h.form
  injection h1 with h1 _ _
  subst h1
  rcases h2 with h2 | ⟨b, off, g1, g2, g3⟩
  · exact .inl h2
  · refine .inr ⟨b, off, g1, g2, fun hm => ?_, g3⟩
    rcases h.2 with ⟨hv, _⟩ | ⟨g, cap, cur, hv, _, hh, _⟩
    · injection hv with hv _ _
      rw [hv] at g1; cases g1
    · injection hv with hv _ _
      rw [hv] at g1
      injection g1 with g1
      injection g1 with g1 _ _
      subst g1
      exact hl g hm cur hh
end Go.Proofs.YtcadnlilijkneaaGreat
namespace Go.Proofs.YtcadnlilijkneaaGreat
open Go.RowKit Go.Deep
set_option linter.unusedVariables false
set_option linter.unusedSimpArgs false

def Qui (w : World) (k : Nat) : Prop := ∀ cur, w.heap[k]? ≠ some (.cells cur 3 (0, 0)) ∧ w.heap[k]? ≠ some (.cells cur 23 (0, 0))
structure Fc (base g : Nat) (a w : World) : Prop where
  os : w.os = a.os
  tape : w.tape = a.tape
  output : w.output = a.output
  size : a.heap.size ≤ w.heap.size
  block : ∀ k, k < a.heap.size → k ≠ g → (k < base ∨ Qui a k) → w.heap[k]? = a.heap[k]?
theorem Fc.refl (base g : Nat) (w : World) : Fc base g w w := ⟨rfl, rfl, rfl, Nat.le_refl _, fun _ _ _ _ => rfl⟩
theorem Fc.trans {base g : Nat} {a b c : World} (h : Fc base g a b) (k : Fc base g b c) : Fc base g a c :=
  ⟨k.os.trans h.os, k.tape.trans h.tape, k.output.trans h.output, Nat.le_trans h.size k.size, fun i h1 h2 h3 => by
    have e := h.block i h1 h2 h3
    refine (k.block i (Nat.lt_of_lt_of_le h1 h.size) h2 ?_).trans e
    rcases h3 with h3 | h3
    · exact .inl h3
    · exact .inr (fun cur => by rw [e]; exact h3 cur)⟩
theorem Fc.of_chg {base g : Nat} {a b : World} {l : List Nat} (h : Chg l a b) (hl : ∀ x ∈ l, x = g ∨ (base ≤ x ∧ ¬ Qui a x)) : Fc base g a b :=
  ⟨h.os, h.tape, h.output, h.size, fun k h1 h2 h3 => h.block k h1 (fun hm => by
    rcases hl k hm with h4 | ⟨h4, h5⟩
    · exact h2 h4
    · rcases h3 with h3 | h3
      · omega
      · exact h5 h3)⟩
theorem Fc.below {base g B : Nat} {a b : World} (h : Fc base g a b) (hB : B ≤ a.heap.size) (hg : B ≤ g) (hb : B ≤ base) : Below B a b :=
  ⟨h.os, h.tape, h.output, h.size, fun k hk => h.block k (by omega) (by omega) (.inl (by omega))⟩
theorem Fc.of_below {base g : Nat} {a b : World} (h : Below a.heap.size a b) : Fc base g a b := ⟨h.os, h.tape, h.output, h.size, fun k hk _ _ => h.block k hk⟩
theorem Fc.alloc {base g : Nat} {a b : World} (h : Fc base g a b) (o : Obj) : Fc base g a (b.alloc o) := h.trans (.of_below ((Below.refl _ _).alloc (Nat.le_refl _) _))
theorem Own.quiT {w : World} {g : Nat} {t : TypeId} {cs : List Value} (h : Own w g t cs) (h1 : t ≠ 3) (h2 : t ≠ 23) : Qui w g := fun cur => by
  unfold Own at h
  rw [h]
  refine ⟨fun e => ?_, fun e => ?_⟩
  · injection e with e
    injection e with _ e _
    exact h1 e
  · injection e with e
    injection e with _ e _
    exact h2 e
theorem Own.fc {base g k : Nat} {a b : World} {t : TypeId} {cs : List Value} (h : Own a k t cs) (hc : Fc base g a b) (hk : k ≠ g) (h1 : t ≠ 3) (h2 : t ≠ 23) : Own b k t cs :=
  (hc.block k h.lt hk (.inr (h.quiT h1 h2))).trans h
theorem Own.fcl {base g k : Nat} {a b : World} {t : TypeId} {cs : List Value} (h : Own a k t cs) (hc : Fc base g a b) (hk : k ≠ g) (h1 : k < base) : Own b k t cs :=
  (hc.block k h.lt hk (.inl h1)).trans h
def RoQ (w : World) (g : Nat) (a : Option Addr) (vs : List Value) : Prop := vs = [] ∨ ∃ b off, a = some ⟨b, off, none⟩ ∧ b < w.heap.size ∧ b ≠ g ∧ Qui w b ∧ ∀ i, i < vs.length → w.cell? ⟨b, off + i, none⟩ = some (vs.getD i undef)
theorem RoQ.ro {w : World} {g : Nat} {a : Option Addr} {vs : List Value} (h : RoQ w g a vs) : Ro w w.heap.size a vs := by
  rcases h with h | ⟨b, off, h1, h2, _, _, h3⟩
  · exact .inl h
  · exact .inr ⟨b, off, h1, h2, h3⟩
theorem RoQ.fc {base g : Nat} {w w' : World} {a : Option Addr} {vs : List Value} (h : RoQ w g a vs) (hc : Fc base g w w') : RoQ w' g a vs := by
  rcases h with h | ⟨b, off, h1, h2, h3, h4, h5⟩
  · exact .inl h
  · have e := hc.block b h2 h3 (.inr h4)
    refine .inr ⟨b, off, h1, Nat.lt_of_lt_of_le h2 hc.size, h3, fun cur => by rw [e]; exact h4 cur, fun i hi => ?_⟩
    exact (World.cell?_of_block (w := w) (w' := w') (a := ⟨b, off + i, none⟩) e).trans (h5 i hi)
def Fst (w : World) (T : TypeId) (base g : Nat) (F : List (Nat × Nat)) : Prop :=
  ∃ v1 v2, Own w g T [v1, v2] ∧ Lst w base 3 v1 (i64s (fw F)) ∧ Lst w base 23 v2 (u64s (fv F))
theorem Fst.lt {w : World} {T : TypeId} {base g : Nat} {F : List (Nat × Nat)} (h : Fst w T base g F) : g < w.heap.size := by
  obtain ⟨v1, v2, h1, _⟩ := h
  exact h1.lt
theorem Fst.alloc {w : World} {T : TypeId} {base g : Nat} {F : List (Nat × Nat)} (h : Fst w T base g F) (o : Obj) : Fst (w.alloc o) T base g F := by
  obtain ⟨v1, v2, h1, h2, h3⟩ := h
  exact ⟨v1, v2, h1.alloc o, h2.alloc o, h3.alloc o⟩
theorem Fst.below {w w' : World} {T : TypeId} {base g : Nat} {F : List (Nat × Nat)} (h : Fst w T base g F) (hb : Below w.heap.size w w') : Fst w' T base g F := by
  obtain ⟨v1, v2, h1, h2, h3⟩ := h
  exact ⟨v1, v2, h1.below hb h1.lt, h2.below hb (Nat.le_refl _), h3.below hb (Nat.le_refl _)⟩
theorem Fst.new (w : World) (T : TypeId) (base : Nat) : Fst (w.alloc (.cells #[.slice none 0 0, .slice none 0 0] T)) T base w.heap.size [] :=
  ⟨_, _, Own.new w T _, Lst.nil _ _ _, Lst.nil _ _ _⟩
theorem Lst.otherT {w : World} {base base' : Nat} {e e' : TypeId} {v v' : Value} {xs xs' : List Value} (h : Lst w base e v xs) (h' : Lst w base' e' v' xs') (hne : e ≠ e') : ∀ x ∈ rowOf v', ∀ cur, w.heap[x]? ≠ some (.cells cur e (0, 0)) := by
  intro x hx cur he
  obtain ⟨_, cur', h2⟩ := h'.row x hx
  rw [he] at h2
  injection h2 with h2
  injection h2 with _ h2 _
  exact hne h2
theorem Lst.ownT {w : World} {base : Nat} {e T : TypeId} {v : Value} {xs cs : List Value} {g : Nat} (h : Lst w base e v xs) (h' : Own w g T cs) (hne : e ≠ T) : g ∉ rowOf v := by
  intro hx
  obtain ⟨_, cur, h2⟩ := h.row g hx
  unfold Own at h'
  rw [h'] at h2
  injection h2 with h2
  injection h2 with _ h2 _
  exact hne h2.symm
theorem Own.notT' {w : World} {g : Nat} {t t' : TypeId} {cs : List Value} (h : Own w g t cs) (ht : t' ≠ t) : ∀ x ∈ [g], ∀ cur, w.heap[x]? ≠ some (.cells cur t' (0, 0)) := by
  intro x hx cur he
  simp only [List.mem_singleton] at hx
  subst hx
  unfold Own at h
  rw [he] at h
  injection h with h
  injection h with _ h _
  exact ht h
theorem Fc.row {base g : Nat} {w w' : World} {e : TypeId} {v : Value} {xs : List Value} (h : Lst w base e v xs) (hc : Chg (rowOf v) w w') (he : e = 3 ∨ e = 23) : Fc base g w w' :=
  .of_chg hc fun x hx => .inr (by
    obtain ⟨h1, cur, h2⟩ := h.row x hx
    refine ⟨h1, fun hq => ?_⟩
    rcases he with rfl | rfl
    · exact (hq cur).1 h2
    · exact (hq cur).2 h2)
theorem Fc.set {base g : Nat} (w : World) (i : Nat) (v : Value) : Fc base g w (w.setCell ⟨g, i, none⟩ v) :=
  .of_chg ((Chg.refl [g] w).setCell (by simp) v) fun x hx => .inl (by simpa using hx)
theorem Fst.step1 {w w1 : World} {T : TypeId} {base g : Nat} {v1 v2 v1' : Value} {A A' B : List Value} (h1 : Own w g T [v1, v2]) (h2 : Lst w base 3 v1 A) (h3 : Lst w base 23 v2 B) (hT : T ≠ 3) (hT2 : T ≠ 23) (hl : Lst w1 base 3 v1' A') (hc : Chg (rowOf v1) w w1) :
    Own w1 g T [v1, v2] ∧ Own (w1.setCell ⟨g, 0, none⟩ v1') g T [v1', v2] ∧ Lst (w1.setCell ⟨g, 0, none⟩ v1') base 3 v1' A' ∧ Lst (w1.setCell ⟨g, 0, none⟩ v1') base 23 v2 B ∧ Fc base g w (w1.setCell ⟨g, 0, none⟩ v1') := by
  have g1 := h1.chg hc (h2.ownT h1 hT.symm)
  have g3 := h3.chgc hc (h3.otherT h2 (by decide))
  have s1 : Chg [g] w1 (w1.setCell ⟨g, 0, none⟩ v1') := (Chg.refl [g] w1).setCell (by simp) _
  exact ⟨g1, g1.set 0 v1', hl.chgc s1 (g1.notT' hT.symm), g3.chgc s1 (g1.notT' hT2.symm), (Fc.row h2 hc (.inl rfl)).trans (Fc.set w1 0 v1')⟩
theorem Fst.step2 {w w1 : World} {T : TypeId} {base g : Nat} {v1 v2 v2' : Value} {A B' B : List Value} (h1 : Own w g T [v1, v2]) (h2 : Lst w base 3 v1 A) (h3 : Lst w base 23 v2 B) (hT : T ≠ 3) (hT2 : T ≠ 23) (hl : Lst w1 base 23 v2' B') (hc : Chg (rowOf v2) w w1) :
    Own w1 g T [v1, v2] ∧ Own (w1.setCell ⟨g, 1, none⟩ v2') g T [v1, v2'] ∧ Lst (w1.setCell ⟨g, 1, none⟩ v2') base 3 v1 A ∧ Lst (w1.setCell ⟨g, 1, none⟩ v2') base 23 v2' B' ∧ Fc base g w (w1.setCell ⟨g, 1, none⟩ v2') := by
  have g1 := h1.chg hc (h3.ownT h1 hT2.symm)
  have g3 := h2.chgc hc (h2.otherT h3 (by decide))
  have s1 : Chg [g] w1 (w1.setCell ⟨g, 1, none⟩ v2') := (Chg.refl [g] w1).setCell (by simp) _
  exact ⟨g1, g1.set 1 v2', g3.chgc s1 (g1.notT' hT.symm), hl.chgc s1 (g1.notT' hT2.symm), (Fc.row h3 hc (.inr rfl)).trans (Fc.set w1 1 v2')⟩
end Go.Proofs.YtcadnlilijkneaaGreat
