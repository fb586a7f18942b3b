/-
  Rows of a call of its own, and rows that lie apart from others. Plain lemmas, no claim of their own.
-/
import Derived.Test.YtdpaofedepnnbaaGreatChg
namespace Go.Proofs.YtdpaofedepnnbaaGreat
open Go.RowKit Go.Deep
set_option linter.unusedVariables false
set_option linter.unusedSimpArgs false

theorem Lst.chg {w w' : World} {base : Nat} {e : TypeId} {v : Value} {xs : List Value} {l : List Nat} (h : Lst w base e v xs) (hc : Chg l w w') (hl : ∀ x ∈ l, ∀ cur, w.heap[x]? ≠ some (.cells cur e (0, 0))) : Lst w' base e v xs := by
  refine ⟨h.1, ?_⟩
  rcases h.2 with h1 | ⟨g, cap, cur, h1, h2, h3, h4⟩
  · exact .inl h1
  · exact .inr ⟨g, cap, cur, h1, h2, (hc.block g (Array.getElem?_eq_some_iff.1 h3).1 (fun hm => hl g hm cur h3)).trans h3, h4⟩
/-- the row that a slice of the call's own lies in -/
def rowOf (v : Value) : List Nat := match v.ownBlock with | some g => [g] | none => []
theorem grown_chg {w w' : World} {v : Value} (h : w.grownBy w' v.ownBlock) : Chg (rowOf v) w w' := (Chg.refl (rowOf v) w).grown h (fun k hk => .inl (by unfold rowOf; rw [hk]; simp))
theorem Lst.row {w : World} {base : Nat} {e : TypeId} {v : Value} {xs : List Value} (h : Lst w base e v xs) : ∀ x ∈ rowOf v, base ≤ x ∧ ∃ cur, w.heap[x]? = some (.cells cur e (0, 0)) := by
  intro x hx
  rcases h.2 with ⟨rfl, _⟩ | ⟨g, cap, cur, rfl, h2, h3, _⟩
  · simp [rowOf, Value.ownBlock] at hx
  · simp [rowOf, Value.ownBlock] at hx
    subst hx
    exact ⟨h2, cur, h3⟩
theorem Own.chg {w w' : World} {g : Nat} {t : TypeId} {cs : List Value} {l : List Nat} (h : Own w g t cs) (hc : Chg l w w') (hg : g ∉ l) : Own w' g t cs := (hc.block g h.lt hg).trans h
/-- append of one value, with all that it keeps -/
theorem wpList_app1g {P : Program} {w : World} {ops : Array Oper} {rest : List Oper} {o : Oper} {a : Act} {Q : Exit → Act → World → Prop} (hgd : o.guard = none) (s x : Operand) (t : TypeId)
    (ho : o.op = .call { callee := .builtin .append, args := #[s, x], argTypes := #[t, t] })
    (base : Nat) (e : TypeId) (z : Value) (bytes : Nat) (ht : P.underlying t = some (.slice e)) (hinfo : (P.info? e).map (fun i => (i.zero, i.size, i.bytes)) = some (some z, 1, bytes)) (hzs : z.cells.size = 1)
    (u : Value) (h1 : u.oneCell' = true) (v : Value) (xs : List Value) (hs : a.eval s = v) (hown : Lst w base e v xs)
    (hx : a.eval x = .slice (some ⟨w.heap.size, 0, none⟩) 1 1)
    (hlen : (xs.length + 1) * bytes ≤ 140737488355328) (hlen2 : xs.length + 1 ≤ 140737488355328) (hbase : base ≤ w.heap.size)
    (h : ∀ v' w', Hid (Lst w' base e v' (xs ++ [u])) → Chg (rowOf v) w w' → wpList P ops Q rest (a.put o.dst v') w') : wpList P ops Q (o :: rest) a (w.alloc (.cells #[u] e)) :=
  wpList_app hgd s x t ho base e z bytes ht hinfo hzs v xs hs (hown.alloc _) (some ⟨w.heap.size, 0, none⟩) (w.heap.size + 1) 1 1 [u] hx rfl (ro_one w e u) (by simpa using h1) hlen hlen2 (by simp; omega) fun v' w' h2 h3 => h v' w' h2 (((Chg.refl _ w).alloc _).trans (grown_chg h3))
/-- a row that lies apart from the blocks of l -/
def RoX (w : World) (l : List Nat) (a : Option Addr) (vs : List Value) : Prop := vs = [] ∨ ∃ b off, a = some ⟨b, off, none⟩ ∧ b < w.heap.size ∧ b ∉ l ∧ ∀ i, i < vs.length → w.cell? ⟨b, off + i, none⟩ = some (vs.getD i undef)
theorem RoX.ro {w : World} {l : List Nat} {a : Option Addr} {vs : List Value} (h : RoX w l a vs) : Ro w w.heap.size a vs := by
  rcases h with h | ⟨b, off, h1, h2, h3, h4⟩
  · exact .inl h
  · exact .inr ⟨b, off, h1, h2, h4⟩
theorem RoX.chg {w w' : World} {l : List Nat} {a : Option Addr} {vs : List Value} (h : RoX w l a vs) (hc : Chg l w w') : RoX w' l a vs := by
  rcases h with h | ⟨b, off, h1, h2, h3, h4⟩
  · exact .inl h
  · exact .inr ⟨b, off, h1, Nat.lt_of_lt_of_le h2 hc.size, h3, fun i hi => hc.cell (h4 i hi) h3⟩
theorem Ro.apart {w : World} {B : Nat} {l : List Nat} {a : Option Addr} {vs : List Value} (h : Ro w B a vs) (hB : B ≤ w.heap.size) (hl : ∀ x ∈ l, B ≤ x) : RoX w l a vs := by
  rcases h with h | ⟨b, off, h1, h2, h3⟩
  · exact .inl h
  · exact .inr ⟨b, off, h1, by omega, fun hm => by have := hl b hm; omega, h3⟩
theorem Lst.apart {w : World} {base : Nat} {e : TypeId} {a : Option Addr} {n c : Nat} {xs : List Value} {l : List Nat} (h : Lst w base e (.slice a n c) xs) (hl : ∀ x ∈ l, ∀ cur, w.heap[x]? ≠ some (.cells cur e (0, 0))) : RoX w l a xs := by
  obtain ⟨a', c', h1, h2, _⟩ := h.form
  injection h1 with h1 _ _
  subst h1
  rcases h2 with h2 | ⟨b, off, g1, g2, g3⟩
  · exact .inl h2
  · refine .inr ⟨b, off, g1, g2, fun hm => ?_, g3⟩
    rcases h.2 with ⟨hv, _⟩ | ⟨g, cap, cur, hv, _, hh, _⟩
    · injection hv with hv _ _
      rw [hv] at g1; cases g1
    · injection hv with hv _ _
      rw [hv] at g1
      injection g1 with g1
      injection g1 with g1 _ _
      subst g1
      exact hl g hm cur hh
theorem Lst.apart2 {w : World} {base : Nat} {e : TypeId} {a : Option Addr} {n c : Nat} {xs : List Value} {l : List Nat} (h : Lst w base e (.slice a n c) xs) (hl : ∀ x ∈ l, x < base ∨ ∀ cur, w.heap[x]? ≠ some (.cells cur e (0, 0))) : RoX w l a xs := by
  obtain ⟨a', c', h1, h2, _⟩ := h.form
  injection h1 with h1 _ _
  subst h1
  rcases h2 with h2 | ⟨b, off, g1, g2, g3⟩
  · exact .inl h2
  · refine .inr ⟨b, off, g1, g2, fun hm => ?_, g3⟩
    rcases h.2 with ⟨hv, _⟩ | ⟨g, cap, cur, hv, hb, hh, _⟩
    · injection hv with hv _ _
      rw [hv] at g1; cases g1
    · injection hv with hv _ _
      rw [hv] at g1
      injection g1 with g1
      injection g1 with g1 _ _
      subst g1
      rcases hl g hm with h | h
      · omega
      · exact h cur hh
end Go.Proofs.YtdpaofedepnnbaaGreat
