/-
  Segment of package layout, by its contract. No claim of its own.
-/
import Derived.Test.YtcadnlilijkneaaGreatGb3
import Derived.Test.YtcadnlilijkneaaGreatGb16
import Derived.Test.YtcadnlilijkneaaGreatGb17
namespace Go.Proofs.YtcadnlilijkneaaGreat
open Go.RowKit Go.Deep Go.Shelf
set_option linter.unusedVariables false
set_option linter.unusedSimpArgs false

end Go.Proofs.YtcadnlilijkneaaGreat
namespace Go.Proofs.YtcadnlilijkneaaGreat
open Go.RowKit Go.Deep
set_option linter.unusedVariables false
set_option linter.unusedSimpArgs false

def Sl (w : World) (base : Nat) (v : Value) (L : List SgT) : Prop := w.ownsRow base 84 2 v L.length (sgv L)
theorem Sl.nil (w : World) (base : Nat) : Sl w base (.slice none 0 0) [] := World.ownsRow_nil w base _ 2
theorem Sl.alloc {w : World} {base : Nat} {v : Value} {L : List SgT} (h : Sl w base v L) (o : Obj) : Sl (w.alloc o) base v L := World.ownsRow.alloc h o
theorem Sl.lt {w : World} {base : Nat} {v : Value} {L : List SgT} (h : Sl w base v L) : ∀ k, v.ownBlock = some k → base ≤ k ∧ k < w.heap.size := World.ownsRow.lt h
theorem Sl.chgc {w w' : World} {base : Nat} {v : Value} {L : List SgT} {l : List Nat} (h : Sl w base v L) (hc : Chg l w w') (hl : ∀ x ∈ l, ∀ cur, w.heap[x]? ≠ some (.cells cur 84 (0, 0))) : Sl w' base v L := by
  refine ⟨h.1, ?_⟩
  rcases h.2 with h1 | ⟨g, cap, cur, h1, h2, h3, h4⟩
  · exact .inl h1
  · exact .inr ⟨g, cap, cur, h1, h2, (hc.block g (Array.getElem?_eq_some_iff.1 h3).1 (fun hm => hl g hm cur h3)).trans h3, h4⟩
theorem Sl.below {w w' : World} {base : Nat} {v : Value} {L : List SgT} (h : Sl w base v L) (hb : Below w.heap.size w w') : Sl w' base v L := h.chgc ((Chg.refl [] w).of_below hb) (by simp)
theorem Sl.base {w : World} {base base' : Nat} {v : Value} {L : List SgT} (h : Sl w base v L) (hb : base' ≤ base) : Sl w base' v L := by
  refine ⟨h.1, ?_⟩
  rcases h.2 with h1 | ⟨g, cap, cur, h1, h2, h3⟩
  · exact .inl h1
  · exact .inr ⟨g, cap, cur, h1, by omega, h3⟩
theorem Sl.form {w : World} {base : Nat} {v : Value} {L : List SgT} (h : Sl w base v L) : ∃ a c, v = .slice a L.length c ∧ Ro w w.heap.size a (sgv L) ∧ L.length ≤ c := by
  rcases h.2 with ⟨rfl, h0⟩ | ⟨g, cap, cur, rfl, hb, hh, hle, hm, hrest⟩
  · have : L = [] := by simpa using h0
    subst this
    exact ⟨none, 0, rfl, .inl rfl, by simp⟩
  · refine ⟨some ⟨g, 0, none⟩, cap, rfl, .inr ⟨g, 0, rfl, ?_, fun i hi => ?_⟩, hle⟩
    · exact (World.ownsRow.lt h g rfl).2
    · have := World.ownsRow.cellAt h i (by rw [sgv_length] at hi; exact hi)
      rw [Nat.zero_add, this]
      simp only [List.getD, List.getElem?_eq_getElem hi, Option.getD_some]
theorem Tryz.info_seg : (Tryz.prog.info? 84).map (fun i => (i.zero, i.size, i.bytes)) = some (some (.agg #[.int .u64 0, .slice none 0 0]), 2, 32) := by kernel_rfl
theorem Tryz.info_ch : (Tryz.prog.info? 46).map (fun i => (i.zero, i.size, i.bytes)) = some (some (.slice none 0 0), 1, 24) := by kernel_rfl
theorem Sl.grown_below {B base : Nat} {a w w' : World} {v : Value} {L : List SgT} (h : Below B a w) (hl : Sl w base v L) (hg : w.grownBy w' v.ownBlock) (hB : B ≤ base) (hB2 : B ≤ w.heap.size) : Below B a w' :=
  ⟨hg.os.trans h.os, hg.tape.trans h.tape, hg.output.trans h.output, Nat.le_trans h.size hg.size, fun b hb => (hg.block b (by omega) (fun e => by have := (hl.lt b e.symm).1; omega)).trans (h.block b hb)⟩
theorem Sl.row {w : World} {base : Nat} {v : Value} {L : List SgT} (h : Sl w base v L) : ∀ x ∈ rowOf v, base ≤ x ∧ ∃ cur, w.heap[x]? = some (.cells cur 84 (0, 0)) := by
  intro x hx
  rcases h.2 with ⟨rfl, _⟩ | ⟨g, cap, cur, rfl, h2, h3, _⟩
  · simp [rowOf, Value.ownBlock] at hx
  · simp [rowOf, Value.ownBlock] at hx
    subst hx
    exact ⟨h2, cur, h3⟩
theorem Sl.notT {w : World} {base : Nat} {v : Value} {L : List SgT} {t' : TypeId} (h : Sl w base v L) (ht : 84 ≠ t') : ∀ x ∈ rowOf v, ∀ cur, w.heap[x]? ≠ some (.cells cur t' (0, 0)) := by
  intro x hx cur he
  obtain ⟨_, cur', h2⟩ := h.row x hx
  rw [he] at h2
  injection h2 with h2
  injection h2 with _ h2 _
  exact ht h2.symm
end Go.Proofs.YtcadnlilijkneaaGreat
namespace Go.Proofs.YtcadnlilijkneaaGreat
open Go.RowKit Go.Deep
set_option linter.unusedVariables false
set_option linter.unusedSimpArgs false

def GwC (w : World) (base : Nat) (Ts : List ChT) : Prop := ∀ c ∈ Ts, Lst w base 3 c.val (i64s c.u)
theorem GwC.chgc {w w' : World} {base : Nat} {Ts : List ChT} {l : List Nat} (h : GwC w base Ts) (hc : Chg l w w') (hl : ∀ x ∈ l, ∀ cur, w.heap[x]? ≠ some (.cells cur 3 (0, 0))) : GwC w' base Ts := fun c hm => (h c hm).chgc hc hl
theorem GwC.base {w : World} {base base' : Nat} {Ts : List ChT} (h : GwC w base Ts) (hb : base' ≤ base) : GwC w base' Ts := fun c hm => (h c hm).base hb
theorem Sl.otherT {w : World} {base base' : Nat} {e : TypeId} {v v' : Value} {xs : List Value} {L : List SgT} (h : Lst w base e v xs) (h' : Sl w base' v' L) (hne : e ≠ 84) : ∀ x ∈ rowOf v', ∀ cur, w.heap[x]? ≠ some (.cells cur e (0, 0)) := h'.notT hne.symm
def GwS (w : World) (base : Nat) (Gs : List SgT) : Prop := ∀ T ∈ Gs, Lst w base 46 (.slice T.a T.ch.length T.c) (chv T.ch) ∧ GwC w base T.ch
theorem GwS.chgc {w w' : World} {base : Nat} {Gs : List SgT} {l : List Nat} (h : GwS w base Gs) (hc : Chg l w w') (h1 : ∀ x ∈ l, ∀ cur, w.heap[x]? ≠ some (.cells cur 46 (0, 0))) (h2 : ∀ x ∈ l, ∀ cur, w.heap[x]? ≠ some (.cells cur 3 (0, 0))) : GwS w' base Gs :=
  fun T hT => ⟨(h T hT).1.chgc hc h1, (h T hT).2.chgc hc h2⟩
theorem GwS.inn {w : World} {base : Nat} {Gs : List SgT} (h : GwS w base Gs) : SgIn w w.heap.size Gs := fun T hT => by
  obtain ⟨h1, h2⟩ := h T hT
  obtain ⟨a, c, e, hr, _⟩ := h1.form
  injection e with e1 e2 e3
  subst e1
  refine ⟨hr, fun c hc => ?_⟩
  obtain ⟨a, c', e, hr, _⟩ := (h2 c hc).form
  unfold ChT.val at e
  injection e with e1 e2 e3
  rw [e1]
  exact hr

end Go.Proofs.YtcadnlilijkneaaGreat
