/-
  source of package layout: take, takeCount, chain, by their contracts. No claim of its own.
-/
import Derived.Test.YtcadnlilijkneaaGa8
import Derived.Deep.Cut
import Derived.Deep.RegionHeld3
import Derived.Test.YtcadnlilijkneaaGa2
import Derived.Test.YtcadnlilijkneaaGa6
namespace Go.Proofs.Ytcadnlilijkneaa
open Go.RowKit Go.Deep
set_option linter.unusedVariables false
set_option linter.unusedSimpArgs false

/-- bytes that are read from the k-th bit on: a struct in block s, of type T -/
def Src (w : World) (T : TypeId) (B s : Nat) (bs : List UInt8) (k : Nat) : Prop :=
  (∃ a c, Own w s T [.slice a bs.length c, .int .i64 (k : Int)] ∧ Ro w B a (u8s bs)) ∧ B ≤ s ∧ bs.length ≤ 1000000
theorem Src.lt {w : World} {T : TypeId} {B s : Nat} {bs : List UInt8} {k : Nat} (h : Src w T B s bs k) : s < w.heap.size := by
  obtain ⟨⟨a, c, h1, _⟩, _⟩ := h
  exact h1.lt
theorem Src.chg {w w' : World} {T : TypeId} {B s : Nat} {bs : List UInt8} {k : Nat} {l : List Nat} (h : Src w T B s bs k) (hc : Chg l w w') (hs : s ∉ l) (hl : ∀ x ∈ l, B ≤ x) : Src w' T B s bs k := by
  obtain ⟨⟨a, c, h1, h2⟩, h3, h4⟩ := h
  exact ⟨⟨a, c, h1.chg hc hs, h2.below (hc.below (Nat.le_trans h3 (Nat.le_of_lt h1.lt)) hl) (Nat.le_refl _)⟩, h3, h4⟩
theorem Src.new0 {w w' : World} {T : TypeId} {B s : Nat} {bs : List UInt8} {k : Nat} (h : Src w T B s bs k) (hc : Chg [] w w') : Src w' T B s bs k := h.chg hc (by simp) (by simp)
theorem Src.notT {w : World} {T t : TypeId} {B s : Nat} {bs : List UInt8} {k : Nat} (h : Src w T B s bs k) (ht : t ≠ T) : ∀ x ∈ [s], ∀ cur, w.heap[x]? ≠ some (.cells cur t (0, 0)) := by
  obtain ⟨⟨a, c, h1, h2⟩, h3, h4⟩ := h
  exact h1.notT' ht

theorem tkN_64 (bs : List UInt8) (k m : Nat) (hm : m ≤ 64) : tkN bs k m < 18446744073709551616 := by
  have h1 := tkN_lt bs k m
  have h2 := pow_le_64 hm
  omega
theorem rep_at {α : Type} {p : Nat → α × Nat} {d : Nat} (h : ∀ k, (p k).2 ≤ k + d) : ∀ n k, (rep p n k).2 ≤ k + n * d
  | 0, k => by simp [rep]
  | n + 1, k => by
    have ih := rep_at h n k
    have := h (rep p n k).2
    rw [rep, Nat.succ_mul]
    simp only
    omega
theorem pCh_at (bs : List UInt8) (k : Nat) : (pCh bs k).2 ≤ k + 22 ∧ (pCh bs k).1.length ≤ 4 := by
  have h1 := rep_at (p := pU bs) (d := 5) (fun k => Nat.le_refl _) (tkN bs k 2 + 1) (k + 2)
  have h2 := tkN_lt bs k 2
  unfold pCh
  rw [rep_length]
  omega
theorem pU_at (bs : List UInt8) (n k : Nat) : (rep (pU bs) n k).2 = k + 5 * n := by
  induction n with
  | zero => rfl
  | succ n ih => simp only [rep, ih, pU]; omega
end Go.Proofs.Ytcadnlilijkneaa
namespace Go.Proofs.Ytcadnlilijkneaa
open Go.RowKit Go.Deep Go.Shelf
set_option linter.unusedVariables false
set_option linter.unusedSimpArgs false

/-- the last one below n whose From is at most a, or 0 -/
def lastLe (L : List Sg) (a : Nat) : Nat → Nat
  | 0 => 0
  | n + 1 => if (sx L n).1 ≤ a then n else lastLe L a n
def segN (x : Ly) (a : Nat) : Nat := lastLe x.s a x.s.length
def segI (x : Ly) (a : Nat) : Int := if lright x = true ∧ a < 1048576 then (segN x a : Int) else -1
theorem lastLe_lt (L : List Sg) (a n : Nat) (h : 0 < n) : lastLe L a n < n := by
  induction n with
  | zero => omega
  | succ n ih =>
    simp only [lastLe]
    split
    · omega
    · rcases Nat.eq_zero_or_pos n with rfl | h0
      · simp [lastLe]
      · have := ih h0; omega
theorem lastLe_is (L : List Sg) (a n : Nat) (hn : 0 < n) (h0 : (sx L 0).1 ≤ a) : (sx L (lastLe L a n)).1 ≤ a ∧ ∀ j, lastLe L a n < j → j < n → a < (sx L j).1 := by
  induction n with
  | zero => omega
  | succ n ih =>
    simp only [lastLe]
    split
    · exact ⟨by assumption, by omega⟩
    · rename_i hc
      rcases Nat.eq_zero_or_pos n with rfl | hp
      · exact absurd h0 hc
      · obtain ⟨g1, g2⟩ := ih hp
        refine ⟨g1, fun j h1 h2 => ?_⟩
        by_cases e : j = n
        · subst e; omega
        · exact g2 j h1 (by omega)
theorem sg_mono {L : List Sg} (h : sgOk L = true) {i j : Nat} (hij : i < j) (hj : j < L.length) : (sx L i).1 < (sx L j).1 := by
  have hs := (sgOk_iff.1 h).2.2.2
  induction j with
  | zero => omega
  | succ j ih =>
    have := hs j hj
    by_cases e : i = j
    · subst e; exact this
    · have := ih (by omega) (by omega); omega
/-- the index is the only one of its kind -/
theorem segN_eq {x : Ly} (h : lright x = true) {a i : Nat} (hi : i < x.s.length) (h1 : (sx x.s i).1 ≤ a) (h2 : ∀ j, i < j → j < x.s.length → a < (sx x.s j).1) : segN x a = i := by
  have hs := (lright_iff.1 h).2.2
  have h0 := (sgOk_iff.1 hs).2.1
  obtain ⟨g1, g2⟩ := lastLe_is x.s a x.s.length (by omega) (by omega)
  have hlt := lastLe_lt x.s a x.s.length (by omega)
  unfold segN
  rcases Nat.lt_trichotomy (lastLe x.s a x.s.length) i with hc | hc | hc
  · have := g2 i hc hi; omega
  · exact hc
  · have := h2 _ hc hlt; omega
theorem segN_is {x : Ly} (h : lright x = true) (a : Nat) : segN x a < x.s.length ∧ (sx x.s (segN x a)).1 ≤ a ∧ ∀ j, segN x a < j → j < x.s.length → a < (sx x.s j).1 := by
  have hs := (lright_iff.1 h).2.2
  have h0 := sgOk_iff.1 hs
  obtain ⟨g1, g2⟩ := lastLe_is x.s a x.s.length (by omega) (by omega)
  exact ⟨lastLe_lt _ _ _ (by omega), g1, g2⟩

end Go.Proofs.Ytcadnlilijkneaa
namespace Go.Proofs.Ytcadnlilijkneaa
open Go.RowKit Go.Deep
set_option linter.unusedVariables false
set_option linter.unusedSimpArgs false

/-- a slice of segments of the call's own -/
def Sl (w : World) (base : Nat) (v : Value) (L : List SgT) : Prop := w.ownsRow base 67 2 v L.length (sgv L)
theorem Sl.nil (w : World) (base : Nat) : Sl w base (.slice none 0 0) [] := World.ownsRow_nil w base _ 2
theorem Sl.alloc {w : World} {base : Nat} {v : Value} {L : List SgT} (h : Sl w base v L) (o : Obj) : Sl (w.alloc o) base v L := World.ownsRow.alloc h o
theorem Sl.lt {w : World} {base : Nat} {v : Value} {L : List SgT} (h : Sl w base v L) : ∀ k, v.ownBlock = some k → base ≤ k ∧ k < w.heap.size := World.ownsRow.lt h
theorem Sl.chgc {w w' : World} {base : Nat} {v : Value} {L : List SgT} {l : List Nat} (h : Sl w base v L) (hc : Chg l w w') (hl : ∀ x ∈ l, ∀ cur, w.heap[x]? ≠ some (.cells cur 67 (0, 0))) : Sl w' base v L := by
  refine ⟨h.1, ?_⟩
  rcases h.2 with h1 | ⟨g, cap, cur, h1, h2, h3, h4⟩
  · exact .inl h1
  · exact .inr ⟨g, cap, cur, h1, h2, (hc.block g (Array.getElem?_eq_some_iff.1 h3).1 (fun hm => hl g hm cur h3)).trans h3, h4⟩
theorem Sl.below {w w' : World} {base : Nat} {v : Value} {L : List SgT} (h : Sl w base v L) (hb : Below w.heap.size w w') : Sl w' base v L := h.chgc ((Chg.refl [] w).of_below hb) (by simp)
theorem Sl.base {w : World} {base base' : Nat} {v : Value} {L : List SgT} (h : Sl w base v L) (hb : base' ≤ base) : Sl w base' v L := by
  refine ⟨h.1, ?_⟩
  rcases h.2 with h1 | ⟨g, cap, cur, h1, h2, h3⟩
  · exact .inl h1
  · exact .inr ⟨g, cap, cur, h1, by omega, h3⟩
theorem Sl.form {w : World} {base : Nat} {v : Value} {L : List SgT} (h : Sl w base v L) : ∃ a c, v = .slice a L.length c ∧ Ro w w.heap.size a (sgv L) ∧ L.length ≤ c := by
  rcases h.2 with ⟨rfl, h0⟩ | ⟨g, cap, cur, rfl, hb, hh, hle, hm, hrest⟩
  · have : L = [] := by simpa using h0
    subst this
    exact ⟨none, 0, rfl, .inl rfl, by simp⟩
  · refine ⟨some ⟨g, 0, none⟩, cap, rfl, .inr ⟨g, 0, rfl, ?_, fun i hi => ?_⟩, hle⟩
    · exact (World.ownsRow.lt h g rfl).2
    · have := World.ownsRow.cellAt h i (by rw [sgv_length] at hi; exact hi)
      rw [Nat.zero_add, this]
      simp only [List.getD, List.getElem?_eq_getElem hi, Option.getD_some]
theorem Try.info_seg : (Try.prog.info? 67).map (fun i => (i.zero, i.size, i.bytes)) = some (some (.agg #[.int .u64 0, .slice none 0 0]), 2, 32) := by kernel_rfl
theorem Try.info_ch : (Try.prog.info? 33).map (fun i => (i.zero, i.size, i.bytes)) = some (some (.slice none 0 0), 1, 24) := by kernel_rfl
theorem Sl.grown_below {B base : Nat} {a w w' : World} {v : Value} {L : List SgT} (h : Below B a w) (hl : Sl w base v L) (hg : w.grownBy w' v.ownBlock) (hB : B ≤ base) (hB2 : B ≤ w.heap.size) : Below B a w' :=
  ⟨hg.os.trans h.os, hg.tape.trans h.tape, hg.output.trans h.output, Nat.le_trans h.size hg.size, fun b hb => (hg.block b (by omega) (fun e => by have := (hl.lt b e.symm).1; omega)).trans (h.block b hb)⟩
/-- append of one segment -/
theorem wpList_appSg {ops : Array Oper} {rest : List Oper} {o : Oper} {a : Act} {w : World} {Q : Exit → Act → World → Prop} (hgd : o.guard = none) (s x : Operand)
    (ho : o.op = .call { callee := .builtin .append, args := #[s, x], argTypes := #[36, 36] })
    (base : Nat) (v : Value) (L : List SgT) (hs : a.eval s = v) (hown : Sl w base v L) (g : Nat) (y : SgT) (t : TypeId) (hnew : Own w g t (sgv [y]))
    (hx : a.eval x = .slice (some ⟨g, 0, none⟩) 1 1) (hlen : L.length ≤ 1000000) (hbase : base ≤ w.heap.size)
    (h : ∀ v' w', Hid (Sl w' base v' (L ++ [y])) → w.grownBy w' v.ownBlock → wpList Try.prog ops Q rest (a.put o.dst v') w') : wpList Try.prog ops Q (o :: rest) a w := by
  obtain ⟨i, hi, hzz⟩ := Option.map_eq_some_iff.1 Try.info_seg
  simp only [Prod.mk.injEq] at hzz
  obtain ⟨hz, hsz, hby⟩ := hzz
  refine wpList_append_own w hgd s x 36 ho base 67 i _ 2 32 Try.underlying36 hi hz hsz hby rfl (by omega) v L.length (sgv L) hs hown ⟨g, 0, none⟩ 1 1 (sgv [y]) hx (by simp) (fun j u hu => ?_) (sgv_one _) (by unfold maxLen; omega) (by omega) hbase fun v' w' h2 h3 _ => h v' w' ?_ h3
  · rw [add_off, Nat.zero_add, hnew.cell j]; exact hu
  · show w'.ownsRow base 67 2 v' (L ++ [y]).length (sgv (L ++ [y]))
    rw [List.length_append, sgv_append]
    exact h2
theorem Sl.row {w : World} {base : Nat} {v : Value} {L : List SgT} (h : Sl w base v L) : ∀ x ∈ rowOf v, base ≤ x ∧ ∃ cur, w.heap[x]? = some (.cells cur 67 (0, 0)) := by
  intro x hx
  rcases h.2 with ⟨rfl, _⟩ | ⟨g, cap, cur, rfl, h2, h3, _⟩
  · simp [rowOf, Value.ownBlock] at hx
  · simp [rowOf, Value.ownBlock] at hx
    subst hx
    exact ⟨h2, cur, h3⟩
theorem Sl.notT {w : World} {base : Nat} {v : Value} {L : List SgT} {t' : TypeId} (h : Sl w base v L) (ht : 67 ≠ t') : ∀ x ∈ rowOf v, ∀ cur, w.heap[x]? ≠ some (.cells cur t' (0, 0)) := by
  intro x hx cur he
  obtain ⟨_, cur', h2⟩ := h.row x hx
  rw [he] at h2
  injection h2 with h2
  injection h2 with _ h2 _
  exact ht h2.symm
theorem Own.out_row {w : World} {base g : Nat} {t : TypeId} {cs : List Value} {v : Value} {L : List SgT} (h : Own w g t cs) (hv : Sl w base v L) (ht : t ≠ 67) : g ∉ rowOf v := by
  intro hm
  obtain ⟨_, cur, h2⟩ := hv.row g hm
  unfold Own at h
  rw [h] at h2
  injection h2 with h2
  injection h2 with _ h2 _
  exact ht h2
end Go.Proofs.Ytcadnlilijkneaa
namespace Go.Proofs.Ytcadnlilijkneaa
open Go.RowKit Go.Deep
set_option linter.unusedVariables false
set_option linter.unusedSimpArgs false

/-- append of one value at a step of a region that draws its order -/
theorem step_app1g {P : Program} {w : World} {ops : Array Oper} {o : Oper} {a : Act} {K : Act → World → Prop} {Q : Exit → Act → World → Prop} {E : Prop} (hgd : o.guard = none) (s x : Operand) (t : TypeId)
    (ho : o.op = .call { callee := .builtin .append, args := #[s, x], argTypes := #[t, t] })
    (base : Nat) (e : TypeId) (z : Value) (bytes : Nat) (ht : P.underlying t = some (.slice e)) (hinfo : (P.info? e).map (fun i => (i.zero, i.size, i.bytes)) = some (some z, 1, bytes)) (hzs : z.cells.size = 1)
    (u : Value) (h1 : u.oneCell' = true) (v : Value) (xs : List Value) (hs : a.eval s = v) (hown : Lst w base e v xs) (g : Nat) (t' : TypeId) (hnew : Own w g t' [u])
    (hx : a.eval x = .slice (some ⟨g, 0, none⟩) 1 1)
    (hlen : (xs.length + 1) * bytes ≤ 140737488355328) (hlen2 : xs.length + 1 ≤ 140737488355328) (hbase : base ≤ w.heap.size)
    (h : ∀ v' w', Hid (Lst w' base e v' (xs ++ [u])) → Chg (rowOf v) w w' → K (a.put o.dst v') w') :
    if Region.wanted o (yielded ops a.tmps) = true then Oper.wp P o a w K Q else E := by
  have hw : Region.wanted o (yielded ops a.tmps) = true := by simp [Region.wanted, hgd]
  rw [if_pos hw]
  exact wp_app s x t ho base e z bytes ht hinfo hzs v xs hs hown (some ⟨g, 0, none⟩) (g + 1) 1 1 [u] hx rfl (hnew.ro _ (by omega)) (by simpa using h1) hlen hlen2 hbase fun v' w' h2 h3 => h v' w' h2 (grown_chgR h3)

/-- segments whose chains lie in rows of the call's own -/
def GwC (w : World) (base : Nat) (Ts : List ChT) : Prop := ∀ c ∈ Ts, Lst w base 3 c.val (i64s c.u)
theorem GwC.chgc {w w' : World} {base : Nat} {Ts : List ChT} {l : List Nat} (h : GwC w base Ts) (hc : Chg l w w') (hl : ∀ x ∈ l, ∀ cur, w.heap[x]? ≠ some (.cells cur 3 (0, 0))) : GwC w' base Ts := fun c hm => (h c hm).chgc hc hl
theorem GwC.base {w : World} {base base' : Nat} {Ts : List ChT} (h : GwC w base Ts) (hb : base' ≤ base) : GwC w base' Ts := fun c hm => (h c hm).base hb
theorem pSg_at (bs : List UInt8) (k : Nat) : (pSg bs k).2 ≤ k + 110 ∧ (pSg bs k).1.2.length ≤ 4 := by
  have h1 := rep_at (p := pCh bs) (d := 22) (fun k => (pCh_at bs k).1) (tkN bs (k + 20) 2 + 1) (k + 20 + 2)
  have h2 := tkN_lt bs (k + 20) 2
  unfold pSg
  simp only [rep_length]
  omega
theorem Own.notRow {w : World} {g : Nat} {t : TypeId} {cs : List Value} (h : Own w g t cs) {base : Nat} {e : TypeId} {v : Value} {xs : List Value} (hl : Lst w base e v xs) (hne : e ≠ t) : g ∉ rowOf v := hl.ownT h hne
theorem Chg.nil1 {w w' : World} (h : Chg [] w w') (l : List Nat) : Chg l w w' := h.mono (fun x hx => by cases hx)

/-- append of one segment at a step of a region that draws its order -/
theorem step_appSg {w : World} {ops : Array Oper} {o : Oper} {a : Act} {K : Act → World → Prop} {Q : Exit → Act → World → Prop} {E : Prop} (hgd : o.guard = none) (s x : Operand)
    (ho : o.op = .call { callee := .builtin .append, args := #[s, x], argTypes := #[36, 36] })
    (base : Nat) (v : Value) (L : List SgT) (hs : a.eval s = v) (hown : Sl w base v L) (g : Nat) (y : SgT) (t : TypeId) (hnew : Own w g t (sgv [y]))
    (hx : a.eval x = .slice (some ⟨g, 0, none⟩) 1 1) (hlen : L.length ≤ 1000000) (hbase : base ≤ w.heap.size)
    (h : ∀ v' w', Hid (Sl w' base v' (L ++ [y])) → Chg (rowOf v) w w' → K (a.put o.dst v') w') :
    if Region.wanted o (yielded ops a.tmps) = true then Oper.wp Try.prog o a w K Q else E := by
  have hw : Region.wanted o (yielded ops a.tmps) = true := by simp [Region.wanted, hgd]
  rw [if_pos hw]
  obtain ⟨i, hi, hzz⟩ := Option.map_eq_some_iff.1 Try.info_seg
  simp only [Prod.mk.injEq] at hzz
  obtain ⟨hz, hsz, hby⟩ := hzz
  refine wp_append_own w s x 36 ho base 67 i _ 2 32 Try.underlying36 hi hz hsz hby rfl (by omega) v L.length (sgv L) hs hown ⟨g, 0, none⟩ 1 1 (sgv [y]) hx (by simp) (fun j u hu => ?_) (sgv_one _) (by unfold maxLen; omega) (by omega) hbase fun v' w' h2 h3 _ => h v' w' ?_ (grown_chgR h3)
  · rw [add_off, Nat.zero_add, hnew.cell j]; exact hu
  · show w'.ownsRow base 67 2 v' (L ++ [y]).length (sgv (L ++ [y]))
    rw [List.length_append, sgv_append]
    exact h2
theorem Sl.otherT {w : World} {base base' : Nat} {e : TypeId} {v v' : Value} {xs : List Value} {L : List SgT} (h : Lst w base e v xs) (h' : Sl w base' v' L) (hne : e ≠ 67) : ∀ x ∈ rowOf v', ∀ cur, w.heap[x]? ≠ some (.cells cur e (0, 0)) := h'.notT hne.symm
/-- segments in rows of the call's own -/
def GwS (w : World) (base : Nat) (Gs : List SgT) : Prop := ∀ T ∈ Gs, Lst w base 33 (.slice T.a T.ch.length T.c) (chv T.ch) ∧ GwC w base T.ch
theorem GwS.chgc {w w' : World} {base : Nat} {Gs : List SgT} {l : List Nat} (h : GwS w base Gs) (hc : Chg l w w') (h1 : ∀ x ∈ l, ∀ cur, w.heap[x]? ≠ some (.cells cur 33 (0, 0))) (h2 : ∀ x ∈ l, ∀ cur, w.heap[x]? ≠ some (.cells cur 3 (0, 0))) : GwS w' base Gs :=
  fun T hT => ⟨(h T hT).1.chgc hc h1, (h T hT).2.chgc hc h2⟩
theorem GwS.inn {w : World} {base : Nat} {Gs : List SgT} (h : GwS w base Gs) : SgIn w w.heap.size Gs := fun T hT => by
  obtain ⟨h1, h2⟩ := h T hT
  obtain ⟨a, c, e, hr, _⟩ := h1.form
  injection e with e1 e2 e3
  subst e1
  refine ⟨hr, fun c hc => ?_⟩
  obtain ⟨a, c', e, hr, _⟩ := (h2 c hc).form
  unfold ChT.val at e
  injection e with e1 e2 e3
  rw [e1]
  exact hr

end Go.Proofs.Ytcadnlilijkneaa
namespace Go.Proofs.Ytcadnlilijkneaa
open Go.RowKit Go.Deep Go.Shelf
set_option linter.unusedVariables false
set_option linter.unusedSimpArgs false

/-- one element of a row of the call's own is set -/
theorem Lst.set {w : World} {base : Nat} {e : TypeId} {g n c : Nat} {xs : List Value} (h : Lst w base e (.slice (some ⟨g, 0, none⟩) n c) xs) (i : Nat) (hi : i < xs.length) (u : Value) : Lst (w.setCell ⟨g, i, none⟩ u) base e (.slice (some ⟨g, 0, none⟩) n c) (xs.set i u) := by
  refine ⟨by simp, ?_⟩
  rcases h.2 with ⟨hv, _⟩ | ⟨g', cap, cur, hv, h2, h3, h4, h5, h6, h7⟩
  · cases hv
  · injection hv with hv hn hc
    injection hv with hv
    injection hv with hv _ _
    subst hv hc
    refine .inr ⟨g, c, cur.set! i u, by rw [hn]; simp, h2, ?_, by simpa using h4, h5, by simpa using h6, ?_⟩
    · have : Own w g e cur.toList := by unfold Own; simpa using h3
      have := this.set i u
      unfold Own at this
      rw [this]
      congr 2
      apply Array.ext'
      simp
    · rw [List.length_set, Array.set!_eq_setIfInBounds, Array.toList_setIfInBounds, List.take_set, h7]
theorem Lst.frozen {w : World} {base : Nat} {e : TypeId} {g n c : Nat} {xs : List Value} (h : Lst w base e (.slice (some ⟨g, 0, none⟩) n c) xs) (i : Nat) : w.frozen? ⟨g, i, none⟩ = false := by
  rcases h.2 with ⟨hv, _⟩ | ⟨g', cap, cur, hv, h2, h3, _⟩
  · cases hv
  · injection hv with hv hn hc
    injection hv with hv
    injection hv with hv _ _
    subst hv
    simp [World.frozen?, h3]

end Go.Proofs.Ytcadnlilijkneaa
namespace Go.Proofs.Ytcadnlilijkneaa
open Go.RowKit Go.Deep Go.Shelf
set_option linter.unusedVariables false
set_option linter.unusedSimpArgs false

theorem i64s_one (bs : List Int) : ∀ v ∈ i64s bs, v.oneCell' = true := by
  intro v hv
  simp only [i64s, List.mem_map] at hv
  obtain ⟨x, _, rfl⟩ := hv
  rfl
theorem clone_int (a : Option Addr) (c B : Nat) (L : List Int) (w : World) (hro : Ro w B a (i64s L)) (h0 : 0 < L.length) (hl : L.length ≤ 1000000) :
    Calls Try.prog 26 #[.slice a L.length c] w fun e w' => ∃ v, e = .returned v ∧ Lst w' w.heap.size 3 v (i64s L) ∧ Below w.heap.size w w' := by
  obtain ⟨i, hi, hz⟩ := Option.map_eq_some_iff.1 Try.info_i64
  simp only [Prod.mk.injEq] at hz
  obtain ⟨b, off, rfl, hb, hc⟩ := hro.i64 h0
  refine (AnyE.slices_Clone cloneI i (.int .i64 0) 1 8 hi hz.1 hz.2.1 hz.2.2 rfl (by omega) (fun w => Try.sizeOf3 w) b off L.length c (i64s L) w (by simp) (by unfold maxLen; omega) (by omega) (fun j u hj => ?_) (i64s_one L)).mono ?_
  · have hj' : j < L.length := by simpa using (List.getElem?_eq_some_iff.1 hj).1
    rw [hc j hj', ← i64s_getD L j hj']
    simp [List.getD, hj]
  · rintro e w' ⟨v, rfl, h1, _, h2⟩
    refine ⟨v, rfl, ?_, h2⟩
    unfold Lst
    rw [i64s_length]
    exact h1
theorem cloneC_any (a : Option Addr) (c B : Nat) (L : List ChT) (w : World) (hro : Ro w B a (chv L)) (h0 : 0 < L.length) (hl : L.length ≤ 1000000) :
    Calls Try.prog 25 #[.slice a L.length c] w fun e w' => ∃ g c', e = .returned (.slice (some ⟨g, 0, none⟩) L.length c') ∧ Lst w' w.heap.size 33 (.slice (some ⟨g, 0, none⟩) L.length c') (chv L) ∧ Below w.heap.size w w' := by
  obtain ⟨i, hi, hz⟩ := Option.map_eq_some_iff.1 Try.info_ch
  simp only [Prod.mk.injEq] at hz
  obtain ⟨b, off, rfl, hb, hc⟩ := hro.ch h0
  refine (AnyE.slices_Clone cloneC i (.slice none 0 0) 1 24 hi hz.1 hz.2.1 hz.2.2 rfl (by omega) (fun w => Try.sizeOf33 w) b off L.length c (chv L) w (by simp) (by unfold maxLen; omega) (by omega) (fun j u hj => ?_) (chv_one L)).mono ?_
  · have hj' : j < L.length := by simpa using (List.getElem?_eq_some_iff.1 hj).1
    rw [hc j hj', ← hj]
    simp [chv, ct, List.getD, hj', ChT.val]
  · rintro e w' ⟨v, rfl, h1, _, h2⟩
    have hl : Lst w' w.heap.size 33 v (chv L) := by unfold Lst; rw [chv_length]; exact h1
    rcases hl.2 with ⟨_, hn⟩ | ⟨g, cap, cur, hv, hrest⟩
    · rw [chv_length] at hn; omega
    · rw [chv_length] at hv
      rw [hv] at hl
      exact ⟨g, cap, by rw [hv], hl, h2⟩
theorem cloneS_any (a : Option Addr) (c B : Nat) (L : List SgT) (w : World) (hro : Ro w B a (sgv L)) (h0 : 0 < L.length) (hl : L.length ≤ 1000000) :
    Calls Try.prog 24 #[.slice a L.length c] w fun e w' => ∃ g c', e = .returned (.slice (some ⟨g, 0, none⟩) L.length c') ∧ Sl w' w.heap.size (.slice (some ⟨g, 0, none⟩) L.length c') L ∧ Below w.heap.size w w' := by
  obtain ⟨i, hi, hz⟩ := Option.map_eq_some_iff.1 Try.info_seg
  simp only [Prod.mk.injEq] at hz
  obtain ⟨b, off, rfl, hb, hc⟩ := hro.sg h0
  refine (AnyE.slices_Clone cloneS i (.agg #[.int .u64 0, .slice none 0 0]) 2 32 hi hz.1 hz.2.1 hz.2.2 rfl (by omega) (fun w => Try.sizeOf67 w) b off L.length c (sgv L) w (by simp) (by unfold maxLen; omega) (by omega) (fun j u hj => ?_) (sgv_one L)).mono ?_
  · have hj' : j < L.length * 2 := by simpa using (List.getElem?_eq_some_iff.1 hj).1
    obtain ⟨q1, q2⟩ := sgv_get L (j / 2)
    obtain ⟨p1, p2⟩ := hc (j / 2) (by omega)
    have es : L[j / 2]? = some (st L (j / 2)) := by
      have : j / 2 < L.length := by omega
      simp [st, List.getD, this]
    rcases Nat.mod_two_eq_zero_or_one j with e | e
    · have e2 : j = j / 2 * 2 := by omega
      rw [← e2, es, hj] at q1
      rw [← e2] at p1
      rw [p1, q1]
      rfl
    · have e2 : j = j / 2 * 2 + 1 := by omega
      rw [← e2, es, hj] at q2
      rw [Nat.add_assoc, ← e2] at p2
      rw [p2, q2]
      rfl
  · rintro e w' ⟨v, rfl, h1, _, h2⟩
    have hl : Sl w' w.heap.size v L := h1
    rcases hl.2 with ⟨_, hn⟩ | ⟨g, cap, cur, hv, hrest⟩
    · omega
    · rw [hv] at hl
      exact ⟨g, cap, by rw [hv], hl, h2⟩
/-- one word of a row of segments is set -/
theorem Sl.set {w : World} {base g n c : Nat} {L L' : List SgT} (h : Sl w base (.slice (some ⟨g, 0, none⟩) n c) L) (i : Nat) (hi : i < L.length * 2) (u : Value) (hn : L'.length = L.length) (hx : (sgv L).set i u = sgv L') : Sl (w.setCell ⟨g, i, none⟩ u) base (.slice (some ⟨g, 0, none⟩) n c) L' := by
  refine ⟨by simp, ?_⟩
  rcases h.2 with ⟨hv, _⟩ | ⟨g', cap, cur, hv, h2, h3, h4, h5, h6, h7⟩
  · cases hv
  · injection hv with hv hnn hc
    injection hv with hv
    injection hv with hv _ _
    subst hv hc
    refine .inr ⟨g, c, cur.set! i u, by rw [hnn, hn], h2, ?_, by rw [hn]; exact h4, h5, by simpa using h6, ?_⟩
    · have : Own w g 67 cur.toList := by unfold Own; simpa using h3
      have := this.set i u
      unfold Own at this
      rw [this]
      congr 2
      apply Array.ext'
      simp
    · rw [hn, Array.set!_eq_setIfInBounds, Array.toList_setIfInBounds, List.take_set, h7, hx]
theorem Sl.frozen {w : World} {base g n c : Nat} {L : List SgT} (h : Sl w base (.slice (some ⟨g, 0, none⟩) n c) L) (i : Nat) : w.frozen? ⟨g, i, none⟩ = false := by
  rcases h.2 with ⟨hv, _⟩ | ⟨g', cap, cur, hv, h2, h3, _⟩
  · cases hv
  · injection hv with hv hn hc
    injection hv with hv
    injection hv with hv _ _
    subst hv
    simp [World.frozen?, h3]
theorem sgv_set (A : List SgT) (x y : SgT) (B : List SgT) (hf : y.f = x.f) : (sgv (A ++ x :: B)).set (A.length * 2 + 1) (.slice y.a y.ch.length y.c) = sgv (A ++ y :: B) := by
  rw [sgv_append, sgv_append, List.set_append, if_neg (by simp)]
  congr 1
  simp [sgv, hf]
/-- a layout that came in is small -/
structure LySm (A : LyT) : Prop where
  n : 0 < A.sg.length ∧ A.sg.length ≤ 4
  s : ∀ k, k < A.sg.length → (0 < (st A.sg k).ch.length ∧ (st A.sg k).ch.length ≤ 4) ∧ ∀ T ∈ (st A.sg k).ch, 0 < T.u.length ∧ T.u.length ≤ 4
theorem LySm.of {A : LyT} (h : lright A.x = true) : LySm A := by
  have v := SgV.of h
  refine ⟨v.n, fun k hk => ⟨(v.sg k hk).2.1, fun T hT => ?_⟩⟩
  obtain ⟨j, hj, rfl⟩ := List.getElem_of_mem hT
  have := ((v.sg k hk).2.2 j hj).1
  have e : ct (st A.sg k).ch j = (st A.sg k).ch[j] := by simp [ct, List.getD, hj]
  rw [e] at this
  exact this
end Go.Proofs.Ytcadnlilijkneaa
