/-
  Words of this seat: slices that the call itself has made by append, and the append of any source to such a one. Plain lemmas, no claim of their own.
-/
import Derived.Test.YtdpaofedepnnbaaGreatBase
namespace Go.Proofs.YtdpaofedepnnbaaGreat
set_option linter.unusedVariables false
set_option linter.unusedSimpArgs false
open Go.RowKit Go.Deep

/-- the value v is a slice of the call's own (blocks from base on), nil or not, with the elements xs -/
def Lst (w : World) (base : Nat) (e : TypeId) (v : Value) (xs : List Value) : Prop := w.ownsRow base e 1 v xs.length xs

theorem Lst.nil (w : World) (base : Nat) (e : TypeId) : Lst w base e (.slice none 0 0) [] := World.ownsRow_nil w base e 1
theorem Lst.lit (w : World) (base : Nat) (e : TypeId) (cs : Array Value) (hb : base ≤ w.heap.size) (hm : cs.size ≤ maxLen) : Lst (w.alloc (.cells cs e)) base e (.slice (some ⟨w.heap.size, 0, none⟩) cs.size cs.size) cs.toList := by
  have := World.ownsRow_lit (base := base) (e := e) (size := 1) w cs cs.size hb hm (by simp)
  unfold Lst
  simpa using this
theorem Lst.form {w : World} {base : Nat} {e : TypeId} {v : Value} {xs : List Value} (h : Lst w base e v xs) : ∃ a c, v = .slice a xs.length c ∧ Ro w w.heap.size a xs ∧ xs.length ≤ c ∧ (a = none → c = 0) := by
  unfold Lst at h
  rcases h.2 with ⟨rfl, h0⟩ | ⟨g, cap, cur, rfl, hb, hh, hle, hrest⟩
  · have : xs = [] := by simpa using h0
    subst this
    exact ⟨none, 0, rfl, .inl rfl, by simp, fun _ => rfl⟩
  · refine ⟨some ⟨g, 0, none⟩, cap, rfl, .inr ⟨g, 0, rfl, ?_, fun i hi => ?_⟩, hle, fun hh => by cases hh⟩
    · exact (World.ownsRow.lt h g rfl).2
    · have := World.ownsRow.cellAt h i (by omega)
      rw [Nat.zero_add, this]
      simp [List.getD, hi]
theorem Lst.base {w : World} {base base' : Nat} {e : TypeId} {v : Value} {xs : List Value} (h : Lst w base e v xs) (hb : base' ≤ base) : Lst w base' e v xs := by
  unfold Lst at h ⊢
  obtain ⟨h0, h1⟩ := h
  refine ⟨h0, ?_⟩
  rcases h1 with h1 | ⟨g, cap, cur, h2, h3, h4⟩
  · exact .inl h1
  · exact .inr ⟨g, cap, cur, h2, by omega, h4⟩
theorem Lst.alloc {w : World} {base : Nat} {e : TypeId} {v : Value} {xs : List Value} (h : Lst w base e v xs) (o : Obj) : Lst (w.alloc o) base e v xs := World.ownsRow.alloc h o
theorem Lst.qt {w w' : World} {base : Nat} {e : TypeId} {v : Value} {xs : List Value} (h : Lst w base e v xs) (k : Qt w w') : Lst w' base e v xs := by
  obtain ⟨n, rfl⟩ := k
  exact h
theorem Lst.below {w w' : World} {base B : Nat} {e : TypeId} {v : Value} {xs : List Value} (h : Lst w base e v xs) (hb : Below B w w') (hB : w.heap.size ≤ B) : Lst w' base e v xs := by
  unfold Lst at h ⊢
  refine World.ownsRow.kept (row := none) h ⟨hb.os, hb.tape, hb.output, hb.size, fun b hlt _ => hb.block b (by omega)⟩ ?_
  by_cases hv : v.ownBlock = none
  · exact .inl hv
  · exact .inr hv
theorem Lst.kept {w w' : World} {base : Nat} {e : TypeId} {v : Value} {xs : List Value} {row : Option Nat} (h : Lst w base e v xs) (hg : w.grownBy w' row) (hne : v.ownBlock = none ∨ v.ownBlock ≠ row) : Lst w' base e v xs :=
  World.ownsRow.kept h hg hne
theorem Lst.lt {w : World} {base : Nat} {e : TypeId} {v : Value} {xs : List Value} (h : Lst w base e v xs) : ∀ k, v.ownBlock = some k → base ≤ k ∧ k < w.heap.size := World.ownsRow.lt h
/-- what an append leaves below a number -/
theorem grown_below {B base : Nat} {a w w' : World} {e : TypeId} {v : Value} {xs : List Value} (h : Below B a w) (hl : Lst w base e v xs) (hg : w.grownBy w' v.ownBlock) (hB : B ≤ base) (hB2 : B ≤ w.heap.size) : Below B a w' :=
  ⟨hg.os.trans h.os, hg.tape.trans h.tape, hg.output.trans h.output, Nat.le_trans h.size hg.size, fun b hb => (hg.block b (by omega) (fun e => by have := (hl.lt b e.symm).1; omega)).trans (h.block b hb)⟩

section
variable {P : Program} {w : World}
theorem run_app_none (base : Nat) (t ty e : TypeId) (i : TypeInfo) (ht : P.underlying t = some (.slice e)) (hi : P.info? e = some i)
    (v : Value) (xs : List Value) (hown : Lst w base e v xs) (c : Nat) : (Builtin.append_ #[t, t] ty #[v, .slice none 0 c]).run P w = .ok v w := by
  rcases hown.2 with ⟨rfl, h0⟩ | ⟨g, cap, cur, rfl, _, _, hnc, _⟩
  · simp [Builtin.append_, run_underlying ht, sizeOf, typeInfo, hi, Builtin.lenOf, Builtin.firstCells]
  · simp [Builtin.append_, run_underlying ht, sizeOf, typeInfo, hi, Builtin.lenOf, Builtin.firstCells, hnc, storeCells]

/-- append to a slice of the call's own, whatever the source: nil, empty, or a row -/
theorem wpList_app {ops : Array Oper} {rest : List Oper} {o : Oper} {a : Act} {Q : Exit → Act → World → Prop} (hgd : o.guard = none) (s x : Operand) (t : TypeId)
    (ho : o.op = .call { callee := .builtin .append, args := #[s, x], argTypes := #[t, t] })
    (base : Nat) (e : TypeId) (z : Value) (bytes : Nat) (ht : P.underlying t = some (.slice e)) (hinfo : (P.info? e).map (fun i => (i.zero, i.size, i.bytes)) = some (some z, 1, bytes)) (hzs : z.cells.size = 1)
    (v : Value) (xs : List Value) (hs : a.eval s = v) (hown : Lst w base e v xs)
    (A : Option Addr) (B m c : Nat) (news : List Value) (hx : a.eval x = .slice A m c) (hm : news.length = m) (hro : Ro w B A news) (h1 : ∀ u ∈ news, u.oneCell' = true)
    (hlen : (xs.length + m) * bytes ≤ 140737488355328) (hlen2 : xs.length + m ≤ 140737488355328) (hbase : base ≤ w.heap.size)
    (h : ∀ v' w', Hid (Lst w' base e v' (xs ++ news)) → w.grownBy w' v.ownBlock → wpList P ops Q rest (a.put o.dst v') w') : wpList P ops Q (o :: rest) a w := by
  obtain ⟨i, hi, hzz⟩ := Option.map_eq_some_iff.1 hinfo
  simp only [Prod.mk.injEq] at hzz
  obtain ⟨hz, hsz, hby⟩ := hzz
  subst hm
  rcases A with _ | ad
  · have hn : news = [] := by
      rcases hro with h | ⟨b, off, h, _⟩
      · exact h
      · cases h
    subst hn
    refine wpList_plain hgd fun K hK => ?_
    have hrun := run_app_none (P := P) (w := w) base t o.type e i ht hi v xs hown c
    unfold Oper.wp
    simp only [List.length_nil] at hx
    simp [execOp, ho, resolve, invoke, builtin, hs, hx, hrun, Result.andThen]
    refine hK _ _ (h v w ?_ (World.grownBy.refl w _))
    rw [List.append_nil]
    exact hown
  · have hcells : ∀ j u, news[j]? = some u → w.cell? (ad.add j) = some u := by
      intro j u hu
      have hj : j < news.length := (List.getElem?_eq_some_iff.1 hu).1
      rcases hro with h | ⟨b, off, h, hb, hc⟩
      · subst h; simp at hj
      · injection h with h
        subst h
        have e2 : (⟨b, off, none⟩ : Addr).add j = ⟨b, off + j, none⟩ := by unfold Addr.add; split <;> simp_all
        rw [e2, hc j hj]
        simp [List.getD, hu]
    refine wpList_append_own w hgd s x t ho base e i z 1 bytes ht hi hz hsz hby hzs (by omega) v xs.length xs hs hown ad news.length c news hx (by omega) hcells h1 (by unfold maxLen; omega) hlen hbase fun v' w' h2 h3 _ => h v' w' ?_ h3
    show w'.ownsRow base e 1 v' (xs ++ news).length (xs ++ news)
    rw [List.length_append]
    exact h2

/-- the same, with what it keeps below B -/
theorem wpList_appB {ops : Array Oper} {rest : List Oper} {o : Oper} {a : Act} {Q : Exit → Act → World → Prop} (hgd : o.guard = none) (s x : Operand) (t : TypeId)
    (ho : o.op = .call { callee := .builtin .append, args := #[s, x], argTypes := #[t, t] })
    (base : Nat) (e : TypeId) (z : Value) (bytes : Nat) (ht : P.underlying t = some (.slice e)) (hinfo : (P.info? e).map (fun i => (i.zero, i.size, i.bytes)) = some (some z, 1, bytes)) (hzs : z.cells.size = 1)
    (v : Value) (xs : List Value) (hs : a.eval s = v) (hown : Lst w base e v xs)
    (A : Option Addr) (BB m c : Nat) (news : List Value) (hx : a.eval x = .slice A m c) (hm : news.length = m) (hro : Ro w BB A news) (h1 : ∀ u ∈ news, u.oneCell' = true)
    (hlen : (xs.length + m) * bytes ≤ 140737488355328) (hlen2 : xs.length + m ≤ 140737488355328) (B : Nat) (w0 : World) (hb : Below B w0 w) (hB : B ≤ base) (hbase : base ≤ w.heap.size)
    (h : ∀ v' w', Hid (Lst w' base e v' (xs ++ news)) → Below B w0 w' → w.heap.size ≤ w'.heap.size → wpList P ops Q rest (a.put o.dst v') w') : wpList P ops Q (o :: rest) a w :=
  wpList_app hgd s x t ho base e z bytes ht hinfo hzs v xs hs hown A BB m c news hx hm hro h1 hlen hlen2 hbase fun v' w' h2 h3 => h v' w' h2 (grown_below hb hown h3 hB (by omega)) h3.size
theorem ro_one (w0 : World) (t : TypeId) (u : Value) : Ro (w0.alloc (.cells #[u] t)) (w0.heap.size + 1) (some ⟨w0.heap.size, 0, none⟩) [u] :=
  (Own.new w0 t [u]).ro _ (by omega)
/-- append of one value -/
theorem wpList_app1 {ops : Array Oper} {rest : List Oper} {o : Oper} {a : Act} {Q : Exit → Act → World → Prop} (hgd : o.guard = none) (s x : Operand) (t : TypeId)
    (ho : o.op = .call { callee := .builtin .append, args := #[s, x], argTypes := #[t, t] })
    (base : Nat) (e : TypeId) (z : Value) (bytes : Nat) (ht : P.underlying t = some (.slice e)) (hinfo : (P.info? e).map (fun i => (i.zero, i.size, i.bytes)) = some (some z, 1, bytes)) (hzs : z.cells.size = 1)
    (u : Value) (h1 : u.oneCell' = true) (v : Value) (xs : List Value) (hs : a.eval s = v) (hown : Lst w base e v xs)
    (hx : a.eval x = .slice (some ⟨w.heap.size, 0, none⟩) 1 1)
    (hlen : (xs.length + 1) * bytes ≤ 140737488355328) (hlen2 : xs.length + 1 ≤ 140737488355328) (B : Nat) (w0 : World) (hb : Below B w0 w) (hB : B ≤ base) (hbase : base ≤ w.heap.size)
    (h : ∀ v' w', Hid (Lst w' base e v' (xs ++ [u])) → Below B w0 w' → w.heap.size ≤ w'.heap.size → wpList P ops Q rest (a.put o.dst v') w') : wpList P ops Q (o :: rest) a (w.alloc (.cells #[u] e)) :=
  wpList_appB hgd s x t ho base e z bytes ht hinfo hzs v xs hs (hown.alloc _) (some ⟨w.heap.size, 0, none⟩) (w.heap.size + 1) 1 1 [u] hx rfl (ro_one w e u) (by simpa using h1) hlen hlen2 B w0 (hb.alloc (by omega) _) hB (by simp; omega)
    fun v' w' h2 h3 h4 => h v' w' h2 h3 (by simp at h4; omega)

/-- the same laws at a step of a region that draws its order -/
theorem wp_app {o : Oper} {a : Act} {K : Act → World → Prop} {Q : Exit → Act → World → Prop} (s x : Operand) (t : TypeId)
    (ho : o.op = .call { callee := .builtin .append, args := #[s, x], argTypes := #[t, t] })
    (base : Nat) (e : TypeId) (z : Value) (bytes : Nat) (ht : P.underlying t = some (.slice e)) (hinfo : (P.info? e).map (fun i => (i.zero, i.size, i.bytes)) = some (some z, 1, bytes)) (hzs : z.cells.size = 1)
    (v : Value) (xs : List Value) (hs : a.eval s = v) (hown : Lst w base e v xs)
    (A : Option Addr) (B m c : Nat) (news : List Value) (hx : a.eval x = .slice A m c) (hm : news.length = m) (hro : Ro w B A news) (h1 : ∀ u ∈ news, u.oneCell' = true)
    (hlen : (xs.length + m) * bytes ≤ 140737488355328) (hlen2 : xs.length + m ≤ 140737488355328) (hbase : base ≤ w.heap.size)
    (h : ∀ v' w', Hid (Lst w' base e v' (xs ++ news)) → w.grownBy w' v.ownBlock → K (a.put o.dst v') w') : o.wp P a w K Q := by
  obtain ⟨i, hi, hzz⟩ := Option.map_eq_some_iff.1 hinfo
  simp only [Prod.mk.injEq] at hzz
  obtain ⟨hz, hsz, hby⟩ := hzz
  subst hm
  rcases A with _ | ad
  · have hn : news = [] := by
      rcases hro with h | ⟨b, off, h, _⟩
      · exact h
      · cases h
    subst hn
    have hrun := run_app_none (P := P) (w := w) base t o.type e i ht hi v xs hown c
    unfold Oper.wp
    simp only [List.length_nil] at hx
    simp [execOp, ho, resolve, invoke, builtin, hs, hx, hrun, Result.andThen]
    refine h v w ?_ (World.grownBy.refl w _)
    rw [List.append_nil]
    exact hown
  · have hcells : ∀ j u, news[j]? = some u → w.cell? (ad.add j) = some u := by
      intro j u hu
      have hj : j < news.length := (List.getElem?_eq_some_iff.1 hu).1
      rcases hro with h | ⟨b, off, h, hb, hc⟩
      · subst h; simp at hj
      · injection h with h
        subst h
        rw [add_off, hc j hj]
        simp [List.getD, hu]
    refine wp_append_own w s x t ho base e i z 1 bytes ht hi hz hsz hby hzs (by omega) v xs.length xs hs hown ad news.length c news hx (by omega) hcells h1 (by unfold maxLen; omega) hlen hbase fun v' w' h2 h3 _ => h v' w' ?_ h3
    show w'.ownsRow base e 1 v' (xs ++ news).length (xs ++ news)
    rw [List.length_append]
    exact h2
theorem step_appB {ops : Array Oper} {o : Oper} {a : Act} {K : Act → World → Prop} {Q : Exit → Act → World → Prop} {E : Prop} (hgd : o.guard = none) (s x : Operand) (t : TypeId)
    (ho : o.op = .call { callee := .builtin .append, args := #[s, x], argTypes := #[t, t] })
    (base : Nat) (e : TypeId) (z : Value) (bytes : Nat) (ht : P.underlying t = some (.slice e)) (hinfo : (P.info? e).map (fun i => (i.zero, i.size, i.bytes)) = some (some z, 1, bytes)) (hzs : z.cells.size = 1)
    (v : Value) (xs : List Value) (hs : a.eval s = v) (hown : Lst w base e v xs)
    (A : Option Addr) (BB m c : Nat) (news : List Value) (hx : a.eval x = .slice A m c) (hm : news.length = m) (hro : Ro w BB A news) (h1 : ∀ u ∈ news, u.oneCell' = true)
    (hlen : (xs.length + m) * bytes ≤ 140737488355328) (hlen2 : xs.length + m ≤ 140737488355328) (B : Nat) (w0 : World) (hb : Below B w0 w) (hB : B ≤ base) (hbase : base ≤ w.heap.size)
    (h : ∀ v' w', Hid (Lst w' base e v' (xs ++ news)) → Below B w0 w' → w.heap.size ≤ w'.heap.size → K (a.put o.dst v') w') :
    if Region.wanted o (yielded ops a.tmps) = true then Oper.wp P o a w K Q else E := by
  have hw : Region.wanted o (yielded ops a.tmps) = true := by simp [Region.wanted, hgd]
  rw [if_pos hw]
  exact wp_app s x t ho base e z bytes ht hinfo hzs v xs hs hown A BB m c news hx hm hro h1 hlen hlen2 hbase fun v' w' h2 h3 => h v' w' h2 (grown_below hb hown h3 hB (by omega)) h3.size
/-- the same at an operation that is guarded, its guard being met -/
theorem wpList_appG {ops : Array Oper} {rest : List Oper} {o : Oper} {a : Act} {Q : Exit → Act → World → Prop} (s x : Operand) (t : TypeId)
    (ho : o.op = .call { callee := .builtin .append, args := #[s, x], argTypes := #[t, t] })
    (base : Nat) (e : TypeId) (z : Value) (bytes : Nat) (ht : P.underlying t = some (.slice e)) (hinfo : (P.info? e).map (fun i => (i.zero, i.size, i.bytes)) = some (some z, 1, bytes)) (hzs : z.cells.size = 1)
    (v : Value) (xs : List Value) (hs : a.eval s = v) (hown : Lst w base e v xs)
    (A : Option Addr) (BB m c : Nat) (news : List Value) (hx : a.eval x = .slice A m c) (hm : news.length = m) (hro : Ro w BB A news) (h1 : ∀ u ∈ news, u.oneCell' = true)
    (hlen : (xs.length + m) * bytes ≤ 140737488355328) (hlen2 : xs.length + m ≤ 140737488355328) (B : Nat) (w0 : World) (hb : Below B w0 w) (hB : B ≤ base) (hbase : base ≤ w.heap.size)
    (hw : Region.wanted o (yielded ops a.tmps) = true)
    (h : ∀ v' w', Hid (Lst w' base e v' (xs ++ news)) → Below B w0 w' → w.heap.size ≤ w'.heap.size → wpList P ops Q rest (a.put o.dst v') w') : wpList P ops Q (o :: rest) a w :=
  wpList_step fun K hK => by
    rw [if_pos hw]
    exact wp_app s x t ho base e z bytes ht hinfo hzs v xs hs hown A BB m c news hx hm hro h1 hlen hlen2 hbase fun v' w' h2 h3 => hK _ _ (h v' w' h2 (grown_below hb hown h3 hB (by omega)) h3.size)
theorem cell_keep {B : Nat} {w w' : World} {b o : Nat} {v : Value} (hb : Below B w w') (h : w.cell? ⟨b, o, none⟩ = some v) (hlt : b < B) : w'.cell? ⟨b, o, none⟩ = some v := (hb.cell (p := ⟨b, o, none⟩) hlt).trans h
end
end Go.Proofs.YtdpaofedepnnbaaGreat
