/-
  Words of this seat: slices that the call itself has made by append, and the append of any source to such a one. Plain lemmas, no claim of their own.
-/
import Derived.Test.YtcadnlilijkneaaGreatGb1
import Derived.Deep.MidRow
import Derived.Lib.SlBytesConst
import Derived.Lib.BitFns
import Derived.Laws.StructEq
import Derived.Shelf.Abstract
import Derived.Shelf.RegionOpen
import Derived.RangeFuncNested
import Derived.RangeFuncBound
import Derived.RangeFuncCalls
import Derived.RangeFuncLeaves
import Derived.WalkKit
import Derived.OwnWalkIn
import Derived.TacticsInMore
import Derived.LoopNIn
import Derived.LoopIn
import Derived.Lib.SmallJoins
namespace Go.Proofs.YtcadnlilijkneaaGreat
set_option linter.unusedVariables false
set_option linter.unusedSimpArgs false
open Go.RowKit Go.Deep

def Lst (w : World) (base : Nat) (e : TypeId) (v : Value) (xs : List Value) : Prop := w.ownsRow base e 1 v xs.length xs

theorem Lst.nil (w : World) (base : Nat) (e : TypeId) : Lst w base e (.slice none 0 0) [] := World.ownsRow_nil w base e 1
theorem Lst.lit (w : World) (base : Nat) (e : TypeId) (cs : Array Value) (hb : base ≤ w.heap.size) (hm : cs.size ≤ maxLen) : Lst (w.alloc (.cells cs e)) base e (.slice (some ⟨w.heap.size, 0, none⟩) cs.size cs.size) cs.toList := by
  have := World.ownsRow_lit (base := base) (e := e) (size := 1) w cs cs.size hb hm (by simp)
  unfold Lst
  simpa using this
theorem Lst.form {w : World} {base : Nat} {e : TypeId} {v : Value} {xs : List Value} (h : Lst w base e v xs) : ∃ a c, v = .slice a xs.length c ∧ Ro w w.heap.size a xs ∧ xs.length ≤ c ∧ (a = none → c = 0) := by
  unfold Lst at h
  rcases h.2 with ⟨rfl, h0⟩ | ⟨g, cap, cur, rfl, hb, hh, hle, hrest⟩
  · have : xs = [] := by simpa using h0
    subst this
    exact ⟨none, 0, rfl, .inl rfl, by simp, fun _ => rfl⟩
  · refine ⟨some ⟨g, 0, none⟩, cap, rfl, .inr ⟨g, 0, rfl, ?_, fun i hi => ?_⟩, hle, fun hh => by cases hh⟩
    · exact (World.ownsRow.lt h g rfl).2
    · have := World.ownsRow.cellAt h i (by omega)
      rw [Nat.zero_add, this]
      simp [List.getD, hi]
theorem Lst.base {w : World} {base base' : Nat} {e : TypeId} {v : Value} {xs : List Value} (h : Lst w base e v xs) (hb : base' ≤ base) : Lst w base' e v xs := by
  unfold Lst at h ⊢
  obtain ⟨h0, h1⟩ := h
  refine ⟨h0, ?_⟩
  rcases h1 with h1 | ⟨g, cap, cur, h2, h3, h4⟩
  · exact .inl h1
  · exact .inr ⟨g, cap, cur, h2, by omega, h4⟩
theorem Lst.alloc {w : World} {base : Nat} {e : TypeId} {v : Value} {xs : List Value} (h : Lst w base e v xs) (o : Obj) : Lst (w.alloc o) base e v xs := World.ownsRow.alloc h o
theorem Lst.qt {w w' : World} {base : Nat} {e : TypeId} {v : Value} {xs : List Value} (h : Lst w base e v xs) (k : Qt w w') : Lst w' base e v xs := by
  obtain ⟨n, rfl⟩ := k
  exact h
theorem Lst.below {w w' : World} {base B : Nat} {e : TypeId} {v : Value} {xs : List Value} (h : Lst w base e v xs) (hb : Below B w w') (hB : w.heap.size ≤ B) : Lst w' base e v xs := by
  unfold Lst at h ⊢
  refine World.ownsRow.kept (row := none) h ⟨hb.os, hb.tape, hb.output, hb.size, fun b hlt _ => hb.block b (by omega)⟩ ?_
  by_cases hv : v.ownBlock = none
  · exact .inl hv
  · exact .inr hv
theorem Lst.kept {w w' : World} {base : Nat} {e : TypeId} {v : Value} {xs : List Value} {row : Option Nat} (h : Lst w base e v xs) (hg : w.grownBy w' row) (hne : v.ownBlock = none ∨ v.ownBlock ≠ row) : Lst w' base e v xs :=
  World.ownsRow.kept h hg hne
theorem Lst.lt {w : World} {base : Nat} {e : TypeId} {v : Value} {xs : List Value} (h : Lst w base e v xs) : ∀ k, v.ownBlock = some k → base ≤ k ∧ k < w.heap.size := World.ownsRow.lt h
theorem grown_below {B base : Nat} {a w w' : World} {e : TypeId} {v : Value} {xs : List Value} (h : Below B a w) (hl : Lst w base e v xs) (hg : w.grownBy w' v.ownBlock) (hB : B ≤ base) (hB2 : B ≤ w.heap.size) : Below B a w' :=
  ⟨hg.os.trans h.os, hg.tape.trans h.tape, hg.output.trans h.output, Nat.le_trans h.size hg.size, fun b hb => (hg.block b (by omega) (fun e => by have := (hl.lt b e.symm).1; omega)).trans (h.block b hb)⟩

section
variable {P : Program} {w : World}
theorem run_app_none (base : Nat) (t ty e : TypeId) (i : TypeInfo) (ht : P.underlying t = some (.slice e)) (hi : P.info? e = some i)
    (v : Value) (xs : List Value) (hown : Lst w base e v xs) (c : Nat) : (Builtin.append_ #[t, t] ty #[v, .slice none 0 c]).run P w = .ok v w := by
  rcases hown.2 with ⟨rfl, h0⟩ | ⟨g, cap, cur, rfl, _, _, hnc, _⟩
  · simp [Builtin.append_, run_underlying ht, sizeOf, typeInfo, hi, Builtin.lenOf, Builtin.firstCells]
  · simp [Builtin.append_, run_underlying ht, sizeOf, typeInfo, hi, Builtin.lenOf, Builtin.firstCells, hnc, storeCells]

theorem wpList_app {ops : Array Oper} {rest : List Oper} {o : Oper} {a : Act} {Q : Exit → Act → World → Prop} (hgd : o.guard = none) (s x : Operand) (t : TypeId)
    (ho : o.op = .call { callee := .builtin .append, args := #[s, x], argTypes := #[t, t] })
    (base : Nat) (e : TypeId) (z : Value) (bytes : Nat) (ht : P.underlying t = some (.slice e)) (hinfo : (P.info? e).map (fun i => (i.zero, i.size, i.bytes)) = some (some z, 1, bytes)) (hzs : z.cells.size = 1)
    (v : Value) (xs : List Value) (hs : a.eval s = v) (hown : Lst w base e v xs)
    (A : Option Addr) (B m c : Nat) (news : List Value) (hx : a.eval x = .slice A m c) (hm : news.length = m) (hro : Ro w B A news) (h1 : ∀ u ∈ news, u.oneCell' = true)
    (hlen : (xs.length + m) * bytes ≤ 140737488355328) (hlen2 : xs.length + m ≤ 140737488355328) (hbase : base ≤ w.heap.size)
    (h : ∀ v' w', Hid (Lst w' base e v' (xs ++ news)) → w.grownBy w' v.ownBlock → wpList P ops Q rest (a.put o.dst v') w') : wpList P ops Q (o :: rest) a w := by
  obtain ⟨i, hi, hzz⟩ := Option.map_eq_some_iff.1 hinfo
  simp only [Prod.mk.injEq] at hzz
  obtain ⟨hz, hsz, hby⟩ := hzz
  subst hm
  rcases A with _ | ad
  · have hn : news = [] := by
      rcases hro with h | ⟨b, off, h, _⟩
      · exact h
      · cases h
    subst hn
    refine wpList_plain hgd fun K hK => ?_
    have hrun := run_app_none (P := P) (w := w) base t o.type e i ht hi v xs hown c
    unfold Oper.wp
    simp only [List.length_nil] at hx
    simp [execOp, ho, resolve, invoke, builtin, hs, hx, hrun, Result.andThen]
    refine hK _ _ (h v w ?_ (World.grownBy.refl w _))
    rw [List.append_nil]
    exact hown
  · have hcells : ∀ j u, news[j]? = some u → w.cell? (ad.add j) = some u := by
      intro j u hu
      have hj : j < news.length := (List.getElem?_eq_some_iff.1 hu).1
      rcases hro with h | ⟨b, off, h, hb, hc⟩
      · subst h; simp at hj
      · injection h with h
        subst h
        have e2 : (⟨b, off, none⟩ : Addr).add j = ⟨b, off + j, none⟩ := by unfold Addr.add; split <;> simp_all
        rw [e2, hc j hj]
        simp [List.getD, hu]
    refine wpList_append_own w hgd s x t ho base e i z 1 bytes ht hi hz hsz hby hzs (by omega) v xs.length xs hs hown ad news.length c news hx (by omega) hcells h1 (by unfold maxLen; omega) hlen hbase fun v' w' h2 h3 _ => h v' w' ?_ h3
    show w'.ownsRow base e 1 v' (xs ++ news).length (xs ++ news)
    rw [List.length_append]
    exact h2

theorem wpList_appB {ops : Array Oper} {rest : List Oper} {o : Oper} {a : Act} {Q : Exit → Act → World → Prop} (hgd : o.guard = none) (s x : Operand) (t : TypeId)
    (ho : o.op = .call { callee := .builtin .append, args := #[s, x], argTypes := #[t, t] })
    (base : Nat) (e : TypeId) (z : Value) (bytes : Nat) (ht : P.underlying t = some (.slice e)) (hinfo : (P.info? e).map (fun i => (i.zero, i.size, i.bytes)) = some (some z, 1, bytes)) (hzs : z.cells.size = 1)
    (v : Value) (xs : List Value) (hs : a.eval s = v) (hown : Lst w base e v xs)
    (A : Option Addr) (BB m c : Nat) (news : List Value) (hx : a.eval x = .slice A m c) (hm : news.length = m) (hro : Ro w BB A news) (h1 : ∀ u ∈ news, u.oneCell' = true)
    (hlen : (xs.length + m) * bytes ≤ 140737488355328) (hlen2 : xs.length + m ≤ 140737488355328) (B : Nat) (w0 : World) (hb : Below B w0 w) (hB : B ≤ base) (hbase : base ≤ w.heap.size)
    (h : ∀ v' w', Hid (Lst w' base e v' (xs ++ news)) → Below B w0 w' → w.heap.size ≤ w'.heap.size → wpList P ops Q rest (a.put o.dst v') w') : wpList P ops Q (o :: rest) a w :=
  wpList_app hgd s x t ho base e z bytes ht hinfo hzs v xs hs hown A BB m c news hx hm hro h1 hlen hlen2 hbase fun v' w' h2 h3 => h v' w' h2 (grown_below hb hown h3 hB (by omega)) h3.size
theorem ro_one (w0 : World) (t : TypeId) (u : Value) : Ro (w0.alloc (.cells #[u] t)) (w0.heap.size + 1) (some ⟨w0.heap.size, 0, none⟩) [u] :=
  (Own.new w0 t [u]).ro _ (by omega)
theorem cell_keep {B : Nat} {w w' : World} {b o : Nat} {v : Value} (hb : Below B w w') (h : w.cell? ⟨b, o, none⟩ = some v) (hlt : b < B) : w'.cell? ⟨b, o, none⟩ = some v := (hb.cell (p := ⟨b, o, none⟩) hlt).trans h
end
end Go.Proofs.YtcadnlilijkneaaGreat
namespace Go.Proofs.YtcadnlilijkneaaGreat
set_option linter.unusedVariables false
set_option linter.unusedSimpArgs false
open Go.RowKit Go.Shelf Go.Deep

structure Chg (l : List Nat) (a w : World) : Prop where
  os : w.os = a.os
  tape : w.tape = a.tape
  output : w.output = a.output
  size : a.heap.size ≤ w.heap.size
  block : ∀ k, k < a.heap.size → k ∉ l → w.heap[k]? = a.heap[k]?
theorem Chg.refl (l : List Nat) (a : World) : Chg l a a := ⟨rfl, rfl, rfl, Nat.le_refl _, fun _ _ _ => rfl⟩
theorem Chg.trans {l : List Nat} {a b c : World} (h : Chg l a b) (k : Chg l b c) : Chg l a c :=
  ⟨k.os.trans h.os, k.tape.trans h.tape, k.output.trans h.output, Nat.le_trans h.size k.size, fun i hi hn => (k.block i (Nat.lt_of_lt_of_le hi h.size) hn).trans (h.block i hi hn)⟩
theorem Chg.mono {l l' : List Nat} {a b : World} (h : Chg l a b) (hs : ∀ x ∈ l, x ∈ l' ∨ a.heap.size ≤ x) : Chg l' a b :=
  ⟨h.os, h.tape, h.output, h.size, fun k hk hn => h.block k hk (fun hm => by rcases hs k hm with h1 | h1; exact hn h1; omega)⟩
theorem Chg.then {l l' : List Nat} {a b c : World} (h : Chg l a b) (k : Chg l' b c) (hs : ∀ x ∈ l', x ∈ l ∨ a.heap.size ≤ x) : Chg l a c :=
  ⟨k.os.trans h.os, k.tape.trans h.tape, k.output.trans h.output, Nat.le_trans h.size k.size, fun i hi hn => (k.block i (Nat.lt_of_lt_of_le hi h.size) (fun hm => by rcases hs i hm with h1 | h1; exact hn h1; omega)).trans (h.block i hi hn)⟩
theorem Chg.drew {l : List Nat} {a b : World} (h : Chg l a b) : Chg l a b.drew := ⟨h.os, h.tape, h.output, h.size, h.block⟩
theorem Chg.drewN {l : List Nat} {a b : World} (h : Chg l a b) (n : Nat) : Chg l a (b.drewN n) := ⟨h.os, h.tape, h.output, h.size, h.block⟩
theorem Chg.qt {l : List Nat} {a b c : World} (h : Chg l a b) (k : Qt b c) : Chg l a c := by obtain ⟨n, rfl⟩ := k; exact h.drewN n
theorem Chg.alloc {l : List Nat} {a b : World} (h : Chg l a b) (o : Obj) : Chg l a (b.alloc o) :=
  ⟨h.os, h.tape, h.output, by simp; have := h.size; omega, fun k hk hn => (Below.heap_alloc b o k (by have := h.size; omega)).trans (h.block k hk hn)⟩
theorem setCells_heap (b : Nat) : ∀ (vs : List Value) (o : Nat) (w : World), (w.setCells b o vs).os = w.os ∧ (w.setCells b o vs).tape = w.tape ∧ (w.setCells b o vs).output = w.output ∧ (w.setCells b o vs).heap.size = w.heap.size ∧ ∀ k, k ≠ b → (w.setCells b o vs).heap[k]? = w.heap[k]?
  | [], _, _ => ⟨rfl, rfl, rfl, rfl, fun _ _ => rfl⟩
  | v :: r, o, w => by
    obtain ⟨h1, h2, h3, h4, h5⟩ := setCells_heap b r (o + 1) (w.setCell ⟨b, o, none⟩ v)
    rw [World.setCells]
    exact ⟨h1, h2, h3, by rw [h4, set_size], fun k hk => by rw [h5 k hk, Below.heap_setCell w ⟨b, o, none⟩ v k hk]⟩
theorem Chg.setCells {l : List Nat} {a w : World} (h : Chg l a w) {b : Nat} (hb : b ∈ l ∨ a.heap.size ≤ b) (o : Nat) (vs : List Value) : Chg l a (w.setCells b o vs) := by
  obtain ⟨h1, h2, h3, h4, h5⟩ := setCells_heap b vs o w
  refine ⟨h1.trans h.os, h2.trans h.tape, h3.trans h.output, by rw [h4]; exact h.size, fun k hk hn => (h5 k (fun e => ?_)).trans (h.block k hk hn)⟩
  subst e
  rcases hb with hb | hb
  · exact hn hb
  · omega
theorem Chg.setCell {l : List Nat} {a w : World} (h : Chg l a w) {p : Addr} (hb : p.block ∈ l ∨ a.heap.size ≤ p.block) (v : Value) : Chg l a (w.setCell p v) := by
  refine ⟨h.os, h.tape, h.output, by rw [set_size]; exact h.size, fun k hk hn => (Below.heap_setCell w p v k (fun e => ?_)).trans (h.block k hk hn)⟩
  subst e
  rcases hb with hb | hb
  · exact hn hb
  · omega
theorem Chg.grown {l : List Nat} {a w w' : World} (h : Chg l a w) {row : Option Nat} (hg : w.grownBy w' row) (hr : ∀ k, row = some k → k ∈ l ∨ a.heap.size ≤ k) : Chg l a w' :=
  ⟨hg.os.trans h.os, hg.tape.trans h.tape, hg.output.trans h.output, Nat.le_trans h.size hg.size, fun k hk hn => (hg.block k (by have := h.size; omega) (fun e => by
    rcases hr k e.symm with h1 | h1
    · exact hn h1
    · omega)).trans (h.block k hk hn)⟩
theorem Chg.of_below {l : List Nat} {a w w' : World} (h : Chg l a w) (hb : Below w.heap.size w w') : Chg l a w' :=
  ⟨hb.os.trans h.os, hb.tape.trans h.tape, hb.output.trans h.output, Nat.le_trans h.size hb.size, fun k hk hn => (hb.block k (by have := h.size; omega)).trans (h.block k hk hn)⟩
theorem Chg.below {l : List Nat} {a w : World} (h : Chg l a w) {B : Nat} (hB : B ≤ a.heap.size) (hl : ∀ x ∈ l, B ≤ x) : Below B a w :=
  ⟨h.os, h.tape, h.output, h.size, fun k hk => h.block k (by omega) (fun hm => by have := hl k hm; omega)⟩
theorem Chg.low {a w : World} (h : Chg [] a w) : Below a.heap.size a w := h.below (Nat.le_refl _) (by simp)
theorem Chg.cell {l : List Nat} {a w : World} (h : Chg l a w) {b o : Nat} {v : Value} (hc : a.cell? ⟨b, o, none⟩ = some v) (hb : b ∉ l) : w.cell? ⟨b, o, none⟩ = some v :=
  (World.cell?_of_block (w := a) (w' := w) (a := ⟨b, o, none⟩) (h.block b (World.block_lt_of_cell? a _ hc) hb)).trans hc
theorem Chg.range {l : List Nat} {a w : World} (h : Chg l a w) {b o : Nat} {cs : List Value} (hc : a.rangeAt b o cs) (hb : b ∉ l) : w.rangeAt b o cs :=
  fun j v hv => h.cell (hc j v hv) hb
theorem Chg.there {l : List Nat} {a w : World} (h : Chg l a w) {b o n : Nat} (hc : a.there b o n) (hb : b ∉ l) : w.there b o n := fun j hj => by
  obtain ⟨h1, h2⟩ := hc j hj
  obtain ⟨u, hu⟩ := Option.isSome_iff_exists.1 h1
  have hlt := World.block_lt_of_cell? a _ hu
  exact ⟨by rw [h.cell hu hb]; rfl, (World.frozen?_of_block (w := a) (w' := w) (a := ⟨b, o + j, none⟩) (h.block b hlt hb)).trans h2⟩
theorem Chg.grownBy {b : Nat} {a w : World} (h : Chg [b] a w) : a.grownBy w (some b) := ⟨h.os, h.tape, h.output, h.size, fun k hk hn => h.block k hk (by simpa using hn)⟩
theorem Own.chg {l : List Nat} {a w : World} {g : Nat} {t : TypeId} {cs : List Value} (ho : Own a g t cs) (h : Chg l a w) (hg : g ∉ l) : Own w g t cs := (h.block g ho.lt hg).trans ho
def Same (FS : List Nat) (a w : World) : Prop := a.heap.size ≤ w.heap.size ∧ ∀ k ∈ FS, w.heap[k]? = a.heap[k]?
theorem Same.refl (FS : List Nat) (a : World) : Same FS a a := ⟨Nat.le_refl _, fun _ _ => rfl⟩
theorem Same.trans {FS : List Nat} {a b c : World} (h : Same FS a b) (k : Same FS b c) : Same FS a c := ⟨Nat.le_trans h.1 k.1, fun i hi => (k.2 i hi).trans (h.2 i hi)⟩
theorem Same.low {FS : List Nat} {a b : World} (h : Below a.heap.size a b) (hF : ∀ k ∈ FS, k < a.heap.size) : Same FS a b := ⟨h.size, fun k hk => h.block k (hF k hk)⟩
theorem Own.same {FS : List Nat} {a w : World} {g : Nat} {t : TypeId} {cs : List Value} (ho : Own a g t cs) (h : Same FS a w) (hg : g ∈ FS) : Own w g t cs := (h.2 g hg).trans ho
theorem roundIn_any {P : Program} {n m l : Nat} {f : FuncId} {tmps : Array Value} {assign body : Code} {w : World} {R : Ending → World → Prop} (h : RoundIn Fence.wide n P l f tmps assign body w R) : RoundIn Fence.wide m P l f tmps assign body w R :=
  ⟨h.1, fun c cs _ => h.2 c cs (room_wide _)⟩
theorem keepsFrom_below {B : Nat} {W W' : World} (h : Below W.heap.size W W') : KeepsFrom B W W' := ⟨h.size, fun k o _ hk _ => (h.block k (Array.getElem?_eq_some_iff.1 hk).1).trans hk⟩
theorem own_kept {A B : World} {row : Option Nat} {g : Nat} {t : TypeId} {cs : List Value} (h : Own A g t cs) (hg : A.grownBy B row) (hr : ∀ r, row = some r → ∃ o : Obj, A.heap[r]? = some o ∧ o.isCells = false) : Own B g t cs :=
  h.grown hg fun e => by
    obtain ⟨o, ho, hc⟩ := hr g e.symm
    rw [show A.heap[g]? = _ from h] at ho
    cases ho
    cases hc
theorem same_put {FS : List Nat} {B : Nat} (hF : ∀ k ∈ FS, k < B) : ∀ (W : World) (l : Nat) (o o' : Obj), B ≤ l → W.heap[l]? = some o → o.isCells = false → o.isWalk = false → Same FS W (W.putObj l o') :=
  fun W l o o' hl _ _ _ => ⟨by simp, fun k hk => World.putObj_heap_other (by have := hF k hk; omega)⟩
theorem run_part_cell {P : Program} {e : TypeId} {k : IntKind} (he : P.underlying e = some (.int k)) {xs : Array Value} {off : Nat} {v : Value} (hx : xs[off]? = some v) (w : World) : (part e xs off).run P w = .ok v w := by
  unfold part
  have ha : (isAgg e).run P w = .ok false w := by
    unfold isAgg; rw [Sem.run_bind, run_underlying he w]; rfl
  rw [Sem.run_bind, ha]
  simp [hx]
end Go.Proofs.YtcadnlilijkneaaGreat
namespace Go.Proofs.YtcadnlilijkneaaGreat
open Go.RowKit Go.Deep
set_option linter.unusedVariables false
set_option linter.unusedSimpArgs false

abbrev Bk := Int × Nat × Nat
structure Ce where
  k : Int
  d : List UInt8
  b : List Bk
theorem Ce.ext' {x y : Ce} (h1 : x.k = y.k) (h2 : x.d = y.d) (h3 : x.b = y.b) : x = y := by
  cases x; cases y; simp_all
def bcs : List Bk → List Value
  | [] => []
  | b :: L => .int .i64 b.1 :: .int .u64 (b.2.1 : Int) :: .int .u64 (b.2.2 : Int) :: bcs L
@[simp] theorem bcs_length (L : List Bk) : (bcs L).length = L.length * 3 := by
  induction L with
  | nil => rfl
  | cons r L ih => simp [bcs, ih]; omega
theorem bcs_get (L : List Bk) (i : Nat) : (bcs L)[i * 3]? = L[i]?.map (fun r => Value.int .i64 r.1) ∧ (bcs L)[i * 3 + 1]? = L[i]?.map (fun r => Value.int .u64 (r.2.1 : Int)) ∧ (bcs L)[i * 3 + 2]? = L[i]?.map (fun r => Value.int .u64 (r.2.2 : Int)) := by
  induction L generalizing i with
  | nil => simp [bcs]
  | cons r L ih =>
    cases i with
    | zero => simp [bcs]
    | succ i => rw [show (i + 1) * 3 = i * 3 + 1 + 1 + 1 by omega]; simpa [bcs] using ih i
def bk (L : List Bk) (i : Nat) : Bk := L.getD i (0, 0, 0)
theorem bk_get {L : List Bk} {i : Nat} (h : i < L.length) : L[i]? = some (bk L i) := by simp [bk, List.getD, h]
theorem bcs_bk {L : List Bk} {i : Nat} (h : i < L.length) : (bcs L).getD (i * 3) undef = .int .i64 (bk L i).1 ∧ (bcs L).getD (i * 3 + 1) undef = .int .u64 ((bk L i).2.1 : Int) ∧ (bcs L).getD (i * 3 + 2) undef = .int .u64 ((bk L i).2.2 : Int) := by
  obtain ⟨h1, h2, h3⟩ := bcs_get L i
  rw [bk_get h] at h1 h2 h3
  simp [List.getD, h1, h2, h3]
theorem Ro.bk {w : World} {B : Nat} {a : Option Addr} {L : List Bk} (h : Ro w B a (bcs L)) (hn : 0 < L.length) :
    ∃ b off, a = some ⟨b, off, none⟩ ∧ b < B ∧ ∀ i, i < L.length → w.cell? ⟨b, off + i * 3, none⟩ = some (.int .i64 (bk L i).1) ∧ w.cell? ⟨b, off + i * 3 + 1, none⟩ = some (.int .u64 ((bk L i).2.1 : Int)) ∧ w.cell? ⟨b, off + i * 3 + 2, none⟩ = some (.int .u64 ((bk L i).2.2 : Int)) := by
  obtain ⟨b, off, h1, h2, h3⟩ := h.at_ (by intro e; have e2 := congrArg List.length e; simp at e2; omega)
  refine ⟨b, off, h1, h2, fun i hi => ?_⟩
  obtain ⟨e1, e2, e3⟩ := bcs_bk hi
  have g1 := h3 (i * 3) (by simp; omega)
  have g2 := h3 (i * 3 + 1) (by simp; omega)
  have g3 := h3 (i * 3 + 2) (by simp; omega)
  rw [e1] at g1
  rw [e2] at g2
  rw [e3] at g3
  exact ⟨g1, by rw [Nat.add_assoc]; exact g2, by rw [Nat.add_assoc]; exact g3⟩

abbrev cev (k : Int) (a : Option Addr) (n c : Nat) (a2 : Option Addr) (n2 c2 : Nat) : Value := .agg #[.int .i64 k, .slice a n c, .slice a2 n2 c2]

def fx (p : Nat → Bool) : Nat → Int
  | 0 => -1
  | n + 1 => if 0 ≤ fx p n then fx p n else if p n then (n : Int) else -1
def anyN (p : Nat → Bool) (n : Nat) : Bool := decide (0 ≤ fx p n)
theorem fx_miss (p : Nat → Bool) (n : Nat) (h : ∀ j, j < n → p j = false) : fx p n = -1 := by
  induction n with
  | zero => rfl
  | succ n ih => simp only [fx]; rw [ih (fun j hj => h j (by omega)), h n (by omega)]; simp
theorem fx_hit (p : Nat → Bool) (n k : Nat) (hk : k < n) (hp : p k = true) (h : ∀ j, j < k → p j = false) : fx p n = (k : Int) := by
  induction n with
  | zero => omega
  | succ n ih =>
    simp only [fx]
    by_cases e : k = n
    · subst e; rw [fx_miss p k h, hp]; simp
    · rw [ih (by omega), if_pos (by omega)]
theorem fx_or (p : Nat → Bool) (n : Nat) : (fx p n = -1 ∧ ∀ j, j < n → p j = false) ∨ ∃ k, k < n ∧ fx p n = (k : Int) ∧ p k = true ∧ ∀ j, j < k → p j = false := by
  induction n with
  | zero => exact .inl ⟨rfl, by omega⟩
  | succ n ih =>
    rcases ih with ⟨h1, h2⟩ | ⟨k, h0, h1, h2, h3⟩
    · by_cases hp : p n = true
      · exact .inr ⟨n, by omega, fx_hit p _ n (by omega) hp h2, hp, h2⟩
      · have hp' : p n = false := by simpa using hp
        exact .inl ⟨fx_miss p _ (fun j hj => by
          by_cases e : j = n
          · subst e; exact hp'
          · exact h2 j (by omega)), fun j hj => by
          by_cases e : j = n
          · subst e; exact hp'
          · exact h2 j (by omega)⟩
    · exact .inr ⟨k, by omega, fx_hit p _ k (by omega) h2 h3, h2, h3⟩
theorem anyN_false {p : Nat → Bool} {n : Nat} : anyN p n = false ↔ ∀ j, j < n → p j = false := by
  unfold anyN
  rcases fx_or p n with ⟨h1, h2⟩ | ⟨k, h0, h1, h2, h3⟩
  · rw [h1]; simp; exact h2
  · rw [h1]; simp; exact ⟨k, h0, by simp [h2]⟩
end Go.Proofs.YtcadnlilijkneaaGreat
