/-
  What a call keeps: the blocks that are named, and what is new, may have turned. Plain lemmas, no claim of their own.
-/
import Derived.Test.YtdblplkaobeimaaGa1
import Derived.Test.YtdblplkaobeimaaGa5
import Derived.Test.YtdblplkaobeimaaGa3
import Derived.Test.YtdblplkaobeimaaGa4
import Derived.Laws.EntriesVeiled
namespace Go.Proofs.Ytdblplkaobeimaa
set_option linter.unusedVariables false
set_option linter.unusedSimpArgs false
open Go.RowKit

/-- only the blocks that are named, and what is new, has turned -/
structure Chg (l : List Nat) (a w : World) : Prop where
  os : w.os = a.os
  tape : w.tape = a.tape
  output : w.output = a.output
  size : a.heap.size ≤ w.heap.size
  block : ∀ k, k < a.heap.size → k ∉ l → w.heap[k]? = a.heap[k]?
theorem Chg.refl (l : List Nat) (a : World) : Chg l a a := ⟨rfl, rfl, rfl, Nat.le_refl _, fun _ _ _ => rfl⟩
theorem Chg.trans {l : List Nat} {a b c : World} (h : Chg l a b) (k : Chg l b c) : Chg l a c :=
  ⟨k.os.trans h.os, k.tape.trans h.tape, k.output.trans h.output, Nat.le_trans h.size k.size, fun i hi hn => (k.block i (Nat.lt_of_lt_of_le hi h.size) hn).trans (h.block i hi hn)⟩
theorem Chg.mono {l l' : List Nat} {a b : World} (h : Chg l a b) (hs : ∀ x ∈ l, x ∈ l' ∨ a.heap.size ≤ x) : Chg l' a b :=
  ⟨h.os, h.tape, h.output, h.size, fun k hk hn => h.block k hk (fun hm => by rcases hs k hm with h1 | h1; exact hn h1; omega)⟩
theorem Chg.then {l l' : List Nat} {a b c : World} (h : Chg l a b) (k : Chg l' b c) (hs : ∀ x ∈ l', x ∈ l ∨ a.heap.size ≤ x) : Chg l a c :=
  ⟨k.os.trans h.os, k.tape.trans h.tape, k.output.trans h.output, Nat.le_trans h.size k.size, fun i hi hn => (k.block i (Nat.lt_of_lt_of_le hi h.size) (fun hm => by rcases hs i hm with h1 | h1; exact hn h1; omega)).trans (h.block i hi hn)⟩
theorem Chg.drew {l : List Nat} {a b : World} (h : Chg l a b) : Chg l a b.drew := ⟨h.os, h.tape, h.output, h.size, h.block⟩
theorem Chg.drewN {l : List Nat} {a b : World} (h : Chg l a b) (n : Nat) : Chg l a (b.drewN n) := ⟨h.os, h.tape, h.output, h.size, h.block⟩
theorem Chg.qt {l : List Nat} {a b c : World} (h : Chg l a b) (k : Qt b c) : Chg l a c := by obtain ⟨n, rfl⟩ := k; exact h.drewN n
theorem Chg.alloc {l : List Nat} {a b : World} (h : Chg l a b) (o : Obj) : Chg l a (b.alloc o) :=
  ⟨h.os, h.tape, h.output, by simp; have := h.size; omega, fun k hk hn => (Below.heap_alloc b o k (by have := h.size; omega)).trans (h.block k hk hn)⟩
theorem setCells_heap (b : Nat) : ∀ (vs : List Value) (o : Nat) (w : World), (w.setCells b o vs).os = w.os ∧ (w.setCells b o vs).tape = w.tape ∧ (w.setCells b o vs).output = w.output ∧ (w.setCells b o vs).heap.size = w.heap.size ∧ ∀ k, k ≠ b → (w.setCells b o vs).heap[k]? = w.heap[k]?
  | [], _, _ => ⟨rfl, rfl, rfl, rfl, fun _ _ => rfl⟩
  | v :: r, o, w => by
    obtain ⟨h1, h2, h3, h4, h5⟩ := setCells_heap b r (o + 1) (w.setCell ⟨b, o, none⟩ v)
    rw [World.setCells]
    exact ⟨h1, h2, h3, by rw [h4, set_size], fun k hk => by rw [h5 k hk, Below.heap_setCell w ⟨b, o, none⟩ v k hk]⟩
theorem Chg.setCells {l : List Nat} {a w : World} (h : Chg l a w) {b : Nat} (hb : b ∈ l ∨ a.heap.size ≤ b) (o : Nat) (vs : List Value) : Chg l a (w.setCells b o vs) := by
  obtain ⟨h1, h2, h3, h4, h5⟩ := setCells_heap b vs o w
  refine ⟨h1.trans h.os, h2.trans h.tape, h3.trans h.output, by rw [h4]; exact h.size, fun k hk hn => (h5 k (fun e => ?_)).trans (h.block k hk hn)⟩
  subst e
  rcases hb with hb | hb
  · exact hn hb
  · omega
theorem Chg.setCell {l : List Nat} {a w : World} (h : Chg l a w) {p : Addr} (hb : p.block ∈ l ∨ a.heap.size ≤ p.block) (v : Value) : Chg l a (w.setCell p v) := by
  refine ⟨h.os, h.tape, h.output, by rw [set_size]; exact h.size, fun k hk hn => (Below.heap_setCell w p v k (fun e => ?_)).trans (h.block k hk hn)⟩
  subst e
  rcases hb with hb | hb
  · exact hn hb
  · omega
theorem Chg.grown {l : List Nat} {a w w' : World} (h : Chg l a w) {row : Option Nat} (hg : w.grownBy w' row) (hr : ∀ k, row = some k → k ∈ l ∨ a.heap.size ≤ k) : Chg l a w' :=
  ⟨hg.os.trans h.os, hg.tape.trans h.tape, hg.output.trans h.output, Nat.le_trans h.size hg.size, fun k hk hn => (hg.block k (by have := h.size; omega) (fun e => by
    rcases hr k e.symm with h1 | h1
    · exact hn h1
    · omega)).trans (h.block k hk hn)⟩
theorem Chg.of_below {l : List Nat} {a w w' : World} (h : Chg l a w) (hb : Below w.heap.size w w') : Chg l a w' :=
  ⟨hb.os.trans h.os, hb.tape.trans h.tape, hb.output.trans h.output, Nat.le_trans h.size hb.size, fun k hk hn => (hb.block k (by have := h.size; omega)).trans (h.block k hk hn)⟩
theorem Chg.below {l : List Nat} {a w : World} (h : Chg l a w) {B : Nat} (hB : B ≤ a.heap.size) (hl : ∀ x ∈ l, B ≤ x) : Below B a w :=
  ⟨h.os, h.tape, h.output, h.size, fun k hk => h.block k (by omega) (fun hm => by have := hl k hm; omega)⟩
theorem Chg.low {a w : World} (h : Chg [] a w) : Below a.heap.size a w := h.below (Nat.le_refl _) (by simp)
theorem below_chg {l : List Nat} {a w w' : World} {B : Nat} (hb : Below B a w) (h : Chg l w w') (hB : B ≤ w.heap.size) (hl : ∀ x ∈ l, B ≤ x) : Below B a w' := hb.trans (h.below hB hl)
theorem Chg.cell {l : List Nat} {a w : World} (h : Chg l a w) {b o : Nat} {v : Value} (hc : a.cell? ⟨b, o, none⟩ = some v) (hb : b ∉ l) : w.cell? ⟨b, o, none⟩ = some v :=
  (World.cell?_of_block (w := a) (w' := w) (a := ⟨b, o, none⟩) (h.block b (World.block_lt_of_cell? a _ hc) hb)).trans hc
end Go.Proofs.Ytdblplkaobeimaa
namespace Go.Proofs.Ytdblplkaobeimaa
open Go.RowKit Go.Deep
set_option linter.unusedVariables false
set_option linter.unusedSimpArgs false

theorem Lst.chg {w w' : World} {base : Nat} {e : TypeId} {v : Value} {xs : List Value} {l : List Nat} (h : Lst w base e v xs) (hc : Chg l w w') (hl : ∀ x ∈ l, ∀ cur, w.heap[x]? ≠ some (.cells cur e (0, 0))) : Lst w' base e v xs := by
  refine ⟨h.1, ?_⟩
  rcases h.2 with h1 | ⟨g, cap, cur, h1, h2, h3, h4⟩
  · exact .inl h1
  · exact .inr ⟨g, cap, cur, h1, h2, (hc.block g (Array.getElem?_eq_some_iff.1 h3).1 (fun hm => hl g hm cur h3)).trans h3, h4⟩
/-- the row that a slice of the call's own lies in -/
def rowOf (v : Value) : List Nat := match v.ownBlock with | some g => [g] | none => []
theorem grown_chg {w w' : World} {v : Value} (h : w.grownBy w' v.ownBlock) : Chg (rowOf v) w w' := (Chg.refl (rowOf v) w).grown h (fun k hk => .inl (by unfold rowOf; rw [hk]; simp))
theorem Lst.row {w : World} {base : Nat} {e : TypeId} {v : Value} {xs : List Value} (h : Lst w base e v xs) : ∀ x ∈ rowOf v, base ≤ x ∧ ∃ cur, w.heap[x]? = some (.cells cur e (0, 0)) := by
  intro x hx
  rcases h.2 with ⟨rfl, _⟩ | ⟨g, cap, cur, rfl, h2, h3, _⟩
  · simp [rowOf, Value.ownBlock] at hx
  · simp [rowOf, Value.ownBlock] at hx
    subst hx
    exact ⟨h2, cur, h3⟩
theorem Own.chg {w w' : World} {g : Nat} {t : TypeId} {cs : List Value} {l : List Nat} (h : Own w g t cs) (hc : Chg l w w') (hg : g ∉ l) : Own w' g t cs := (hc.block g h.lt hg).trans h
/-- append of one value, with all that it keeps -/
theorem wpList_app1g {P : Program} {w : World} {ops : Array Oper} {rest : List Oper} {o : Oper} {a : Act} {Q : Exit → Act → World → Prop} (hgd : o.guard = none) (s x : Operand) (t : TypeId)
    (ho : o.op = .call { callee := .builtin .append, args := #[s, x], argTypes := #[t, t] })
    (base : Nat) (e : TypeId) (z : Value) (bytes : Nat) (ht : P.underlying t = some (.slice e)) (hinfo : (P.info? e).map (fun i => (i.zero, i.size, i.bytes)) = some (some z, 1, bytes)) (hzs : z.cells.size = 1)
    (u : Value) (h1 : u.oneCell' = true) (v : Value) (xs : List Value) (hs : a.eval s = v) (hown : Lst w base e v xs)
    (hx : a.eval x = .slice (some ⟨w.heap.size, 0, none⟩) 1 1)
    (hlen : (xs.length + 1) * bytes ≤ 140737488355328) (hlen2 : xs.length + 1 ≤ 140737488355328) (hbase : base ≤ w.heap.size)
    (h : ∀ v' w', Hid (Lst w' base e v' (xs ++ [u])) → Chg (rowOf v) w w' → wpList P ops Q rest (a.put o.dst v') w') : wpList P ops Q (o :: rest) a (w.alloc (.cells #[u] e)) :=
  wpList_app hgd s x t ho base e z bytes ht hinfo hzs v xs hs (hown.alloc _) (some ⟨w.heap.size, 0, none⟩) (w.heap.size + 1) 1 1 [u] hx rfl (ro_one w e u) (by simpa using h1) hlen hlen2 (by simp; omega) fun v' w' h2 h3 => h v' w' h2 (((Chg.refl _ w).alloc _).trans (grown_chg h3))
/-- a row that lies apart from the blocks of l -/
def RoX (w : World) (l : List Nat) (a : Option Addr) (vs : List Value) : Prop := vs = [] ∨ ∃ b off, a = some ⟨b, off, none⟩ ∧ b < w.heap.size ∧ b ∉ l ∧ ∀ i, i < vs.length → w.cell? ⟨b, off + i, none⟩ = some (vs.getD i undef)
theorem RoX.ro {w : World} {l : List Nat} {a : Option Addr} {vs : List Value} (h : RoX w l a vs) : Ro w w.heap.size a vs := by
  rcases h with h | ⟨b, off, h1, h2, h3, h4⟩
  · exact .inl h
  · exact .inr ⟨b, off, h1, h2, h4⟩
theorem RoX.chg {w w' : World} {l : List Nat} {a : Option Addr} {vs : List Value} (h : RoX w l a vs) (hc : Chg l w w') : RoX w' l a vs := by
  rcases h with h | ⟨b, off, h1, h2, h3, h4⟩
  · exact .inl h
  · exact .inr ⟨b, off, h1, Nat.lt_of_lt_of_le h2 hc.size, h3, fun i hi => hc.cell (h4 i hi) h3⟩
theorem Ro.apart {w : World} {B : Nat} {l : List Nat} {a : Option Addr} {vs : List Value} (h : Ro w B a vs) (hB : B ≤ w.heap.size) (hl : ∀ x ∈ l, B ≤ x) : RoX w l a vs := by
  rcases h with h | ⟨b, off, h1, h2, h3⟩
  · exact .inl h
  · exact .inr ⟨b, off, h1, by omega, fun hm => by have := hl b hm; omega, h3⟩
theorem Lst.apart {w : World} {base : Nat} {e : TypeId} {a : Option Addr} {n c : Nat} {xs : List Value} {l : List Nat} (h : Lst w base e (.slice a n c) xs) (hl : ∀ x ∈ l, ∀ cur, w.heap[x]? ≠ some (.cells cur e (0, 0))) : RoX w l a xs := by
  obtain ⟨a', c', h1, h2, _⟩ := h.form
  injection h1 with h1 _ _
  subst h1
  rcases h2 with h2 | ⟨b, off, g1, g2, g3⟩
  · exact .inl h2
  · refine .inr ⟨b, off, g1, g2, fun hm => ?_, g3⟩
    rcases h.2 with ⟨hv, _⟩ | ⟨g, cap, cur, hv, _, hh, _⟩
    · injection hv with hv _ _
      rw [hv] at g1; cases g1
    · injection hv with hv _ _
      rw [hv] at g1
      injection g1 with g1
      injection g1 with g1 _ _
      subst g1
      exact hl g hm cur hh
theorem Lst.apart2 {w : World} {base : Nat} {e : TypeId} {a : Option Addr} {n c : Nat} {xs : List Value} {l : List Nat} (h : Lst w base e (.slice a n c) xs) (hl : ∀ x ∈ l, x < base ∨ ∀ cur, w.heap[x]? ≠ some (.cells cur e (0, 0))) : RoX w l a xs := by
  obtain ⟨a', c', h1, h2, _⟩ := h.form
  injection h1 with h1 _ _
  subst h1
  rcases h2 with h2 | ⟨b, off, g1, g2, g3⟩
  · exact .inl h2
  · refine .inr ⟨b, off, g1, g2, fun hm => ?_, g3⟩
    rcases h.2 with ⟨hv, _⟩ | ⟨g, cap, cur, hv, hb, hh, _⟩
    · injection hv with hv _ _
      rw [hv] at g1; cases g1
    · injection hv with hv _ _
      rw [hv] at g1
      injection g1 with g1
      injection g1 with g1 _ _
      subst g1
      rcases hl g hm with h | h
      · omega
      · exact h cur hh
end Go.Proofs.Ytdblplkaobeimaa
namespace Go.Proofs.Ytdblplkaobeimaa
open Go.RowKit Go.Deep
set_option linter.unusedVariables false
set_option linter.unusedSimpArgs false

/-- a message in memory: its numbers, where its slices lie -/
structure MgT where
  k : Int
  fr : Int × Int
  to : Int × Int
  id : Int
  f : Int
  ep : Nat
  ad : Nat
  er : Int
  c : Ce
  ca : Option Addr
  cc : Nat
  ca2 : Option Addr
  cc2 : Nat
  st : List Int
  sa : Option Addr
  sc : Nat
  bk : List Bk
  ka : Option Addr
  kc : Nat
  ba : Int × Int
  pr : Int × Int
  ly : LyT
def MgT.x (A : MgT) : Mg := ⟨A.k, A.fr, A.to, A.id, A.f, A.ep, A.ad, A.er, A.c, A.st, A.bk, A.ba, A.pr, A.ly.x⟩
/-- the cells of a message by value -/
abbrev mcs (k fr1 fr2 to1 to2 id f : Int) (ep ad : Nat) (er ck : Int) (ca : Option Addr) (cn cc : Nat) (ca2 : Option Addr) (cn2 cc2 : Nat) (sa : Option Addr) (sn sc : Nat) (ka : Option Addr) (kn kc : Nat) (ba1 ba2 pr1 pr2 : Int) (le : Nat) (la : Option Addr) (ln lc : Nat) (lq : Int) : List Value :=
  [.int .i64 k, .int .i64 fr1, .int .i64 fr2, .int .i64 to1, .int .i64 to2, .int .i64 id, .int .i64 f, .int .u64 (ep : Int), .int .u64 (ad : Int), .int .i64 er, .int .i64 ck, .slice ca cn cc, .slice ca2 cn2 cc2, .slice sa sn sc, .slice ka kn kc, .int .i64 ba1, .int .i64 ba2, .int .i64 pr1, .int .i64 pr2, .int .u64 (le : Int), .slice la ln lc, .int .i64 lq]
def MgT.cs (A : MgT) : List Value := mcs A.k A.fr.1 A.fr.2 A.to.1 A.to.2 A.id A.f A.ep A.ad A.er A.c.k A.ca A.c.d.length A.cc A.ca2 A.c.b.length A.cc2 A.sa A.st.length A.sc A.ka A.bk.length A.kc A.ba.1 A.ba.2 A.pr.1 A.pr.2 A.ly.e A.ly.a A.ly.sg.length A.ly.c A.ly.q
def MgT.val (A : MgT) : Value := .agg A.cs.toArray
/-- its slices lie below B -/
structure MgIn (w : World) (B : Nat) (A : MgT) : Prop where
  d : Ro w B A.ca (u8s A.c.d)
  b : Ro w B A.ca2 (bcs A.c.b)
  st : Ro w B A.sa (i64s A.st)
  bk : Ro w B A.ka (bcs A.bk)
  ly : LyIn w B A.ly
theorem MgIn.below {w w' : World} {B B' : Nat} {A : MgT} (h : MgIn w B A) (hb : Below B' w w') (hB : B ≤ B') : MgIn w' B A := ⟨h.d.below hb hB, h.b.below hb hB, h.st.below hb hB, h.bk.below hb hB, h.ly.below hb hB⟩
theorem MgIn.mono {w : World} {B B' : Nat} {A : MgT} (h : MgIn w B A) (hB : B ≤ B') : MgIn w B' A := ⟨h.d.mono hB, h.b.mono hB, h.st.mono hB, h.bk.mono hB, h.ly.mono hB⟩
/-- no length is beyond a machine's -/
structure MgFit (A : MgT) : Prop where
  d : A.c.d.length ≤ 9223372036854775807
  b : A.c.b.length ≤ 9223372036854775807
  st : A.st.length ≤ 9223372036854775807
  bk : A.bk.length ≤ 9223372036854775807
  ly : SgFit A.ly.sg
  fb : ∀ b ∈ A.c.b, FitB b
  fk : ∀ b ∈ A.bk, FitB b
end Go.Proofs.Ytdblplkaobeimaa
namespace Go.Proofs.Ytdblplkaobeimaa
/-- places -/
abbrev Pl2 := Int × Int
abbrev plV (p : Pl2) : Value := .agg #[.int .i64 p.1, .int .i64 p.2]
/-- numbers of a machine's word -/
def Pw (p : Pl2) : Prop := (-9223372036854775808 ≤ p.1 ∧ p.1 ≤ 9223372036854775807) ∧ (-9223372036854775808 ≤ p.2 ∧ p.2 ≤ 9223372036854775807)
end Go.Proofs.Ytdblplkaobeimaa
namespace Go.Proofs.Ytdblplkaobeimaa
open Go.RowKit Go.ChangeShapes Go.WideShapes Go.Deep
set_option linter.unusedVariables false
set_option linter.unusedSimpArgs false

section
variable {H : Type} {enc : TypeId × Value → H} {w : World} {base : Nat} {held : Bool}
set_option maxRecDepth 100000 in
theorem trod_layout {n : Nat} {cs : List Value} {y : DataW H × List MemPlace} (h : DataW.trod enc Try.prog w base (fun _ => true) held n 38 cs = some y) :
    ∃ A : LyT, cs = [.int .u64 (A.e : Int), .slice A.a A.sg.length A.c, .int .i64 A.q] ∧ LyOk w A := by
  obtain ⟨xs, m, _, _, hlen, hxl, hf⟩ := DataW.trod_struct Try.underlying38 h
  have hc3 : cs.length = 3 := hlen.trans (by kernel_rfl)
  match cs, hc3, xs, hxl with
  | [c0, c1, c2], _, [x0, x1, x2], _ =>
    have g0 : DataW.trod enc Try.prog w base (fun _ => true) held m 26 (([c0, c1, c2].drop 0).take (Try.prog.cellsOf 26)) = some x0 := hf 0 _ rfl
    have g1 : DataW.trod enc Try.prog w base (fun _ => true) held m 36 (([c0, c1, c2].drop 1).take (Try.prog.cellsOf 36)) = some x1 := hf 1 _ rfl
    have g2 : DataW.trod enc Try.prog w base (fun _ => true) held m 3 (([c0, c1, c2].drop 2).take (Try.prog.cellsOf 3)) = some x2 := hf 2 _ rfl
    rw [show Try.prog.cellsOf 26 = 1 by kernel_rfl] at g0
    rw [show Try.prog.cellsOf 36 = 1 by kernel_rfl] at g1
    rw [show Try.prog.cellsOf 3 = 1 by kernel_rfl] at g2
    simp only [List.drop_zero, List.drop_succ_cons, List.take_succ_cons, List.take_zero] at g0 g1 g2
    obtain ⟨s, e0, _, hw0⟩ := DataW.trod_int Try.underlying26 g0
    obtain ⟨a, L, c, rfl, k1, k2, k3⟩ := row_segs g1
    obtain ⟨q, e2, _, hw2⟩ := DataW.trod_int Try.underlying3 g2
    simp only [List.cons.injEq, and_true] at e0 e2
    subst e0 e2
    have h1 := bounds_u64 hw0
    refine ⟨⟨s.toNat, a, c, L, q⟩, ?_, ⟨k1, k2⟩, k3, by show s.toNat ≤ _; omega, bounds_i64 hw2⟩
    simp only
    rw [show ((s.toNat : Nat) : Int) = s by omega]
set_option maxRecDepth 100000 in
theorem trod_place {n : Nat} {cs : List Value} {y : DataW H × List MemPlace} (h : DataW.trod enc Try.prog w base (fun _ => true) held n 25 cs = some y) :
    ∃ p : Int × Int, cs = [.int .i64 p.1, .int .i64 p.2] ∧ Pw p := by
  obtain ⟨xs, m, _, _, hlen, hxl, hf⟩ := DataW.trod_struct Try.underlying25 h
  have hc3 : cs.length = 2 := hlen.trans (by kernel_rfl)
  match cs, hc3, xs, hxl with
  | [c0, c1], _, [x0, x1], _ =>
    have g0 : DataW.trod enc Try.prog w base (fun _ => true) held m 23 (([c0, c1].drop 0).take (Try.prog.cellsOf 23)) = some x0 := hf 0 _ rfl
    have g1 : DataW.trod enc Try.prog w base (fun _ => true) held m 3 (([c0, c1].drop 1).take (Try.prog.cellsOf 3)) = some x1 := hf 1 _ rfl
    rw [show Try.prog.cellsOf 23 = 1 by kernel_rfl] at g0
    rw [show Try.prog.cellsOf 3 = 1 by kernel_rfl] at g1
    simp only [List.drop_zero, List.drop_succ_cons, List.take_succ_cons, List.take_zero] at g0 g1
    obtain ⟨s, e0, _, hw0⟩ := DataW.trod_int Try.underlying23 g0
    obtain ⟨q, e2, _, hw2⟩ := DataW.trod_int Try.underlying3 g1
    simp only [List.cons.injEq, and_true] at e0 e2
    subst e0 e2
    exact ⟨(s, q), rfl, bounds_i64 hw0, bounds_i64 hw2⟩
set_option maxRecDepth 100000 in
theorem trod_ballot {n : Nat} {cs : List Value} {y : DataW H × List MemPlace} (h : DataW.trod enc Try.prog w base (fun _ => true) held n 35 cs = some y) :
    ∃ p : Int × Int, cs = [.int .i64 p.1, .int .i64 p.2] := by
  obtain ⟨xs, m, _, _, hlen, hxl, hf⟩ := DataW.trod_struct Try.underlying35 h
  have hc3 : cs.length = 2 := hlen.trans (by kernel_rfl)
  match cs, hc3, xs, hxl with
  | [c0, c1], _, [x0, x1], _ =>
    have g0 : DataW.trod enc Try.prog w base (fun _ => true) held m 3 (([c0, c1].drop 0).take (Try.prog.cellsOf 3)) = some x0 := hf 0 _ rfl
    have g1 : DataW.trod enc Try.prog w base (fun _ => true) held m 3 (([c0, c1].drop 1).take (Try.prog.cellsOf 3)) = some x1 := hf 1 _ rfl
    rw [show Try.prog.cellsOf 3 = 1 by kernel_rfl] at g0
    rw [show Try.prog.cellsOf 3 = 1 by kernel_rfl] at g1
    simp only [List.drop_zero, List.drop_succ_cons, List.take_succ_cons, List.take_zero] at g0 g1
    obtain ⟨s, e0, _, hw0⟩ := DataW.trod_int Try.underlying3 g0
    obtain ⟨q, e2, _, hw2⟩ := DataW.trod_int Try.underlying3 g1
    simp only [List.cons.injEq, and_true] at e0 e2
    subst e0 e2
    exact ⟨(s, q), rfl⟩
/-- a message that came in -/
structure MgOk (w : World) (A : MgT) : Prop where
  inn : MgIn w w.heap.size A
  fit : MgFit A
set_option maxRecDepth 100000 in
set_option maxHeartbeats 4000000 in
theorem trod_message {n : Nat} {cl : List Value} {y : DataW H × List MemPlace} (h : DataW.trod enc Try.prog w base (fun _ => true) held n 40 cl = some y) :
    ∃ A : MgT, cl = A.cs ∧ MgOk w A ∧ Pw A.fr ∧ Pw A.to := by
  obtain ⟨xs, m, _, _, hlen, hxl, hf⟩ := DataW.trod_struct Try.underlying40 h
  have hc22 : cl.length = 22 := hlen.trans (by kernel_rfl)
  match cl, hc22, xs, hxl with
  | [c0, c1, c2, c3, c4, c5, c6, c7, c8, c9, c10, c11, c12, c13, c14, c15, c16, c17, c18, c19, c20, c21], _, [x0, x1, x2, x3, x4, x5, x6, x7, x8, x9, x10, x11, x12, x13], _ =>
    have g0 : DataW.trod enc Try.prog w base (fun _ => true) held m 22 (([c0, c1, c2, c3, c4, c5, c6, c7, c8, c9, c10, c11, c12, c13, c14, c15, c16, c17, c18, c19, c20, c21].drop 0).take (Try.prog.cellsOf 22)) = some x0 := hf 0 _ rfl
    rw [show Try.prog.cellsOf 22 = 1 by kernel_rfl] at g0
    have g1 : DataW.trod enc Try.prog w base (fun _ => true) held m 25 (([c0, c1, c2, c3, c4, c5, c6, c7, c8, c9, c10, c11, c12, c13, c14, c15, c16, c17, c18, c19, c20, c21].drop 1).take (Try.prog.cellsOf 25)) = some x1 := hf 1 _ rfl
    rw [show Try.prog.cellsOf 25 = 2 by kernel_rfl] at g1
    have g2 : DataW.trod enc Try.prog w base (fun _ => true) held m 25 (([c0, c1, c2, c3, c4, c5, c6, c7, c8, c9, c10, c11, c12, c13, c14, c15, c16, c17, c18, c19, c20, c21].drop 3).take (Try.prog.cellsOf 25)) = some x2 := hf 2 _ rfl
    rw [show Try.prog.cellsOf 25 = 2 by kernel_rfl] at g2
    have g3 : DataW.trod enc Try.prog w base (fun _ => true) held m 3 (([c0, c1, c2, c3, c4, c5, c6, c7, c8, c9, c10, c11, c12, c13, c14, c15, c16, c17, c18, c19, c20, c21].drop 5).take (Try.prog.cellsOf 3)) = some x3 := hf 3 _ rfl
    rw [show Try.prog.cellsOf 3 = 1 by kernel_rfl] at g3
    have g4 : DataW.trod enc Try.prog w base (fun _ => true) held m 22 (([c0, c1, c2, c3, c4, c5, c6, c7, c8, c9, c10, c11, c12, c13, c14, c15, c16, c17, c18, c19, c20, c21].drop 6).take (Try.prog.cellsOf 22)) = some x4 := hf 4 _ rfl
    rw [show Try.prog.cellsOf 22 = 1 by kernel_rfl] at g4
    have g5 : DataW.trod enc Try.prog w base (fun _ => true) held m 26 (([c0, c1, c2, c3, c4, c5, c6, c7, c8, c9, c10, c11, c12, c13, c14, c15, c16, c17, c18, c19, c20, c21].drop 7).take (Try.prog.cellsOf 26)) = some x5 := hf 5 _ rfl
    rw [show Try.prog.cellsOf 26 = 1 by kernel_rfl] at g5
    have g6 : DataW.trod enc Try.prog w base (fun _ => true) held m 26 (([c0, c1, c2, c3, c4, c5, c6, c7, c8, c9, c10, c11, c12, c13, c14, c15, c16, c17, c18, c19, c20, c21].drop 8).take (Try.prog.cellsOf 26)) = some x6 := hf 6 _ rfl
    rw [show Try.prog.cellsOf 26 = 1 by kernel_rfl] at g6
    have g7 : DataW.trod enc Try.prog w base (fun _ => true) held m 27 (([c0, c1, c2, c3, c4, c5, c6, c7, c8, c9, c10, c11, c12, c13, c14, c15, c16, c17, c18, c19, c20, c21].drop 9).take (Try.prog.cellsOf 27)) = some x7 := hf 7 _ rfl
    rw [show Try.prog.cellsOf 27 = 1 by kernel_rfl] at g7
    have g8 : DataW.trod enc Try.prog w base (fun _ => true) held m 32 (([c0, c1, c2, c3, c4, c5, c6, c7, c8, c9, c10, c11, c12, c13, c14, c15, c16, c17, c18, c19, c20, c21].drop 10).take (Try.prog.cellsOf 32)) = some x8 := hf 8 _ rfl
    rw [show Try.prog.cellsOf 32 = 3 by kernel_rfl] at g8
    have g9 : DataW.trod enc Try.prog w base (fun _ => true) held m 33 (([c0, c1, c2, c3, c4, c5, c6, c7, c8, c9, c10, c11, c12, c13, c14, c15, c16, c17, c18, c19, c20, c21].drop 13).take (Try.prog.cellsOf 33)) = some x9 := hf 9 _ rfl
    rw [show Try.prog.cellsOf 33 = 1 by kernel_rfl] at g9
    have g10 : DataW.trod enc Try.prog w base (fun _ => true) held m 30 (([c0, c1, c2, c3, c4, c5, c6, c7, c8, c9, c10, c11, c12, c13, c14, c15, c16, c17, c18, c19, c20, c21].drop 14).take (Try.prog.cellsOf 30)) = some x10 := hf 10 _ rfl
    rw [show Try.prog.cellsOf 30 = 1 by kernel_rfl] at g10
    have g11 : DataW.trod enc Try.prog w base (fun _ => true) held m 35 (([c0, c1, c2, c3, c4, c5, c6, c7, c8, c9, c10, c11, c12, c13, c14, c15, c16, c17, c18, c19, c20, c21].drop 15).take (Try.prog.cellsOf 35)) = some x11 := hf 11 _ rfl
    rw [show Try.prog.cellsOf 35 = 2 by kernel_rfl] at g11
    have g12 : DataW.trod enc Try.prog w base (fun _ => true) held m 35 (([c0, c1, c2, c3, c4, c5, c6, c7, c8, c9, c10, c11, c12, c13, c14, c15, c16, c17, c18, c19, c20, c21].drop 17).take (Try.prog.cellsOf 35)) = some x12 := hf 12 _ rfl
    rw [show Try.prog.cellsOf 35 = 2 by kernel_rfl] at g12
    have g13 : DataW.trod enc Try.prog w base (fun _ => true) held m 38 (([c0, c1, c2, c3, c4, c5, c6, c7, c8, c9, c10, c11, c12, c13, c14, c15, c16, c17, c18, c19, c20, c21].drop 19).take (Try.prog.cellsOf 38)) = some x13 := hf 13 _ rfl
    rw [show Try.prog.cellsOf 38 = 3 by kernel_rfl] at g13
    clear hf
    simp only [List.drop_zero, List.drop_succ_cons, List.take_succ_cons, List.take_zero] at g0 g1 g2 g3 g4 g5 g6 g7 g8 g9 g10 g11 g12 g13
    obtain ⟨k, e0, _, hw0⟩ := DataW.trod_int Try.underlying22 g0
    obtain ⟨id, e3, _, hw3⟩ := DataW.trod_int Try.underlying3 g3
    obtain ⟨f, e4, _, hw4⟩ := DataW.trod_int Try.underlying22 g4
    obtain ⟨ep, e5, _, hw5⟩ := DataW.trod_int Try.underlying26 g5
    obtain ⟨ad, e6, _, hw6⟩ := DataW.trod_int Try.underlying26 g6
    obtain ⟨er, e7, _, hw7⟩ := DataW.trod_int Try.underlying27 g7
    obtain ⟨fr, e1, pw1⟩ := trod_place g1
    obtain ⟨to, e2, pw2⟩ := trod_place g2
    obtain ⟨C, e8, hC⟩ := trod_cell g8
    obtain ⟨sa, st, sc, e9, hst, hst2, hst3, _⟩ := row_ints g9
    obtain ⟨ka, bk, kc, e10, hbk, hbk2, hbk3⟩ := row_backs g10
    obtain ⟨ba, e11⟩ := trod_ballot g11
    obtain ⟨pr, e12⟩ := trod_ballot g12
    obtain ⟨L, e13, hL⟩ := trod_layout g13
    simp only [List.cons.injEq, and_true] at e0 e1 e2 e3 e4 e5 e6 e7 e8 e11 e12 e13
    have h5 := bounds_u64 hw5
    have h6 := bounds_u64 hw6
    obtain ⟨ep, rfl⟩ := Int.eq_ofNat_of_zero_le h5.1
    obtain ⟨ad, rfl⟩ := Int.eq_ofNat_of_zero_le h6.1
    refine ⟨⟨k, fr, to, id, f, ep, ad, er, C.x, C.a, C.c, C.a2, C.c2, st, sa, sc, bk, ka, kc, ba, pr, L⟩, ?_, ⟨⟨hC.d, hC.b, hst, hbk, hL.inn⟩, ⟨hC.dl, hC.bl, by show st.length ≤ _; omega, hbk3, hL.fit, hC.fit, hbk2⟩⟩, pw1, pw2⟩
    obtain ⟨e1, e1'⟩ := e1
    obtain ⟨e2, e2'⟩ := e2
    obtain ⟨e8, e8', e8''⟩ := e8
    obtain ⟨e11, e11'⟩ := e11
    obtain ⟨e12, e12'⟩ := e12
    obtain ⟨e13, e13', e13''⟩ := e13
    rw [e0, e1, e1', e2, e2', e3, e4, e5, e6, e7, e8, e8', e8'', e9, e10, e11, e11', e12, e12', e13, e13', e13'']
    rfl
set_option maxRecDepth 100000 in
theorem open_messageV {r : Reach} {b0 : Nat} {v : Value} {d : DataW H} {p : List MemPlace} (hv : Value.okWide Try.prog w r b0 40 v) (h : DataW.Trod enc Try.prog w base (fun _ => true) held 40 v d p) :
    ∃ A : MgT, v = .agg A.cs.toArray ∧ MgOk w A := by
  obtain ⟨cs, rfl, hsz⟩ := okWide_struct Try.underlying40 hv
  obtain ⟨fuel, hf⟩ := h
  obtain ⟨A, h1, h2, _⟩ := trod_message hf
  have h1' : cs.toList = A.cs := h1
  exact ⟨A, by rw [← h1'], h2⟩
end
end Go.Proofs.Ytdblplkaobeimaa
namespace Go.Proofs.Ytdblplkaobeimaa
open Go.RowKit Go.Deep Go.Shelf
set_option linter.unusedVariables false
set_option linter.unusedSimpArgs false

/-- an address that is not ahead of a -/
def late (a x : Nat) : Bool := if x = 18446744073709551615 then false else decide (a ≤ x)
/-- a Back with one -/
def lateB (a : Nat) (b : Bk) : Bool := anyN (fun k => late a ([b.2.1, b.2.2].getD k 0)) 2
/-- is all ahead of a? -/
def before (x : Ce) (a : Nat) : Bool := !anyN (fun k => lateB a (bk x.b k)) x.b.length

set_option maxHeartbeats 400000 in
theorem bf1_any (x a g : Nat) (w : World) (h : w.cell? ⟨g, 0, none⟩ = some (.int .u64 (a : Int))) :
    Calls Try.prog 60 #[.int .u64 (x : Int), .pointer (some ⟨g, 0, none⟩)] w fun e w' => e = .returned (.bool (late a x)) ∧ w = w' := by
  by_cases e : x = 18446744073709551615
  · have e1 : late a x = false := by simp [late, e]
    rw [e1]
    subst e
    clear e1
    go_enter Try.func60, Try.ntmps60
    go_wp2
    go_ret
    exact ⟨rfl, rfl⟩
  · have e1 : late a x = decide (a ≤ x) := by simp [late, e]
    have e3 : ((x : Int) != 18446744073709551615) = true := by rw [bne_iff_ne]; omega
    rw [e1]
    clear e1 e
    go_enter Try.func60, Try.ntmps60
    go_wp2
    go_ret
    exact ⟨by simp, rfl⟩

theorem bf1_in (p q a g gb : Nat) (w : World) (h : w.cell? ⟨g, 0, none⟩ = some (.int .u64 (a : Int))) (h1 : w.cell? ⟨gb, 1, none⟩ = some (.int .u64 (p : Int))) (h2 : w.cell? ⟨gb, 2, none⟩ = some (.int .u64 (q : Int))) (s : Int) :
    Calls Try.prog 62 #[.slice (some ⟨gb, 1, none⟩) 2 2, .func (.func 60) #[] #[.pointer (some ⟨g, 0, none⟩)]] w fun e w' => e = .returned (.bool (lateB a (s, p, q))) ∧ w' = w := by
  have eg : ∀ args w, (callFunc 60 args).run Try.prog w = .ok (.enter 60 args) w := enters_of Try.func60 (by kernel_rfl) rfl
  refine (contains_num (fun k W => W = w) (fun k => late a ([p, q].getD k 0)) 60 #[.pointer (some ⟨g, 0, none⟩)] eg [p, q] (some ⟨gb, 1, none⟩) 2 (gb + 1) w (by simp) (fun k W' hW => ?_) rfl (fun k W' hk hW => ?_)).mono ?_
  · subst hW
    refine .inr ⟨gb, 1, rfl, by omega, fun i hi => ?_⟩
    have hi' : i = 0 ∨ i = 1 := by simp at hi; omega
    rcases hi' with rfl | rfl
    · exact h1
    · exact h2
  · subst hW
    refine (bf1_any ([p, q].getD k 0) a g W' h).mono ?_
    rintro e w' ⟨rfl, rfl⟩
    exact ⟨rfl, rfl⟩
  · rintro e w' ⟨rfl, k, hk⟩
    exact ⟨rfl, hk⟩

set_option maxHeartbeats 1000000 in
theorem bf2_any (b : Bk) (a g gc : Nat) (w : World) (h : w.cell? ⟨g, 0, none⟩ = some (.int .u64 (a : Int))) (h1 : w.cell? ⟨gc, 0, none⟩ = some (.func (.func 60) #[] #[.pointer (some ⟨g, 0, none⟩)])) :
    Calls Try.prog 61 #[bkv b, .pointer (some ⟨gc, 0, none⟩)] w fun e w' => e = .returned (.bool (lateB a b)) ∧ Below w.heap.size w w' := by
  obtain ⟨s, p, q⟩ := b
  have hg := World.block_lt_of_cell? _ _ h
  have hgc := World.block_lt_of_cell? _ _ h1
  have o1 := Own.new w 54 [.int .i64 s, .int .u64 (p : Int), .int .u64 (q : Int)]
  have c1 := o1.cell 1
  have c2 := o1.cell 2
  have HC := Lib.hid (fun n => bf1_in p q a g w.heap.size ((w.alloc (.cells #[.int .i64 s, .int .u64 (p : Int), .int .u64 (q : Int)] 54)).drewN n) ((World.cell?_alloc_lt _ _ _ hg).trans h) (by simp) (by simp) s)
  clear o1 c1 c2
  generalize lateB a (s, p, q) = t at *
  simp only at hg hgc
  go_enter Try.func61, Try.ntmps61
  go_wp2_with fail
  go_quiet ((go_at_call 62; exact Calls.quiet_of_same (HC.out _)))
  go_wp2_with fail
  go_ret
  exact ⟨rfl, (Qt.drewN _ _).below ((Below.refl _ _).alloc (Nat.le_refl _) _)⟩

set_option maxHeartbeats 1000000 in
theorem before_any (x : Ce) (a : Option Addr) (n c : Nat) (a2 : Option Addr) (c2 B : Nat) (y : Nat) (w : World) (hro : Ro w B a2 (bcs x.b)) (hB : B ≤ w.heap.size) (hl : x.b.length ≤ 1000000) :
    Calls Try.prog 41 #[cev x.k a n c a2 x.b.length c2, .int .u64 (y : Int)] w fun e w' => e = .returned (.bool (before x y)) ∧ Below w.heap.size w w' := by
  obtain ⟨k, d, L⟩ := x
  simp only at hro hl ⊢
  obtain ⟨t, ht⟩ : ∃ t, t = anyN (fun k => lateB y (bk L k)) L.length := ⟨_, rfl⟩
  have eg : ∀ args w, (callFunc 61 args).run Try.prog w = .ok (.enter 61 args) w := enters_of Try.func61 (by kernel_rfl) rfl
  obtain ⟨W, hW⟩ : ∃ W, ((w.alloc (.cells #[.int .i64 k, .slice a n c, .slice a2 L.length c2] 32)).alloc (.cells #[.int .u64 (y : Int)] 26)).alloc (.cells #[.func (.func 60) #[] #[.pointer (some ⟨w.heap.size + 1, 0, none⟩)]] 98) = W := ⟨_, rfl⟩
  have hWb : Below w.heap.size w W := by rw [← hW]; exact (((Below.refl _ _).alloc (Nat.le_refl _) _).alloc (by simp) _).alloc (by simp; omega) _
  have o1 : Own W (w.heap.size + 1) 26 [.int .u64 (y : Int)] := by
    rw [← hW]
    have := Own.new (w.alloc (.cells #[.int .i64 k, .slice a n c, .slice a2 L.length c2] 32)) 26 [.int .u64 (y : Int)]
    exact Own.alloc (by simpa using this) _
  have o2 : Own W (w.heap.size + 2) 98 [.func (.func 60) #[] #[.pointer (some ⟨w.heap.size + 1, 0, none⟩)]] := by
    rw [← hW]
    have := Own.new ((w.alloc (.cells #[.int .i64 k, .slice a n c, .slice a2 L.length c2] 32)).alloc (.cells #[.int .u64 (y : Int)] 26)) 98 [.func (.func 60) #[] #[.pointer (some ⟨w.heap.size + 1, 0, none⟩)]]
    simpa using this
  have HC : Hid (Calls Try.prog 34 #[.slice a2 L.length c2, .func (.func 61) #[] #[.pointer (some ⟨w.heap.size + 1 + 1, 0, none⟩)]] W fun e w' => e = .returned (.bool t) ∧ Below w.heap.size w w') := by
    apply Lib.hid
    refine (contains_back (fun k W' => Own W' (w.heap.size + 1) 26 [.int .u64 (y : Int)] ∧ Own W' (w.heap.size + 2) 98 [.func (.func 60) #[] #[.pointer (some ⟨w.heap.size + 1, 0, none⟩)]] ∧ Below w.heap.size w W') (fun k => lateB y (bk L k)) 61 #[.pointer (some ⟨w.heap.size + 1 + 1, 0, none⟩)] eg L a2 c2 B W hl (fun k W' h => hro.below h.2.2 hB) ⟨o1, o2, hWb⟩ (fun k W' hk h => ?_)).mono ?_
    · obtain ⟨o1, o2, o3⟩ := h
      refine (bf2_any (bk L k) y (w.heap.size + 1) (w.heap.size + 2) W' (by simpa using o1.cell 0) (by simpa using o2.cell 0)).mono ?_
      rintro e w' ⟨rfl, h4⟩
      exact ⟨rfl, o1.below h4 o1.lt, o2.below h4 o2.lt, o3.trans (h4.mono o3.size)⟩
    · rintro e w' ⟨rfl, k, hk⟩
      rw [ht]
      exact ⟨rfl, hk.2.2⟩
  unfold before
  show Calls _ _ _ _ fun e w' => e = .returned (.bool (!anyN (fun k => lateB y (bk L k)) L.length)) ∧ _
  rw [← ht]
  have HW := Lib.hid hW
  clear ht o1 o2 hWb hW hro
  generalize L.length = m at *
  go_enter Try.func41, Try.ntmps41
  go_wp2_with fail
  rw [HW.out]
  refine HC.out.mono ?_
  rintro e w' ⟨rfl, hb⟩
  have HB := Lib.hid hb
  clear hb
  go_wp2_with fail
  go_ret
  exact ⟨rfl, HB.out⟩

set_option maxHeartbeats 400000 in
theorem fd1_any (b : Bk) (s : Int) (g : Nat) (w : World) (h : w.cell? ⟨g, 0, none⟩ = some (.int .i64 s)) :
    Calls Try.prog 48 #[bkv b, .pointer (some ⟨g, 0, none⟩)] w fun e w' => e = .returned (.bool (decide (b.1 = s))) ∧ Below w.heap.size w w' := by
  obtain ⟨t, p, q⟩ := b
  have hg := World.block_lt_of_cell? _ _ h
  simp only at hg ⊢
  go_enter Try.func48, Try.ntmps48
  go_wp2_with fail
  go_ret
  exact ⟨ret_bool rfl, (Below.refl _ _).alloc (Nat.le_refl _) _⟩

/-- the index of a stream's Back -/
def fdx (x : Ce) (s : Int) : Int := fx (fun k => decide ((bk x.b k).1 = s)) x.b.length
set_option maxHeartbeats 1000000 in
theorem find_in (L : List Bk) (a2 : Option Addr) (c2 B : Nat) (s : Int) (g : Nat) (w W : World) (hro : Ro w B a2 (bcs L)) (hB : B ≤ w.heap.size) (hW : Below w.heap.size w W) (hg : Own W g 3 [.int .i64 s]) (hl : L.length ≤ 1000000) :
    Calls Try.prog 47 #[.slice a2 L.length c2, .func (.func 48) #[] #[.pointer (some ⟨g, 0, none⟩)]] W fun e w' => e = .returned (.int .i64 (fx (fun k => decide ((bk L k).1 = s)) L.length)) ∧ Below W.heap.size W w' := by
  have eg : ∀ args w, (callFunc 48 args).run Try.prog w = .ok (.enter 48 args) w := enters_of Try.func48 (by kernel_rfl) rfl
  refine (index_back (fun k W' => Own W' g 3 [.int .i64 s] ∧ Below W.heap.size W W') (fun k => decide ((bk L k).1 = s)) 48 #[.pointer (some ⟨g, 0, none⟩)] eg L a2 c2 B W hl (fun k W' h => (hro.below hW hB).below h.2 (Nat.le_trans hB hW.size)) ⟨hg, Below.refl _ _⟩ (fun k W' hk h => ?_)).mono ?_
  · obtain ⟨o1, o3⟩ := h
    refine (fd1_any (bk L k) s g W' (by simpa using o1.cell 0)).mono ?_
    rintro e w' ⟨rfl, h4⟩
    exact ⟨rfl, o1.below h4 o1.lt, o3.trans (h4.mono o3.size)⟩
  · rintro e w' ⟨rfl, k, hk⟩
    exact ⟨rfl, hk.2⟩

set_option maxHeartbeats 1000000 in
theorem find_no (x : Ce) (a : Option Addr) (n c : Nat) (a2 : Option Addr) (c2 B : Nat) (s : Int) (w : World) (hro : Ro w B a2 (bcs x.b)) (hB : B ≤ w.heap.size) (hl : x.b.length ≤ 1000000) (hx : fdx x s = -1) :
    Calls Try.prog 28 #[cev x.k a n c a2 x.b.length c2, .int .i64 s] w fun e w' => e = .returned (.tuple #[.agg #[.int .u64 18446744073709551615, .int .u64 18446744073709551615], .bool false]) ∧ Below w.heap.size w w' := by
  obtain ⟨k, d, L⟩ := x
  simp only [fdx] at hro hl hx ⊢
  obtain ⟨W, hW⟩ : ∃ W, ((w.alloc (.cells #[.int .i64 k, .slice a n c, .slice a2 L.length c2] 32)).alloc (.cells #[.int .i64 s] 3)).alloc (.cells #[.int .u64 0, .int .u64 0] 50) = W := ⟨_, rfl⟩
  have hWb : Below w.heap.size w W := by rw [← hW]; exact (((Below.refl _ _).alloc (Nat.le_refl _) _).alloc (by simp) _).alloc (by simp; omega) _
  have o1 : Own W (w.heap.size + 1) 3 [.int .i64 s] := by
    rw [← hW]
    have := Own.new (w.alloc (.cells #[.int .i64 k, .slice a n c, .slice a2 L.length c2] 32)) 3 [.int .i64 s]
    exact Own.alloc (by simpa using this) _
  have o2 : Own W (w.heap.size + 2) 50 [.int .u64 0, .int .u64 0] := by
    rw [← hW]
    have := Own.new ((w.alloc (.cells #[.int .i64 k, .slice a n c, .slice a2 L.length c2] 32)).alloc (.cells #[.int .i64 s] 3)) 50 [.int .u64 0, .int .u64 0]
    simpa using this
  have HC := Lib.hid (find_in L a2 c2 B s (w.heap.size + 1) w W hro hB hWb o1 hl)
  rw [hx] at HC
  have HW := Lib.hid hW
  have HWb := Lib.hid hWb
  have HO := Lib.hid o2
  clear o1 o2 hWb hW hro hx
  generalize L.length = m at *
  go_enter Try.func28, Try.ntmps28
  go_wp2_with fail
  rw [HW.out]
  refine HC.out.mono ?_
  rintro e w1 ⟨rfl, hb⟩
  have HB := Lib.hid hb
  have HO1 := Lib.hid (HO.out.below hb HO.out.lt)
  clear hb
  go_wp2_with fail
  refine (noLast_any _).mono ?_
  rintro e w2 ⟨rfl, hb⟩
  have HB2 := Lib.hid hb
  have o3 := HO1.out.below hb HO1.out.lt
  have c0 := o3.cell 0
  have c1 := o3.cell 1
  have f0 := o3.frozen 0
  have f1 := o3.frozen 1
  simp at c0 c1
  clear hb o3
  go_wp2_with fail
  refine bodyPost_ret (v := .tuple #[.agg #[.int .u64 18446744073709551615, .int .u64 18446744073709551615], .bool false]) (by simp [results, Try.results28, go_sem, c0, c1, f0, f1]) rfl ⟨rfl, ?_⟩
  exact ((HWb.out.trans (HB.out.mono HWb.out.size)).trans (HB2.out.mono (Nat.le_trans HWb.out.size HB.out.size))).setCell (by show w.heap.size ≤ w.heap.size + 2; omega) _ |>.setCell (by show w.heap.size ≤ w.heap.size + 2; omega) _
set_option maxHeartbeats 1000000 in
theorem find_yes (x : Ce) (a : Option Addr) (n c : Nat) (a2 : Option Addr) (c2 B : Nat) (s : Int) (w : World) (hro : Ro w B a2 (bcs x.b)) (hB : B ≤ w.heap.size) (hl : x.b.length ≤ 1000000) (i : Nat) (hi : i < x.b.length) (hx : fdx x s = (i : Int)) :
    Calls Try.prog 28 #[cev x.k a n c a2 x.b.length c2, .int .i64 s] w fun e w' => e = .returned (.tuple #[.agg #[.int .u64 ((bk x.b i).2.1 : Int), .int .u64 ((bk x.b i).2.2 : Int)], .bool true]) ∧ Below w.heap.size w w' := by
  obtain ⟨k, d, L⟩ := x
  simp only [fdx] at hro hl hx hi ⊢
  obtain ⟨W, hW⟩ : ∃ W, ((w.alloc (.cells #[.int .i64 k, .slice a n c, .slice a2 L.length c2] 32)).alloc (.cells #[.int .i64 s] 3)).alloc (.cells #[.int .u64 0, .int .u64 0] 50) = W := ⟨_, rfl⟩
  have hWb : Below w.heap.size w W := by rw [← hW]; exact (((Below.refl _ _).alloc (Nat.le_refl _) _).alloc (by simp) _).alloc (by simp; omega) _
  have o1 : Own W (w.heap.size + 1) 3 [.int .i64 s] := by
    rw [← hW]
    have := Own.new (w.alloc (.cells #[.int .i64 k, .slice a n c, .slice a2 L.length c2] 32)) 3 [.int .i64 s]
    exact Own.alloc (by simpa using this) _
  have o2 : Own W (w.heap.size + 2) 50 [.int .u64 0, .int .u64 0] := by
    rw [← hW]
    have := Own.new ((w.alloc (.cells #[.int .i64 k, .slice a n c, .slice a2 L.length c2] 32)).alloc (.cells #[.int .i64 s] 3)) 50 [.int .u64 0, .int .u64 0]
    simpa using this
  have o0 : Own W w.heap.size 32 [.int .i64 k, .slice a n c, .slice a2 L.length c2] := by
    rw [← hW]
    exact ((Own.new w _ _).alloc _).alloc _
  have HR := Lib.hid hro
  have HI := Lib.hid hi
  have HO0 := Lib.hid o0
  have HC := Lib.hid (find_in L a2 c2 B s (w.heap.size + 1) w W hro hB hWb o1 hl)
  rw [hx] at HC
  have HW := Lib.hid hW
  have HWb := Lib.hid hWb
  have HO := Lib.hid o2
  clear o0 o1 o2 hWb hW hro hx
  obtain ⟨b0, off, rfl, hb0, hcl⟩ := HR.out.bk (by omega)
  obtain ⟨_, c1, c2'⟩ := hcl i HI.out
  clear hcl
  have HX1 := Lib.hid c1
  have HX2 := Lib.hid c2'
  clear c1 c2'
  generalize bk L i = x at *
  have hi1 : (i : Int) < (L.length : Int) := by omega
  have hi0 : (0 : Int) ≤ (i : Int) := by omega
  generalize L.length = m at *
  go_enter Try.func28, Try.ntmps28
  go_wp2_with fail
  rw [HW.out]
  refine HC.out.mono ?_
  rintro e w1 ⟨rfl, hb⟩
  have HB := Lib.hid hb
  have o3 := HO.out.below hb HO.out.lt
  have o4 := HO0.out.below hb HO0.out.lt
  have x1 := (hb.cell (p := ⟨b0, off + i * 3 + 1, none⟩) (Nat.lt_of_lt_of_le (Nat.lt_of_lt_of_le hb0 hB) HWb.out.size)).trans ((HWb.out.cell (p := ⟨b0, off + i * 3 + 1, none⟩) (Nat.lt_of_lt_of_le hb0 hB)).trans HX1.out)
  have x2 := (hb.cell (p := ⟨b0, off + i * 3 + 2, none⟩) (Nat.lt_of_lt_of_le (Nat.lt_of_lt_of_le hb0 hB) HWb.out.size)).trans ((HWb.out.cell (p := ⟨b0, off + i * 3 + 2, none⟩) (Nat.lt_of_lt_of_le hb0 hB)).trans HX2.out)
  have c0 := o3.cell 0
  have c1 := o3.cell 1
  have f0 := o3.frozen 0
  have f1 := o3.frozen 1
  have d2 := o4.cell 2
  simp at c0 c1 d2
  clear hb o3 o4
  go_wp2_with fail
  refine bodyPost_ret (v := .tuple #[.agg #[.int .u64 (x.2.1 : Int), .int .u64 (x.2.2 : Int)], .bool true]) (by simp [results, Try.results28, go_sem, c0, c1, f0, f1]) rfl ⟨rfl, ?_⟩
  exact (HWb.out.trans (HB.out.mono HWb.out.size)).setCell (by show w.heap.size ≤ w.heap.size + 2; omega) _ |>.setCell (by show w.heap.size ≤ w.heap.size + 2; omega) _
end Go.Proofs.Ytdblplkaobeimaa
