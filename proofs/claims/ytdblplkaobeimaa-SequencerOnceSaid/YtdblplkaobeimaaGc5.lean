/-
  The sequencer as mathematics: streams' last addresses, as plain values and as cells; what pushing makes of them. Plain lemmas, no claim of their own.
-/
import Derived.Test.YtdblplkaobeimaaGc4
import Derived.Test.YtdblplkaobeimaaGc1
namespace Go.Proofs.Ytdblplkaobeimaa
open Go.RowKit Go.Deep
set_option linter.unusedVariables false
set_option linter.unusedSimpArgs false

/-- a stream's last addresses, the greatest first -/
abbrev La := Nat × Nat
/-- none -/
abbrev nA : Nat := 18446744073709551615
def noLa : La := (nA, nA)
/-- those of stream i -/
def la (L : List La) (i : Nat) : La := L.getD i noLa
/-- their cells -/
def lcs : List La → List Value
  | [] => []
  | l :: L => .int .u64 (l.1 : Int) :: .int .u64 (l.2 : Int) :: lcs L
/-- two addresses by value -/
abbrev lav (l : La) : Value := .agg #[.int .u64 (l.1 : Int), .int .u64 (l.2 : Int)]
@[simp] theorem lcs_length (L : List La) : (lcs L).length = L.length * 2 := by
  induction L with
  | nil => rfl
  | cons r L ih => simp [lcs, ih]; omega
theorem lcs_one (L : List La) : ∀ v ∈ lcs L, v.oneCell' = true := by
  induction L with
  | nil => intro v hv; cases hv
  | cons r L ih =>
    intro v hv
    simp only [lcs, List.mem_cons] at hv
    rcases hv with rfl | rfl | hv
    · rfl
    · rfl
    · exact ih v hv
theorem la_get {L : List La} {i : Nat} (h : i < L.length) : L[i]? = some (la L i) := by simp [la, List.getD, h]
theorem lcs_get (L : List La) (i : Nat) : (lcs L)[i * 2]? = L[i]?.map (fun r => Value.int .u64 (r.1 : Int)) ∧ (lcs L)[i * 2 + 1]? = L[i]?.map (fun r => Value.int .u64 (r.2 : Int)) := by
  induction L generalizing i with
  | nil => simp [lcs]
  | cons r L ih =>
    cases i with
    | zero => simp [lcs]
    | succ i => rw [show (i + 1) * 2 = i * 2 + 1 + 1 by omega]; simpa [lcs] using ih i
theorem lcs_at {L : List La} {i : Nat} (h : i < L.length) : (lcs L)[i * 2]? = some (.int .u64 ((la L i).1 : Int)) ∧ (lcs L)[i * 2 + 1]? = some (.int .u64 ((la L i).2 : Int)) := by
  obtain ⟨h1, h2⟩ := lcs_get L i
  rw [h1, h2, la_get h]
  exact ⟨rfl, rfl⟩
theorem lcs_set (L : List La) (i : Nat) (l : La) : ((lcs L).set (i * 2) (.int .u64 (l.1 : Int))).set (i * 2 + 1) (.int .u64 (l.2 : Int)) = lcs (L.set i l) := by
  induction L generalizing i with
  | nil => simp [lcs]
  | cons r L ih =>
    cases i with
    | zero => simp [lcs]
    | succ i =>
      rw [show (i + 1) * 2 = i * 2 + 1 + 1 by omega]
      simp only [lcs, List.set_cons_succ]
      rw [ih i]
/-- an address in front -/
def pushA (l : La) (a : Nat) : La := (a, l.1)
/-- an address pushed to streams -/
def pushS (a : Nat) : List Int → List La → List La
  | [], L => L
  | s :: S, L => pushS a S (L.set s.toNat (pushA (la L s.toNat) a))
theorem pushS_length (a : Nat) : ∀ (S : List Int) (L : List La), (pushS a S L).length = L.length
  | [], _ => rfl
  | s :: S, L => by rw [pushS, pushS_length a S]; simp
theorem pushS_snoc (a : Nat) : ∀ (S : List Int) (s : Int) (L : List La), pushS a (S ++ [s]) L = (pushS a S L).set s.toNat (pushA (la (pushS a S L) s.toNat) a)
  | [], _, _ => rfl
  | x :: S, s, L => by rw [List.cons_append, pushS, pushS, pushS_snoc a S]
/-- the Backs of streams -/
def backsL (L : List La) (S : List Int) : List Bk := S.map fun s => (s, la L s.toNat)
@[simp] theorem backsL_length (L : List La) (S : List Int) : (backsL L S).length = S.length := by simp [backsL]
/-- what Backs say of a stream -/
def fstB (bs : List Bk) (s : Int) : La := if fdx ⟨0, [], bs⟩ s < 0 then noLa else (bk bs (fdx ⟨0, [], bs⟩ s).toNat).2
/-- of the first n streams -/
def lastsM (bs : List Bk) (n : Nat) : List La := (List.range n).map fun i => fstB bs ((i : Nat) : Int)
@[simp] theorem lastsM_length (bs : List Bk) (n : Nat) : (lastsM bs n).length = n := by simp [lastsM]
theorem lastsM_succ (bs : List Bk) (n : Nat) : lastsM bs (n + 1) = lastsM bs n ++ [fstB bs ((n : Nat) : Int)] := by simp [lastsM, List.range_succ]
theorem la_lastsM {bs : List Bk} {n i : Nat} (h : i < n) : la (lastsM bs n) i = fstB bs ((i : Nat) : Int) := by
  simp [la, lastsM, List.getD, h]
theorem la_set {L : List La} {i k : Nat} {l : La} (hi : i < L.length) : la (L.set i l) k = if i = k then l else la L k := by
  unfold la
  simp only [List.getD, List.getElem?_set]
  by_cases h : i = k
  · subst h; simp [hi]
  · simp [h]

/-- a sequencer's state -/
structure SqS where
  n : Int
  e : Nat
  t : Nat
  L : List La
/-- its cells -/
def SqS.cs (S : SqS) : List Value := .int .i64 S.n :: .int .u64 (S.e : Int) :: .int .u64 (S.t : Int) :: lcs S.L
def SqS.ok (S : SqS) : Prop := S.L.length = 16 ∧ S.e ≤ 18446744073709551615 ∧ S.t ≤ 1048576
end Go.Proofs.Ytdblplkaobeimaa
namespace Go.Proofs.Ytdblplkaobeimaa
set_option linter.unusedVariables false
set_option linter.unusedSimpArgs false
open Go.RowKit

/-- only the blocks that are named, and what is new, has turned -/
structure Chg (l : List Nat) (a w : World) : Prop where
  os : w.os = a.os
  tape : w.tape = a.tape
  output : w.output = a.output
  size : a.heap.size ≤ w.heap.size
  block : ∀ k, k < a.heap.size → k ∉ l → w.heap[k]? = a.heap[k]?
theorem Chg.refl (l : List Nat) (a : World) : Chg l a a := ⟨rfl, rfl, rfl, Nat.le_refl _, fun _ _ _ => rfl⟩
theorem Chg.trans {l : List Nat} {a b c : World} (h : Chg l a b) (k : Chg l b c) : Chg l a c :=
  ⟨k.os.trans h.os, k.tape.trans h.tape, k.output.trans h.output, Nat.le_trans h.size k.size, fun i hi hn => (k.block i (Nat.lt_of_lt_of_le hi h.size) hn).trans (h.block i hi hn)⟩
theorem Chg.mono {l l' : List Nat} {a b : World} (h : Chg l a b) (hs : ∀ x ∈ l, x ∈ l' ∨ a.heap.size ≤ x) : Chg l' a b :=
  ⟨h.os, h.tape, h.output, h.size, fun k hk hn => h.block k hk (fun hm => by rcases hs k hm with h1 | h1; exact hn h1; omega)⟩
theorem Chg.then {l l' : List Nat} {a b c : World} (h : Chg l a b) (k : Chg l' b c) (hs : ∀ x ∈ l', x ∈ l ∨ a.heap.size ≤ x) : Chg l a c :=
  ⟨k.os.trans h.os, k.tape.trans h.tape, k.output.trans h.output, Nat.le_trans h.size k.size, fun i hi hn => (k.block i (Nat.lt_of_lt_of_le hi h.size) (fun hm => by rcases hs i hm with h1 | h1; exact hn h1; omega)).trans (h.block i hi hn)⟩
theorem Chg.drew {l : List Nat} {a b : World} (h : Chg l a b) : Chg l a b.drew := ⟨h.os, h.tape, h.output, h.size, h.block⟩
theorem Chg.drewN {l : List Nat} {a b : World} (h : Chg l a b) (n : Nat) : Chg l a (b.drewN n) := ⟨h.os, h.tape, h.output, h.size, h.block⟩
theorem Chg.qt {l : List Nat} {a b c : World} (h : Chg l a b) (k : Qt b c) : Chg l a c := by obtain ⟨n, rfl⟩ := k; exact h.drewN n
theorem Chg.alloc {l : List Nat} {a b : World} (h : Chg l a b) (o : Obj) : Chg l a (b.alloc o) :=
  ⟨h.os, h.tape, h.output, by simp; have := h.size; omega, fun k hk hn => (Below.heap_alloc b o k (by have := h.size; omega)).trans (h.block k hk hn)⟩
theorem setCells_heap (b : Nat) : ∀ (vs : List Value) (o : Nat) (w : World), (w.setCells b o vs).os = w.os ∧ (w.setCells b o vs).tape = w.tape ∧ (w.setCells b o vs).output = w.output ∧ (w.setCells b o vs).heap.size = w.heap.size ∧ ∀ k, k ≠ b → (w.setCells b o vs).heap[k]? = w.heap[k]?
  | [], _, _ => ⟨rfl, rfl, rfl, rfl, fun _ _ => rfl⟩
  | v :: r, o, w => by
    obtain ⟨h1, h2, h3, h4, h5⟩ := setCells_heap b r (o + 1) (w.setCell ⟨b, o, none⟩ v)
    rw [World.setCells]
    exact ⟨h1, h2, h3, by rw [h4, set_size], fun k hk => by rw [h5 k hk, Below.heap_setCell w ⟨b, o, none⟩ v k hk]⟩
theorem Chg.setCells {l : List Nat} {a w : World} (h : Chg l a w) {b : Nat} (hb : b ∈ l ∨ a.heap.size ≤ b) (o : Nat) (vs : List Value) : Chg l a (w.setCells b o vs) := by
  obtain ⟨h1, h2, h3, h4, h5⟩ := setCells_heap b vs o w
  refine ⟨h1.trans h.os, h2.trans h.tape, h3.trans h.output, by rw [h4]; exact h.size, fun k hk hn => (h5 k (fun e => ?_)).trans (h.block k hk hn)⟩
  subst e
  rcases hb with hb | hb
  · exact hn hb
  · omega
theorem Chg.setCell {l : List Nat} {a w : World} (h : Chg l a w) {p : Addr} (hb : p.block ∈ l ∨ a.heap.size ≤ p.block) (v : Value) : Chg l a (w.setCell p v) := by
  refine ⟨h.os, h.tape, h.output, by rw [set_size]; exact h.size, fun k hk hn => (Below.heap_setCell w p v k (fun e => ?_)).trans (h.block k hk hn)⟩
  subst e
  rcases hb with hb | hb
  · exact hn hb
  · omega
theorem Chg.grown {l : List Nat} {a w w' : World} (h : Chg l a w) {row : Option Nat} (hg : w.grownBy w' row) (hr : ∀ k, row = some k → k ∈ l ∨ a.heap.size ≤ k) : Chg l a w' :=
  ⟨hg.os.trans h.os, hg.tape.trans h.tape, hg.output.trans h.output, Nat.le_trans h.size hg.size, fun k hk hn => (hg.block k (by have := h.size; omega) (fun e => by
    rcases hr k e.symm with h1 | h1
    · exact hn h1
    · omega)).trans (h.block k hk hn)⟩
theorem Chg.of_below {l : List Nat} {a w w' : World} (h : Chg l a w) (hb : Below w.heap.size w w') : Chg l a w' :=
  ⟨hb.os.trans h.os, hb.tape.trans h.tape, hb.output.trans h.output, Nat.le_trans h.size hb.size, fun k hk hn => (hb.block k (by have := h.size; omega)).trans (h.block k hk hn)⟩
theorem Chg.below {l : List Nat} {a w : World} (h : Chg l a w) {B : Nat} (hB : B ≤ a.heap.size) (hl : ∀ x ∈ l, B ≤ x) : Below B a w :=
  ⟨h.os, h.tape, h.output, h.size, fun k hk => h.block k (by omega) (fun hm => by have := hl k hm; omega)⟩
theorem Chg.low {a w : World} (h : Chg [] a w) : Below a.heap.size a w := h.below (Nat.le_refl _) (by simp)
theorem below_chg {l : List Nat} {a w w' : World} {B : Nat} (hb : Below B a w) (h : Chg l w w') (hB : B ≤ w.heap.size) (hl : ∀ x ∈ l, B ≤ x) : Below B a w' := hb.trans (h.below hB hl)
theorem Chg.cell {l : List Nat} {a w : World} (h : Chg l a w) {b o : Nat} {v : Value} (hc : a.cell? ⟨b, o, none⟩ = some v) (hb : b ∉ l) : w.cell? ⟨b, o, none⟩ = some v :=
  (World.cell?_of_block (w := a) (w' := w) (a := ⟨b, o, none⟩) (h.block b (World.block_lt_of_cell? a _ hc) hb)).trans hc
end Go.Proofs.Ytdblplkaobeimaa
namespace Go.Proofs.Ytdblplkaobeimaa
open Go.RowKit Go.Deep
set_option linter.unusedVariables false
set_option linter.unusedSimpArgs false

theorem Lst.chg {w w' : World} {base : Nat} {e : TypeId} {v : Value} {xs : List Value} {l : List Nat} (h : Lst w base e v xs) (hc : Chg l w w') (hl : ∀ x ∈ l, ∀ cur, w.heap[x]? ≠ some (.cells cur e (0, 0))) : Lst w' base e v xs := by
  refine ⟨h.1, ?_⟩
  rcases h.2 with h1 | ⟨g, cap, cur, h1, h2, h3, h4⟩
  · exact .inl h1
  · exact .inr ⟨g, cap, cur, h1, h2, (hc.block g (Array.getElem?_eq_some_iff.1 h3).1 (fun hm => hl g hm cur h3)).trans h3, h4⟩
/-- the row that a slice of the call's own lies in -/
def rowOf (v : Value) : List Nat := match v.ownBlock with | some g => [g] | none => []
theorem grown_chg {w w' : World} {v : Value} (h : w.grownBy w' v.ownBlock) : Chg (rowOf v) w w' := (Chg.refl (rowOf v) w).grown h (fun k hk => .inl (by unfold rowOf; rw [hk]; simp))
theorem Lst.row {w : World} {base : Nat} {e : TypeId} {v : Value} {xs : List Value} (h : Lst w base e v xs) : ∀ x ∈ rowOf v, base ≤ x ∧ ∃ cur, w.heap[x]? = some (.cells cur e (0, 0)) := by
  intro x hx
  rcases h.2 with ⟨rfl, _⟩ | ⟨g, cap, cur, rfl, h2, h3, _⟩
  · simp [rowOf, Value.ownBlock] at hx
  · simp [rowOf, Value.ownBlock] at hx
    subst hx
    exact ⟨h2, cur, h3⟩
theorem Own.chg {w w' : World} {g : Nat} {t : TypeId} {cs : List Value} {l : List Nat} (h : Own w g t cs) (hc : Chg l w w') (hg : g ∉ l) : Own w' g t cs := (hc.block g h.lt hg).trans h
/-- append of one value, with all that it keeps -/
theorem wpList_app1g {P : Program} {w : World} {ops : Array Oper} {rest : List Oper} {o : Oper} {a : Act} {Q : Exit → Act → World → Prop} (hgd : o.guard = none) (s x : Operand) (t : TypeId)
    (ho : o.op = .call { callee := .builtin .append, args := #[s, x], argTypes := #[t, t] })
    (base : Nat) (e : TypeId) (z : Value) (bytes : Nat) (ht : P.underlying t = some (.slice e)) (hinfo : (P.info? e).map (fun i => (i.zero, i.size, i.bytes)) = some (some z, 1, bytes)) (hzs : z.cells.size = 1)
    (u : Value) (h1 : u.oneCell' = true) (v : Value) (xs : List Value) (hs : a.eval s = v) (hown : Lst w base e v xs)
    (hx : a.eval x = .slice (some ⟨w.heap.size, 0, none⟩) 1 1)
    (hlen : (xs.length + 1) * bytes ≤ 140737488355328) (hlen2 : xs.length + 1 ≤ 140737488355328) (hbase : base ≤ w.heap.size)
    (h : ∀ v' w', Hid (Lst w' base e v' (xs ++ [u])) → Chg (rowOf v) w w' → wpList P ops Q rest (a.put o.dst v') w') : wpList P ops Q (o :: rest) a (w.alloc (.cells #[u] e)) :=
  wpList_app hgd s x t ho base e z bytes ht hinfo hzs v xs hs (hown.alloc _) (some ⟨w.heap.size, 0, none⟩) (w.heap.size + 1) 1 1 [u] hx rfl (ro_one w e u) (by simpa using h1) hlen hlen2 (by simp; omega) fun v' w' h2 h3 => h v' w' h2 (((Chg.refl _ w).alloc _).trans (grown_chg h3))
/-- a row that lies apart from the blocks of l -/
def RoX (w : World) (l : List Nat) (a : Option Addr) (vs : List Value) : Prop := vs = [] ∨ ∃ b off, a = some ⟨b, off, none⟩ ∧ b < w.heap.size ∧ b ∉ l ∧ ∀ i, i < vs.length → w.cell? ⟨b, off + i, none⟩ = some (vs.getD i undef)
theorem RoX.ro {w : World} {l : List Nat} {a : Option Addr} {vs : List Value} (h : RoX w l a vs) : Ro w w.heap.size a vs := by
  rcases h with h | ⟨b, off, h1, h2, h3, h4⟩
  · exact .inl h
  · exact .inr ⟨b, off, h1, h2, h4⟩
theorem RoX.chg {w w' : World} {l : List Nat} {a : Option Addr} {vs : List Value} (h : RoX w l a vs) (hc : Chg l w w') : RoX w' l a vs := by
  rcases h with h | ⟨b, off, h1, h2, h3, h4⟩
  · exact .inl h
  · exact .inr ⟨b, off, h1, Nat.lt_of_lt_of_le h2 hc.size, h3, fun i hi => hc.cell (h4 i hi) h3⟩
theorem Ro.apart {w : World} {B : Nat} {l : List Nat} {a : Option Addr} {vs : List Value} (h : Ro w B a vs) (hB : B ≤ w.heap.size) (hl : ∀ x ∈ l, B ≤ x) : RoX w l a vs := by
  rcases h with h | ⟨b, off, h1, h2, h3⟩
  · exact .inl h
  · exact .inr ⟨b, off, h1, by omega, fun hm => by have := hl b hm; omega, h3⟩
theorem Lst.apart {w : World} {base : Nat} {e : TypeId} {a : Option Addr} {n c : Nat} {xs : List Value} {l : List Nat} (h : Lst w base e (.slice a n c) xs) (hl : ∀ x ∈ l, ∀ cur, w.heap[x]? ≠ some (.cells cur e (0, 0))) : RoX w l a xs := by
  obtain ⟨a', c', h1, h2, _⟩ := h.form
  injection h1 with h1 _ _
  subst h1
  rcases h2 with h2 | ⟨b, off, g1, g2, g3⟩
  · exact .inl h2
  · refine .inr ⟨b, off, g1, g2, fun hm => ?_, g3⟩
    rcases h.2 with ⟨hv, _⟩ | ⟨g, cap, cur, hv, _, hh, _⟩
    · injection hv with hv _ _
      rw [hv] at g1; cases g1
    · injection hv with hv _ _
      rw [hv] at g1
      injection g1 with g1
      injection g1 with g1 _ _
      subst g1
      exact hl g hm cur hh
theorem Lst.apart2 {w : World} {base : Nat} {e : TypeId} {a : Option Addr} {n c : Nat} {xs : List Value} {l : List Nat} (h : Lst w base e (.slice a n c) xs) (hl : ∀ x ∈ l, x < base ∨ ∀ cur, w.heap[x]? ≠ some (.cells cur e (0, 0))) : RoX w l a xs := by
  obtain ⟨a', c', h1, h2, _⟩ := h.form
  injection h1 with h1 _ _
  subst h1
  rcases h2 with h2 | ⟨b, off, g1, g2, g3⟩
  · exact .inl h2
  · refine .inr ⟨b, off, g1, g2, fun hm => ?_, g3⟩
    rcases h.2 with ⟨hv, _⟩ | ⟨g, cap, cur, hv, hb, hh, _⟩
    · injection hv with hv _ _
      rw [hv] at g1; cases g1
    · injection hv with hv _ _
      rw [hv] at g1
      injection g1 with g1
      injection g1 with g1 _ _
      subst g1
      rcases hl g hm with h | h
      · omega
      · exact h cur hh
end Go.Proofs.Ytdblplkaobeimaa
