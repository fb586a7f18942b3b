/-
  What a disk is in memory: its struct, its row of sectors, its map of dirty sectors; sectors as lists of bytes; what a call keeps. Plain lemmas, no claim of their own.
-/
import Derived.Test.YtdiemejdbakffaaList
import Derived.Deep.MidRow
import Derived.Maps.RangeWalk
import Derived.Maps.OwnSet
import Derived.Maps.Ext
import Derived.Lib.SlKeysI
namespace Go.Proofs.Ytdiemejdbakffaa
open Go.RowKit Go.Maps

abbrev Sec := List UInt8
def zsec : Sec := List.replicate 64 0
theorem zsec_len : zsec.length = 64 := by simp [zsec]
/-- a sector as a value -/
abbrev sv (S : Sec) : Value := .agg (u8s S).toArray
theorem u8s_one (S : Sec) : ∀ v ∈ u8s S, v.oneCell' = true := by
  intro v hv
  simp only [u8s, List.mem_map] at hv
  obtain ⟨x, _, rfl⟩ := hv
  rfl
theorem u8s_inj {S T : Sec} (h : u8s S = u8s T) : S = T := by
  unfold u8s at h
  refine List.map_inj_right (fun x y e => ?_) |>.1 h
  simp only [Value.int.injEq, true_and] at e
  exact UInt8.toNat_inj.1 (by omega)
theorem sv_inj {S T : Sec} (h : sv S = sv T) : S = T := by
  unfold sv at h
  simp only [Value.agg.injEq] at h
  exact u8s_inj (by simpa using h)

/-- only the blocks that are named, and what is new, has turned -/
structure Chg (l : List Nat) (a w : World) : Prop where
  os : w.os = a.os
  tape : w.tape = a.tape
  output : w.output = a.output
  size : a.heap.size ≤ w.heap.size
  block : ∀ k, k < a.heap.size → k ∉ l → w.heap[k]? = a.heap[k]?
theorem Chg.refl (l : List Nat) (a : World) : Chg l a a := ⟨rfl, rfl, rfl, Nat.le_refl _, fun _ _ _ => rfl⟩
theorem Chg.trans {l : List Nat} {a b c : World} (h : Chg l a b) (k : Chg l b c) : Chg l a c :=
  ⟨k.os.trans h.os, k.tape.trans h.tape, k.output.trans h.output, Nat.le_trans h.size k.size, fun i hi hn => (k.block i (Nat.lt_of_lt_of_le hi h.size) hn).trans (h.block i hi hn)⟩
theorem Chg.mono {l l' : List Nat} {a b : World} (h : Chg l a b) (hs : ∀ x ∈ l, x ∈ l' ∨ a.heap.size ≤ x) : Chg l' a b :=
  ⟨h.os, h.tape, h.output, h.size, fun k hk hn => h.block k hk (fun hm => by rcases hs k hm with h1 | h1; exact hn h1; omega)⟩
theorem Chg.then {l l' : List Nat} {a b c : World} (h : Chg l a b) (k : Chg l' b c) (hs : ∀ x ∈ l', x ∈ l ∨ a.heap.size ≤ x) : Chg l a c :=
  ⟨k.os.trans h.os, k.tape.trans h.tape, k.output.trans h.output, Nat.le_trans h.size k.size, fun i hi hn => (k.block i (Nat.lt_of_lt_of_le hi h.size) (fun hm => by rcases hs i hm with h1 | h1; exact hn h1; omega)).trans (h.block i hi hn)⟩
theorem Chg.drew {l : List Nat} {a b : World} (h : Chg l a b) : Chg l a b.drew := ⟨h.os, h.tape, h.output, h.size, h.block⟩
theorem Chg.drewN {l : List Nat} {a b : World} (h : Chg l a b) (n : Nat) : Chg l a (b.drewN n) := ⟨h.os, h.tape, h.output, h.size, h.block⟩
theorem Chg.qt {l : List Nat} {a b c : World} (h : Chg l a b) (k : Qt b c) : Chg l a c := by obtain ⟨n, rfl⟩ := k; exact h.drewN n
theorem Chg.alloc {l : List Nat} {a b : World} (h : Chg l a b) (o : Obj) : Chg l a (b.alloc o) :=
  ⟨h.os, h.tape, h.output, by simp; have := h.size; omega, fun k hk hn => (Below.heap_alloc b o k (by have := h.size; omega)).trans (h.block k hk hn)⟩
theorem setCells_heap (b : Nat) : ∀ (vs : List Value) (o : Nat) (w : World), (w.setCells b o vs).os = w.os ∧ (w.setCells b o vs).tape = w.tape ∧ (w.setCells b o vs).output = w.output ∧ (w.setCells b o vs).heap.size = w.heap.size ∧ ∀ k, k ≠ b → (w.setCells b o vs).heap[k]? = w.heap[k]?
  | [], _, _ => ⟨rfl, rfl, rfl, rfl, fun _ _ => rfl⟩
  | v :: r, o, w => by
    obtain ⟨h1, h2, h3, h4, h5⟩ := setCells_heap b r (o + 1) (w.setCell ⟨b, o, none⟩ v)
    rw [World.setCells]
    exact ⟨h1, h2, h3, by rw [h4, set_size], fun k hk => by rw [h5 k hk, Below.heap_setCell w ⟨b, o, none⟩ v k hk]⟩
theorem Chg.setCells {l : List Nat} {a w : World} (h : Chg l a w) {b : Nat} (hb : b ∈ l ∨ a.heap.size ≤ b) (o : Nat) (vs : List Value) : Chg l a (w.setCells b o vs) := by
  obtain ⟨h1, h2, h3, h4, h5⟩ := setCells_heap b vs o w
  refine ⟨h1.trans h.os, h2.trans h.tape, h3.trans h.output, by rw [h4]; exact h.size, fun k hk hn => (h5 k (fun e => ?_)).trans (h.block k hk hn)⟩
  subst e
  rcases hb with hb | hb
  · exact hn hb
  · omega
theorem Chg.setCell {l : List Nat} {a w : World} (h : Chg l a w) {p : Addr} (hb : p.block ∈ l ∨ a.heap.size ≤ p.block) (v : Value) : Chg l a (w.setCell p v) := by
  refine ⟨h.os, h.tape, h.output, by rw [set_size]; exact h.size, fun k hk hn => (Below.heap_setCell w p v k (fun e => ?_)).trans (h.block k hk hn)⟩
  subst e
  rcases hb with hb | hb
  · exact hn hb
  · omega
theorem Chg.grown {l : List Nat} {a w w' : World} (h : Chg l a w) {row : Option Nat} (hg : w.grownBy w' row) (hr : ∀ k, row = some k → k ∈ l ∨ a.heap.size ≤ k) : Chg l a w' :=
  ⟨hg.os.trans h.os, hg.tape.trans h.tape, hg.output.trans h.output, Nat.le_trans h.size hg.size, fun k hk hn => (hg.block k (by have := h.size; omega) (fun e => by
    rcases hr k e.symm with h1 | h1
    · exact hn h1
    · omega)).trans (h.block k hk hn)⟩
theorem Chg.of_below {l : List Nat} {a w w' : World} (h : Chg l a w) (hb : Below w.heap.size w w') : Chg l a w' :=
  ⟨hb.os.trans h.os, hb.tape.trans h.tape, hb.output.trans h.output, Nat.le_trans h.size hb.size, fun k hk hn => (hb.block k (by have := h.size; omega)).trans (h.block k hk hn)⟩
theorem Chg.below {l : List Nat} {a w : World} (h : Chg l a w) {B : Nat} (hB : B ≤ a.heap.size) (hl : ∀ x ∈ l, B ≤ x) : Below B a w :=
  ⟨h.os, h.tape, h.output, h.size, fun k hk => h.block k (by omega) (fun hm => by have := hl k hm; omega)⟩
theorem Chg.low {a w : World} (h : Chg [] a w) : Below a.heap.size a w := h.below (Nat.le_refl _) (by simp)
theorem below_chg {l : List Nat} {a w w' : World} {B : Nat} (hb : Below B a w) (h : Chg l w w') (hB : B ≤ w.heap.size) (hl : ∀ x ∈ l, B ≤ x) : Below B a w' := hb.trans (h.below hB hl)
theorem Chg.cell {l : List Nat} {a w : World} (h : Chg l a w) {b o : Nat} {v : Value} (hc : a.cell? ⟨b, o, none⟩ = some v) (hb : b ∉ l) : w.cell? ⟨b, o, none⟩ = some v :=
  (World.cell?_of_block (w := a) (w' := w) (a := ⟨b, o, none⟩) (h.block b (World.block_lt_of_cell? a _ hc) hb)).trans hc
theorem Chg.range {l : List Nat} {a w : World} (h : Chg l a w) {b o : Nat} {cs : List Value} (hc : a.rangeAt b o cs) (hb : b ∉ l) : w.rangeAt b o cs :=
  fun j v hv => h.cell (hc j v hv) hb
theorem Chg.there {l : List Nat} {a w : World} (h : Chg l a w) {b o n : Nat} (hc : a.there b o n) (hb : b ∉ l) : w.there b o n := fun j hj => by
  obtain ⟨h1, h2⟩ := hc j hj
  obtain ⟨u, hu⟩ := Option.isSome_iff_exists.1 h1
  have hlt := World.block_lt_of_cell? a _ hu
  exact ⟨by rw [h.cell hu hb]; rfl, (World.frozen?_of_block (w := a) (w' := w) (a := ⟨b, o + j, none⟩) (h.block b hlt hb)).trans h2⟩
theorem Chg.grownBy {b : Nat} {a w : World} (h : Chg [b] a w) : a.grownBy w (some b) := ⟨h.os, h.tape, h.output, h.size, fun k hk hn => h.block k hk (by simpa using hn)⟩
theorem Chg.grownBy0 {a w : World} (h : Chg [] a w) (row : Option Nat) : a.grownBy w row := ⟨h.os, h.tape, h.output, h.size, fun k hk _ => h.block k hk (by simp)⟩

/-- how a sector's value reads -/
def secD (S : Sec) : DataW Unit := .agg (S.map fun x => .lit (.int .u8 (x.toNat : Int)))
theorem secD_inj {S T : Sec} (h : secD S = secD T) : S = T := by
  unfold secD at h
  simp only [DataW.agg.injEq] at h
  refine List.map_inj_right (fun x y e => ?_) |>.1 h
  simp only [DataW.lit.injEq, Lit.int.injEq, true_and] at e
  exact UInt8.toNat_inj.1 (by omega)
open Classical in
noncomputable def secR (v : Value) : Option (DataW Unit × List MemPlace) :=
  if h : ∃ S : Sec, S.length = 64 ∧ v = sv S then some (secD (Classical.choose h), []) else none
theorem secR_sv {S : Sec} (h : S.length = 64) : secR (sv S) = some (secD S, []) := by
  unfold secR
  have hx : ∃ T : Sec, T.length = 64 ∧ sv S = sv T := ⟨S, h, rfl⟩
  rw [dif_pos hx]
  have := Classical.choose_spec hx
  rw [← sv_inj this.2]
theorem secR_inv {v : Value} {z : DataW Unit × List MemPlace} (h : secR v = some z) : ∃ S : Sec, S.length = 64 ∧ v = sv S ∧ z = (secD S, []) := by
  unfold secR at h
  split at h
  · rename_i hx
    cases h
    have := Classical.choose_spec hx
    exact ⟨_, this.1, this.2, rfl⟩
  · cases h

/-- the literal of key i -/
def ik (i : Nat) : Lit := .int .i64 (i : Int)
theorem ik_inj {i j : Nat} (h : ik i = ik j) : i = j := by
  simp only [ik, Lit.int.injEq, true_and] at h
  omega
theorem ik_isKey (i : Nat) : WideAt.IsKeyLit (ik i) := by simp [ik, WideAt.IsKeyLit]
/-- the datum of the map m -/
structure MapOf (m : Nat → Option Sec) (D : DataW Unit) : Prop where
  some_ : ∀ i S, m i = some S → has D (ik i) = true ∧ ∀ z, D.atKey (ik i) z = secD S
  none_ : ∀ i, m i = none → has D (ik i) = false
  keys : ∀ kl, has D kl = true → ∃ i, kl = ik i

def upd (m : Nat → Option Sec) (i : Nat) (S : Sec) : Nat → Option Sec := fun j => if j = i then some S else m j
def updF (F : Nat → Sec) (i : Nat) (S : Sec) : Nat → Sec := fun j => if j = i then S else F j
/-- what is read -/
def now (F : Nat → Sec) (m : Nat → Option Sec) (i : Nat) : Sec := (m i).getD (F i)

theorem MapOf.empty : MapOf (fun _ => none) (.map []) := ⟨fun _ _ h => (by cases h), fun _ _ => rfl, fun kl h => by simp [has] at h⟩
theorem MapOf.put {m : Nat → Option Sec} {D : DataW Unit} (h : MapOf m D) (hD : IsMap D) (i : Nat) (S : Sec) : MapOf (upd m i S) (D.put (ik i) (secD S)) := by
  have hne : ∀ j, j ≠ i → ik j ≠ ik i := fun j hj e => hj (ik_inj e)
  refine ⟨fun j T hj => ?_, fun j hj => ?_, fun kl hkl => ?_⟩
  · by_cases e : j = i
    · subst e
      simp only [upd, if_true, Option.some.injEq] at hj
      subst hj
      exact ⟨has_put_same hD (ik_isKey j) _, fun z => atKey_put_same hD (ik_isKey j) _ z⟩
    · simp only [upd, if_neg e] at hj
      obtain ⟨h1, h2⟩ := h.some_ j T hj
      exact ⟨by rw [has_put_other (hne j e)]; exact h1, fun z => by rw [atKey_put_other (hne j e)]; exact h2 z⟩
  · by_cases e : j = i
    · subst e
      simp [upd] at hj
    · simp only [upd, if_neg e] at hj
      rw [has_put_other (hne j e)]
      exact h.none_ j hj
  · by_cases e : kl = ik i
    · exact ⟨i, e⟩
    · rw [has_put_other e] at hkl
      exact h.keys kl hkl

/-- the dirty sectors in increasing order -/
def dirtyL (n : Nat) (m : Nat → Option Sec) : List Nat := (List.range n).filter fun i => (m i).isSome
theorem dirtyL_le (n : Nat) (m : Nat → Option Sec) : (dirtyL n m).length ≤ n := by
  have := List.length_filter_le (fun i => (m i).isSome) (List.range n)
  simpa [dirtyL] using this
theorem dirtyL_nodup (n : Nat) (m : Nat → Option Sec) : (dirtyL n m).Nodup := List.nodup_range.filter _
theorem mem_dirtyL {n : Nat} {m : Nat → Option Sec} {i : Nat} : i ∈ dirtyL n m ↔ i < n ∧ (m i).isSome = true := by simp [dirtyL]
def dirtyZ (n : Nat) (m : Nat → Option Sec) : List Int := (dirtyL n m).map fun (i : Nat) => (i : Int)
theorem keys_perm {m : Nat → Option Sec} {D : DataW Unit} {n : Nat} (h : MapOf m D) (hm : ∀ i S, m i = some S → i < n) (hT : ∃ es, D = .map es ∧ es.Pairwise (fun p q => p.1 ≠ q.1) ∧ ∀ p ∈ es, WideAt.IsKeyLit p.1) : (dirtyZ n m).Perm (intKeys D) := by
  obtain ⟨es, rfl, hpw, hk⟩ := hT
  refine perm_intKeys hpw (fun p hp => ?_) ?_ (fun x => ?_)
  · obtain ⟨i, hi⟩ := h.keys p.1 (List.any_eq_true.2 ⟨p, hp, WideAt.sameKey_self (hk p hp)⟩)
    exact ⟨i, hi⟩
  · exact List.Pairwise.map _ (fun a b (hab : a ≠ b) e => hab (by omega)) (dirtyL_nodup n m)
  · simp only [dirtyZ, List.mem_map]
    constructor
    · rintro ⟨i, hi, rfl⟩
      obtain ⟨_, h2⟩ := mem_dirtyL.1 hi
      obtain ⟨S, hS⟩ := Option.isSome_iff_exists.1 h2
      exact (h.some_ i S hS).1
    · intro hx
      obtain ⟨i, hi⟩ := h.keys _ hx
      have e : x = (i : Int) := by simpa [ik] using hi
      subst e
      refine ⟨i, mem_dirtyL.2 ?_, rfl⟩
      cases hS : m i with
      | none => have := h.none_ i hS; rw [ik] at this; rw [this] at hx; cases hx
      | some S => exact ⟨hm i S hS, rfl⟩
theorem dirtyZ_sorted (n : Nat) (m : Nat → Option Sec) : (dirtyZ n m).Pairwise (fun a b => leI a b = true) := by
  refine List.Pairwise.map _ (fun a b (hab : a < b) => ?_) (List.Pairwise.filter _ List.pairwise_lt_range)
  simp only [leI, decide_eq_true_eq]
  omega
theorem keys_sorted {m : Nat → Option Sec} {D : DataW Unit} {n : Nat} {ss : List Int} (hp : (dirtyZ n m).Perm (intKeys D)) (hs : ss.Perm (intKeys D)) : ss.mergeSort (fun x y => decide (x ≤ y)) = dirtyZ n m := by
  have e := mergeSort_of_perm_i (hs.trans hp.symm)
  have e2 : (dirtyZ n m).mergeSort leI = dirtyZ n m := List.mergeSort_of_pairwise (dirtyZ_sorted n m)
  exact e.trans e2
theorem size_intKeys {H : Type} (D : DataW H) : (intKeys D).length = size D := by cases D <;> simp [intKeys, size]

/-- a disk: its struct in block p, its row in block g, its map in block b; n sectors, F what was flushed, m what is dirty -/
structure Dsk (w : World) (p g b n : Nat) (F : Nat → Sec) (m : Nat → Option Sec) : Prop where
  flu : ∃ c, w.cell? ⟨p, 0, none⟩ = some (.slice (some ⟨g, 0, none⟩) n c)
  dir : w.cell? ⟨p, 1, none⟩ = some (.map (some b))
  one : 1 ≤ n
  top : n ≤ 1024
  lenF : ∀ i, (F i).length = 64
  lenM : ∀ i S, m i = some S → S.length = 64 ∧ i < n
  rng : ∀ i, i < n → w.rangeAt g (i * 64) (u8s (F i))
  the : w.there g 0 (n * 64)
  own : ∃ D, w.ownsMap Try.prog 3 secR b n D ∧ MapOf m D
  pg : p ≠ g
  pb : p ≠ b
  gb : g ≠ b
theorem Dsk.lenN {w : World} {p g b n : Nat} {F : Nat → Sec} {m : Nat → Option Sec} (h : Dsk w p g b n F m) (i : Nat) : (now F m i).length = 64 := by
  unfold now
  cases hm : m i with
  | none => simpa using h.lenF i
  | some S => simpa using (h.lenM i S hm).1
theorem Dsk.ltp {w : World} {p g b n : Nat} {F : Nat → Sec} {m : Nat → Option Sec} (h : Dsk w p g b n F m) : p < w.heap.size := World.block_lt_of_cell? w _ h.dir
theorem Dsk.ltb {w : World} {p g b n : Nat} {F : Nat → Sec} {m : Nat → Option Sec} (h : Dsk w p g b n F m) : b < w.heap.size := by obtain ⟨D, h1, _⟩ := h.own; exact h1.lt
theorem Dsk.ltg {w : World} {p g b n : Nat} {F : Nat → Sec} {m : Nat → Option Sec} (h : Dsk w p g b n F m) : g < w.heap.size := by
  have h1 := (h.the 0 (by have := h.one; omega)).1
  obtain ⟨u, hu⟩ := Option.isSome_iff_exists.1 h1
  exact World.block_lt_of_cell? w _ hu
/-- a disk is kept while other blocks turn -/
theorem Dsk.keep {w w' : World} {p g b n : Nat} {F : Nat → Sec} {m : Nat → Option Sec} (h : Dsk w p g b n F m) {l : List Nat} (hc : Chg l w w') (hp : p ∉ l) (hg : g ∉ l) (hb : b ∉ l) : Dsk w' p g b n F m := by
  obtain ⟨c, hf⟩ := h.flu
  obtain ⟨D, ho, hm⟩ := h.own
  have hlt := h.ltb
  refine ⟨⟨c, hc.cell hf hp⟩, hc.cell h.dir hp, h.one, h.top, h.lenF, h.lenM, fun i hi => hc.range (h.rng i hi) hg, hc.there h.the hg, ⟨D, ?_, hm⟩, h.pg, h.pb, h.gb⟩
  obtain ⟨es, clock, hes, hrest⟩ := ho
  exact ⟨es, clock, (hc.block b hlt hb).trans hes, hrest⟩
theorem Dsk.kept {w w' : World} {p g b n : Nat} {F : Nat → Sec} {m : Nat → Option Sec} (h : Dsk w p g b n F m) (hc : Chg [] w w') : Dsk w' p g b n F m := h.keep hc (by simp) (by simp) (by simp)
theorem Dsk.low {w w' : World} {p g b n : Nat} {F : Nat → Sec} {m : Nat → Option Sec} (h : Dsk w p g b n F m) (hb : Below w.heap.size w w') : Dsk w' p g b n F m := h.kept ((Chg.refl [] w).of_below hb)
end Go.Proofs.Ytdiemejdbakffaa
