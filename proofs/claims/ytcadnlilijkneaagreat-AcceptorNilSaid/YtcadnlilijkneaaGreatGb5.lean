/-
  What a disk is in memory: its struct, its row of sectors, its map of dirty sectors; sectors as lists of bytes; what a call keeps. Plain lemmas, no claim of their own.
-/
import Derived.Test.YtcadnlilijkneaaGreatGb2
import Derived.Deep.MidRow
import Derived.Maps.RangeWalk
import Derived.Maps.OwnSet
import Derived.Maps.Ext
import Derived.Lib.SlKeysI
import Derived.Carry
import Derived.Laws.MakeOwn
import Derived.Laws.StructEq
namespace Go.Proofs.YtcadnlilijkneaaGreat
set_option linter.unusedVariables false
set_option linter.unusedSimpArgs false
open Go.RowKit Go.Maps

abbrev Sec := List UInt8
def zsec : Sec := List.replicate 64 0
theorem zsec_len : zsec.length = 64 := by simp [zsec]
abbrev sv (S : Sec) : Value := .agg (u8s S).toArray
theorem u8s_one (S : Sec) : ∀ v ∈ u8s S, v.oneCell' = true := by
  intro v hv
  simp only [u8s, List.mem_map] at hv
  obtain ⟨x, _, rfl⟩ := hv
  rfl
theorem u8s_inj {S T : Sec} (h : u8s S = u8s T) : S = T := by
  unfold u8s at h
  refine List.map_inj_right (fun x y e => ?_) |>.1 h
  simp only [Value.int.injEq, true_and] at e
  exact UInt8.toNat_inj.1 (by omega)
theorem sv_inj {S T : Sec} (h : sv S = sv T) : S = T := by
  unfold sv at h
  simp only [Value.agg.injEq] at h
  exact u8s_inj (by simpa using h)

def secD (S : Sec) : DataW Unit := .agg (S.map fun x => .lit (.int .u8 (x.toNat : Int)))
theorem secD_inj {S T : Sec} (h : secD S = secD T) : S = T := by
  unfold secD at h
  simp only [DataW.agg.injEq] at h
  refine List.map_inj_right (fun x y e => ?_) |>.1 h
  simp only [DataW.lit.injEq, Lit.int.injEq, true_and] at e
  exact UInt8.toNat_inj.1 (by omega)
open Classical in
noncomputable def secR (v : Value) : Option (DataW Unit × List MemPlace) :=
  if h : ∃ S : Sec, S.length = 64 ∧ v = sv S then some (secD (Classical.choose h), []) else none
theorem secR_sv {S : Sec} (h : S.length = 64) : secR (sv S) = some (secD S, []) := by
  unfold secR
  have hx : ∃ T : Sec, T.length = 64 ∧ sv S = sv T := ⟨S, h, rfl⟩
  rw [dif_pos hx]
  have := Classical.choose_spec hx
  rw [← sv_inj this.2]
theorem secR_inv {v : Value} {z : DataW Unit × List MemPlace} (h : secR v = some z) : ∃ S : Sec, S.length = 64 ∧ v = sv S ∧ z = (secD S, []) := by
  unfold secR at h
  split at h
  · rename_i hx
    cases h
    have := Classical.choose_spec hx
    exact ⟨_, this.1, this.2, rfl⟩
  · cases h

def ik (i : Nat) : Lit := .int .i64 (i : Int)
theorem ik_inj {i j : Nat} (h : ik i = ik j) : i = j := by
  simp only [ik, Lit.int.injEq, true_and] at h
  omega
theorem ik_isKey (i : Nat) : WideAt.IsKeyLit (ik i) := by simp [ik, WideAt.IsKeyLit]
structure MapOf (m : Nat → Option Sec) (D : DataW Unit) : Prop where
  some_ : ∀ i S, m i = some S → has D (ik i) = true ∧ ∀ z, D.atKey (ik i) z = secD S
  none_ : ∀ i, m i = none → has D (ik i) = false
  keys : ∀ kl, has D kl = true → ∃ i, kl = ik i

def upd (m : Nat → Option Sec) (i : Nat) (S : Sec) : Nat → Option Sec := fun j => if j = i then some S else m j
def now (F : Nat → Sec) (m : Nat → Option Sec) (i : Nat) : Sec := (m i).getD (F i)

theorem MapOf.empty : MapOf (fun _ => none) (.map []) := ⟨fun _ _ h => (by cases h), fun _ _ => rfl, fun kl h => by simp [has] at h⟩
theorem MapOf.put {m : Nat → Option Sec} {D : DataW Unit} (h : MapOf m D) (hD : IsMap D) (i : Nat) (S : Sec) : MapOf (upd m i S) (D.put (ik i) (secD S)) := by
  have hne : ∀ j, j ≠ i → ik j ≠ ik i := fun j hj e => hj (ik_inj e)
  refine ⟨fun j T hj => ?_, fun j hj => ?_, fun kl hkl => ?_⟩
  · by_cases e : j = i
    · subst e
      simp only [upd, if_true, Option.some.injEq] at hj
      subst hj
      exact ⟨has_put_same hD (ik_isKey j) _, fun z => atKey_put_same hD (ik_isKey j) _ z⟩
    · simp only [upd, if_neg e] at hj
      obtain ⟨h1, h2⟩ := h.some_ j T hj
      exact ⟨by rw [has_put_other (hne j e)]; exact h1, fun z => by rw [atKey_put_other (hne j e)]; exact h2 z⟩
  · by_cases e : j = i
    · subst e
      simp [upd] at hj
    · simp only [upd, if_neg e] at hj
      rw [has_put_other (hne j e)]
      exact h.none_ j hj
  · by_cases e : kl = ik i
    · exact ⟨i, e⟩
    · rw [has_put_other e] at hkl
      exact h.keys kl hkl

def dirtyL (n : Nat) (m : Nat → Option Sec) : List Nat := (List.range n).filter fun i => (m i).isSome
theorem dirtyL_le (n : Nat) (m : Nat → Option Sec) : (dirtyL n m).length ≤ n := by
  have := List.length_filter_le (fun i => (m i).isSome) (List.range n)
  simpa [dirtyL] using this
theorem dirtyL_nodup (n : Nat) (m : Nat → Option Sec) : (dirtyL n m).Nodup := List.nodup_range.filter _
theorem mem_dirtyL {n : Nat} {m : Nat → Option Sec} {i : Nat} : i ∈ dirtyL n m ↔ i < n ∧ (m i).isSome = true := by simp [dirtyL]
def dirtyZ (n : Nat) (m : Nat → Option Sec) : List Int := (dirtyL n m).map fun (i : Nat) => (i : Int)
theorem keys_perm {m : Nat → Option Sec} {D : DataW Unit} {n : Nat} (h : MapOf m D) (hm : ∀ i S, m i = some S → i < n) (hT : ∃ es, D = .map es ∧ es.Pairwise (fun p q => p.1 ≠ q.1) ∧ ∀ p ∈ es, WideAt.IsKeyLit p.1) : (dirtyZ n m).Perm (intKeys D) := by
  obtain ⟨es, rfl, hpw, hk⟩ := hT
  refine perm_intKeys hpw (fun p hp => ?_) ?_ (fun x => ?_)
  · obtain ⟨i, hi⟩ := h.keys p.1 (List.any_eq_true.2 ⟨p, hp, WideAt.sameKey_self (hk p hp)⟩)
    exact ⟨i, hi⟩
  · exact List.Pairwise.map _ (fun a b (hab : a ≠ b) e => hab (by omega)) (dirtyL_nodup n m)
  · simp only [dirtyZ, List.mem_map]
    constructor
    · rintro ⟨i, hi, rfl⟩
      obtain ⟨_, h2⟩ := mem_dirtyL.1 hi
      obtain ⟨S, hS⟩ := Option.isSome_iff_exists.1 h2
      exact (h.some_ i S hS).1
    · intro hx
      obtain ⟨i, hi⟩ := h.keys _ hx
      have e : x = (i : Int) := by simpa [ik] using hi
      subst e
      refine ⟨i, mem_dirtyL.2 ?_, rfl⟩
      cases hS : m i with
      | none => have := h.none_ i hS; rw [ik] at this; rw [this] at hx; cases hx
      | some S => exact ⟨hm i S hS, rfl⟩
theorem size_intKeys {H : Type} (D : DataW H) : (intKeys D).length = size D := by cases D <;> simp [intKeys, size]

structure Dsk (w : World) (p g b n : Nat) (F : Nat → Sec) (m : Nat → Option Sec) : Prop where
  flu : ∃ c, w.cell? ⟨p, 0, none⟩ = some (.slice (some ⟨g, 0, none⟩) n c)
  dir : w.cell? ⟨p, 1, none⟩ = some (.map (some b))
  one : 1 ≤ n
  top : n ≤ 1024
  lenF : ∀ i, (F i).length = 64
  lenM : ∀ i S, m i = some S → S.length = 64 ∧ i < n
  rng : ∀ i, i < n → w.rangeAt g (i * 64) (u8s (F i))
  the : w.there g 0 (n * 64)
  own : ∃ D, w.ownsMap Tryz.prog 3 secR b n D ∧ MapOf m D
  pg : p ≠ g
  pb : p ≠ b
  gb : g ≠ b
theorem Dsk.lenN {w : World} {p g b n : Nat} {F : Nat → Sec} {m : Nat → Option Sec} (h : Dsk w p g b n F m) (i : Nat) : (now F m i).length = 64 := by
  unfold now
  cases hm : m i with
  | none => simpa using h.lenF i
  | some S => simpa using (h.lenM i S hm).1
theorem Dsk.ltp {w : World} {p g b n : Nat} {F : Nat → Sec} {m : Nat → Option Sec} (h : Dsk w p g b n F m) : p < w.heap.size := World.block_lt_of_cell? w _ h.dir
theorem Dsk.ltb {w : World} {p g b n : Nat} {F : Nat → Sec} {m : Nat → Option Sec} (h : Dsk w p g b n F m) : b < w.heap.size := by obtain ⟨D, h1, _⟩ := h.own; exact h1.lt
theorem Dsk.ltg {w : World} {p g b n : Nat} {F : Nat → Sec} {m : Nat → Option Sec} (h : Dsk w p g b n F m) : g < w.heap.size := by
  have h1 := (h.the 0 (by have := h.one; omega)).1
  obtain ⟨u, hu⟩ := Option.isSome_iff_exists.1 h1
  exact World.block_lt_of_cell? w _ hu
theorem Dsk.keep {w w' : World} {p g b n : Nat} {F : Nat → Sec} {m : Nat → Option Sec} (h : Dsk w p g b n F m) {l : List Nat} (hc : Chg l w w') (hp : p ∉ l) (hg : g ∉ l) (hb : b ∉ l) : Dsk w' p g b n F m := by
  obtain ⟨c, hf⟩ := h.flu
  obtain ⟨D, ho, hm⟩ := h.own
  have hlt := h.ltb
  refine ⟨⟨c, hc.cell hf hp⟩, hc.cell h.dir hp, h.one, h.top, h.lenF, h.lenM, fun i hi => hc.range (h.rng i hi) hg, hc.there h.the hg, ⟨D, ?_, hm⟩, h.pg, h.pb, h.gb⟩
  obtain ⟨es, clock, hes, hrest⟩ := ho
  exact ⟨es, clock, (hc.block b hlt hb).trans hes, hrest⟩
theorem Dsk.kept {w w' : World} {p g b n : Nat} {F : Nat → Sec} {m : Nat → Option Sec} (h : Dsk w p g b n F m) (hc : Chg [] w w') : Dsk w' p g b n F m := h.keep hc (by simp) (by simp) (by simp)
theorem Dsk.low {w w' : World} {p g b n : Nat} {F : Nat → Sec} {m : Nat → Option Sec} (h : Dsk w p g b n F m) (hb : Below w.heap.size w w') : Dsk w' p g b n F m := h.kept ((Chg.refl [] w).of_below hb)
end Go.Proofs.YtcadnlilijkneaaGreat
namespace Go.Proofs.YtcadnlilijkneaaGreat
open Go.RowKit Go.Maps
set_option linter.unusedVariables false
set_option linter.unusedSimpArgs false

def cleanW (w : World) (v : Value) : World := (w.alloc (.map #[] 0)).alloc (.cells #[v, .map (some w.heap.size)] 187)
theorem clean_any (w : World) (a : Option Addr) (n c : Nat) :
    Calls Tryz.prog 73 #[.slice a n c] w fun e w' => e = .returned (.pointer (some ⟨w.heap.size + 1, 0, none⟩)) ∧ w' = cleanW w (.slice a n c) := by
  have hmm := @run_makeMap Tryz.prog
  go_enter Tryz.func73, Tryz.ntmps73
  go_wp2
  go_ret
  exact ⟨rfl, rfl⟩
theorem check_ok (w : World) {p g b n : Nat} {F : Nat → Sec} {m : Nat → Option Sec} (hd : Dsk w p g b n F m) (i : Int) (h0 : 0 ≤ i) (h1 : i < n) :
    Calls Tryz.prog 93 #[.pointer (some ⟨p, 0, none⟩), .int .i64 i] w fun e w' => e = .returned (.int .i64 0) ∧ w = w' := by
  obtain ⟨c, hf⟩ := hd.flu
  have ht := hd.top
  have e1 : decide (i < 0) = false := by simp; omega
  have e2 : decide ((n : Int) ≤ i) = false := by simp; omega
  have H1 : (i < 0) = False := by simp; omega
  have H2 : ((n : Int) ≤ i) = False := by simp; omega
  clear hd
  go_enter Tryz.func93, Tryz.ntmps93
  go_wp2
  go_ret
  exact ⟨rfl, rfl⟩
theorem len_ok (w : World) {p g b n : Nat} {F : Nat → Sec} {m : Nat → Option Sec} (hd : Dsk w p g b n F m) :
    Calls Tryz.prog 116 #[.pointer (some ⟨p, 0, none⟩)] w fun e w' => e = .returned (.int .i64 n) ∧ w = w' := by
  obtain ⟨c, hf⟩ := hd.flu
  have ht := hd.top
  clear hd
  go_enter Tryz.func116, Tryz.ntmps116
  go_wp2
  go_ret
  exact ⟨rfl, rfl⟩
end Go.Proofs.YtcadnlilijkneaaGreat
namespace Go.Proofs.YtcadnlilijkneaaGreat
set_option linter.unusedVariables false
set_option linter.unusedSimpArgs false
open Go.RowKit Go.Maps Go.WideAt Go.ChangeMaps Go.MapKept Go.WideElems

theorem run_eq_cells {P : Program} (d : Nat) (e : TypeId) {k : IntKind} (he : P.underlying e = some (.int k)) (S T : Sec) :
   ∀ (l : List Nat) (w : World), (∀ i ∈ l, i < S.length ∧ i < T.length) →
    Sem.run P (forIn l ((none : Option Bool), ()) fun i _ => do
      let a ← part e (u8s S).toArray (i * 1)
      let b ← part e (u8s T).toArray (i * 1)
      let q ← Op.equalIn (d + 1) e a b
      if (!q) = true then pure (.done (some false, ())) else pure (.yield (none, ()))) w = .ok (if l.all (fun i => S.getD i 0 == T.getD i 0) then (none, ()) else (some false, ())) w
  | [], w, _ => by simp
  | i :: l, w, h => by
    obtain ⟨h1, h2⟩ := h i (by simp)
    have hx : ∀ (U : Sec), i < U.length → (u8s U).toArray[i * 1]? = some (.int .u8 ((U.getD i 0).toNat : Nat)) := by
      intro U hU
      simp [u8s, hU, List.getD]
    rw [List.forIn_cons]
    simp only [Sem.run_bind, run_part_cell he (hx S h1), run_part_cell he (hx T h2), Result.andThen_ok, run_equalIn_int w d e .u8 k _ _ he]
    have ih := run_eq_cells d e he S T l w (fun j hj => h j (by simp [hj]))
    by_cases e1 : S.getD i 0 = T.getD i 0
    · rw [e1]
      simp only [beq_self_eq_true, Bool.not_true, Bool.false_eq_true, if_false, Sem.run_pure, Result.andThen_ok]
      simp only [List.all_cons, e1, beq_self_eq_true, Bool.true_and]
      exact ih
    · have e2 : ((((S.getD i 0).toNat : Nat) : Int) == (((T.getD i 0).toNat : Nat) : Int)) = false := by
        rw [beq_eq_false_iff_ne]
        intro e3
        exact e1 (UInt8.toNat_inj.1 (by omega))
      have e4 : (S.getD i 0 == T.getD i 0) = false := by simpa using e1
      rw [e2]
      simp only [List.all_cons, e4, Bool.false_and, Bool.not_false, if_true, Sem.run_pure, Result.andThen_ok, Bool.false_eq_true, if_false]
theorem all_eq {S T : Sec} (hS : S.length = 64) (hT : T.length = 64) : ((List.range' 0 64).all fun i => S.getD i 0 == T.getD i 0) = decide (S = T) := by
  rw [Bool.eq_iff_iff, List.all_eq_true, decide_eq_true_eq]
  constructor
  · intro h
    refine List.ext_getElem (by rw [hS, hT]) (fun i h1 h2 => ?_)
    have := h i (by simp [List.mem_range'_1]; omega)
    simpa [List.getD, h1, h2] using this
  · rintro rfl i _
    simp
theorem run_equal_sec {P : Program} (w : World) (d : Nat) (t e : TypeId) {k : IntKind} (ht : P.underlying t = some (.array 64 e)) (he : P.underlying e = some (.int k)) (hz : (Go.sizeOf e).run P w = .ok 1 w) (S T : Sec) (hS : S.length = 64) (hT : T.length = 64) :
   (Op.equalIn (d + 2) t (sv S) (sv T)).run P w = .ok (decide (S = T)) w := by
  unfold sv
  rw [Op.equalIn]
  simp only [Sem.run_bind, run_underlying ht, Result.andThen_ok, hz, Std.Legacy.Range.forIn_eq_forIn_range']
  have h := run_eq_cells d e he S T (List.range' 0 64) w (fun i hi => by simp [List.mem_range'_1] at hi; omega)
  rw [show (List.range' 0 [:64].size) = List.range' 0 64 from rfl, h, all_eq hS hT]
  by_cases e1 : S = T
  · simp [e1]
  · simp [e1]
theorem run_eql_sec (t : TypeId) (ht : Tryz.prog.underlying t = some (.array 64 5)) (S T : Sec) (hS : S.length = 64) (hT : T.length = 64) (w : World) : (binOp .eql t (sv S) (sv T)).run Tryz.prog w = .ok (.bool (decide (S = T))) w := by
  have h : (Op.equal t (sv S) (sv T)).run Tryz.prog w = .ok (decide (S = T)) w := run_equal_sec w 9998 t 5 ht Tryz.underlying5 (Tryz.sizeOf5 w) S T hS hT
  show Sem.run Tryz.prog (do pure (Value.bool (← Op.equal t (sv S) (sv T))) : Sem Value) w = _
  rw [Sem.run_bind, h]
  rfl
section
variable {P : Program} {w : World} {ops : Array Oper} {rest : List Oper} {o : Oper} {a : Act} {Q : Exit → Act → World → Prop}
theorem wpList_alloc_sec (hgd : o.guard = none) (t : TypeId) (ho : o.op = .alloc t) (S : Sec) (hz : (zeroValue t).run P w = .ok (sv S) w)
    (h : wpList P ops Q rest (a.put o.dst (.pointer (some ⟨w.heap.size, 0, none⟩))) (w.alloc (.cells (u8s S).toArray t))) : wpList P ops Q (o :: rest) a w :=
  wpList_plain hgd fun _ hK => by
    unfold Oper.wp execOp
    simp only [ho, Sem.run_bind]
    simp [Instr.alloc, hz, newVar, newRow, sv, Value.cells]
    exact hK _ _ h
end

theorem info37 : (Tryz.prog.info? 107).map (·.size) = some 64 := by kernel_rfl
theorem zero37 (w : World) : (zeroValue 107).run Tryz.prog w = .ok (sv zsec) w := by kernel_rfl
section
variable {w : World} {ops : Array Oper} {rest : List Oper} {o : Oper} {a : Act} {Q : Exit → Act → World → Prop}
theorem wpList_alloc37 (hgd : o.guard = none) (ho : o.op = .alloc 107)
    (h : wpList Tryz.prog ops Q rest (a.put o.dst (.pointer (some ⟨w.heap.size, 0, none⟩))) (w.alloc (.cells (u8s zsec).toArray 107))) : wpList Tryz.prog ops Q (o :: rest) a w :=
  wpList_alloc_sec hgd _ ho zsec (zero37 w) h
theorem wpList_load37 (hgd : o.guard = none) (x : Operand) (ho : o.op = .load 107 x) (b off : Nat) (hx : a.eval x = .pointer (some ⟨b, off, none⟩)) (S : Sec) (hr : w.rangeAt b off (u8s S)) (hS : S.length = 64)
    (h : wpList Tryz.prog ops Q rest (a.put o.dst (sv S)) w) : wpList Tryz.prog ops Q (o :: rest) a w :=
  wpList_load_mid hgd _ x ho b off hx (u8s S) _ hr Tryz.underlying107 rfl (by rw [u8s_length, hS]; exact info37) h
theorem wpList_store37 (hgd : o.guard = none) (x y : Operand) (ho : o.op = .store 107 x y) (b off : Nat) (S : Sec) (hx : a.eval x = .pointer (some ⟨b, off, none⟩)) (hy : a.eval y = sv S) (ht : w.there b off 64) (hS : S.length = 64)
    (h : wpList Tryz.prog ops Q rest (a.put o.dst undef) (w.setCells b off (u8s S))) : wpList Tryz.prog ops Q (o :: rest) a w :=
  wpList_store_mid hgd _ x y ho b off (u8s S).toArray hx hy (by simpa [hS] using ht) (by simpa [hS] using info37) (all_oneCell_toArray (u8s_one S)) (by simpa using h)
theorem wpList_box37 (hgd : o.guard = none) (x : Operand) (ho : o.op = .box 107 x) (S : Sec) (hx : a.eval x = sv S)
    (h : wpList Tryz.prog ops Q rest (a.put o.dst (.pointer (some ⟨w.heap.size, 0, none⟩))) (w.alloc (.cells (u8s S).toArray 107))) : wpList Tryz.prog ops Q (o :: rest) a w :=
  wpList_plain hgd fun _ hK => by
    unfold Oper.wp execOp
    simp only [ho, Sem.run_bind]
    simp [hx, Instr.box, newVar, newRow, sv, Value.cells]
    exact hK _ _ h
end
theorem range_box (w : World) (S : Sec) (t : TypeId) : (w.alloc (.cells (u8s S).toArray t)).rangeAt w.heap.size 0 (u8s S) := fun j v hv => by
  rw [cell_of_row _ w.heap.size (0 + j) _ t (0, 0) (heap_alloc_new w _)]
  simpa using hv
theorem there_box (w : World) (S : Sec) (t : TypeId) (hS : S.length = 64) : (w.alloc (.cells (u8s S).toArray t)).there w.heap.size 0 64 := fun j hj => by
  refine ⟨?_, ?_⟩
  · rw [(range_box w S t) j _ (List.getElem?_eq_getElem (by simp [hS]; exact hj))]; rfl
  · rw [Nat.zero_add]
    exact Own.frozen (t := t) (cs := u8s S) (heap_alloc_new w _) j
theorem owns_clear {H : Type} {P : Program} {k e : TypeId} {R : Value → Option (DataW H × List MemPlace)} {w : World} {b n : Nat} {D : DataW H} (t : TypeId) (ht : P.underlying t = some (.map k e)) (h : w.ownsMap P k R b n D) (ty : TypeId) :
    ∃ w', (Builtin.clear_ #[t] ty #[.map (some b)]).run P w = .ok (.tuple #[]) w' ∧ w'.ownsMap P k R b 0 (.map []) ∧ Chg [b] w w' := by
  obtain ⟨es, clock, hb, F, hs, hD⟩ := h
  have hlt : b < w.heap.size := (Array.getElem?_eq_some_iff.1 hb).1
  refine ⟨setBlock w b (.map #[] clock), ?_, ⟨#[], clock, heap_setBlock_same hb _, ⟨by simp, stamped_empty clock, by simp⟩, Nat.le_refl _, rfl⟩, ?_⟩
  · simp [Builtin.clear_, run_underlying ht, MapKept.run_getObj_map hb, MapKept.run_setObj_map _ hb, Result.andThen, noResult, setBlock]
  · exact ⟨rfl, rfl, rfl, by simp [setBlock], fun k' hk hn => by simp only [List.mem_singleton] at hn; simp [setBlock, Array.getElem?_setIfInBounds, Ne.symm hn]⟩
end Go.Proofs.YtcadnlilijkneaaGreat
