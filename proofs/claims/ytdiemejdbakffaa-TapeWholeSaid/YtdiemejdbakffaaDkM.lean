/-
  Laws of whole sectors at the operations: made, loaded, stored, boxed, compared; a map of sectors looked up, written, cleared. No claim of their own.
-/
import Derived.Test.YtdiemejdbakffaaDkA
import Derived.Laws.StructEq
namespace Go.Proofs.Ytdiemejdbakffaa
open Go.RowKit Go.Maps Go.WideAt Go.ChangeMaps Go.MapKept Go.WideElems

theorem run_part_cell {P : Program} {e : TypeId} {k : IntKind} (he : P.underlying e = some (.int k)) {xs : Array Value} {off : Nat} {v : Value} (hx : xs[off]? = some v) (w : World) : (part e xs off).run P w = .ok v w := by
  unfold part
  have ha : (isAgg e).run P w = .ok false w := by
    unfold isAgg; rw [Sem.run_bind, run_underlying he w]; rfl
  rw [Sem.run_bind, ha]
  simp [hx]
theorem run_eq_cells {P : Program} (d : Nat) (e : TypeId) {k : IntKind} (he : P.underlying e = some (.int k)) (S T : Sec) :
   ∀ (l : List Nat) (w : World), (∀ i ∈ l, i < S.length ∧ i < T.length) →
    Sem.run P (forIn l ((none : Option Bool), ()) fun i _ => do
      let a ← part e (u8s S).toArray (i * 1)
      let b ← part e (u8s T).toArray (i * 1)
      let q ← Op.equalIn (d + 1) e a b
      if (!q) = true then pure (.done (some false, ())) else pure (.yield (none, ()))) w = .ok (if l.all (fun i => S.getD i 0 == T.getD i 0) then (none, ()) else (some false, ())) w
  | [], w, _ => by simp
  | i :: l, w, h => by
    obtain ⟨h1, h2⟩ := h i (by simp)
    have hx : ∀ (U : Sec), i < U.length → (u8s U).toArray[i * 1]? = some (.int .u8 ((U.getD i 0).toNat : Nat)) := by
      intro U hU
      simp [u8s, hU, List.getD]
    rw [List.forIn_cons]
    simp only [Sem.run_bind, run_part_cell he (hx S h1), run_part_cell he (hx T h2), Result.andThen_ok, run_equalIn_int w d e .u8 k _ _ he]
    have ih := run_eq_cells d e he S T l w (fun j hj => h j (by simp [hj]))
    by_cases e1 : S.getD i 0 = T.getD i 0
    · rw [e1]
      simp only [beq_self_eq_true, Bool.not_true, Bool.false_eq_true, if_false, Sem.run_pure, Result.andThen_ok]
      simp only [List.all_cons, e1, beq_self_eq_true, Bool.true_and]
      exact ih
    · have e2 : ((((S.getD i 0).toNat : Nat) : Int) == (((T.getD i 0).toNat : Nat) : Int)) = false := by
        rw [beq_eq_false_iff_ne]
        intro e3
        exact e1 (UInt8.toNat_inj.1 (by omega))
      have e4 : (S.getD i 0 == T.getD i 0) = false := by simpa using e1
      rw [e2]
      simp only [List.all_cons, e4, Bool.false_and, Bool.not_false, if_true, Sem.run_pure, Result.andThen_ok, Bool.false_eq_true, if_false]
theorem all_eq {S T : Sec} (hS : S.length = 64) (hT : T.length = 64) : ((List.range' 0 64).all fun i => S.getD i 0 == T.getD i 0) = decide (S = T) := by
  rw [Bool.eq_iff_iff, List.all_eq_true, decide_eq_true_eq]
  constructor
  · intro h
    refine List.ext_getElem (by rw [hS, hT]) (fun i h1 h2 => ?_)
    have := h i (by simp [List.mem_range'_1]; omega)
    simpa [List.getD, h1, h2] using this
  · rintro rfl i _
    simp
theorem run_equal_sec {P : Program} (w : World) (d : Nat) (t e : TypeId) {k : IntKind} (ht : P.underlying t = some (.array 64 e)) (he : P.underlying e = some (.int k)) (hz : (Go.sizeOf e).run P w = .ok 1 w) (S T : Sec) (hS : S.length = 64) (hT : T.length = 64) :
   (Op.equalIn (d + 2) t (sv S) (sv T)).run P w = .ok (decide (S = T)) w := by
  unfold sv
  rw [Op.equalIn]
  simp only [Sem.run_bind, run_underlying ht, Result.andThen_ok, hz, Std.Legacy.Range.forIn_eq_forIn_range']
  have h := run_eq_cells d e he S T (List.range' 0 64) w (fun i hi => by simp [List.mem_range'_1] at hi; omega)
  rw [show (List.range' 0 [:64].size) = List.range' 0 64 from rfl, h, all_eq hS hT]
  by_cases e1 : S = T
  · simp [e1]
  · simp [e1]
/-- sectors compared -/
theorem run_eql_sec (t : TypeId) (ht : Try.prog.underlying t = some (.array 64 5)) (S T : Sec) (hS : S.length = 64) (hT : T.length = 64) (w : World) : (binOp .eql t (sv S) (sv T)).run Try.prog w = .ok (.bool (decide (S = T))) w := by
  have h : (Op.equal t (sv S) (sv T)).run Try.prog w = .ok (decide (S = T)) w := run_equal_sec w 9998 t 5 ht Try.underlying5 (Try.sizeOf5 w) S T hS hT
  show Sem.run Try.prog (do pure (Value.bool (← Op.equal t (sv S) (sv T))) : Sem Value) w = _
  rw [Sem.run_bind, h]
  rfl
theorem run_neq_sec (t : TypeId) (ht : Try.prog.underlying t = some (.array 64 5)) (S T : Sec) (hS : S.length = 64) (hT : T.length = 64) (w : World) : (binOp .neq t (sv S) (sv T)).run Try.prog w = .ok (.bool (!decide (S = T))) w := by
  have h : (Op.equal t (sv S) (sv T)).run Try.prog w = .ok (decide (S = T)) w := run_equal_sec w 9998 t 5 ht Try.underlying5 (Try.sizeOf5 w) S T hS hT
  show Sem.run Try.prog (do pure (Value.bool (!(← Op.equal t (sv S) (sv T)))) : Sem Value) w = _
  rw [Sem.run_bind, h]
  rfl
theorem run_guard_sec (op : BinOp) (t : TypeId) (hm : Try.prog.eqGuardType Try.prog.depth t = false) (x y : Operand) (S T : Sec) (w : World) : (eqGuard op t x y (sv S) (sv T)).run Try.prog w = .ok () w := by
  unfold eqGuard sv
  cases op <;> simp [hm]

section
variable {P : Program} {w : World} {ops : Array Oper} {rest : List Oper} {o : Oper} {a : Act} {Q : Exit → Act → World → Prop}
/-- 'var s Sector' -/
theorem wpList_alloc_sec (hgd : o.guard = none) (t : TypeId) (ho : o.op = .alloc t) (S : Sec) (hz : (zeroValue t).run P w = .ok (sv S) w)
    (h : wpList P ops Q rest (a.put o.dst (.pointer (some ⟨w.heap.size, 0, none⟩))) (w.alloc (.cells (u8s S).toArray t))) : wpList P ops Q (o :: rest) a w :=
  wpList_plain hgd fun _ hK => by
    unfold Oper.wp execOp
    simp only [ho, Sem.run_bind]
    simp [Instr.alloc, hz, newVar, newRow, sv, Value.cells]
    exact hK _ _ h
end

theorem info37 : (Try.prog.info? 56).map (·.size) = some 64 := by kernel_rfl
theorem zero37 (w : World) : (zeroValue 56).run Try.prog w = .ok (sv zsec) w := by kernel_rfl
theorem grd37 : Try.prog.eqGuardType Try.prog.depth 56 = false := by kernel_rfl
section
variable {w : World} {ops : Array Oper} {rest : List Oper} {o : Oper} {a : Act} {Q : Exit → Act → World → Prop}
theorem wpList_alloc37 (hgd : o.guard = none) (ho : o.op = .alloc 56)
    (h : wpList Try.prog ops Q rest (a.put o.dst (.pointer (some ⟨w.heap.size, 0, none⟩))) (w.alloc (.cells (u8s zsec).toArray 56))) : wpList Try.prog ops Q (o :: rest) a w :=
  wpList_alloc_sec hgd _ ho zsec (zero37 w) h
theorem wpList_load37 (hgd : o.guard = none) (x : Operand) (ho : o.op = .load 56 x) (b off : Nat) (hx : a.eval x = .pointer (some ⟨b, off, none⟩)) (S : Sec) (hr : w.rangeAt b off (u8s S)) (hS : S.length = 64)
    (h : wpList Try.prog ops Q rest (a.put o.dst (sv S)) w) : wpList Try.prog ops Q (o :: rest) a w :=
  wpList_load_mid hgd _ x ho b off hx (u8s S) _ hr Try.underlying56 rfl (by rw [u8s_length, hS]; exact info37) h
theorem wpList_store37 (hgd : o.guard = none) (x y : Operand) (ho : o.op = .store 56 x y) (b off : Nat) (S : Sec) (hx : a.eval x = .pointer (some ⟨b, off, none⟩)) (hy : a.eval y = sv S) (ht : w.there b off 64) (hS : S.length = 64)
    (h : wpList Try.prog ops Q rest (a.put o.dst undef) (w.setCells b off (u8s S))) : wpList Try.prog ops Q (o :: rest) a w :=
  wpList_store_mid hgd _ x y ho b off (u8s S).toArray hx hy (by simpa [hS] using ht) (by simpa [hS] using info37) (all_oneCell_toArray (u8s_one S)) (by simpa using h)
/-- a sector by value is boxed -/
theorem wpList_box37 (hgd : o.guard = none) (x : Operand) (ho : o.op = .box 56 x) (S : Sec) (hx : a.eval x = sv S)
    (h : wpList Try.prog ops Q rest (a.put o.dst (.pointer (some ⟨w.heap.size, 0, none⟩))) (w.alloc (.cells (u8s S).toArray 56))) : wpList Try.prog ops Q (o :: rest) a w :=
  wpList_plain hgd fun _ hK => by
    unfold Oper.wp execOp
    simp only [ho, Sem.run_bind]
    simp [hx, Instr.box, newVar, newRow, sv, Value.cells]
    exact hK _ _ h
end
theorem range_box (w : World) (S : Sec) (t : TypeId) : (w.alloc (.cells (u8s S).toArray t)).rangeAt w.heap.size 0 (u8s S) := fun j v hv => by
  rw [cell_of_row _ w.heap.size (0 + j) _ t (0, 0) (heap_alloc_new w _)]
  simpa using hv
theorem there_box (w : World) (S : Sec) (t : TypeId) (hS : S.length = 64) : (w.alloc (.cells (u8s S).toArray t)).there w.heap.size 0 64 := fun j hj => by
  refine ⟨?_, ?_⟩
  · rw [(range_box w S t) j _ (List.getElem?_eq_getElem (by simp [hS]; exact hj))]; rfl
  · rw [Nat.zero_add]
    exact Own.frozen (t := t) (cs := u8s S) (heap_alloc_new w _) j
/-- the map cleared -/
theorem owns_clear {H : Type} {P : Program} {k e : TypeId} {R : Value → Option (DataW H × List MemPlace)} {w : World} {b n : Nat} {D : DataW H} (t : TypeId) (ht : P.underlying t = some (.map k e)) (h : w.ownsMap P k R b n D) (ty : TypeId) :
    ∃ w', (Builtin.clear_ #[t] ty #[.map (some b)]).run P w = .ok (.tuple #[]) w' ∧ w'.ownsMap P k R b 0 (.map []) ∧ Chg [b] w w' := by
  obtain ⟨es, clock, hb, F, hs, hD⟩ := h
  have hlt : b < w.heap.size := (Array.getElem?_eq_some_iff.1 hb).1
  refine ⟨setBlock w b (.map #[] clock), ?_, ⟨#[], clock, heap_setBlock_same hb _, ⟨by simp, stamped_empty clock, by simp⟩, Nat.le_refl _, rfl⟩, ?_⟩
  · simp [Builtin.clear_, run_underlying ht, MapKept.run_getObj_map hb, MapKept.run_setObj_map _ hb, Result.andThen, noResult, setBlock]
  · exact ⟨rfl, rfl, rfl, by simp [setBlock], fun k' hk hn => by simp only [List.mem_singleton] at hn; simp [setBlock, Array.getElem?_setIfInBounds, Ne.symm hn]⟩
end Go.Proofs.Ytdiemejdbakffaa
