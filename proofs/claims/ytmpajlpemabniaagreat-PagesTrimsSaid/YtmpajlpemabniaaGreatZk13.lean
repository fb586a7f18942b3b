/-
  Laws of whole sectors at the operations: made, loaded, stored, boxed, compared; a map of sectors looked up, written, cleared. No claim of their own.
-/
import Derived.Laws.StructEq
import Derived.Test.YtmpajlpemabniaaGreatZk12
import Derived.Deep.RegionHeld3
import Derived.Deep.DrawnRows
import Derived.StillTailTactics
import Derived.Laws.CopyOwn
import Derived.Shelf.AbstractIn
import Derived.Test.YtmpajlpemabniaaGreatZk5
namespace Go.Proofs.YtmpajlpemabniaaGreat
set_option linter.unusedVariables false
set_option linter.unusedSimpArgs false
open Go.RowKit Go.Maps Go.WideAt Go.ChangeMaps Go.MapKept Go.WideElems

theorem run_eq_cells {P : Program} (d : Nat) (e : TypeId) {k : IntKind} (he : P.underlying e = some (.int k)) (S T : Sec) :
   ∀ (l : List Nat) (w : World), (∀ i ∈ l, i < S.length ∧ i < T.length) →
    Sem.run P (forIn l ((none : Option Bool), ()) fun i _ => do
      let a ← part e (u8s S).toArray (i * 1)
      let b ← part e (u8s T).toArray (i * 1)
      let q ← Op.equalIn (d + 1) e a b
      if (!q) = true then pure (.done (some false, ())) else pure (.yield (none, ()))) w = .ok (if l.all (fun i => S.getD i 0 == T.getD i 0) then (none, ()) else (some false, ())) w
  | [], w, _ => by simp
  | i :: l, w, h => by
    obtain ⟨h1, h2⟩ := h i (by simp)
    have hx : ∀ (U : Sec), i < U.length → (u8s U).toArray[i * 1]? = some (.int .u8 ((U.getD i 0).toNat : Nat)) := by
      intro U hU
      simp [u8s, hU, List.getD]
    rw [List.forIn_cons]
    simp only [Sem.run_bind, run_part_cell he (hx S h1), run_part_cell he (hx T h2), Result.andThen_ok, run_equalIn_int w d e .u8 k _ _ he]
    have ih := run_eq_cells d e he S T l w (fun j hj => h j (by simp [hj]))
    by_cases e1 : S.getD i 0 = T.getD i 0
    · rw [e1]
      simp only [beq_self_eq_true, Bool.not_true, Bool.false_eq_true, if_false, Sem.run_pure, Result.andThen_ok]
      simp only [List.all_cons, e1, beq_self_eq_true, Bool.true_and]
      exact ih
    · have e2 : ((((S.getD i 0).toNat : Nat) : Int) == (((T.getD i 0).toNat : Nat) : Int)) = false := by
        rw [beq_eq_false_iff_ne]
        intro e3
        exact e1 (UInt8.toNat_inj.1 (by omega))
      have e4 : (S.getD i 0 == T.getD i 0) = false := by simpa using e1
      rw [e2]
      simp only [List.all_cons, e4, Bool.false_and, Bool.not_false, if_true, Sem.run_pure, Result.andThen_ok, Bool.false_eq_true, if_false]
theorem all_eq {S T : Sec} (hS : S.length = 64) (hT : T.length = 64) : ((List.range' 0 64).all fun i => S.getD i 0 == T.getD i 0) = decide (S = T) := by
  rw [Bool.eq_iff_iff, List.all_eq_true, decide_eq_true_eq]
  constructor
  · intro h
    refine List.ext_getElem (by rw [hS, hT]) (fun i h1 h2 => ?_)
    have := h i (by simp [List.mem_range'_1]; omega)
    simpa [List.getD, h1, h2] using this
  · rintro rfl i _
    simp
theorem run_equal_sec {P : Program} (w : World) (d : Nat) (t e : TypeId) {k : IntKind} (ht : P.underlying t = some (.array 64 e)) (he : P.underlying e = some (.int k)) (hz : (Go.sizeOf e).run P w = .ok 1 w) (S T : Sec) (hS : S.length = 64) (hT : T.length = 64) :
   (Op.equalIn (d + 2) t (sv S) (sv T)).run P w = .ok (decide (S = T)) w := by
  unfold sv
  rw [Op.equalIn]
  simp only [Sem.run_bind, run_underlying ht, Result.andThen_ok, hz, Std.Legacy.Range.forIn_eq_forIn_range']
  have h := run_eq_cells d e he S T (List.range' 0 64) w (fun i hi => by simp [List.mem_range'_1] at hi; omega)
  rw [show (List.range' 0 [:64].size) = List.range' 0 64 from rfl, h, all_eq hS hT]
  by_cases e1 : S = T
  · simp [e1]
  · simp [e1]
theorem run_eql_sec (t : TypeId) (ht : Tryz.prog.underlying t = some (.array 64 5)) (S T : Sec) (hS : S.length = 64) (hT : T.length = 64) (w : World) : (binOp .eql t (sv S) (sv T)).run Tryz.prog w = .ok (.bool (decide (S = T))) w := by
  have h : (Op.equal t (sv S) (sv T)).run Tryz.prog w = .ok (decide (S = T)) w := run_equal_sec w 9998 t 5 ht Tryz.underlying5 (Tryz.sizeOf5 w) S T hS hT
  show Sem.run Tryz.prog (do pure (Value.bool (← Op.equal t (sv S) (sv T))) : Sem Value) w = _
  rw [Sem.run_bind, h]
  rfl
section
variable {P : Program} {w : World} {ops : Array Oper} {rest : List Oper} {o : Oper} {a : Act} {Q : Exit → Act → World → Prop}
theorem wpList_alloc_sec (hgd : o.guard = none) (t : TypeId) (ho : o.op = .alloc t) (S : Sec) (hz : (zeroValue t).run P w = .ok (sv S) w)
    (h : wpList P ops Q rest (a.put o.dst (.pointer (some ⟨w.heap.size, 0, none⟩))) (w.alloc (.cells (u8s S).toArray t))) : wpList P ops Q (o :: rest) a w :=
  wpList_plain hgd fun _ hK => by
    unfold Oper.wp execOp
    simp only [ho, Sem.run_bind]
    simp [Instr.alloc, hz, newVar, newRow, sv, Value.cells]
    exact hK _ _ h
end

theorem info37 : (Tryz.prog.info? 59).map (·.size) = some 64 := by kernel_rfl
theorem zero37 (w : World) : (zeroValue 59).run Tryz.prog w = .ok (sv zsec) w := by kernel_rfl
section
variable {w : World} {ops : Array Oper} {rest : List Oper} {o : Oper} {a : Act} {Q : Exit → Act → World → Prop}
theorem wpList_alloc37 (hgd : o.guard = none) (ho : o.op = .alloc 59)
    (h : wpList Tryz.prog ops Q rest (a.put o.dst (.pointer (some ⟨w.heap.size, 0, none⟩))) (w.alloc (.cells (u8s zsec).toArray 59))) : wpList Tryz.prog ops Q (o :: rest) a w :=
  wpList_alloc_sec hgd _ ho zsec (zero37 w) h
theorem wpList_load37 (hgd : o.guard = none) (x : Operand) (ho : o.op = .load 59 x) (b off : Nat) (hx : a.eval x = .pointer (some ⟨b, off, none⟩)) (S : Sec) (hr : w.rangeAt b off (u8s S)) (hS : S.length = 64)
    (h : wpList Tryz.prog ops Q rest (a.put o.dst (sv S)) w) : wpList Tryz.prog ops Q (o :: rest) a w :=
  wpList_load_mid hgd _ x ho b off hx (u8s S) _ hr Tryz.underlying59 rfl (by rw [u8s_length, hS]; exact info37) h
theorem wpList_store37 (hgd : o.guard = none) (x y : Operand) (ho : o.op = .store 59 x y) (b off : Nat) (S : Sec) (hx : a.eval x = .pointer (some ⟨b, off, none⟩)) (hy : a.eval y = sv S) (ht : w.there b off 64) (hS : S.length = 64)
    (h : wpList Tryz.prog ops Q rest (a.put o.dst undef) (w.setCells b off (u8s S))) : wpList Tryz.prog ops Q (o :: rest) a w :=
  wpList_store_mid hgd _ x y ho b off (u8s S).toArray hx hy (by simpa [hS] using ht) (by simpa [hS] using info37) (all_oneCell_toArray (u8s_one S)) (by simpa using h)
theorem wpList_box37 (hgd : o.guard = none) (x : Operand) (ho : o.op = .box 59 x) (S : Sec) (hx : a.eval x = sv S)
    (h : wpList Tryz.prog ops Q rest (a.put o.dst (.pointer (some ⟨w.heap.size, 0, none⟩))) (w.alloc (.cells (u8s S).toArray 59))) : wpList Tryz.prog ops Q (o :: rest) a w :=
  wpList_plain hgd fun _ hK => by
    unfold Oper.wp execOp
    simp only [ho, Sem.run_bind]
    simp [hx, Instr.box, newVar, newRow, sv, Value.cells]
    exact hK _ _ h
end
theorem range_box (w : World) (S : Sec) (t : TypeId) : (w.alloc (.cells (u8s S).toArray t)).rangeAt w.heap.size 0 (u8s S) := fun j v hv => by
  rw [cell_of_row _ w.heap.size (0 + j) _ t (0, 0) (heap_alloc_new w _)]
  simpa using hv
theorem there_box (w : World) (S : Sec) (t : TypeId) (hS : S.length = 64) : (w.alloc (.cells (u8s S).toArray t)).there w.heap.size 0 64 := fun j hj => by
  refine ⟨?_, ?_⟩
  · rw [(range_box w S t) j _ (List.getElem?_eq_getElem (by simp [hS]; exact hj))]; rfl
  · rw [Nat.zero_add]
    exact Own.frozen (t := t) (cs := u8s S) (heap_alloc_new w _) j
theorem owns_clear {H : Type} {P : Program} {k e : TypeId} {R : Value → Option (DataW H × List MemPlace)} {w : World} {b n : Nat} {D : DataW H} (t : TypeId) (ht : P.underlying t = some (.map k e)) (h : w.ownsMap P k R b n D) (ty : TypeId) :
    ∃ w', (Builtin.clear_ #[t] ty #[.map (some b)]).run P w = .ok (.tuple #[]) w' ∧ w'.ownsMap P k R b 0 (.map []) ∧ Chg [b] w w' := by
  obtain ⟨es, clock, hb, F, hs, hD⟩ := h
  have hlt : b < w.heap.size := (Array.getElem?_eq_some_iff.1 hb).1
  refine ⟨setBlock w b (.map #[] clock), ?_, ⟨#[], clock, heap_setBlock_same hb _, ⟨by simp, stamped_empty clock, by simp⟩, Nat.le_refl _, rfl⟩, ?_⟩
  · simp [Builtin.clear_, run_underlying ht, MapKept.run_getObj_map hb, MapKept.run_setObj_map _ hb, Result.andThen, noResult, setBlock]
  · exact ⟨rfl, rfl, rfl, by simp [setBlock], fun k' hk hn => by simp only [List.mem_singleton] at hn; simp [setBlock, Array.getElem?_setIfInBounds, Ne.symm hn]⟩
end Go.Proofs.YtmpajlpemabniaaGreat
namespace Go.Proofs.YtmpajlpemabniaaGreat
open Go.RowKit Go.Maps Go.WideAt Go.ChangeMaps Go.MapKept Go.WideElems
set_option linter.unusedVariables false
set_option linter.unusedSimpArgs false

def zrow (n : Nat) : Array Value := madeCells (u8s zsec).toArray (n * 64)
theorem u8s_rep (k j : Nat) (h : j < k) : (u8s (List.replicate k (0 : UInt8)))[j]? = some (.int .u8 0) := by
  unfold u8s
  rw [List.map_replicate, List.getElem?_replicate, if_pos h]
  rfl
theorem zsec_get (j : Nat) (hj : j < 64) : (u8s zsec)[j]? = some (.int .u8 0) := u8s_rep 64 j hj
theorem zrow_get (n j : Nat) (hj : j < n * 64) : (zrow n)[j]? = some (.int .u8 0) := by
  have h : ∀ k, k < 64 → (u8s zsec).toArray[k]! = .int .u8 0 := by
    intro k hk
    have e : (u8s zsec)[k]? = some (.int .u8 0) := zsec_get k hk
    simp only [List.getElem!_toArray]
    rw [List.getElem!_eq_getElem?_getD, e]; rfl
  unfold zrow madeCells
  rw [Array.getElem?_map, Array.getElem?_range, if_pos hj]
  have e2 : (u8s zsec).toArray.size = 64 := by simp [zsec]
  simp only [Option.map_some]
  rw [e2, h _ (Nat.mod_lt _ (by omega))]
theorem range_zrow {w : World} {g n : Nat} {t : TypeId} (h : w.heap[g]? = some (.cells (zrow n) t (0, 0))) (i : Nat) (hi : i < n) : w.rangeAt g (i * 64) (u8s zsec) := fun j v hv => by
  have hj : j < 64 := by have := (List.getElem?_eq_some_iff.1 hv).1; simpa [zsec] using this
  rw [cell_of_row w g (i * 64 + j) _ t (0, 0) h, zrow_get n _ (by omega), ← hv, zsec_get j hj]
theorem there_zrow {w : World} {g n : Nat} {t : TypeId} (h : w.heap[g]? = some (.cells (zrow n) t (0, 0))) : w.there g 0 (n * 64) := fun j hj => by
  refine ⟨by rw [Nat.zero_add, cell_of_row w g j _ t (0, 0) h, zrow_get n _ hj]; rfl, ?_⟩
  simp [World.frozen?, h]
theorem make37 (w : World) (n : Nat) (hn : n ≤ 1024) : (Instr.makeSlice 88 (.int .i64 n) (.int .i64 n)).run Tryz.prog w = .ok (.slice (some ⟨w.heap.size, 0, none⟩) n n) (w.alloc (.cells (zrow n) 59)) := by
  obtain ⟨i, hi, hz⟩ := Option.map_eq_some_iff.1 (show (Tryz.prog.info? 59).map (fun i => (i.zero, i.size, i.bytes)) = some (some (sv zsec), 64, 64) by kernel_rfl)
  simp only [Prod.mk.injEq] at hz
  have h := run_make (P := Tryz.prog) w 88 59 i (sv zsec) Tryz.underlying88 hi hz.1 .i64 .i64 n n (by omega) (by omega) (by rw [hz.2.2]; omega) (by omega)
  rw [h, hz.2.1]
  simp [zrow, sv, Value.cells]
theorem clean_dsk {w : World} {g n c : Nat} {F : Nat → Sec} (h1 : 1 ≤ n) (h2 : n ≤ 1024) (hF : ∀ i, (F i).length = 64) (hr : ∀ i, i < n → w.rangeAt g (i * 64) (u8s (F i))) (ht : w.there g 0 (n * 64)) :
    Dsk (cleanW w (.slice (some ⟨g, 0, none⟩) n c)) (w.heap.size + 1) g w.heap.size n F (fun _ => none) ∧ Chg [] w (cleanW w (.slice (some ⟨g, 0, none⟩) n c)) := by
  have hg : g < w.heap.size := by
    obtain ⟨u, hu⟩ := Option.isSome_iff_exists.1 (ht 0 (by omega)).1
    exact World.block_lt_of_cell? w _ hu
  unfold cleanW
  have hs : (w.alloc (.map #[] 0)).heap.size = w.heap.size + 1 := by simp
  have hnew := heap_alloc_new (w.alloc (.map #[] 0)) (.cells #[.slice (some ⟨g, 0, none⟩) n c, .map (some w.heap.size)] 121)
  rw [hs] at hnew
  have hC : Chg [] w ((w.alloc (.map #[] 0)).alloc (.cells #[.slice (some ⟨g, 0, none⟩) n c, .map (some w.heap.size)] 121)) := ((Chg.refl [] w).alloc _).alloc _
  refine ⟨⟨⟨c, ?_⟩, ?_, h1, h2, hF, (fun i S h => by cases h), fun i hi => hC.range (hr i hi) (by simp), hC.there ht (by simp), ⟨.map [], ?_, MapOf.empty⟩, by omega, by omega, by omega⟩, hC⟩
  · rw [cell_of_row _ (w.heap.size + 1) 0 _ _ (0, 0) hnew]; rfl
  · rw [cell_of_row _ (w.heap.size + 1) 1 _ _ (0, 0) hnew]; rfl
  · exact ((World.ownsMap_made w Tryz.prog 3 secR).alloc _).mono (by omega)
theorem new_ok (w : World) (n : Nat) (h1 : 1 ≤ n) (h2 : n ≤ 1024) :
    Calls Tryz.prog 10 #[.int .i64 n] w fun e w' => e = .returned (.tuple #[.pointer (some ⟨w.heap.size + 2, 0, none⟩), .int .i64 0]) ∧
      Dsk w' (w.heap.size + 2) w.heap.size (w.heap.size + 1) n (fun _ => zsec) (fun _ => none) ∧ Chg [] w w' := by
  have hmk := fun w => make37 w n h2
  have e1 : decide ((n : Int) < 1) = false := by simp; omega
  have e2 : decide ((1024 : Int) < n) = false := by simp; omega
  have e3 : ((n : Int) < 1) = False := by simp; omega
  have e4 : ((1024 : Int) < n) = False := by simp; omega
  have e5 : decide (n < 1) = false := by simp; omega
  have e6 : decide (1024 < n) = false := by simp; omega
  have hrow := heap_alloc_new w (.cells (zrow n) 59)
  have hD := clean_dsk (c := n) h1 h2 (fun _ => zsec_len) (fun i hi => range_zrow hrow i hi) (there_zrow hrow)
  rw [show (w.alloc (.cells (zrow n) 59)).heap.size = w.heap.size + 1 from by simp] at hD
  have HD := Lib.hid hD
  clear hD hrow
  go_enter Tryz.func10, Tryz.ntmps10
  go_wp2_with (go_at_call 36; refine (clean_any _ _ _ _).mono ?_; rintro e w' ⟨rfl, rfl⟩)
  go_ret2
  refine ⟨by simp, HD.out.1, ((Chg.refl [] w).alloc _).then HD.out.2 (by simp)⟩

def fillS (bs : List UInt8) : Sec := splice zsec 0 (bs.take 64)
theorem fillS_len (bs : List UInt8) : (fillS bs).length = 64 := by
  have h : zsec.length = 64 := zsec_len
  unfold fillS
  rw [length_splice _ _ _ (by rw [List.length_take, h]; omega), h]
theorem fillS_get (bs : List UInt8) (i : Nat) (hi : i < 64) : (fillS bs)[i]? = some (bs.getD i 0) := by
  unfold fillS splice
  rw [List.take_zero, List.nil_append, Nat.zero_add]
  rcases Nat.lt_or_ge i bs.length with h | h
  · rw [List.getElem?_append_left (by rw [List.length_take]; omega), List.getElem?_take, if_pos hi]
    simp [List.getD, h]
  · rw [List.getElem?_append_right (by rw [List.length_take]; omega), List.getElem?_drop, List.length_take]
    have e : bs[i]? = none := List.getElem?_eq_none h
    have e2 : (zsec)[min 64 bs.length + (i - min 64 bs.length)]? = some 0 := by
      unfold zsec
      rw [List.getElem?_replicate, if_pos (by omega)]
    simp only [List.getD, e, Option.getD_none]
    exact e2

theorem results_cell {P : Program} {fn : Func} {tmps : Array Value} {w : World} {j : Nat} {t : TypeId} {p : Addr} {v : Value} (h : fn.results = #[.cell j t]) (hx : tmps.getD j undef = .pointer (some p)) (hl : (loadVar t p).run P w = .ok v w) : (results fn tmps).run P w = .ok v w := by
  have hx' : tmps[j]?.getD undef = .pointer (some p) := by simpa using hx
  simp [results, h, hx', asAddr, hl]
theorem results_cell2 {P : Program} {fn : Func} {tmps : Array Value} {w : World} {j k : Nat} {t : TypeId} {p : Addr} {v : Value} (h : fn.results = #[.cell j t, .tmp k]) (hx : tmps.getD j undef = .pointer (some p)) (hl : (loadVar t p).run P w = .ok v w) : (results fn tmps).run P w = .ok (.tuple #[v, tmps.getD k undef]) w := by
  have hx' : tmps[j]?.getD undef = .pointer (some p) := by simpa using hx
  simp [results, h, hx', asAddr, hl]
theorem load37 {w : World} {b off : Nat} {S : Sec} (hr : w.rangeAt b off (u8s S)) (hS : S.length = 64) : (loadVar 59 ⟨b, off, none⟩).run Tryz.prog w = .ok (sv S) w :=
  run_loadVar_mid w b off _ (u8s S) _ hr Tryz.underlying59 rfl (by rw [u8s_length, hS]; exact info37)
theorem splice_fill (bs : List UInt8) : splice (u8s zsec) 0 ((u8s bs).take 64) = u8s (fillS bs) := by
  unfold splice fillS u8s
  simp [List.map_take, List.map_drop, splice]
def two (w : World) (S T : Sec) (t : TypeId) : World := (w.alloc (.cells (u8s S).toArray t)).alloc (.cells (u8s T).toArray t)
theorem two_new (w : World) (S T : Sec) (t : TypeId) : (two w S T t).heap[w.heap.size + 1]? = some (.cells (u8s T).toArray t (0, 0)) := by
  have h := heap_alloc_new (w.alloc (.cells (u8s S).toArray t)) (.cells (u8s T).toArray t)
  simpa [two] using h
theorem two_first (w : World) (S T : Sec) (t : TypeId) : (two w S T t).heap[w.heap.size]? = some (.cells (u8s S).toArray t (0, 0)) := by
  unfold two
  rw [Below.heap_alloc _ _ _ (by simp)]
  exact heap_alloc_new w _
theorem two_size (w : World) (S T : Sec) (t : TypeId) : (two w S T t).heap.size = w.heap.size + 2 := by simp [two]
theorem two_chg (w : World) (S T : Sec) (t : TypeId) : Chg [] w (two w S T t) := ((Chg.refl [] w).alloc _).alloc _
theorem range_block {w : World} {g : Nat} {S : Sec} {t : TypeId} (h : w.heap[g]? = some (.cells (u8s S).toArray t (0, 0))) : w.rangeAt g 0 (u8s S) := fun j v hv => by
  rw [Nat.zero_add, cell_of_row w g j _ t (0, 0) h]
  simpa using hv
theorem there_block {w : World} {g : Nat} {S : Sec} {t : TypeId} (h : w.heap[g]? = some (.cells (u8s S).toArray t (0, 0))) (hS : S.length = 64) : w.there g 0 64 := fun j hj => by
  refine ⟨?_, ?_⟩
  · rw [range_block h j _ (List.getElem?_eq_getElem (by simp [hS]; exact hj))]; rfl
  · rw [Nat.zero_add]
    exact Own.frozen (t := t) (cs := u8s S) h j
theorem copy_src (w : World) (a : Option Addr) (bs : List UInt8) (S T : Sec) (t : TypeId) (hr : Ro w w.heap.size a (u8s bs)) (g : Nat) :
    0 < ((u8s bs).take 64).length → (some (⟨g, 0, none⟩ : Addr) = some ⟨g, 0, none⟩) ∧ ∃ ad, a = some ad ∧ ∀ j v, ((u8s bs).take 64)[j]? = some v → (two w S T t).cell? (ad.add j) = some v := by
  intro hpos
  have hb : 0 < bs.length := by simp only [List.length_take, u8s_length] at hpos; omega
  obtain ⟨b, off, rfl, hlt, hcell⟩ := hr.u8 hb
  refine ⟨rfl, ⟨b, off, none⟩, rfl, fun j v hv => ?_⟩
  have hj : j < bs.length := by have := (List.getElem?_eq_some_iff.1 hv).1; simp only [List.length_take, u8s_length] at this; omega
  have hj64 : j < 64 := by have := (List.getElem?_eq_some_iff.1 hv).1; simp only [List.length_take, u8s_length] at this; omega
  rw [add_off, (two_chg w S T t).cell (hcell j hj) (by simp)]
  rw [List.getElem?_take, if_pos hj64] at hv
  rw [← hv]
  simp [u8s, List.getD, hj]
theorem fill_any (w : World) (a : Option Addr) (bs : List UInt8) (c B : Nat) (hro : Ro w B a (u8s bs)) (hB : B ≤ w.heap.size) :
    Calls Tryz.prog 193 #[.slice a bs.length c] w fun e w' => e = .returned (sv (fillS bs)) ∧ Chg [] w w' := by
  have QP := Lib.hid (copy_src w a bs zsec zsec 59 (hro.mono hB) (w.heap.size + 1))
  have QN := Lib.hid (show ((u8s bs).take 64).length = Nat.min bs.length 64 by rw [List.length_take, u8s_length, Nat.min_comm])
  have QF := Lib.hid (show 0 + ((u8s bs).take 64).length ≤ (u8s zsec).length by rw [List.length_take, u8s_length, u8s_length, zsec_len]; omega)
  have Q1 := Lib.hid (show ∀ v ∈ (u8s bs).take 64, v.oneCell' = true from fun v hv => u8s_one bs v (List.mem_of_mem_take hv))
  have QG := Lib.hid (two_new w zsec zsec 59)
  have QC := Lib.hid (two_chg w zsec zsec 59)
  have Q0 := Lib.hid (two_first w zsec zsec 59)
  have QS := Lib.hid (two_size w zsec zsec 59)
  clear hro hB
  go_enter Tryz.func193, Tryz.ntmps193
  go_wp2_with (first
    | (refine wpList_alloc37 rfl rfl ?_)
    | (refine wpList_copy_splice rfl _ _ _ _ rfl 5 Tryz.underlying39 (by kernel_rfl) _ _ _ _ _ _ rfl rfl (w.heap.size + 1) 0 (u8s zsec) 59 QG.out ((u8s bs).take 64) QN.out QP.out QF.out Q1.out (w.heap.size + 1) (two w zsec zsec 59) (Below.refl _ _) (Nat.le_refl _) ?_; intro w1 hg1 hb1)
    | (refine wpList_load37 rfl _ rfl (w.heap.size + 1) 0 rfl (fillS bs) (range_block (t := 59) (by rw [← splice_fill bs]; exact hg1.out)) (fillS_len bs) ?_)
    | (refine wpList_store37 rfl _ _ rfl w.heap.size 0 (fillS bs) rfl rfl (there_block (t := 59) ((hb1.block _ (Nat.lt_succ_self _)).trans Q0.out) zsec_len) (fillS_len bs) ?_)
    | fail)
  have hT : w1.there w.heap.size 0 64 := there_block (t := 59) ((hb1.block _ (Nat.lt_succ_self _)).trans Q0.out) zsec_len
  refine bodyPost_ret (results_cell (j := 2) (t := 59) (p := ⟨w.heap.size, 0, none⟩) Tryz.results193 rfl (load37 (S := fillS bs) (World.rangeAt_setCells_same _ _ _ _ (by rw [u8s_length, fillS_len]; exact hT)) (fillS_len bs))) rfl ⟨rfl, ?_⟩
  have hs := QS.out
  have h1 : Chg [w.heap.size + 1] (two w zsec zsec 59) w1 := ⟨hb1.os, hb1.tape, hb1.output, hb1.size, fun k hk hn => by
    simp only [List.mem_singleton] at hn
    exact hb1.block k (by omega)⟩
  exact (QC.out.then h1 (by simp)).setCells (Or.inr (Nat.le_refl _)) _ _
end Go.Proofs.YtmpajlpemabniaaGreat
namespace Go.Proofs.YtmpajlpemabniaaGreat
open Go.RowKit
set_option linter.unusedVariables false
set_option linter.unusedSimpArgs false

abbrev Rec := List UInt8
def be (k n : Nat) : List UInt8 := (List.range k).map fun j => UInt8.ofNat (n / 256 ^ (k - 1 - j))
def nb (bs : List UInt8) : Nat := bs.foldl (fun a x => a * 256 + x.toNat) 0
@[simp] theorem be_len (k n : Nat) : (be k n).length = k := by simp [be]
theorem be_succ (k n : Nat) : be (k + 1) n = be k (n / 256) ++ [UInt8.ofNat n] := by
  unfold be
  rw [List.range_succ, List.map_append]
  congr 1
  · refine List.map_congr_left fun j hj => ?_
    have hj := List.mem_range.1 hj
    rw [Nat.div_div_eq_div_mul, show k + 1 - 1 - j = (k - 1 - j) + 1 from by omega, Nat.pow_succ, Nat.mul_comm]
  · simp
theorem nb_snoc (bs : List UInt8) (x : UInt8) : nb (bs ++ [x]) = nb bs * 256 + x.toNat := by simp [nb]
theorem nb_be : ∀ (k n : Nat), n < 256 ^ k → nb (be k n) = n
  | 0, n, h => by simp at h; subst h; rfl
  | k + 1, n, h => by
    rw [be_succ, nb_snoc, nb_be k (n / 256) (by rw [Nat.pow_succ] at h; omega)]
    have : (UInt8.ofNat n).toNat = n % 256 := by simp
    omega
theorem list_snoc {α : Type} {l : List α} (h : l ≠ []) : ∃ a x, l = a ++ [x] := ⟨l.dropLast, l.getLast h, (List.dropLast_concat_getLast h).symm⟩
theorem be_nb : ∀ (k : Nat) (bs : List UInt8), bs.length = k → be k (nb bs) = bs
  | 0, bs, h => by rw [List.eq_nil_of_length_eq_zero h]; rfl
  | k + 1, bs, h => by
    obtain ⟨a, x, rfl⟩ := list_snoc (l := bs) (by rintro rfl; simp at h)
    have hx : x.toNat < 256 := x.toNat_lt
    rw [be_succ, nb_snoc, show (nb a * 256 + x.toNat) / 256 = nb a from by omega, be_nb k a (by simpa using h)]
    congr 2
    apply UInt8.toNat_inj.1
    simp
theorem nb_lt : ∀ (k : Nat) (bs : List UInt8), bs.length = k → nb bs < 256 ^ k
  | 0, bs, h => by rw [List.eq_nil_of_length_eq_zero h]; simp [nb]
  | k + 1, bs, h => by
    obtain ⟨a, x, rfl⟩ := list_snoc (l := bs) (by rintro rfl; simp at h)
    have hx : x.toNat < 256 := x.toNat_lt
    have := nb_lt k a (by simpa using h)
    rw [nb_snoc, Nat.pow_succ]
    omega
theorem be_inj {k a b : Nat} (ha : a < 256 ^ k) (hb : b < 256 ^ k) (h : be k a = be k b) : a = b := by rw [← nb_be k a ha, h, nb_be k b hb]
def frame (r : Rec) : List UInt8 := be 2 r.length ++ r
def frs : List Rec → List UInt8
  | [] => []
  | r :: L => frame r ++ frs L
@[simp] theorem frame_len (r : Rec) : (frame r).length = 2 + r.length := by simp [frame]
theorem frs_append : ∀ A B, frs (A ++ B) = frs A ++ frs B
  | [], B => rfl
  | r :: A, B => by rw [List.cons_append, frs, frs_append A B, frs, List.append_assoc]
theorem frs_one (r : Rec) : frs [r] = frame r := by simp [frs]
theorem frs_snoc (L : List Rec) (r : Rec) : frs (L ++ [r]) = frs L ++ frame r := by rw [frs_append, frs_one]
theorem frs_snoc_len (L : List Rec) (r : Rec) : (frs (L ++ [r])).length = (frs L).length + 2 + r.length := by rw [frs_snoc, List.length_append, frame_len]; omega
def okR (r : Rec) : Prop := 1 ≤ r.length ∧ r.length ≤ 300
instance (r : Rec) : Decidable (okR r) := by unfold okR; infer_instance
def okL (L : List Rec) : Prop := ∀ r ∈ L, okR r
theorem okL_nil : okL [] := by intro r h; cases h
theorem okL.append {A B : List Rec} (ha : okL A) (hb : okL B) : okL (A ++ B) := fun r h => by
  rcases List.mem_append.1 h with h | h
  · exact ha r h
  · exact hb r h
theorem okL.snoc {A : List Rec} {r : Rec} (ha : okL A) (hr : okR r) : okL (A ++ [r]) := ha.append (by intro x h; simp at h; subst h; exact hr)
theorem frs_ge {L : List Rec} (h : okL L) : 3 * L.length ≤ (frs L).length := by
  induction L with
  | nil => simp [frs]
  | cons r L ih =>
    have h1 := h r (by simp)
    have h2 := ih (fun x hx => h x (by simp [hx]))
    unfold okR at h1
    simp only [frs, List.length_append, frame_len, List.length_cons]
    omega
theorem frame_inj {r s : Rec} {X Y : List UInt8} (hr : okR r) (hs : okR s) (h : frame r ++ X = frame s ++ Y) : r = s ∧ X = Y := by
  unfold frame at h
  unfold okR at hr hs
  rw [List.append_assoc, List.append_assoc] at h
  obtain ⟨h1, h2⟩ := List.append_inj h (by simp)
  have h3 : r.length = s.length := be_inj (k := 2) (by omega) (by omega) h1
  obtain ⟨h4, h5⟩ := List.append_inj h2 h3
  exact ⟨h4, h5⟩
theorem frame_ne (r : Rec) (X : List UInt8) : frame r ++ X ≠ [] := by
  intro h
  have := congrArg List.length h
  simp at this
theorem frs_pre : ∀ {A L : List Rec} {X : List UInt8}, okL A → okL L → frs A ++ X = frs L → ∃ M, L = A ++ M ∧ X = frs M
  | [], L, X, _, _, h => ⟨L, rfl, by simpa [frs] using h⟩
  | r :: A, [], X, _, _, h => by
    simp only [frs, List.append_assoc] at h
    exact absurd h (frame_ne r _)
  | r :: A, s :: L, X, ha, hl, h => by
    simp only [frs, List.append_assoc] at h
    obtain ⟨rfl, h2⟩ := frame_inj (ha r (by simp)) (hl s (by simp)) h
    obtain ⟨M, rfl, hM⟩ := frs_pre (fun x hx => ha x (by simp [hx])) (fun x hx => hl x (by simp [hx])) h2
    exact ⟨M, rfl, hM⟩
theorem frs_inj {A L : List Rec} (ha : okL A) (hl : okL L) (h : frs A = frs L) : A = L := by
  obtain ⟨M, rfl, hM⟩ := frs_pre (X := []) ha hl (by simpa using h)
  cases M with
  | nil => simp
  | cons r M => simp only [frs] at hM; exact absurd hM.symm (frame_ne r _)
def begs (bs : List UInt8) : Prop := ∃ r X, okR r ∧ bs = frame r ++ X
theorem frs_begs {A L : List Rec} {X : List UInt8} (ha : okL A) (hl : okL L) (h : frs A ++ X = frs L) (hX : X ≠ []) : begs X := by
  obtain ⟨M, rfl, hM⟩ := frs_pre ha hl h
  cases M with
  | nil => exact absurd (by simpa [frs] using hM) hX
  | cons r M => exact ⟨r, frs M, hl r (by simp), hM⟩
theorem begs_iff (bs : List UInt8) : begs bs ↔ 2 ≤ bs.length ∧ nb (bs.take 2) ≤ bs.length - 2 ∧ 1 ≤ nb (bs.take 2) ∧ nb (bs.take 2) ≤ 300 := by
  constructor
  · rintro ⟨r, X, hr, rfl⟩
    unfold okR at hr
    have e : (frame r ++ X).take 2 = be 2 r.length := by unfold frame; rw [List.append_assoc, List.take_append_of_le_length (by simp), List.take_of_length_le (by simp)]
    rw [e, nb_be 2 _ (by omega)]
    simp only [List.length_append, frame_len]
    omega
  · rintro ⟨h1, h2, h3, h4⟩
    have hl : ((bs.drop 2).take (nb (bs.take 2))).length = nb (bs.take 2) := by rw [List.length_take, List.length_drop]; omega
    refine ⟨(bs.drop 2).take (nb (bs.take 2)), (bs.drop 2).drop (nb (bs.take 2)), ?_, ?_⟩
    · unfold okR; rw [hl]; omega
    · unfold frame
      rw [hl, be_nb 2 _ (by rw [List.length_take]; omega), List.append_assoc, List.take_append_drop, List.take_append_drop]
theorem begs_len {bs : List UInt8} {r : Rec} {X : List UInt8} (hr : okR r) (h : bs = frame r ++ X) : nb (bs.take 2) = r.length := by
  subst h
  unfold okR at hr
  have e : (frame r ++ X).take 2 = be 2 r.length := by unfold frame; rw [List.append_assoc, List.take_append_of_le_length (by simp), List.take_of_length_le (by simp)]
  rw [e, nb_be 2 _ (by omega)]

def ens (L : List Rec) : List Int := (List.range L.length).map fun i => (((frs (L.take (i + 1))).length : Nat) : Int)
@[simp] theorem ens_len (L : List Rec) : (ens L).length = L.length := by simp [ens]
theorem ens_snoc (L : List Rec) (r : Rec) : ens (L ++ [r]) = ens L ++ [(((frs (L ++ [r])).length : Nat) : Int)] := by
  unfold ens
  rw [List.length_append, List.length_singleton, List.range_succ, List.map_append]
  congr 1
  · refine List.map_congr_left fun i hi => ?_
    have hi := List.mem_range.1 hi
    rw [List.take_append_of_le_length (by omega)]
  · simp [List.take_of_length_le]
theorem frs_take_le (L : List Rec) (i : Nat) : (frs (L.take i)).length ≤ (frs L).length := by
  have h := frs_append (L.take i) (L.drop i)
  rw [List.take_append_drop] at h
  rw [h, List.length_append]; omega
theorem take_snoc {α : Type} (L : List α) (i : Nat) (hi : i < L.length) : L.take (i + 1) = L.take i ++ [L[i]] := by rw [List.take_succ_eq_append_getElem hi]
def supS (h r b : Nat) : Sec := fillS (UInt8.ofNat h :: (be 4 r ++ be 4 b))
theorem supS_len (h r b : Nat) : (supS h r b).length = 64 := fillS_len _
theorem fillS_take (bs : List UInt8) (k : Nat) (hk : k ≤ bs.length) (h64 : k ≤ 64) : (fillS bs).take k = bs.take k := by
  refine List.ext_getElem? fun i => ?_
  rw [List.getElem?_take, List.getElem?_take]
  by_cases hi : i < k
  · rw [if_pos hi, if_pos hi, fillS_get bs i (by omega)]
    simp [List.getD, show i < bs.length by omega]
  · rw [if_neg hi, if_neg hi]
theorem supS_parts {h r b : Nat} : (supS h r b).getD 0 0 = UInt8.ofNat h ∧ ((supS h r b).drop 1).take 4 = be 4 r ∧ ((supS h r b).drop 5).take 4 = be 4 b := by
  have hl : (UInt8.ofNat h :: (be 4 r ++ be 4 b)).length = 9 := by simp
  have ht : (supS h r b).take 9 = UInt8.ofNat h :: (be 4 r ++ be 4 b) := by
    unfold supS
    rw [fillS_take _ 9 (by omega) (by omega), List.take_of_length_le (by omega)]
  refine ⟨?_, ?_, ?_⟩
  · have h0 : (supS h r b)[0]? = some (UInt8.ofNat h) := by
      have := congrArg (fun l : List UInt8 => l[0]?) ht
      simpa [List.getElem?_take] using this
    simp [List.getD, h0]
  · have h1 : ((supS h r b).drop 1).take 4 = (((supS h r b).take 9).drop 1).take 4 := by rw [List.drop_take, List.take_take]; rfl
    rw [h1, ht, List.drop_succ_cons, List.drop_zero, List.take_append_of_le_length (by simp), List.take_of_length_le (by simp)]
  · have h1 : ((supS h r b).drop 5).take 4 = (((supS h r b).take 9).drop 5).take 4 := by rw [List.drop_take, List.take_take]; rfl
    rw [h1, ht, List.drop_succ_cons, List.drop_append_of_le_length (by simp), List.drop_of_length_le (by simp), List.nil_append, List.take_of_length_le (by simp)]
theorem supS_inj {h r b h2 r2 b2 : Nat} (e : supS h r b = supS h2 r2 b2) (hh : h < 256) (hh2 : h2 < 256) (hr : r < 4294967296) (hr2 : r2 < 4294967296) (hb : b < 4294967296) (hb2 : b2 < 4294967296) : h = h2 ∧ r = r2 ∧ b = b2 := by
  obtain ⟨a1, a2, a3⟩ := supS_parts (h := h) (r := r) (b := b)
  obtain ⟨c1, c2, c3⟩ := supS_parts (h := h2) (r := r2) (b := b2)
  rw [e, c1] at a1
  rw [e, c2] at a2
  rw [e, c3] at a3
  have h3 : (256 : Nat) ^ 4 = 4294967296 := by decide
  refine ⟨?_, (be_inj (by omega) (by omega) a2).symm, (be_inj (by omega) (by omega) a3).symm⟩
  have := congrArg UInt8.toNat a1
  simp at this
  omega

def cat (R : Nat → Sec) (f : Nat) : Nat → List UInt8
  | 0 => []
  | n + 1 => cat R f n ++ R (f + n)
theorem cat_len {R : Nat → Sec} (hR : ∀ i, (R i).length = 64) (f : Nat) : ∀ n, (cat R f n).length = n * 64
  | 0 => rfl
  | n + 1 => by rw [cat, List.length_append, cat_len hR f n, hR]; omega
theorem cat_take {R : Nat → Sec} (hR : ∀ i, (R i).length = 64) (f : Nat) : ∀ n k, k ≤ n → (cat R f n).take (k * 64) = cat R f k
  | 0, k, h => by obtain rfl : k = 0 := by omega
                  rfl
  | n + 1, k, h => by
    by_cases hk : k ≤ n
    · rw [cat, List.take_append_of_le_length (by rw [cat_len hR]; omega), cat_take hR f n k hk]
    · obtain rfl : k = n + 1 := by omega
      rw [List.take_of_length_le (by rw [cat_len hR]; omega)]
theorem cat_take_any {R : Nat → Sec} (hR : ∀ i, (R i).length = 64) (f n m k : Nat) (h1 : k ≤ n * 64) (h2 : k ≤ m * 64) : (cat R f n).take k = (cat R f m).take k := by
  rcases Nat.le_total n m with h | h
  · rw [← cat_take hR f m n h, List.take_take, Nat.min_eq_left h1]
  · rw [← cat_take hR f n m h, List.take_take, Nat.min_eq_left h2]
def hsec (n : Nat) : Nat := (n - 1) / 2
def halfB (n : Nat) (R : Nat → Sec) (h : Nat) : List UInt8 := cat R (1 + h * hsec n) (hsec n)
structure Opens (n : Nat) (R : Nat → Sec) (h : Nat) (L : List Rec) : Prop where
  half : h ≤ 1
  ok : okL L
  room : (frs L).length ≤ hsec n * 64
  sup : R 0 = supS h L.length (frs L).length
  bytes : (halfB n R h).take (frs L).length = frs L
theorem Opens.uniq {n : Nat} {R : Nat → Sec} {h h2 : Nat} {L L2 : List Rec} (hn : n ≤ 1024) (a : Opens n R h L) (b : Opens n R h2 L2) : h = h2 ∧ L = L2 := by
  have h1 := a.half
  have h2 := b.half
  have h3 := frs_ge a.ok
  have h4 := frs_ge b.ok
  have h5 := a.room
  have h6 := b.room
  unfold hsec at h5 h6
  obtain ⟨e1, e2, e3⟩ := supS_inj (a.sup.symm.trans b.sup) (by omega) (by omega) (by omega) (by omega) (by omega) (by omega)
  subst e1
  refine ⟨rfl, frs_inj a.ok b.ok ?_⟩
  rw [← a.bytes, ← b.bytes, e3]
def wrM (m : Nat → Option Sec) (f : Nat) (B : List UInt8) (i j : Nat) : Nat → Option Sec := fun x => if f + i ≤ x ∧ x < f + j then some (fillS (B.drop ((x - f) * 64))) else m x
theorem wrM_none (m : Nat → Option Sec) (f : Nat) (B : List UInt8) (i : Nat) : wrM m f B i i = m := by
  funext x
  unfold wrM
  rw [if_neg (by omega)]
theorem wrM_succ (m : Nat → Option Sec) (f : Nat) (B : List UInt8) (i j : Nat) (h : i ≤ j) : upd (wrM m f B i j) (f + j) (fillS (B.drop (j * 64))) = wrM m f B i (j + 1) := by
  funext x
  unfold upd wrM
  by_cases e : x = f + j
  · subst e
    rw [if_pos rfl, if_pos (by omega), Nat.add_sub_cancel_left]
  · rw [if_neg e]
    by_cases h2 : f + i ≤ x ∧ x < f + j
    · rw [if_pos h2, if_pos (by omega)]
    · rw [if_neg h2, if_neg (by omega)]
end Go.Proofs.YtmpajlpemabniaaGreat
namespace Go.Proofs.YtmpajlpemabniaaGreat
open Go.RowKit Go.Maps Go.WideAt Go.ChangeMaps Go.MapKept Go.WideElems
set_option linter.unusedVariables false
set_option linter.unusedSimpArgs false

theorem intkey : Keyed Tryz.prog 3 := int_keyed Tryz.underlying3
theorem keyOf_ik (i : Nat) (hi : i < 1024) : keyOf Tryz.prog 3 (.int .i64 (i : Int)) = some (ik i) := keyOf_int_mk Tryz.underlying3 (WalkArith.wf_i64 (by omega))
theorem tightN {w : World} {b n : Nat} {m : Nat → Option Sec} {D : DataW Unit} {k : Nat} (h : w.ownsMap Tryz.prog 3 secR b k D) (hm : MapOf m D) (hs : ∀ i S, m i = some S → i < n) : w.ownsMap Tryz.prog 3 secR b n D := by
  have hp := keys_perm (n := n) hm hs (h.entries intkey)
  have hsz : size D ≤ n := by
    have e := hp.length_eq
    rw [size_intKeys] at e
    rw [← e]
    simpa [dirtyZ] using dirtyL_le n m
  obtain ⟨es, clock, hb, F, _, hD⟩ := h
  refine ⟨es, clock, hb, F, ?_, hD⟩
  have e2 : size D = es.size := by rw [hD]; simp [size, length_sorted]
  omega
theorem put_run {w : World} {p g b n : Nat} {F : Nat → Sec} {m : Nat → Option Sec} (hd : Dsk w p g b n F m) (i : Nat) (hi : i < n) (S : Sec) (hS : S.length = 64) :
    ∃ w', (Instr.mapUpdate 119 (.map (some b)) (.int .i64 (i : Int)) (sv S)).run Tryz.prog w = .ok () w' ∧ Dsk w' p g b n F (upd m i S) ∧ Chg [b] w w' := by
  obtain ⟨D, ho, hm⟩ := hd.own
  have ht := hd.top
  obtain ⟨w', hrun, ho', htn⟩ := ho.store intkey Tryz.underlying119 (by unfold maxLen; omega) (keyOf_ik i (by omega)) (secR_sv hS)
  have hc : Chg [b] w w' := (Chg.refl [b] w).grown htn.grown (by simp)
  have hk : ∀ j T, upd m i S j = some T → T.length = 64 ∧ j < n := by
    intro j T hj
    by_cases e : j = i
    · subst e; simp only [upd, if_true, Option.some.injEq] at hj; subst hj; exact ⟨hS, hi⟩
    · simp only [upd, if_neg e] at hj; exact hd.lenM j T hj
  have hm' := hm.put ho.isMap i S
  obtain ⟨c, hf⟩ := hd.flu
  refine ⟨w', hrun, ⟨⟨c, hc.cell hf (by simpa using hd.pb)⟩, hc.cell hd.dir (by simpa using hd.pb), hd.one, hd.top, hd.lenF, hk, fun j hj => hc.range (hd.rng j hj) (by simpa using hd.gb), hc.there hd.the (by simpa using hd.gb),
    ⟨_, tightN ho' hm' (fun j T hj => (hk j T hj).2), hm'⟩, hd.pg, hd.pb, hd.gb⟩, hc⟩
set_option maxRecDepth 100000 in
theorem write_ok (w : World) {p g b n : Nat} {F : Nat → Sec} {m : Nat → Option Sec} (hd : Dsk w p g b n F m) (i : Nat) (hi : i < n) (S : Sec) (hS : S.length = 64) :
    Calls Tryz.prog 247 #[.pointer (some ⟨p, 0, none⟩), .int .i64 i, sv S] w fun e w' => e = .returned (.int .i64 0) ∧ Dsk w' p g b n F (upd m i S) ∧ Chg [b] w w' := by
  have hC1 : Chg [] w (w.alloc (.cells (u8s S).toArray 59)) := (Chg.refl [] w).alloc _
  have hd2 := hd.kept hC1
  have HC := Lib.hid (check_ok _ hd2 i (by omega) (by omega))
  have hd3 : Dsk (w.alloc (.cells (u8s S).toArray 59)).drew p g b n F m := hd2.kept ((Chg.refl [] _).drew)
  obtain ⟨w2, hrun, hd4, hc4⟩ := put_run hd3 i hi S hS
  have hdir := hd3.dir
  have hrg : (w.alloc (.cells (u8s S).toArray 59)).drew.rangeAt w.heap.size 0 (u8s S) := (World.rangeAt_drew _ _ _ _).2 (range_box w S _)
  have hu := Tryz.underlying59
  have hinf : (Tryz.prog.info? 59).map (·.size) = some (u8s S).length := by rw [u8s_length, hS]; exact info37
  have hdir2 := hd4.dir
  have hrg2 : w2.rangeAt w.heap.size 0 (u8s S) := hc4.range hrg (by have := hd.ltb; simp; omega)
  have HD := Lib.hid hd4
  have HX := Lib.hid ((hC1.drew.mono (l' := [b]) (by simp)).trans hc4)
  clear hd hd2 hd3 hd4 hc4 hC1
  go_enter Tryz.func247, Tryz.ntmps247
  go_wp2_with (first
    | (refine wpList_box37 rfl _ rfl S rfl ?_)
    | (go_at_call 65; refine HC.out.mono ?_; rintro e w' ⟨rfl, rfl⟩)
    | fail)
  go_region_held3 (fun w' => w'.cell? ⟨p, 1, none⟩ = some (.map (some b)) ∧ w'.rangeAt w.heap.size 0 (u8s S)) (first | assumption | (exact ⟨hdir, hrg⟩) | (exact ⟨hdir2, hrg2⟩)) (fail)
  go_wp2
  go_ret
  exact ⟨rfl, HD.out, HX.out⟩

theorem look_run {w : World} {p g b n : Nat} {F : Nat → Sec} {m : Nat → Option Sec} (hd : Dsk w p g b n F m) (i : Nat) (hi : i < n) :
    (Instr.lookup 119 (.map (some b)) (.int .i64 (i : Int)) true).run Tryz.prog w = .ok (.tuple #[sv ((m i).getD zsec), .bool (m i).isSome]) w ∧
    (Instr.lookup 119 (.map (some b)) (.int .i64 (i : Int)) false).run Tryz.prog w = .ok (sv ((m i).getD zsec)) w := by
  obtain ⟨D, ho, hm⟩ := hd.own
  have ht := hd.top
  obtain ⟨v, ps, hrun, hv⟩ := ho.look_ok intkey Tryz.underlying119 (zero37 w) (secR_sv zsec_len) (keyOf_ik i (by omega))
  obtain ⟨v2, ps2, hrun2, hv2⟩ := ho.lookup intkey Tryz.underlying119 (zero37 w) (secR_sv zsec_len) (keyOf_ik i (by omega))
  obtain ⟨S, hS, rfl, hz⟩ := secR_inv hv
  obtain ⟨S2, hS2, rfl, hz2⟩ := secR_inv hv2
  simp only [Prod.mk.injEq] at hz hz2
  rw [hrun, hrun2]
  cases hmi : m i with
  | none =>
    have h0 := hm.none_ i hmi
    rw [atKey_of_not_has h0] at hz hz2
    rw [h0, ← secD_inj hz.1, ← secD_inj hz2.1]
    simp
  | some T =>
    obtain ⟨h1, h2⟩ := hm.some_ i T hmi
    rw [h2] at hz hz2
    rw [h1, ← secD_inj hz.1, ← secD_inj hz2.1]
    simp
section
variable {w : World} {ops : Array Oper} {rest : List Oper} {o : Oper} {a : Act} {Q : Exit → Act → World → Prop}
end
set_option maxRecDepth 100000 in
theorem read_ok (w : World) {p g b n : Nat} {F : Nat → Sec} {m : Nat → Option Sec} (hd : Dsk w p g b n F m) (i : Nat) (hi : i < n) :
    Calls Tryz.prog 20 #[.pointer (some ⟨p, 0, none⟩), .int .i64 i] w fun e w' => e = .returned (.tuple #[sv (now F m i), .int .i64 0]) ∧ Chg [] w w' := by
  have hT := there_box w zsec 59 zsec_len
  have hd2 := hd.kept ((Chg.refl [] w).alloc (.cells (u8s zsec).toArray 59))
  have HC := Lib.hid (check_ok _ hd2 i (by omega) (by omega))
  have hdir := hd2.dir
  obtain ⟨c, hflu⟩ := hd2.flu
  have hlook := (look_run hd2 i hi).1
  have hlen := hd.lenM i
  have ht := hd.top
  have hi0 : (0 : Int) ≤ (i : Int) := by omega
  have hi1 : (i : Int) < (n : Int) := by omega
  have hS : ((m i).getD zsec).length = 64 := by
    cases hm : m i with
    | none => exact zsec_len
    | some S => exact (hlen S hm).1
  have hF := hd.lenF i
  have hltw : w.heap.size < (w.alloc (.cells (u8s zsec).toArray 59)).heap.size := by simp
  have hC1 : Chg [] w (w.alloc (.cells (u8s zsec).toArray 59)) := (Chg.refl [] w).alloc _
  obtain ⟨w1, hw⟩ : ∃ w1, w1 = w.alloc (.cells (u8s zsec).toArray 59) := ⟨_, rfl⟩
  rw [← hw] at hT hd2 HC hdir hflu hlook hltw hC1
  have hTn := there_box w1 zsec 59 zsec_len
  obtain ⟨S, HS⟩ : ∃ S, Hid ((m i).getD zsec = S) := ⟨_, Lib.hid rfl⟩
  rw [HS.out] at hS hlook
  obtain ⟨w3, hw3⟩ : ∃ w3, w3 = (w1.alloc (.cells (u8s zsec).toArray 59)).setCells w1.heap.size 0 (u8s S) := ⟨_, rfl⟩
  have hC3 : Chg [] w1 w3 := by rw [hw3]; exact ((Chg.refl [] w1).alloc _).setCells (Or.inr (Nat.le_refl _)) _ _
  have hr3 : w3.rangeAt w1.heap.size 0 (u8s S) := by rw [hw3]; exact World.rangeAt_setCells_same _ _ _ _ (by rw [u8s_length, hS]; exact hTn)
  have hT3 := hC3.there hT (by simp)
  have hd3 := hd2.kept hC3
  obtain ⟨c3, hflu3⟩ := hd3.flu
  have hrg3 := hd3.rng i hi
  have HW := Lib.hid hw.symm
  have HW3 := Lib.hid hw3.symm
  have HC3 := Lib.hid (hC1.trans hC3)
  clear hw hw3 hd hd2 hd3 hlen hC1 hC3
  cases hm : m i with
  | none =>
    rw [hm] at hlook
    simp only [Option.isSome_none] at hlook
    have HN := Lib.hid (show now F m i = F i by simp [now, hm])
    clear hm
    go_enter Tryz.func20, Tryz.ntmps20
    go_wp2_with (first
      | (refine wpList_alloc37 rfl rfl ?_; try rw [HW.out])
      | (refine wpList_store37 rfl _ _ rfl w1.heap.size 0 S rfl rfl hTn hS ?_; rw [HW3.out])
      | (refine wpList_load37 rfl _ rfl g (i * 64) rfl (F i) hrg3 hF ?_)
      | (refine wpList_store37 rfl _ _ rfl w.heap.size 0 (F i) rfl rfl hT3 hF ?_)
      | (go_at_call 65; refine HC.out.mono ?_; rintro e w' ⟨rfl, rfl⟩)
      | fail)
    rw [HN.out]
    refine bodyPost_ret (results_cell2 (j := 4) (t := 59) (p := ⟨w.heap.size, 0, none⟩) Tryz.results20 rfl (load37 (S := F i) (World.rangeAt_setCells_same _ _ _ _ (by rw [u8s_length, hF]; exact hT3)) hF)) rfl ⟨rfl, ?_⟩
    exact HC3.out.setCells (Or.inr (Nat.le_refl _)) _ _
  | some T =>
    rw [hm] at hlook
    simp only [Option.isSome_some] at hlook
    have HN := Lib.hid (show now F m i = S by rw [← HS.out, hm]; simp [now, hm])
    clear hm
    go_enter Tryz.func20, Tryz.ntmps20
    go_wp2_with (first
      | (refine wpList_alloc37 rfl rfl ?_; try rw [HW.out])
      | (refine wpList_store37 rfl _ _ rfl w1.heap.size 0 S rfl rfl hTn hS ?_; rw [HW3.out])
      | (refine wpList_load37 rfl _ rfl w1.heap.size 0 rfl S hr3 hS ?_)
      | (refine wpList_store37 rfl _ _ rfl w.heap.size 0 S rfl rfl hT3 hS ?_)
      | (go_at_call 65; refine HC.out.mono ?_; rintro e w' ⟨rfl, rfl⟩)
      | fail)
    rw [HN.out]
    refine bodyPost_ret (results_cell2 (j := 4) (t := 59) (p := ⟨w.heap.size, 0, none⟩) Tryz.results20 rfl (load37 (S := S) (World.rangeAt_setCells_same _ _ _ _ (by rw [u8s_length, hS]; exact hT3)) hS)) rfl ⟨rfl, ?_⟩
    exact HC3.out.setCells (Or.inr (Nat.le_refl _)) _ _
end Go.Proofs.YtmpajlpemabniaaGreat
namespace Go.Proofs.YtmpajlpemabniaaGreat
open Go.RowKit Go.Maps Go.Sort Go.Shelf
set_option linter.unusedVariables false
set_option linter.unusedSimpArgs false

end Go.Proofs.YtmpajlpemabniaaGreat
