/-
  What a slice of acts that came in is; an act loaded and stored whole. No claim of their own.
-/
import Derived.Test.YtdiemejdbakffaaGreatRt16
namespace Go.Proofs.YtdiemejdbakffaaGreat
open Go.RowKit Go.ChangeShapes Go.WideShapes Go.Deep
set_option linter.unusedVariables false
set_option linter.unusedSimpArgs false

/-- a slice of acts that came in -/
def IsActs (w : World) (a : Option Addr) (len : Nat) (A : Nat → ActT) : Prop :=
  len ≤ 9223372036854775807 ∧ (0 < len → ∃ b off, a = some ⟨b, off, none⟩ ∧ b < w.heap.size ∧ ∀ i, i < len → ActOk w (A i) ∧ w.rangeAt b (off + i * 5) (A i).cells)
section
variable {H : Type} {enc : TypeId × Value → H} {w : World} {base : Nat} {held : Bool}
set_option maxRecDepth 100000 in
theorem open_acts {n : Nat} {v : Value} {y : DataW H × List MemPlace} (h : DataW.trod enc Tryz.prog w base (fun _ => true) held n 22 [v] = some y) :
    ∃ (a : Option Addr) (len cap : Nat) (A : Nat → ActT), v = .slice a len cap ∧ IsActs w a len A := by
  have dA : ActT := ⟨0, 0, none, [], 0, none, [], 0, none, [], 0⟩
  rcases open_slice Tryz.underlying22 h with ⟨hc, _⟩ | ⟨a, len, cap, m, k, D, Pl, hc, _, hl, hm, hmm, _, hi⟩
  · exact ⟨none, 0, 0, fun _ => dA, by simpa using hc, by omega, fun h => by omega⟩
  · have hc4 : Tryz.prog.cellsOf 41 = 5 := by kernel_rfl
    simp only [if_true] at hmm
    subst hmm
    have hall : ∀ i, i < m → ∃ A : ActT, ActOk w A ∧ w.cell? (a.add (i * 5)) = some (.int .i64 A.kd) ∧ w.cell? ((a.add (i * 5)).add 1) = some (.int .i64 A.i) ∧
        w.cell? ((a.add (i * 5)).add 2) = some (.slice A.ab A.bs.length A.cb) ∧ w.cell? ((a.add (i * 5)).add 3) = some (.slice A.al A.xs.length A.cl) ∧ w.cell? ((a.add (i * 5)).add 4) = some (.slice A.ak A.ks.length A.ck) := by
      intro i him
      obtain ⟨cs, h1, h2⟩ := hi i him
      rw [hc4] at h1
      obtain ⟨_, _, h3⟩ := World.cells?_some h1
      obtain ⟨A, rfl, hA⟩ := trod_act h2
      refine ⟨A, hA, ?_, h3 1 (by omega), h3 2 (by omega), h3 3 (by omega), h3 4 (by omega)⟩
      have := h3 0 (by omega)
      simpa [Addr.add, ActT.cells] using this
    refine ⟨some a, len, m, fun i => if hi : i < m then Classical.choose (hall i hi) else dA, by simpa using hc, by unfold maxLen at hm; omega, fun hpos => ?_⟩
    obtain ⟨b, off, spot⟩ := a
    obtain ⟨A0, _, hc0, _⟩ := hall 0 (by omega)
    have hspot : spot = none := by simpa [Addr.add] using World.cell?_spot hc0
    subst hspot
    have hb := World.block_lt_of_cell? w _ hc0
    refine ⟨b, off, rfl, by simpa [add_off] using hb, fun i hil => ?_⟩
    have hsp := Classical.choose_spec (hall i (by omega))
    have e : ∀ j, ((⟨b, off, none⟩ : Addr).add (i * 5)).add j = ⟨b, off + i * 5 + j, none⟩ := fun j => by rw [add_off, add_off]
    dsimp only
    rw [dif_pos (show i < m by omega)]
    generalize Classical.choose (hall i (by omega)) = A at hsp ⊢
    obtain ⟨g0, g1, g2, g3, g4, g5⟩ := hsp
    refine ⟨g0, fun j v hv => ?_⟩
    match j with
    | 0 => simp [ActT.cells] at hv; subst hv; exact (congrArg w.cell? (add_off b off (i * 5))).symm.trans g1
    | 1 => simp [ActT.cells] at hv; subst hv; exact (congrArg w.cell? (e 1)).symm.trans g2
    | 2 => simp [ActT.cells] at hv; subst hv; exact (congrArg w.cell? (e 2)).symm.trans g3
    | 3 => simp [ActT.cells] at hv; subst hv; exact (congrArg w.cell? (e 3)).symm.trans g4
    | 4 => simp [ActT.cells] at hv; subst hv; exact (congrArg w.cell? (e 4)).symm.trans g5
    | j + 5 => simp [ActT.cells] at hv
set_option maxRecDepth 100000 in
theorem open_actsV {r : Reach} {b0 : Nat} {v : Value} {d : DataW H} {p : List MemPlace} (hv : Value.okWide Tryz.prog w r b0 22 v) (h : DataW.Trod enc Tryz.prog w base (fun _ => true) held 22 v d p) :
    ∃ (a : Option Addr) (len cap : Nat) (A : Nat → ActT), v = .slice a len cap ∧ IsActs w a len A := by
  obtain ⟨a, l, c, rfl⟩ := okWide_slice Tryz.underlying22 hv
  obtain ⟨fuel, hf⟩ := h
  exact open_acts hf
end
theorem actC_one (B : ActT) : ∀ v ∈ B.cells, v.oneCell' = true := by
  intro v hv
  simp only [ActT.cells, List.mem_cons, List.mem_nil_iff, or_false] at hv
  rcases hv with rfl | rfl | rfl | rfl | rfl <;> rfl
def zact : List Value := [.int .i64 0, .int .i64 0, .slice none 0 0, .slice none 0 0, .slice none 0 0]
set_option maxRecDepth 100000 in
theorem zeroA (w : World) : (zeroValue 41).run Tryz.prog w = .ok (.agg zact.toArray) w := by kernel_rfl
theorem infoA : (Tryz.prog.info? 41).map (·.size) = some 5 := by kernel_rfl
section
variable {w : World} {ops : Array Oper} {rest : List Oper} {o : Oper} {a : Act} {Q : Exit → Act → World → Prop}
theorem wpList_allocA (hgd : o.guard = none) (ho : o.op = .alloc 41)
    (h : wpList Tryz.prog ops Q rest (a.put o.dst (.pointer (some ⟨w.heap.size, 0, none⟩))) (w.alloc (.cells zact.toArray 41))) : wpList Tryz.prog ops Q (o :: rest) a w :=
  wpList_plain hgd fun _ hK => by
    unfold Oper.wp execOp
    simp only [ho, Sem.run_bind]
    simp [Instr.alloc, zeroA, newVar, newRow, Value.cells]
    exact hK _ _ h
theorem wpList_loadA (hgd : o.guard = none) (x : Operand) (ho : o.op = .load 41 x) (b off : Nat) (hx : a.eval x = .pointer (some ⟨b, off, none⟩)) (B : ActT) (hr : w.rangeAt b off B.cells)
    (h : wpList Tryz.prog ops Q rest (a.put o.dst (.agg B.cells.toArray)) w) : wpList Tryz.prog ops Q (o :: rest) a w :=
  wpList_load_mid hgd _ x ho b off hx B.cells _ hr Tryz.underlying41 rfl infoA h
theorem wpList_layA {W : World} (hgd : o.guard = none) (x y : Operand) (ho : o.op = .store 41 x y) (B : ActT) (hW : W = w.alloc (.cells zact.toArray 41)) (hx : a.eval x = .pointer (some ⟨w.heap.size, 0, none⟩)) (hy : a.eval y = .agg B.cells.toArray)
    (h : ∀ w', w'.rangeAt w.heap.size 0 B.cells → Chg [] w w' → wpList Tryz.prog ops Q rest (a.put o.dst undef) w') : wpList Tryz.prog ops Q (o :: rest) a W := by
  subst hW
  have ht : (w.alloc (.cells zact.toArray 41)).there w.heap.size 0 B.cells.toArray.size := fun j hj => by
    have hj4 : j < 5 := hj
    refine ⟨?_, ?_⟩
    · rw [Nat.zero_add, cell_of_row _ w.heap.size j _ _ (0, 0) (heap_alloc_new w _)]
      simp [zact, hj4]
    · rw [Nat.zero_add]
      exact Own.frozen (t := 41) (cs := zact) (heap_alloc_new w _) j
  exact wpList_store_mid hgd _ x y ho w.heap.size 0 B.cells.toArray hx hy ht infoA (all_oneCell_toArray (actC_one B)) (h _ (World.rangeAt_setCells_same _ _ _ _ ht) (((Chg.refl [] w).alloc _).setCells (Or.inr (Nat.le_refl _)) _ _))
end
end Go.Proofs.YtdiemejdbakffaaGreat
