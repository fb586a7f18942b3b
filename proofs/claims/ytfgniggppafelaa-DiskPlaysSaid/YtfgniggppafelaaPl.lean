/-
  A disk and the document's disk side by side: what DiskPlays keeps. No claim of its own.
-/
import Derived.Test.YtfgniggppafelaaRkA
namespace Go.Proofs.Ytfgniggppafelaa
open Go.RowKit Go.Maps Go.Shelf
set_option linter.unusedVariables false
set_option linter.unusedSimpArgs false

theorem now_upd (F : Nat → Sec) (m : Nat → Option Sec) (j : Nat) (S : Sec) : updF (now F m) j S = now F (upd m j S) := by
  funext x
  unfold updF now upd
  split <;> rfl
theorem some_upd (m : Nat → Option Sec) (j : Nat) (S : Sec) : updB (fun i => (m i).isSome) j true = fun i => (upd m j S i).isSome := by
  funext x
  unfold updB upd
  split <;> rfl
theorem rwrite_any (w : World) {q gn go gd n : Nat} {F : Nat → Sec} {m : Nat → Option Sec} (hd : Rdk w q gn go gd n (now F m) F (fun i => (m i).isSome)) (i : Int) (S : Sec) (hS : S.length = 64) :
    Calls Try.prog 13 #[.pointer (some ⟨q, 0, none⟩), .int .i64 i, sv S] w fun e w' => e = .returned (.int .i64 (werr n i)) ∧ Hid (Rdk w' q gn go gd n (now F (updI n m i S)) F (fun j => (updI n m i S j).isSome)) ∧ Chg [gn, gd] w w' := by
  by_cases h : 0 ≤ i ∧ i < n
  · obtain ⟨j, rfl⟩ := Int.eq_ofNat_of_zero_le h.1
    rw [werr_in h, updI_nat (by omega)]
    refine (rwrite_ok w hd j (by omega) S hS).mono fun e w' ⟨he, hr, hc⟩ => ⟨he, Lib.hid ?_, hc⟩
    rw [now_upd, some_upd m j S] at hr
    exact hr
  · rw [werr_out h, show updI n m i S = m from if_neg h]
    exact (rwrite_no w hd i h S).mono fun e w' ⟨he, hc⟩ => ⟨he, Lib.hid (hd.kept hc), hc.mono (by simp)⟩
/-- both disks, apart from one another and from all that came in -/
structure Pl (w wr : World) (p g b q gn go gd n : Nat) (F : Nat → Sec) (m : Nat → Option Sec) : Prop where
  d : Dsk wr p g b n F m
  r : Rdk wr q gn go gd n (now F m) F (fun i => (m i).isSome)
  low : w.heap.size ≤ p ∧ w.heap.size ≤ g ∧ w.heap.size ≤ b ∧ w.heap.size ≤ q ∧ w.heap.size ≤ gn ∧ w.heap.size ≤ go ∧ w.heap.size ≤ gd
  sep : (p ≠ q ∧ p ≠ gn ∧ p ≠ go ∧ p ≠ gd) ∧ (g ≠ q ∧ g ≠ gn ∧ g ≠ go ∧ g ≠ gd) ∧ (b ≠ q ∧ b ≠ gn ∧ b ≠ go ∧ b ≠ gd)
  chg : Chg [] w wr
section
variable {w wr wr' w2 w3 w4 : World} {p g b q gn go gd n p2 g2 b2 q2 gn2 go2 gd2 : Nat} {F : Nat → Sec} {m m2 : Nat → Option Sec}
theorem Pl.kept (h : Pl w wr p g b q gn go gd n F m) (hc : Chg [] wr wr') : Pl w wr' p g b q gn go gd n F m := ⟨h.d.kept hc, h.r.kept hc, h.low, h.sep, h.chg.trans hc⟩
theorem Pl.write (h : Pl w wr p g b q gn go gd n F m) (h1 : Dsk w2 p g b n F m2) (h2 : Chg [b] wr w2) (h3 : Chg [b] wr w3) (h23 : Chg [] w2 w3) (h4 : Rdk w4 q gn go gd n (now F m2) F (fun i => (m2 i).isSome)) (h5 : Chg [gn, gd] w3 w4) : Pl w w4 p g b q gn go gd n F m2 := by
  have hl := h.low
  have hs := h.sep
  exact ⟨(h1.kept h23).keep h5 (by simp; omega) (by simp; omega) (by simp; omega), h4, h.low, h.sep, (h.chg.then h3 (by simp; omega)).then h5 (by simp; omega)⟩
theorem Pl.flush (h : Pl w wr p g b q gn go gd n F m) (h1 : Dsk w2 p g b n (now F m) (fun _ => none)) (h2 : Chg [g, b] wr w2) (h4 : Rdk w4 q gn go gd n (now F m) (now F m) (fun _ => false)) (h5 : Chg [go, gd] w2 w4) : Pl w w4 p g b q gn go gd n (now F m) (fun _ => none) := by
  have hl := h.low
  have hs := h.sep
  exact ⟨h1.keep h5 (by simp; omega) (by simp; omega) (by simp; omega), h4, h.low, h.sep, (h.chg.then h2 (by simp; omega)).then h5 (by simp; omega)⟩
theorem Pl.crash {ks : List Bool} (h : Pl w wr p g b q gn go gd n F m) (hp : wr.heap.size ≤ p2) (hg : wr.heap.size ≤ g2) (hb : wr.heap.size ≤ b2) (h1 : Dsk w2 p2 g2 b2 n (crashF F m ks) (fun _ => none)) (h2 : Chg [] wr w2) (h3 : Chg [] w2 w3)
    (hq : w3.heap.size ≤ q2) (hn : w3.heap.size ≤ gn2) (ho : w3.heap.size ≤ go2) (hd : w3.heap.size ≤ gd2) (h4 : Rdk w4 q2 gn2 go2 gd2 n (crashF F m ks) (crashF F m ks) (fun _ => false)) (h5 : Chg [] w3 w4) : Pl w w4 p2 g2 b2 q2 gn2 go2 gd2 n (crashF F m ks) (fun _ => none) := by
  have h6 := h.chg.size
  have h7 := h2.size
  have h8 := h3.size
  have l1 := h1.ltp
  have l2 := h1.ltg
  have l3 := h1.ltb
  exact ⟨(h1.kept h3).kept h5, h4, by omega, by omega, ((h.chg.trans h2).trans h3).trans h5⟩
theorem Pl.clen {ks : List Bool} (h : Pl w wr p g b q gn go gd n F m) (i : Nat) : (crashF F m ks i).length = 64 := by
  unfold crashF
  split
  · exact h.d.lenN i
  · exact h.d.lenF i
end
/-- an act as four cells -/
def actC (B : ActD) : List Value := [.int .i64 B.kd, .int .i64 B.i, .slice B.ab B.bs.length B.cb, .slice B.ak B.ks.length B.ck]
theorem actC_one (B : ActD) : ∀ v ∈ actC B, v.oneCell' = true := by
  intro v hv
  simp only [actC, List.mem_cons, List.not_mem_nil, or_false] at hv
  rcases hv with rfl | rfl | rfl | rfl <;> rfl
theorem act_row {w : World} {b off k : Nat} {B : ActD} (h : ActAt w b off k B) : w.rangeAt b (off + k * 4) (actC B) := fun j v hv => by
  match j, hv with
  | 0, hv => cases hv; exact h.c0
  | 1, hv => cases hv; exact h.c1
  | 2, hv => cases hv; exact h.c2
  | 3, hv => cases hv; exact h.c3
  | j + 4, hv => simp [actC] at hv
theorem act_cells {w : World} {g : Nat} {B : ActD} (h : w.rangeAt g 0 (actC B)) : w.cell? ⟨g, 0, none⟩ = some (.int .i64 B.kd) ∧ w.cell? ⟨g, 1, none⟩ = some (.int .i64 B.i) ∧ w.cell? ⟨g, 2, none⟩ = some (.slice B.ab B.bs.length B.cb) ∧ w.cell? ⟨g, 3, none⟩ = some (.slice B.ak B.ks.length B.ck) :=
  ⟨h 0 _ rfl, h 1 _ rfl, h 2 _ rfl, h 3 _ rfl⟩
def zact : List Value := [.int .i64 0, .int .i64 0, .slice none 0 0, .slice none 0 0]
theorem zeroA (w : World) : (zeroValue 34).run Try.prog w = .ok (.agg zact.toArray) w := by kernel_rfl
theorem infoA : (Try.prog.info? 34).map (·.size) = some 4 := by kernel_rfl
section
variable {w : World} {ops : Array Oper} {rest : List Oper} {o : Oper} {a : Act} {Q : Exit → Act → World → Prop}
theorem wpList_allocA (hgd : o.guard = none) (ho : o.op = .alloc 34)
    (h : wpList Try.prog ops Q rest (a.put o.dst (.pointer (some ⟨w.heap.size, 0, none⟩))) (w.alloc (.cells zact.toArray 34))) : wpList Try.prog ops Q (o :: rest) a w :=
  wpList_plain hgd fun _ hK => by
    unfold Oper.wp execOp
    simp only [ho, Sem.run_bind]
    simp [Instr.alloc, zeroA, newVar, newRow, Value.cells]
    exact hK _ _ h
theorem wpList_loadA (hgd : o.guard = none) (x : Operand) (ho : o.op = .load 34 x) (b off : Nat) (hx : a.eval x = .pointer (some ⟨b, off, none⟩)) (B : ActD) (hr : w.rangeAt b off (actC B))
    (h : wpList Try.prog ops Q rest (a.put o.dst (.agg (actC B).toArray)) w) : wpList Try.prog ops Q (o :: rest) a w :=
  wpList_load_mid hgd _ x ho b off hx (actC B) _ hr Try.underlying34 rfl infoA h
theorem wpList_layA {W : World} (hgd : o.guard = none) (x y : Operand) (ho : o.op = .store 34 x y) (B : ActD) (hW : W = w.alloc (.cells zact.toArray 34)) (hx : a.eval x = .pointer (some ⟨w.heap.size, 0, none⟩)) (hy : a.eval y = .agg (actC B).toArray)
    (h : ∀ w', w'.rangeAt w.heap.size 0 (actC B) → Chg [] w w' → wpList Try.prog ops Q rest (a.put o.dst undef) w') : wpList Try.prog ops Q (o :: rest) a W := by
  subst hW
  have ht : (w.alloc (.cells zact.toArray 34)).there w.heap.size 0 (actC B).toArray.size := fun j hj => by
    have hj4 : j < 4 := hj
    refine ⟨?_, ?_⟩
    · rw [Nat.zero_add, cell_of_row _ w.heap.size j _ _ (0, 0) (heap_alloc_new w _)]
      simp [zact, hj4]
    · rw [Nat.zero_add]
      exact Own.frozen (t := 34) (cs := zact) (heap_alloc_new w _) j
  exact wpList_store_mid hgd _ x y ho w.heap.size 0 (actC B).toArray hx hy ht infoA (all_oneCell_toArray (actC_one B)) (h _ (World.rangeAt_setCells_same _ _ _ _ ht) (((Chg.refl [] w).alloc _).setCells (Or.inr (Nat.le_refl _)) _ _))
end
end Go.Proofs.Ytfgniggppafelaa
