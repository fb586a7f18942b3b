/-
  Laws of whole sectors of the document's disk at the operations: made, loaded, stored. No claim of their own.
-/
import Derived.Test.YtdiemejdbakffaaGreatDkB
import Derived.Test.YtdiemejdbakffaaGreatJ4
import Derived.Deep.QuietTactic
import Derived.BigQuiet
namespace Go.Proofs.YtdiemejdbakffaaGreat
open Go.RowKit Go.Maps Go.WideAt Go.ChangeMaps Go.MapKept Go.WideElems
set_option linter.unusedVariables false
set_option linter.unusedSimpArgs false
theorem info40 : (Tryz.prog.info? 50).map (·.size) = some 64 := by kernel_rfl
theorem zero40 (w : World) : (zeroValue 50).run Tryz.prog w = .ok (sv zsec) w := by kernel_rfl
theorem grd40 : Tryz.prog.eqGuardType Tryz.prog.depth 50 = false := by kernel_rfl
section
variable {w : World} {ops : Array Oper} {rest : List Oper} {o : Oper} {a : Act} {Q : Exit → Act → World → Prop}
theorem wpList_alloc40 (hgd : o.guard = none) (ho : o.op = .alloc 50)
    (h : wpList Tryz.prog ops Q rest (a.put o.dst (.pointer (some ⟨w.heap.size, 0, none⟩))) (w.alloc (.cells (u8s zsec).toArray 50))) : wpList Tryz.prog ops Q (o :: rest) a w :=
  wpList_alloc_sec hgd _ ho zsec (zero40 w) h
theorem wpList_load40 (hgd : o.guard = none) (x : Operand) (ho : o.op = .load 50 x) (b off : Nat) (hx : a.eval x = .pointer (some ⟨b, off, none⟩)) (S : Sec) (hr : w.rangeAt b off (u8s S)) (hS : S.length = 64)
    (h : wpList Tryz.prog ops Q rest (a.put o.dst (sv S)) w) : wpList Tryz.prog ops Q (o :: rest) a w :=
  wpList_load_mid hgd _ x ho b off hx (u8s S) _ hr Tryz.underlying50 rfl (by rw [u8s_length, hS]; exact info40) h
theorem wpList_store40 (hgd : o.guard = none) (x y : Operand) (ho : o.op = .store 50 x y) (b off : Nat) (S : Sec) (hx : a.eval x = .pointer (some ⟨b, off, none⟩)) (hy : a.eval y = sv S) (ht : w.there b off 64) (hS : S.length = 64)
    (h : wpList Tryz.prog ops Q rest (a.put o.dst undef) (w.setCells b off (u8s S))) : wpList Tryz.prog ops Q (o :: rest) a w :=
  wpList_store_mid hgd _ x y ho b off (u8s S).toArray hx hy (by simpa [hS] using ht) (by simpa [hS] using info40) (all_oneCell_toArray (u8s_one S)) (by simpa using h)
end
theorem make40 (w : World) (n : Nat) (hn : n ≤ 1024) : (Instr.makeSlice 63 (.int .i64 n) (.int .i64 n)).run Tryz.prog w = .ok (.slice (some ⟨w.heap.size, 0, none⟩) n n) (w.alloc (.cells (zrow n) 50)) := by
  obtain ⟨i, hi, hz⟩ := Option.map_eq_some_iff.1 (show (Tryz.prog.info? 50).map (fun i => (i.zero, i.size, i.bytes)) = some (some (sv zsec), 64, 64) by kernel_rfl)
  simp only [Prod.mk.injEq] at hz
  have h := run_make (P := Tryz.prog) w 63 50 i (sv zsec) Tryz.underlying63 hi hz.1 .i64 .i64 n n (by omega) (by omega) (by rw [hz.2.2]; omega) (by omega)
  rw [h, hz.2.1]
  simp [zrow, sv, Value.cells]
theorem load40 {w : World} {b off : Nat} {S : Sec} (hr : w.rangeAt b off (u8s S)) (hS : S.length = 64) : (loadVar 50 ⟨b, off, none⟩).run Tryz.prog w = .ok (sv S) w :=
  run_loadVar_mid w b off _ (u8s S) _ hr Tryz.underlying50 rfl (by rw [u8s_length, hS]; exact info40)
end Go.Proofs.YtdiemejdbakffaaGreat
namespace Go.Proofs.YtdiemejdbakffaaGreat
open Go.RowKit Go.Maps Go.Shelf
set_option linter.unusedVariables false
set_option linter.unusedSimpArgs false

/-- what Write and Read tell -/
def werr (n : Nat) (i : Int) : Int := if 0 ≤ i ∧ i < n then 0 else 41
def updI (n : Nat) (m : Nat → Option Sec) (i : Int) (S : Sec) : Nat → Option Sec := if 0 ≤ i ∧ i < n then upd m i.toNat S else m
def rdS (n : Nat) (F : Nat → Sec) (m : Nat → Option Sec) (i : Int) : Sec := if 0 ≤ i ∧ i < n then now F m i.toNat else zsec
theorem werr_in {n : Nat} {i : Int} (h : 0 ≤ i ∧ i < n) : werr n i = 0 := if_pos h
theorem werr_out {n : Nat} {i : Int} (h : ¬ (0 ≤ i ∧ i < n)) : werr n i = 41 := if_neg h
theorem updI_nat {n : Nat} {m : Nat → Option Sec} {i : Nat} {S : Sec} (h : i < n) : updI n m (i : Int) S = upd m i S := by
  unfold updI
  rw [if_pos (by omega), Int.toNat_natCast]
theorem rdS_nat {n : Nat} {F : Nat → Sec} {m : Nat → Option Sec} {i : Nat} (h : i < n) : rdS n F m (i : Int) = now F m i := by
  unfold rdS
  rw [if_pos (by omega), Int.toNat_natCast]
theorem write_any (w : World) {p g b n : Nat} {F : Nat → Sec} {m : Nat → Option Sec} (hd : Dsk w p g b n F m) (i : Int) (S : Sec) (hS : S.length = 64) :
    Calls Tryz.prog 13 #[.pointer (some ⟨p, 0, none⟩), .int .i64 i, sv S] w fun e w' => e = .returned (.int .i64 (werr n i)) ∧ Dsk w' p g b n F (updI n m i S) ∧ Chg [b] w w' := by
  by_cases h : 0 ≤ i ∧ i < n
  · obtain ⟨j, rfl⟩ := Int.eq_ofNat_of_zero_le h.1
    rw [werr_in h, updI_nat (by omega)]
    exact write_ok w hd j (by omega) S hS
  · rw [werr_out h, show updI n m i S = m from if_neg h]
    exact (write_no w hd i (by omega) S).mono fun e w' ⟨he, hc⟩ => ⟨he, hd.kept hc, hc.mono (by simp)⟩
theorem read_any (w : World) {p g b n : Nat} {F : Nat → Sec} {m : Nat → Option Sec} (hd : Dsk w p g b n F m) (i : Int) :
    Calls Tryz.prog 23 #[.pointer (some ⟨p, 0, none⟩), .int .i64 i] w fun e w' => e = .returned (.tuple #[sv (rdS n F m i), .int .i64 (werr n i)]) ∧ Chg [] w w' := by
  by_cases h : 0 ≤ i ∧ i < n
  · obtain ⟨j, rfl⟩ := Int.eq_ofNat_of_zero_le h.1
    rw [werr_in h, rdS_nat (by omega)]
    exact read_ok w hd j (by omega)
  · rw [werr_out h, show rdS n F m i = zsec from if_neg h]
    exact read_no w hd i (by omega)
theorem rdS_len {w : World} {p g b n : Nat} {F : Nat → Sec} {m : Nat → Option Sec} (hd : Dsk w p g b n F m) (i : Int) : (rdS n F m i).length = 64 := by
  unfold rdS
  split
  · exact hd.lenN _
  · exact zsec_len
/-- a cell that lay there lies there -/
theorem low_cell {B : Nat} {w w' : World} (h : Below B w w') {b o : Nat} {v : Value} (hb : b < B) (hc : w.cell? ⟨b, o, none⟩ = some v) : w'.cell? ⟨b, o, none⟩ = some v := (h.cell (p := ⟨b, o, none⟩) hb).trans hc
section
variable {w : World} {ops : Array Oper} {rest : List Oper} {o : Oper} {a : Act} {Q : Exit → Act → World → Prop}
/-- a sector loaded at an operation that is guarded, its guard being met -/
theorem wpList_load37G (x : Operand) (ho : o.op = .load 47 x) (b off : Nat) (hx : a.eval x = .pointer (some ⟨b, off, none⟩)) (S : Sec) (hr : w.rangeAt b off (u8s S)) (hS : S.length = 64) (hw : Region.wanted o (yielded ops a.tmps) = true)
    (h : wpList Tryz.prog ops Q rest (a.put o.dst (sv S)) w) : wpList Tryz.prog ops Q (o :: rest) a w :=
  wpList_step fun K hK => by
    rw [if_pos hw]
    exact wp_load_mid _ x ho b off hx (u8s S) _ hr Tryz.underlying47 rfl (by rw [u8s_length, hS]; exact info37) (hK _ _ h)
end
/-- sectors that are one -/
theorem same37 (S : Sec) (hS : S.length = 64) (w : World) : (Op.equalIn 10000 47 (.agg (u8s S).toArray) (.agg (u8s S).toArray)).run Tryz.prog w = .ok true w := by
  have h := run_equal_sec w 9998 47 5 Tryz.underlying47 Tryz.underlying5 (Tryz.sizeOf5 w) S S hS hS
  simpa using h
/-- Dirty: how many -/
theorem dirty_any (w : World) {p g b n : Nat} {F : Nat → Sec} {m : Nat → Option Sec} (hd : Dsk w p g b n F m) (L : Nat) (hL : (dirtyL n m).length = L) :
    Calls Tryz.prog 44 #[.pointer (some ⟨p, 0, none⟩)] w fun e w' => ∃ a c, e = .returned (.slice a L c) ∧ Chg [] w w' := by
  refine (dirty_ok w hd).mono fun e w' ⟨v, he, hrow, hb⟩ => ?_
  obtain ⟨a, c, rfl, ha⟩ := open_row1 hrow
  rw [hL] at he
  exact ⟨a, c, he, (Chg.refl [] w).of_below hb⟩
theorem dirtyL_none (n : Nat) : (dirtyL n fun _ => none).length = 0 := by simp [dirtyL]
theorem dirtyL_all (n : Nat) (m : Nat → Option Sec) (h : ∀ i, i < n → (m i).isSome = true) : (dirtyL n m).length = n := by
  unfold dirtyL
  rw [List.filter_eq_self.2 (fun i hi => h i (by simpa using hi))]
  simp
theorem upd_all {m : Nat → Option Sec} {k : Nat} {S : Sec} (h : ∀ j, j < k → m j = some S) : ∀ j, j < k + 1 → upd m k S j = some S := fun j hj => by
  unfold upd
  by_cases e : j = k
  · rw [if_pos e]
  · rw [if_neg e]; exact h j (by omega)
theorem now_some {F : Nat → Sec} {m : Nat → Option Sec} {i : Nat} {S : Sec} (h : m i = some S) : now F m i = S := by simp [now, h]
theorem now_none (F : Nat → Sec) (i : Nat) : now F (fun _ => none) i = F i := rfl
theorem crashF_nil (F : Nat → Sec) (m : Nat → Option Sec) (i : Nat) : crashF F m [] i = F i := by simp [crashF]
theorem crashF_clean (F : Nat → Sec) (ks : List Bool) (i : Nat) : crashF F (fun _ => none) ks i = F i := by simp [crashF, now]
/-- Read, in whatever world has come of w by growth alone -/
theorem read_at {w : World} {p g b n : Nat} {F : Nat → Sec} {m : Nat → Option Sec} (hd : Dsk w p g b n F m) {S : Sec} {i : Nat} (hi : i < n) (hS : now F m i = S) : ∀ W, Chg [] w W →
    Calls Tryz.prog 23 #[.pointer (some ⟨p, 0, none⟩), .int .i64 i] W fun e w' => e = .returned (.tuple #[sv S, .int .i64 0]) ∧ Chg [] W w' := fun W hW => by
  rw [← hS]
  exact read_ok W (hd.kept hW) i hi
/-- a crash that keeps nothing -/
theorem crash_none {w : World} {p g b n : Nat} {F : Nat → Sec} {m : Nat → Option Sec} (hd : Dsk w p g b n F m) : ∀ W, Chg [] w W →
    Calls Tryz.prog 11 #[.pointer (some ⟨p, 0, none⟩), .slice none 0 0] W fun e w' => ∃ p' g' b', e = .returned (.pointer (some ⟨p', 0, none⟩)) ∧ W.heap.size ≤ p' ∧ W.heap.size ≤ g' ∧ W.heap.size ≤ b' ∧ Dsk w' p' g' b' n (crashF F m []) (fun _ => none) ∧ Chg [] W w' := fun W hW =>
  crash_ok W (hd.kept hW) none [] 0 0 (Ro.nil _ _ _) (by omega) (by simp)
/-- a row of bools of one's own -/
structure BlAt (w : World) (g n : Nat) (B : Nat → Bool) : Prop where
  cell : ∀ j, j < n → w.cell? ⟨g, j, none⟩ = some (.bool (B j))
  free : ∀ j, w.frozen? ⟨g, j, none⟩ = false
theorem make_bl (w : World) (n : Nat) (hn : n ≤ 1024) : (Instr.makeSlice 39 (.int .i64 n) (.int .i64 n)).run Tryz.prog w = .ok (.slice (some ⟨w.heap.size, 0, none⟩) n n) (w.alloc (.cells (madeCells #[.bool false] n) 4)) := by
  obtain ⟨i, hi, hz⟩ := Option.map_eq_some_iff.1 (show (Tryz.prog.info? 4).map (fun i => (i.zero, i.size, i.bytes)) = some (some (.bool false), 1, 1) by kernel_rfl)
  simp only [Prod.mk.injEq] at hz
  have h := run_make (P := Tryz.prog) w 39 4 i (.bool false) Tryz.underlying39 hi hz.1 .i64 .i64 n n (by omega) (by omega) (by rw [hz.2.2]; omega) (by omega)
  rw [h, hz.2.1]
  simp [Value.cells]
theorem blAt_made (w : World) (n : Nat) (t : TypeId) : BlAt (w.alloc (.cells (madeCells #[.bool false] n) t)) w.heap.size n (fun _ => false) := by
  have hb := heap_alloc_new w (.cells (madeCells #[.bool false] n) t)
  refine ⟨fun j hj => ?_, fun j => ?_⟩
  · rw [cell_of_row _ w.heap.size j _ t (0, 0) hb]
    simp [madeCells, hj, Nat.mod_one]
  · unfold World.frozen?
    rw [hb]
    simp
theorem BlAt.keep {w w' : World} {g n : Nat} {B : Nat → Bool} {l : List Nat} (h : BlAt w g n B) (hn : 0 < n) (hc : Chg l w w') (hl : g ∉ l) : BlAt w' g n B := by
  have hlt := World.block_lt_of_cell? w _ (h.cell 0 hn)
  exact ⟨fun j hj => hc.cell (h.cell j hj) hl, fun j => (World.frozen?_of_block (w := w) (w' := w') (a := ⟨g, j, none⟩) (hc.block g hlt hl)).trans (h.free j)⟩
theorem BlAt.set {w : World} {g n : Nat} {B : Nat → Bool} (h : BlAt w g n B) (k : Nat) (hk : k < n) (x : Bool) : BlAt (w.setCell ⟨g, k, none⟩ (.bool x)) g n (fun j => if j = k then x else B j) := by
  refine ⟨fun j hj => ?_, fun j => by rw [World.frozen?_setCell]; exact h.free j⟩
  by_cases e : j = k
  · subst e
    rw [World.cell?_setCell_same _ _ _ (h.cell j hj), if_pos rfl]
  · rw [World.cell?_setCell_other _ _ _ _ (fun e2 => e (by injection e2 with _ e3 _; exact e3.symm)), if_neg e]
    exact h.cell j hj
theorem BlAt.ro {w : World} {g n : Nat} {B : Nat → Bool} (h : BlAt w g n B) (BB : Nat) (hg : g < BB) : Ro w BB (some ⟨g, 0, none⟩) (bls ((List.range n).map B)) := by
  refine .inr ⟨g, 0, rfl, hg, fun i hi => ?_⟩
  have hi' : i < n := by simpa using hi
  rw [Nat.zero_add, h.cell i hi']
  simp [bls, List.getD, hi']
theorem crashF_all {F : Nat → Sec} {m : Nat → Option Sec} {n i : Nat} (hi : i < n) : crashF F m ((List.range n).map fun _ => true) i = now F m i := by
  have h := dirtyL_le i m
  unfold crashF
  rw [if_pos]
  rw [List.getD_eq_getElem?_getD, List.getElem?_map, List.getElem?_range (by omega)]
  rfl
theorem BlAt.congr {w : World} {g n : Nat} {B C : Nat → Bool} (h : BlAt w g n B) (e : ∀ j, j < n → B j = C j) : BlAt w g n C := ⟨fun j hj => by rw [← e j hj]; exact h.cell j hj, h.free⟩
theorem blAt_next {w : World} {g n k : Nat} (h : BlAt w g n fun x => decide (x < k)) (hk : k < n) : BlAt (w.setCell ⟨g, k, none⟩ (.bool true)) g n fun x => decide (x < k + 1) :=
  (h.set k hk true).congr fun j _ => by
    by_cases e : j = k
    · rw [if_pos e]; simp; omega
    · rw [if_neg e]
      by_cases h2 : j < k
      · simp [h2]; omega
      · simp [h2]; omega
section
variable {w : World} {ops : Array Oper} {rest : List Oper} {o : Oper} {a : Act} {Q : Act → Prop}
/-- a whole sector loaded in a region that only reads -/
theorem wpQuiet_load37 (x : Operand) (ho : o.op = .load 47 x) (b off : Nat) (hx : a.eval x = .pointer (some ⟨b, off, none⟩)) (S : Sec) (hr : w.rangeAt b off (u8s S)) (hS : S.length = 64) (hw : Region.wanted o (yielded ops a.tmps) = true)
    (h : wpQuiet Tryz.prog ops (fun w' => ∃ n, w' = w.drewN n) Q rest (a.put o.dst (sv S))) : wpQuiet Tryz.prog ops (fun w' => ∃ n, w' = w.drewN n) Q (o :: rest) a := by
  unfold wpQuiet
  rw [if_pos hw]
  refine ⟨sv S, fun w' hw' => ?_, h⟩
  obtain ⟨n, rfl⟩ := hw'
  have hr' : (w.drewN n).rangeAt b off (u8s S) := ((Chg.refl [] w).drewN n).range hr (by simp)
  have hl := load37 hr' hS
  unfold Oper.quietAt execOp
  simp only [ho, hx, Instr.loadAt, Instr.sureAddr, Sem.run_bind, Sem.run_pure, Result.andThen_ok, hl]
  exact ⟨rfl, rfl⟩
theorem wpQuiet_load40 (x : Operand) (ho : o.op = .load 50 x) (b off : Nat) (hx : a.eval x = .pointer (some ⟨b, off, none⟩)) (S : Sec) (hr : w.rangeAt b off (u8s S)) (hS : S.length = 64) (hw : Region.wanted o (yielded ops a.tmps) = true)
    (h : wpQuiet Tryz.prog ops (fun w' => ∃ n, w' = w.drewN n) Q rest (a.put o.dst (sv S))) : wpQuiet Tryz.prog ops (fun w' => ∃ n, w' = w.drewN n) Q (o :: rest) a := by
  unfold wpQuiet
  rw [if_pos hw]
  refine ⟨sv S, fun w' hw' => ?_, h⟩
  obtain ⟨n, rfl⟩ := hw'
  have hr' : (w.drewN n).rangeAt b off (u8s S) := ((Chg.refl [] w).drewN n).range hr (by simp)
  have hl := load40 hr' hS
  unfold Oper.quietAt execOp
  simp only [ho, hx, Instr.loadAt, Instr.sureAddr, Sem.run_bind, Sem.run_pure, Result.andThen_ok, hl]
  exact ⟨rfl, rfl⟩
end
/-- a row of sectors that is the statement's own -/
structure RwAt (w : World) (f n : Nat) (F : Nat → Sec) : Prop where
  rng : ∀ i, i < n → w.rangeAt f (i * 64) (u8s (F i))
  the : w.there f 0 (n * 64)
theorem RwAt.keep {w w' : World} {f n : Nat} {F : Nat → Sec} {l : List Nat} (h : RwAt w f n F) (hc : Chg l w w') (hl : f ∉ l) : RwAt w' f n F := ⟨fun i hi => hc.range (h.rng i hi) hl, hc.there h.the hl⟩
theorem RwAt.made (w : World) (n : Nat) (t : TypeId) : RwAt (w.alloc (.cells (zrow n) t)) w.heap.size n (fun _ => zsec) := ⟨fun i hi => range_zrow (heap_alloc_new w _) i hi, there_zrow (heap_alloc_new w _)⟩
/-- the first k are new -/
def mixR (F G : Nat → Sec) (k i : Nat) : Sec := if i < k then G i else F i
theorem RwAt.set {w : World} {f n k : Nat} {F G : Nat → Sec} (h : RwAt w f n (mixR F G k)) (hF : ∀ i, (F i).length = 64) (hG : ∀ i, (G i).length = 64) (hk : k < n) : RwAt (w.setCells f (k * 64) (u8s (G k))) f n (mixR F G (k + 1)) := by
  have hlen : ∀ i, (mixR F G k i).length = 64 := fun i => by unfold mixR; split; exact hG i; exact hF i
  have hth : w.there f (k * 64) (u8s (G k)).length := fun j hj => by
    rw [u8s_length, hG] at hj
    have := h.the (k * 64 + j) (by omega)
    simpa using this
  refine ⟨fun i hi => ?_, World.there_setCells h.the _ _ _⟩
  by_cases e : i = k
  · subst e
    rw [show mixR F G (i + 1) i = G i from if_pos (by omega)]
    exact World.rangeAt_setCells_same _ _ _ _ hth
  · rw [show mixR F G (k + 1) i = mixR F G k i by unfold mixR; by_cases h1 : i < k; rw [if_pos h1, if_pos (by omega)]; rw [if_neg h1, if_neg (by omega)]]
    refine World.rangeAt_setCells_apart (h.rng i hi) _ _ _ (.inr ?_)
    rw [u8s_length, u8s_length, hlen, hG]
    omega
theorem RwAt.at_ {w : World} {f n : Nat} {F : Nat → Sec} (h : RwAt w f n F) (k : Nat) (hk : k < n) : w.there f (k * 64) 64 := fun j hj => by
  have := h.the (k * 64 + j) (by omega)
  simpa using this
theorem RwAt.ltf {w : World} {f n : Nat} {F : Nat → Sec} (h : RwAt w f n F) (hn : 0 < n) : f < w.heap.size := by
  obtain ⟨u, hu⟩ := Option.isSome_iff_exists.1 (h.the 0 (by omega)).1
  exact World.block_lt_of_cell? w _ hu
theorem mixR_zero (F G : Nat → Sec) : mixR F G 0 = F := by funext i; simp [mixR]
theorem RwAt.full {w : World} {f n : Nat} {F G : Nat → Sec} (h : RwAt w f n (mixR F G n)) : RwAt w f n G := ⟨fun i hi => by
  have := h.rng i hi
  rwa [show mixR F G n i = G i from if_pos hi] at this, h.the⟩

end Go.Proofs.YtdiemejdbakffaaGreat
namespace Go.Proofs.YtdiemejdbakffaaGreat
open Go.RowKit Go.Maps Go.Shelf
set_option linter.unusedVariables false
set_option linter.unusedSimpArgs false

theorem RwAt.put {w : World} {f n k : Nat} {F : Nat → Sec} {S : Sec} (h : RwAt w f n F) (hF : ∀ i, (F i).length = 64) (hS : S.length = 64) (hk : k < n) : RwAt (w.setCells f (k * 64) (u8s S)) f n (updF F k S) := by
  have hth : w.there f (k * 64) (u8s S).length := fun j hj => by
    rw [u8s_length, hS] at hj
    have := h.the (k * 64 + j) (by omega)
    simpa using this
  refine ⟨fun i hi => ?_, World.there_setCells h.the _ _ _⟩
  by_cases e : i = k
  · subst e
    rw [show updF F i S i = S from if_pos rfl]
    exact World.rangeAt_setCells_same _ _ _ _ hth
  · rw [show updF F k S i = F i from if_neg e]
    refine World.rangeAt_setCells_apart (h.rng i hi) _ _ _ (.inr ?_)
    rw [u8s_length, u8s_length, hF, hS]
    omega
theorem updF_len {F : Nat → Sec} {k : Nat} {S : Sec} (hF : ∀ i, (F i).length = 64) (hS : S.length = 64) (i : Nat) : (updF F k S i).length = 64 := by
  unfold updF
  split
  · exact hS
  · exact hF i
def updB (D : Nat → Bool) (k : Nat) (x : Bool) : Nat → Bool := fun j => if j = k then x else D j
/-- the document's disk: its struct in block q, its rows in blocks gn, go and gd -/
structure Rdk (w : World) (q gn go gd n : Nat) (N O : Nat → Sec) (D : Nat → Bool) : Prop where
  c0 : w.cell? ⟨q, 0, none⟩ = some (.slice (some ⟨gn, 0, none⟩) n n)
  c1 : w.cell? ⟨q, 1, none⟩ = some (.slice (some ⟨go, 0, none⟩) n n)
  c2 : w.cell? ⟨q, 2, none⟩ = some (.slice (some ⟨gd, 0, none⟩) n n)
  one : 1 ≤ n
  top : n ≤ 1024
  lenN : ∀ i, (N i).length = 64
  lenO : ∀ i, (O i).length = 64
  rn : RwAt w gn n N
  ro : RwAt w go n O
  bd : BlAt w gd n D
  ne : q ≠ gn ∧ q ≠ go ∧ q ≠ gd ∧ gn ≠ go ∧ gn ≠ gd ∧ go ≠ gd
section
variable {w w' : World} {q gn go gd n : Nat} {N O : Nat → Sec} {D : Nat → Bool}
theorem Rdk.keep (h : Rdk w q gn go gd n N O D) {l : List Nat} (hc : Chg l w w') (hq : q ∉ l) (h1 : gn ∉ l) (h2 : go ∉ l) (h3 : gd ∉ l) : Rdk w' q gn go gd n N O D :=
  ⟨hc.cell h.c0 hq, hc.cell h.c1 hq, hc.cell h.c2 hq, h.one, h.top, h.lenN, h.lenO, h.rn.keep hc h1, h.ro.keep hc h2, h.bd.keep h.one hc h3, h.ne⟩
theorem Rdk.kept (h : Rdk w q gn go gd n N O D) (hc : Chg [] w w') : Rdk w' q gn go gd n N O D := h.keep hc (by simp) (by simp) (by simp) (by simp)
theorem Rdk.ltq (h : Rdk w q gn go gd n N O D) : q < w.heap.size := World.block_lt_of_cell? w _ h.c0
theorem Rdk.ltn (h : Rdk w q gn go gd n N O D) : gn < w.heap.size := h.rn.ltf h.one
theorem Rdk.lto (h : Rdk w q gn go gd n N O D) : go < w.heap.size := h.ro.ltf h.one
theorem Rdk.ltd (h : Rdk w q gn go gd n N O D) : gd < w.heap.size := World.block_lt_of_cell? w _ (h.bd.cell 0 h.one)
theorem Rdk.setN (h : Rdk w q gn go gd n N O D) (k : Nat) (hk : k < n) (S : Sec) (hS : S.length = 64) : Rdk (w.setCells gn (k * 64) (u8s S)) q gn go gd n (updF N k S) O D := by
  have hc : Chg [gn] w (w.setCells gn (k * 64) (u8s S)) := (Chg.refl [gn] w).setCells (by simp) _ _
  obtain ⟨n1, n2, n3, n4, n5, n6⟩ := h.ne
  refine ⟨hc.cell h.c0 (by simpa using n1), hc.cell h.c1 (by simpa using n1), hc.cell h.c2 (by simpa using n1), h.one, h.top, updF_len h.lenN hS, h.lenO, h.rn.put h.lenN hS hk, h.ro.keep hc (by simp; omega), h.bd.keep h.one hc (by simp; omega), h.ne⟩
theorem Rdk.setO (h : Rdk w q gn go gd n N O D) (k : Nat) (hk : k < n) (S : Sec) (hS : S.length = 64) : Rdk (w.setCells go (k * 64) (u8s S)) q gn go gd n N (updF O k S) D := by
  have hc : Chg [go] w (w.setCells go (k * 64) (u8s S)) := (Chg.refl [go] w).setCells (by simp) _ _
  obtain ⟨n1, n2, n3, n4, n5, n6⟩ := h.ne
  refine ⟨hc.cell h.c0 (by simpa using n2), hc.cell h.c1 (by simpa using n2), hc.cell h.c2 (by simpa using n2), h.one, h.top, h.lenN, updF_len h.lenO hS, h.rn.keep hc (by simp; omega), h.ro.put h.lenO hS hk, h.bd.keep h.one hc (by simp; omega), h.ne⟩
theorem Rdk.setD (h : Rdk w q gn go gd n N O D) (k : Nat) (hk : k < n) (x : Bool) : Rdk (w.setCell ⟨gd, k, none⟩ (.bool x)) q gn go gd n N O (updB D k x) := by
  have hc : Chg [gd] w (w.setCell ⟨gd, k, none⟩ (.bool x)) := (Chg.refl [gd] w).setCell (by simp) _
  obtain ⟨n1, n2, n3, n4, n5, n6⟩ := h.ne
  exact ⟨hc.cell h.c0 (by simpa using n3), hc.cell h.c1 (by simpa using n3), hc.cell h.c2 (by simpa using n3), h.one, h.top, h.lenN, h.lenO, h.rn.keep hc (by simp; omega), h.ro.keep hc (by simp; omega), h.bd.set k hk x, h.ne⟩
end
/-- the three rows, made in any order, and the struct on top -/
theorem rdk_made {w1 : World} {gn go gd n : Nat} {t : TypeId} (h1 : 1 ≤ n) (h2 : n ≤ 1024) (hn : RwAt w1 gn n (fun _ => zsec)) (ho : RwAt w1 go n (fun _ => zsec)) (hb : BlAt w1 gd n (fun _ => false)) (e : gn ≠ go ∧ gn ≠ gd ∧ go ≠ gd) :
    Rdk (w1.alloc (.cells #[.slice (some ⟨gn, 0, none⟩) n n, .slice (some ⟨go, 0, none⟩) n n, .slice (some ⟨gd, 0, none⟩) n n] t)) w1.heap.size gn go gd n (fun _ => zsec) (fun _ => zsec) (fun _ => false) := by
  have hc : Chg [] w1 (w1.alloc (.cells #[.slice (some ⟨gn, 0, none⟩) n n, .slice (some ⟨go, 0, none⟩) n n, .slice (some ⟨gd, 0, none⟩) n n] t)) := (Chg.refl [] w1).alloc _
  have hnew := heap_alloc_new w1 (.cells #[.slice (some ⟨gn, 0, none⟩) n n, .slice (some ⟨go, 0, none⟩) n n, .slice (some ⟨gd, 0, none⟩) n n] t)
  have hl1 := hn.ltf h1
  have hl2 := ho.ltf h1
  have hl3 := World.block_lt_of_cell? w1 _ (hb.cell 0 h1)
  refine ⟨?_, ?_, ?_, h1, h2, fun _ => zsec_len, fun _ => zsec_len, hn.keep hc (by simp), ho.keep hc (by simp), hb.keep h1 hc (by simp), by omega, by omega, ?_, e.1, e.2.1, e.2.2⟩
  · rw [cell_of_row _ w1.heap.size 0 _ _ (0, 0) hnew]; rfl
  · rw [cell_of_row _ w1.heap.size 1 _ _ (0, 0) hnew]; rfl
  · rw [cell_of_row _ w1.heap.size 2 _ _ (0, 0) hnew]; rfl
  · have : gd < w1.heap.size := hl3
    omega
theorem rdk_madeQ {w1 : World} {gn go gd n : Nat} {t : TypeId} (q : Nat) (h1 : 1 ≤ n) (h2 : n ≤ 1024) (hn : RwAt w1 gn n (fun _ => zsec)) (ho : RwAt w1 go n (fun _ => zsec)) (hb : BlAt w1 gd n (fun _ => false)) (e : gn ≠ go ∧ gn ≠ gd ∧ go ≠ gd) (hq : w1.heap.size = q) :
    Rdk (w1.alloc (.cells #[.slice (some ⟨gn, 0, none⟩) n n, .slice (some ⟨go, 0, none⟩) n n, .slice (some ⟨gd, 0, none⟩) n n] t)) q gn go gd n (fun _ => zsec) (fun _ => zsec) (fun _ => false) := by
  subst hq
  exact rdk_made h1 h2 hn ho hb e
theorem rw3a (w : World) (n : Nat) (t : TypeId) (c2 c3 : Obj) : RwAt (((w.alloc (.cells (zrow n) t)).alloc c2).alloc c3) w.heap.size n (fun _ => zsec) := (RwAt.made w n t).keep (((Chg.refl [] _).alloc c2).alloc c3) (by simp)
theorem rw3b (w : World) (n : Nat) (t : TypeId) (c1 c3 : Obj) : RwAt (((w.alloc c1).alloc (.cells (zrow n) t)).alloc c3) (w.heap.size + 1) n (fun _ => zsec) := by
  have h := (RwAt.made (w.alloc c1) n t).keep ((Chg.refl [] _).alloc c3) (by simp)
  rwa [show (w.alloc c1).heap.size = w.heap.size + 1 from by simp] at h
theorem rw3c (w : World) (n : Nat) (t : TypeId) (c1 c2 : Obj) : RwAt (((w.alloc c1).alloc c2).alloc (.cells (zrow n) t)) (w.heap.size + 1 + 1) n (fun _ => zsec) := by
  have h := RwAt.made ((w.alloc c1).alloc c2) n t
  rwa [show ((w.alloc c1).alloc c2).heap.size = w.heap.size + 1 + 1 from by simp] at h
theorem bl3a (w : World) (n : Nat) (t : TypeId) (c2 c3 : Obj) : BlAt (((w.alloc (.cells (madeCells #[.bool false] n) t)).alloc c2).alloc c3) w.heap.size n (fun _ => false) := by
  rcases Nat.eq_zero_or_pos n with h | h
  · subst h
    have hb := blAt_made w 0 t
    refine ⟨fun j hj => by omega, fun j => ?_⟩
    have hc : Chg [] (w.alloc (.cells (madeCells #[.bool false] 0) t)) (((w.alloc (.cells (madeCells #[.bool false] 0) t)).alloc c2).alloc c3) := ((Chg.refl [] _).alloc c2).alloc c3
    exact (World.frozen?_of_block (a := ⟨w.heap.size, j, none⟩) (hc.block w.heap.size (by simp) (by simp))).trans (hb.free j)
  · exact (blAt_made w n t).keep h (((Chg.refl [] _).alloc c2).alloc c3) (by simp)
theorem bl3b (w : World) (n : Nat) (t : TypeId) (c1 c3 : Obj) : BlAt (((w.alloc c1).alloc (.cells (madeCells #[.bool false] n) t)).alloc c3) (w.heap.size + 1) n (fun _ => false) := by
  have hb := blAt_made (w.alloc c1) n t
  rw [show (w.alloc c1).heap.size = w.heap.size + 1 from by simp] at hb
  have hc : Chg [] ((w.alloc c1).alloc (.cells (madeCells #[.bool false] n) t)) (((w.alloc c1).alloc (.cells (madeCells #[.bool false] n) t)).alloc c3) := (Chg.refl [] _).alloc c3
  refine ⟨fun j hj => hc.cell (hb.cell j hj) (by simp), fun j => ?_⟩
  exact (World.frozen?_of_block (a := ⟨w.heap.size + 1, j, none⟩) (hc.block (w.heap.size + 1) (by simp) (by simp))).trans (hb.free j)
theorem bl3c (w : World) (n : Nat) (t : TypeId) (c1 c2 : Obj) : BlAt (((w.alloc c1).alloc c2).alloc (.cells (madeCells #[.bool false] n) t)) (w.heap.size + 1 + 1) n (fun _ => false) := by
  have hb := blAt_made ((w.alloc c1).alloc c2) n t
  rwa [show ((w.alloc c1).alloc c2).heap.size = w.heap.size + 1 + 1 from by simp] at hb
section
variable {w : World} {ops : Array Oper} {rest : List Oper} {o : Oper} {a : Act} {Q : Exit → Act → World → Prop}
theorem wpList_box40 (hgd : o.guard = none) (x : Operand) (ho : o.op = .box 50 x) (S : Sec) (hx : a.eval x = sv S)
    (h : wpList Tryz.prog ops Q rest (a.put o.dst (.pointer (some ⟨w.heap.size, 0, none⟩))) (w.alloc (.cells (u8s S).toArray 50))) : wpList Tryz.prog ops Q (o :: rest) a w :=
  wpList_plain hgd fun _ hK => by
    unfold Oper.wp execOp
    simp only [ho, Sem.run_bind]
    simp [hx, Instr.box, newVar, newRow, sv, Value.cells]
    exact hK _ _ h
end
theorem made_no (w : World) (i : Int) (h : i < 1 ∨ 1024 < i) :
    Calls Tryz.prog 6 #[.int .i64 i] w fun e w' => e = .returned (.tuple #[.pointer none, .int .i64 1]) ∧ w = w' := by
  have hcase : decide (i < 1) = true ∨ (decide (i < 1) = false ∧ decide (1024 < i) = true) := by
    by_cases h1 : i < 1
    · exact .inl (by simpa using h1)
    · exact .inr ⟨by simpa using h1, by simp; omega⟩
  rcases hcase with h1 | ⟨h1, h2⟩
  all_goals
    go_enter Tryz.func6, Tryz.ntmps6
    go_wp2
    go_ret2
    exact ⟨rfl, rfl⟩
theorem is_ok (w : World) {q gn go gd n : Nat} {N O : Nat → Sec} {D : Nat → Bool} (hd : Rdk w q gn go gd n N O D) (i : Int) (B : Bool) (hB : decide (0 ≤ i ∧ i < n) = B) :
    Calls Tryz.prog 46 #[.pointer (some ⟨q, 0, none⟩), .int .i64 i] w fun e w' => e = .returned (.bool B) ∧ w = w' := by
  have hc0 := hd.c0
  subst hB
  by_cases h0 : 0 ≤ i
  · have h1 : decide (0 ≤ i) = true := by simpa using h0
    by_cases h2 : i < n
    · have h3 : decide (i < (n : Int)) = true := by simpa using h2
      have h4 : decide (0 ≤ i ∧ i < n) = true := by simp; omega
      rw [h4]
      clear hd
      go_enter Tryz.func46, Tryz.ntmps46
      go_wp2
      go_ret
      exact ⟨rfl, rfl⟩
    · have h3 : decide (i < (n : Int)) = false := by simpa using h2
      have h4 : decide (0 ≤ i ∧ i < n) = false := by simp; omega
      rw [h4]
      clear hd
      go_enter Tryz.func46, Tryz.ntmps46
      go_wp2
      go_ret
      exact ⟨rfl, rfl⟩
  · have h1 : decide (0 ≤ i) = false := by simpa using h0
    have h4 : decide (0 ≤ i ∧ i < n) = false := by simp; omega
    rw [h4]
    clear hd
    go_enter Tryz.func46, Tryz.ntmps46
    go_wp2
    go_ret
    exact ⟨rfl, rfl⟩
theorem rwrite_no (w : World) {q gn go gd n : Nat} {N O : Nat → Sec} {D : Nat → Bool} (hd : Rdk w q gn go gd n N O D) (i : Int) (h : ¬ (0 ≤ i ∧ i < n)) (S : Sec) :
    Calls Tryz.prog 15 #[.pointer (some ⟨q, 0, none⟩), .int .i64 i, sv S] w fun e w' => e = .returned (.int .i64 41) ∧ Chg [] w w' := by
  have hd2 := hd.kept ((Chg.refl [] w).alloc (.cells (u8s S).toArray 50))
  have HC := Lib.hid (is_ok _ hd2 i false (by simpa using h))
  clear hd hd2 h
  go_enter Tryz.func15, Tryz.ntmps15
  go_wp2_with (first
    | (refine wpList_box40 rfl _ rfl S rfl ?_)
    | (go_at_call 46; refine HC.out.mono ?_; rintro e w' ⟨rfl, rfl⟩)
    | fail)
  go_ret
  exact ⟨rfl, (Chg.refl [] w).alloc _⟩
set_option maxRecDepth 100000 in
theorem rwrite_ok (w : World) {q gn go gd n : Nat} {N O : Nat → Sec} {D : Nat → Bool} (hd : Rdk w q gn go gd n N O D) (i : Nat) (hi : i < n) (S : Sec) (hS : S.length = 64) :
    Calls Tryz.prog 15 #[.pointer (some ⟨q, 0, none⟩), .int .i64 i, sv S] w fun e w' => e = .returned (.int .i64 0) ∧ Rdk w' q gn go gd n (updF N i S) O (updB D i true) ∧ Chg [gn, gd] w w' := by
  have hC1 : Chg [] w (w.alloc (.cells (u8s S).toArray 50)) := (Chg.refl [] w).alloc _
  have hd2 := hd.kept hC1
  have HC := Lib.hid (is_ok _ hd2 i true (by simp; omega))
  have hd3 := hd2.kept ((Chg.refl [] (w.alloc (.cells (u8s S).toArray 50))).drew)
  have hd4 := hd3.setN i hi S hS
  have hd5 := hd4.setD i hi true
  have hc0 := hd3.c0
  have hc0' := hd4.c0
  have hc2' := hd4.c2
  have hcd := hd4.bd.cell i hi
  have hfz := hd4.bd.free i
  have hgn : gn ≠ w.heap.size := by have := hd.ltn; omega
  have hrg : (w.alloc (.cells (u8s S).toArray 50)).drew.rangeAt w.heap.size 0 (u8s S) := (World.rangeAt_drew _ _ _ _).2 (range_box w S _)
  have hu := Tryz.underlying50
  have hinf : (Tryz.prog.info? 50).map (·.size) = some (u8s S).length := by rw [u8s_length, hS]; exact info40
  have hCw : Chg [gn] (w.alloc (.cells (u8s S).toArray 50)).drew ((w.alloc (.cells (u8s S).toArray 50)).drew.setCells gn (i * 64) (u8s S)) := (Chg.refl [gn] _).setCells (by simp) _ _
  have hrg2 := hCw.range hrg (by simp; exact fun e => hgn e.symm)
  have hT : (w.alloc (.cells (u8s S).toArray 50)).drew.there gn (i * 64) (u8s S).length := by rw [u8s_length, hS]; exact hd3.rn.at_ i hi
  have hT2 : ((w.alloc (.cells (u8s S).toArray 50)).drew.setCells gn (i * 64) (u8s S)).there gn (i * 64) (u8s S).length := by rw [u8s_length, hS]; exact hd4.rn.at_ i hi
  have hone := u8s_one S
  have hi0 : (0 : Int) ≤ (i : Int) := by omega
  have hi1 : (i : Int) < (n : Int) := by omega
  have HD := Lib.hid hd5
  have HX := Lib.hid (((hC1.drew.mono (l' := [gn, gd]) (by simp)).then hCw (by simp)).setCell (p := ⟨gd, i, none⟩) (by simp) (.bool true))
  clear hd hd2 hd3 hd4 hd5 hC1 hCw
  go_enter Tryz.func15, Tryz.ntmps15
  go_wp2_with (first
    | (refine wpList_box40 rfl _ rfl S rfl ?_)
    | (go_at_call 46; refine HC.out.mono ?_; rintro e w' ⟨rfl, rfl⟩)
    | fail)
  go_region_held3 (fun w' => w'.cell? ⟨q, 0, none⟩ = some (.slice (some ⟨gn, 0, none⟩) n n) ∧ w'.rangeAt w.heap.size 0 (u8s S) ∧ w'.there gn (i * 64) (u8s S).length) (first | assumption | (exact ⟨hc0, hrg, hT⟩) | (exact ⟨hc0', hrg2, hT2⟩)) (fail)
  go_wp2
  go_ret
  exact ⟨rfl, HD.out, HX.out⟩
set_option maxRecDepth 100000 in
theorem made_ok (w : World) (n : Nat) (h1 : 1 ≤ n) (h2 : n ≤ 1024) :
    Calls Tryz.prog 6 #[.int .i64 n] w fun e w' => ∃ q gn go gd, e = .returned (.tuple #[.pointer (some ⟨q, 0, none⟩), .int .i64 0]) ∧ w.heap.size ≤ q ∧ w.heap.size ≤ gn ∧ w.heap.size ≤ go ∧ w.heap.size ≤ gd ∧
      Rdk w' q gn go gd n (fun _ => zsec) (fun _ => zsec) (fun _ => false) ∧ Chg [] w w' := by
  have hmk := fun w => make40 w n h2
  have hmb := fun w => make_bl w n h2
  have e1 : decide ((n : Int) < 1) = false := by simp; omega
  have e2 : decide ((1024 : Int) < n) = false := by simp; omega
  have e5 : decide (n < 1) = false := by simp; omega
  have e6 : decide (1024 < n) = false := by simp; omega
  go_enter Tryz.func6, Tryz.ntmps6
  go_wp2_with fail
  go_region
  all_goals
    go_wp2_with fail
    go_ret2
    refine ⟨_, _, _, _, rfl, by omega, by omega, by omega, by omega, (rdk_madeQ _ h1 h2 (by first | with_reducible exact rw3a _ _ _ _ _ | with_reducible exact rw3b _ _ _ _ _ | with_reducible exact rw3c _ _ _ _ _) (by first | with_reducible exact rw3a _ _ _ _ _ | with_reducible exact rw3b _ _ _ _ _ | with_reducible exact rw3c _ _ _ _ _) (by first | with_reducible exact bl3a _ _ _ _ _ | with_reducible exact bl3b _ _ _ _ _ | with_reducible exact bl3c _ _ _ _ _) (by omega) (by simp)).kept ((Chg.refl [] _).drew), (((((Chg.refl [] w).alloc _).alloc _).alloc _).alloc _).drew⟩
end Go.Proofs.YtdiemejdbakffaaGreat
