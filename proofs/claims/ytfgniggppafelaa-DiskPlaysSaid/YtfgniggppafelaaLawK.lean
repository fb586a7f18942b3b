/-
  Words and contracts that the statements' walks share: Write and Read at any place. No claim of their own.
-/
import Derived.Test.YtfgniggppafelaaAlv4
import Derived.Test.YtfgniggppafelaaActs
import Derived.Deep.QuietTactic
import Derived.BigQuiet
namespace Go.Proofs.Ytfgniggppafelaa
open Go.RowKit Go.Maps Go.Shelf
set_option linter.unusedVariables false
set_option linter.unusedSimpArgs false

/-- what Write and Read tell -/
def werr (n : Nat) (i : Int) : Int := if 0 ≤ i ∧ i < n then 0 else 41
def updI (n : Nat) (m : Nat → Option Sec) (i : Int) (S : Sec) : Nat → Option Sec := if 0 ≤ i ∧ i < n then upd m i.toNat S else m
def rdS (n : Nat) (F : Nat → Sec) (m : Nat → Option Sec) (i : Int) : Sec := if 0 ≤ i ∧ i < n then now F m i.toNat else zsec
theorem werr_in {n : Nat} {i : Int} (h : 0 ≤ i ∧ i < n) : werr n i = 0 := if_pos h
theorem werr_out {n : Nat} {i : Int} (h : ¬ (0 ≤ i ∧ i < n)) : werr n i = 41 := if_neg h
theorem updI_nat {n : Nat} {m : Nat → Option Sec} {i : Nat} {S : Sec} (h : i < n) : updI n m (i : Int) S = upd m i S := by
  unfold updI
  rw [if_pos (by omega), Int.toNat_natCast]
theorem rdS_nat {n : Nat} {F : Nat → Sec} {m : Nat → Option Sec} {i : Nat} (h : i < n) : rdS n F m (i : Int) = now F m i := by
  unfold rdS
  rw [if_pos (by omega), Int.toNat_natCast]
theorem write_any (w : World) {p g b n : Nat} {F : Nat → Sec} {m : Nat → Option Sec} (hd : Dsk w p g b n F m) (i : Int) (S : Sec) (hS : S.length = 64) :
    Calls Try.prog 11 #[.pointer (some ⟨p, 0, none⟩), .int .i64 i, sv S] w fun e w' => e = .returned (.int .i64 (werr n i)) ∧ Dsk w' p g b n F (updI n m i S) ∧ Chg [b] w w' := by
  by_cases h : 0 ≤ i ∧ i < n
  · obtain ⟨j, rfl⟩ := Int.eq_ofNat_of_zero_le h.1
    rw [werr_in h, updI_nat (by omega)]
    exact write_ok w hd j (by omega) S hS
  · rw [werr_out h, show updI n m i S = m from if_neg h]
    exact (write_no w hd i (by omega) S).mono fun e w' ⟨he, hc⟩ => ⟨he, hd.kept hc, hc.mono (by simp)⟩
theorem read_any (w : World) {p g b n : Nat} {F : Nat → Sec} {m : Nat → Option Sec} (hd : Dsk w p g b n F m) (i : Int) :
    Calls Try.prog 20 #[.pointer (some ⟨p, 0, none⟩), .int .i64 i] w fun e w' => e = .returned (.tuple #[sv (rdS n F m i), .int .i64 (werr n i)]) ∧ Chg [] w w' := by
  by_cases h : 0 ≤ i ∧ i < n
  · obtain ⟨j, rfl⟩ := Int.eq_ofNat_of_zero_le h.1
    rw [werr_in h, rdS_nat (by omega)]
    exact read_ok w hd j (by omega)
  · rw [werr_out h, show rdS n F m i = zsec from if_neg h]
    exact read_no w hd i (by omega)
theorem rdS_len {w : World} {p g b n : Nat} {F : Nat → Sec} {m : Nat → Option Sec} (hd : Dsk w p g b n F m) (i : Int) : (rdS n F m i).length = 64 := by
  unfold rdS
  split
  · exact hd.lenN _
  · exact zsec_len
/-- a cell that lay there lies there -/
theorem low_cell {B : Nat} {w w' : World} (h : Below B w w') {b o : Nat} {v : Value} (hb : b < B) (hc : w.cell? ⟨b, o, none⟩ = some v) : w'.cell? ⟨b, o, none⟩ = some v := (h.cell (p := ⟨b, o, none⟩) hb).trans hc
/-- the cells of act k -/
structure ActAt (w : World) (b off k : Nat) (A : ActD) : Prop where
  c0 : w.cell? ⟨b, off + k * 4, none⟩ = some (.int .i64 A.kd)
  c1 : w.cell? ⟨b, off + k * 4 + 1, none⟩ = some (.int .i64 A.i)
  c2 : w.cell? ⟨b, off + k * 4 + 2, none⟩ = some (.slice A.ab A.bs.length A.cb)
  c3 : w.cell? ⟨b, off + k * 4 + 3, none⟩ = some (.slice A.ak A.ks.length A.ck)
theorem IsActs.at_ {w : World} {a : Option Addr} {len : Nat} {A : Nat → ActD} (h : IsActs w a len A) (hp : 0 < len) :
    ∃ b off, a = some ⟨b, off, none⟩ ∧ b < w.heap.size ∧ ∀ w', Below w.heap.size w w' → ∀ k, k < len → ActOk w' (A k) ∧ ActAt w' b off k (A k) := by
  obtain ⟨b, off, h1, h2, h3⟩ := h.2 hp
  refine ⟨b, off, h1, h2, fun w' hw k hk => ?_⟩
  obtain ⟨g0, g1, g2, g3, g4⟩ := h3 k hk
  exact ⟨g0.keep hw, low_cell hw h2 g1, low_cell hw h2 g2, low_cell hw h2 g3, low_cell hw h2 g4⟩
theorem new_ex (w : World) (n : Nat) (h1 : 1 ≤ n) (h2 : n ≤ 1024) :
    Calls Try.prog 8 #[.int .i64 n] w fun e w' => ∃ p g b, e = .returned (.tuple #[.pointer (some ⟨p, 0, none⟩), .int .i64 0]) ∧ w.heap.size ≤ p ∧ w.heap.size ≤ g ∧ w.heap.size ≤ b ∧ Dsk w' p g b n (fun _ => zsec) (fun _ => none) ∧ Chg [] w w' :=
  (new_ok w n h1 h2).mono fun e w' ⟨he, hd, hc⟩ => ⟨_, _, _, he, by omega, by omega, by omega, hd, hc⟩
/-- the two calls of a statement that writes an act's bytes -/
theorem act_fill {wr : World} {A : ActD} (h : ActOk wr A) : Calls Try.prog 12 #[.slice A.ab A.bs.length A.cb] wr.drew fun e w' => e = .returned (sv (fillS A.bs)) ∧ Chg [] wr w' :=
  (fill_any wr.drew A.ab A.bs A.cb wr.heap.size (h.ab.qt ⟨1, rfl⟩) (Nat.le_refl _)).mono fun e w' ⟨he, hc⟩ => ⟨he, ((Chg.refl [] wr).drew).trans hc⟩
theorem act_write {wr : World} {p g b n : Nat} {F : Nat → Sec} {m : Nat → Option Sec} (hd : Dsk wr p g b n F m) (A : ActD) : ∀ W, Chg [] wr W →
    Calls Try.prog 11 #[.pointer (some ⟨p, 0, none⟩), .int .i64 A.i, sv (fillS A.bs)] W fun e w' => e = .returned (.int .i64 (werr n A.i)) ∧ Hid (Dsk w' p g b n F (updI n m A.i (fillS A.bs))) ∧ Chg [b] wr w' := fun W hW =>
  (write_any W (hd.kept hW) A.i (fillS A.bs) (fillS_len _)).mono fun e w' ⟨he, hd', hc⟩ => ⟨he, Lib.hid hd', (hW.mono (by simp)).trans hc⟩
section
variable {w : World} {ops : Array Oper} {rest : List Oper} {o : Oper} {a : Act} {Q : Exit → Act → World → Prop}
/-- a sector loaded at an operation that is guarded, its guard being met -/
theorem wpList_load37G (x : Operand) (ho : o.op = .load 37 x) (b off : Nat) (hx : a.eval x = .pointer (some ⟨b, off, none⟩)) (S : Sec) (hr : w.rangeAt b off (u8s S)) (hS : S.length = 64) (hw : Region.wanted o (yielded ops a.tmps) = true)
    (h : wpList Try.prog ops Q rest (a.put o.dst (sv S)) w) : wpList Try.prog ops Q (o :: rest) a w :=
  wpList_step fun K hK => by
    rw [if_pos hw]
    exact wp_load_mid _ x ho b off hx (u8s S) _ hr Try.underlying37 rfl (by rw [u8s_length, hS]; exact info37) (hK _ _ h)
end
/-- sectors that are one -/
theorem same37 (S : Sec) (hS : S.length = 64) (w : World) : (Op.equalIn 10000 37 (.agg (u8s S).toArray) (.agg (u8s S).toArray)).run Try.prog w = .ok true w := by
  have h := run_equal_sec w 9998 37 5 Try.underlying37 Try.underlying5 (Try.sizeOf5 w) S S hS hS
  simpa using h
/-- Dirty: how many -/
theorem dirty_any (w : World) {p g b n : Nat} {F : Nat → Sec} {m : Nat → Option Sec} (hd : Dsk w p g b n F m) (L : Nat) (hL : (dirtyL n m).length = L) :
    Calls Try.prog 22 #[.pointer (some ⟨p, 0, none⟩)] w fun e w' => ∃ a c, e = .returned (.slice a L c) ∧ Chg [] w w' := by
  refine (dirty_ok w hd).mono fun e w' ⟨v, he, hrow, hb⟩ => ?_
  obtain ⟨a, c, rfl, ha⟩ := open_row1 hrow
  rw [hL] at he
  exact ⟨a, c, he, (Chg.refl [] w).of_below hb⟩
theorem dirtyL_none (n : Nat) : (dirtyL n fun _ => none).length = 0 := by simp [dirtyL]
theorem dirtyL_all (n : Nat) (m : Nat → Option Sec) (h : ∀ i, i < n → (m i).isSome = true) : (dirtyL n m).length = n := by
  unfold dirtyL
  rw [List.filter_eq_self.2 (fun i hi => h i (by simpa using hi))]
  simp
theorem upd_all {m : Nat → Option Sec} {k : Nat} {S : Sec} (h : ∀ j, j < k → m j = some S) : ∀ j, j < k + 1 → upd m k S j = some S := fun j hj => by
  unfold upd
  by_cases e : j = k
  · rw [if_pos e]
  · rw [if_neg e]; exact h j (by omega)
theorem now_some {F : Nat → Sec} {m : Nat → Option Sec} {i : Nat} {S : Sec} (h : m i = some S) : now F m i = S := by simp [now, h]
theorem now_none (F : Nat → Sec) (i : Nat) : now F (fun _ => none) i = F i := rfl
theorem crashF_nil (F : Nat → Sec) (m : Nat → Option Sec) (i : Nat) : crashF F m [] i = F i := by simp [crashF]
theorem crashF_clean (F : Nat → Sec) (ks : List Bool) (i : Nat) : crashF F (fun _ => none) ks i = F i := by simp [crashF, now]
/-- Read, in whatever world has come of w by growth alone -/
theorem read_at {w : World} {p g b n : Nat} {F : Nat → Sec} {m : Nat → Option Sec} (hd : Dsk w p g b n F m) {S : Sec} {i : Nat} (hi : i < n) (hS : now F m i = S) : ∀ W, Chg [] w W →
    Calls Try.prog 20 #[.pointer (some ⟨p, 0, none⟩), .int .i64 i] W fun e w' => e = .returned (.tuple #[sv S, .int .i64 0]) ∧ Chg [] W w' := fun W hW => by
  rw [← hS]
  exact read_ok W (hd.kept hW) i hi
/-- a crash that keeps nothing -/
theorem crash_none {w : World} {p g b n : Nat} {F : Nat → Sec} {m : Nat → Option Sec} (hd : Dsk w p g b n F m) : ∀ W, Chg [] w W →
    Calls Try.prog 17 #[.pointer (some ⟨p, 0, none⟩), .slice none 0 0] W fun e w' => ∃ p' g' b', e = .returned (.pointer (some ⟨p', 0, none⟩)) ∧ W.heap.size ≤ p' ∧ W.heap.size ≤ g' ∧ W.heap.size ≤ b' ∧ Dsk w' p' g' b' n (crashF F m []) (fun _ => none) ∧ Chg [] W w' := fun W hW =>
  crash_ok W (hd.kept hW) none [] 0 0 (Ro.nil _ _ _) (by omega) (by simp)
/-- a row of bools of one's own -/
structure BlAt (w : World) (g n : Nat) (B : Nat → Bool) : Prop where
  cell : ∀ j, j < n → w.cell? ⟨g, j, none⟩ = some (.bool (B j))
  free : ∀ j, w.frozen? ⟨g, j, none⟩ = false
theorem make_bl (w : World) (n : Nat) (hn : n ≤ 1024) : (Instr.makeSlice 32 (.int .i64 n) (.int .i64 n)).run Try.prog w = .ok (.slice (some ⟨w.heap.size, 0, none⟩) n n) (w.alloc (.cells (madeCells #[.bool false] n) 4)) := by
  obtain ⟨i, hi, hz⟩ := Option.map_eq_some_iff.1 (show (Try.prog.info? 4).map (fun i => (i.zero, i.size, i.bytes)) = some (some (.bool false), 1, 1) by kernel_rfl)
  simp only [Prod.mk.injEq] at hz
  have h := run_make (P := Try.prog) w 32 4 i (.bool false) Try.underlying32 hi hz.1 .i64 .i64 n n (by omega) (by omega) (by rw [hz.2.2]; omega) (by omega)
  rw [h, hz.2.1]
  simp [Value.cells]
theorem blAt_made (w : World) (n : Nat) (t : TypeId) : BlAt (w.alloc (.cells (madeCells #[.bool false] n) t)) w.heap.size n (fun _ => false) := by
  have hb := heap_alloc_new w (.cells (madeCells #[.bool false] n) t)
  refine ⟨fun j hj => ?_, fun j => ?_⟩
  · rw [cell_of_row _ w.heap.size j _ t (0, 0) hb]
    simp [madeCells, hj, Nat.mod_one]
  · unfold World.frozen?
    rw [hb]
    simp
theorem BlAt.keep {w w' : World} {g n : Nat} {B : Nat → Bool} {l : List Nat} (h : BlAt w g n B) (hn : 0 < n) (hc : Chg l w w') (hl : g ∉ l) : BlAt w' g n B := by
  have hlt := World.block_lt_of_cell? w _ (h.cell 0 hn)
  exact ⟨fun j hj => hc.cell (h.cell j hj) hl, fun j => (World.frozen?_of_block (w := w) (w' := w') (a := ⟨g, j, none⟩) (hc.block g hlt hl)).trans (h.free j)⟩
theorem BlAt.set {w : World} {g n : Nat} {B : Nat → Bool} (h : BlAt w g n B) (k : Nat) (hk : k < n) (x : Bool) : BlAt (w.setCell ⟨g, k, none⟩ (.bool x)) g n (fun j => if j = k then x else B j) := by
  refine ⟨fun j hj => ?_, fun j => by rw [World.frozen?_setCell]; exact h.free j⟩
  by_cases e : j = k
  · subst e
    rw [World.cell?_setCell_same _ _ _ (h.cell j hj), if_pos rfl]
  · rw [World.cell?_setCell_other _ _ _ _ (fun e2 => e (by injection e2 with _ e3 _; exact e3.symm)), if_neg e]
    exact h.cell j hj
theorem BlAt.ro {w : World} {g n : Nat} {B : Nat → Bool} (h : BlAt w g n B) (BB : Nat) (hg : g < BB) : Ro w BB (some ⟨g, 0, none⟩) (bls ((List.range n).map B)) := by
  refine .inr ⟨g, 0, rfl, hg, fun i hi => ?_⟩
  have hi' : i < n := by simpa using hi
  rw [Nat.zero_add, h.cell i hi']
  simp [bls, List.getD, hi']
theorem crashF_all {F : Nat → Sec} {m : Nat → Option Sec} {n i : Nat} (hi : i < n) : crashF F m ((List.range n).map fun _ => true) i = now F m i := by
  have h := dirtyL_le i m
  unfold crashF
  rw [if_pos]
  rw [List.getD_eq_getElem?_getD, List.getElem?_map, List.getElem?_range (by omega)]
  rfl
theorem BlAt.congr {w : World} {g n : Nat} {B C : Nat → Bool} (h : BlAt w g n B) (e : ∀ j, j < n → B j = C j) : BlAt w g n C := ⟨fun j hj => by rw [← e j hj]; exact h.cell j hj, h.free⟩
theorem blAt_next {w : World} {g n k : Nat} (h : BlAt w g n fun x => decide (x < k)) (hk : k < n) : BlAt (w.setCell ⟨g, k, none⟩ (.bool true)) g n fun x => decide (x < k + 1) :=
  (h.set k hk true).congr fun j _ => by
    by_cases e : j = k
    · rw [if_pos e]; simp; omega
    · rw [if_neg e]
      by_cases h2 : j < k
      · simp [h2]; omega
      · simp [h2]; omega
section
variable {w : World} {ops : Array Oper} {rest : List Oper} {o : Oper} {a : Act} {Q : Act → Prop}
/-- a whole sector loaded in a region that only reads -/
theorem wpQuiet_load37 (x : Operand) (ho : o.op = .load 37 x) (b off : Nat) (hx : a.eval x = .pointer (some ⟨b, off, none⟩)) (S : Sec) (hr : w.rangeAt b off (u8s S)) (hS : S.length = 64) (hw : Region.wanted o (yielded ops a.tmps) = true)
    (h : wpQuiet Try.prog ops (fun w' => ∃ n, w' = w.drewN n) Q rest (a.put o.dst (sv S))) : wpQuiet Try.prog ops (fun w' => ∃ n, w' = w.drewN n) Q (o :: rest) a := by
  unfold wpQuiet
  rw [if_pos hw]
  refine ⟨sv S, fun w' hw' => ?_, h⟩
  obtain ⟨n, rfl⟩ := hw'
  have hr' : (w.drewN n).rangeAt b off (u8s S) := ((Chg.refl [] w).drewN n).range hr (by simp)
  have hl := load37 hr' hS
  unfold Oper.quietAt execOp
  simp only [ho, hx, Instr.loadAt, Instr.sureAddr, Sem.run_bind, Sem.run_pure, Result.andThen_ok, hl]
  exact ⟨rfl, rfl⟩
theorem wpQuiet_load40 (x : Operand) (ho : o.op = .load 40 x) (b off : Nat) (hx : a.eval x = .pointer (some ⟨b, off, none⟩)) (S : Sec) (hr : w.rangeAt b off (u8s S)) (hS : S.length = 64) (hw : Region.wanted o (yielded ops a.tmps) = true)
    (h : wpQuiet Try.prog ops (fun w' => ∃ n, w' = w.drewN n) Q rest (a.put o.dst (sv S))) : wpQuiet Try.prog ops (fun w' => ∃ n, w' = w.drewN n) Q (o :: rest) a := by
  unfold wpQuiet
  rw [if_pos hw]
  refine ⟨sv S, fun w' hw' => ?_, h⟩
  obtain ⟨n, rfl⟩ := hw'
  have hr' : (w.drewN n).rangeAt b off (u8s S) := ((Chg.refl [] w).drewN n).range hr (by simp)
  have hl := load40 hr' hS
  unfold Oper.quietAt execOp
  simp only [ho, hx, Instr.loadAt, Instr.sureAddr, Sem.run_bind, Sem.run_pure, Result.andThen_ok, hl]
  exact ⟨rfl, rfl⟩
end
/-- a row of sectors that is the statement's own -/
structure RwAt (w : World) (f n : Nat) (F : Nat → Sec) : Prop where
  rng : ∀ i, i < n → w.rangeAt f (i * 64) (u8s (F i))
  the : w.there f 0 (n * 64)
theorem RwAt.keep {w w' : World} {f n : Nat} {F : Nat → Sec} {l : List Nat} (h : RwAt w f n F) (hc : Chg l w w') (hl : f ∉ l) : RwAt w' f n F := ⟨fun i hi => hc.range (h.rng i hi) hl, hc.there h.the hl⟩
theorem RwAt.made (w : World) (n : Nat) (t : TypeId) : RwAt (w.alloc (.cells (zrow n) t)) w.heap.size n (fun _ => zsec) := ⟨fun i hi => range_zrow (heap_alloc_new w _) i hi, there_zrow (heap_alloc_new w _)⟩
/-- the first k are new -/
def mixR (F G : Nat → Sec) (k i : Nat) : Sec := if i < k then G i else F i
theorem RwAt.set {w : World} {f n k : Nat} {F G : Nat → Sec} (h : RwAt w f n (mixR F G k)) (hF : ∀ i, (F i).length = 64) (hG : ∀ i, (G i).length = 64) (hk : k < n) : RwAt (w.setCells f (k * 64) (u8s (G k))) f n (mixR F G (k + 1)) := by
  have hlen : ∀ i, (mixR F G k i).length = 64 := fun i => by unfold mixR; split; exact hG i; exact hF i
  have hth : w.there f (k * 64) (u8s (G k)).length := fun j hj => by
    rw [u8s_length, hG] at hj
    have := h.the (k * 64 + j) (by omega)
    simpa using this
  refine ⟨fun i hi => ?_, World.there_setCells h.the _ _ _⟩
  by_cases e : i = k
  · subst e
    rw [show mixR F G (i + 1) i = G i from if_pos (by omega)]
    exact World.rangeAt_setCells_same _ _ _ _ hth
  · rw [show mixR F G (k + 1) i = mixR F G k i by unfold mixR; by_cases h1 : i < k; rw [if_pos h1, if_pos (by omega)]; rw [if_neg h1, if_neg (by omega)]]
    refine World.rangeAt_setCells_apart (h.rng i hi) _ _ _ (.inr ?_)
    rw [u8s_length, u8s_length, hlen, hG]
    omega
theorem RwAt.at_ {w : World} {f n : Nat} {F : Nat → Sec} (h : RwAt w f n F) (k : Nat) (hk : k < n) : w.there f (k * 64) 64 := fun j hj => by
  have := h.the (k * 64 + j) (by omega)
  simpa using this
theorem RwAt.ltf {w : World} {f n : Nat} {F : Nat → Sec} (h : RwAt w f n F) (hn : 0 < n) : f < w.heap.size := by
  obtain ⟨u, hu⟩ := Option.isSome_iff_exists.1 (h.the 0 (by omega)).1
  exact World.block_lt_of_cell? w _ hu
theorem mixR_zero (F G : Nat → Sec) : mixR F G 0 = F := by funext i; simp [mixR]
theorem RwAt.full {w : World} {f n : Nat} {F G : Nat → Sec} (h : RwAt w f n (mixR F G n)) : RwAt w f n G := ⟨fun i hi => by
  have := h.rng i hi
  rwa [show mixR F G n i = G i from if_pos hi] at this, h.the⟩

end Go.Proofs.Ytfgniggppafelaa
