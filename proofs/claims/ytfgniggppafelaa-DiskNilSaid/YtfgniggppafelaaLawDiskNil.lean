/-
  The statement DiskNil, walked: no disk. No condition but the ranges of the arguments.
-/
import Derived.Test.YtfgniggppafelaaAlv4
import Derived.Test.YtfgniggppafelaaActs
namespace Go.Proofs.Ytfgniggppafelaa
open Go.RowKit Go.Maps Go.Shelf
set_option linter.unusedVariables false
set_option linter.unusedSimpArgs false

theorem build37_run (w : World) : (Instr.build 37 #[]).run Try.prog w = .ok (sv zsec) w := by kernel_rfl
theorem zlit : (u8s zsec).toArray = #[.int .u8 0, .int .u8 0, .int .u8 0, .int .u8 0, .int .u8 0, .int .u8 0, .int .u8 0, .int .u8 0, .int .u8 0, .int .u8 0, .int .u8 0, .int .u8 0, .int .u8 0, .int .u8 0, .int .u8 0, .int .u8 0, .int .u8 0, .int .u8 0, .int .u8 0, .int .u8 0, .int .u8 0, .int .u8 0, .int .u8 0, .int .u8 0, .int .u8 0, .int .u8 0, .int .u8 0, .int .u8 0, .int .u8 0, .int .u8 0, .int .u8 0, .int .u8 0, .int .u8 0, .int .u8 0, .int .u8 0, .int .u8 0, .int .u8 0, .int .u8 0, .int .u8 0, .int .u8 0, .int .u8 0, .int .u8 0, .int .u8 0, .int .u8 0, .int .u8 0, .int .u8 0, .int .u8 0, .int .u8 0, .int .u8 0, .int .u8 0, .int .u8 0, .int .u8 0, .int .u8 0, .int .u8 0, .int .u8 0, .int .u8 0, .int .u8 0, .int .u8 0, .int .u8 0, .int .u8 0, .int .u8 0, .int .u8 0, .int .u8 0, .int .u8 0] := by rfl
/-- the zero sector as a literal, compared with a sector of zeros -/
theorem eql_zz (w : World) : (Op.equalIn 10000 37 (.agg (u8s zsec).toArray) (.agg #[.int .u8 0, .int .u8 0, .int .u8 0, .int .u8 0, .int .u8 0, .int .u8 0, .int .u8 0, .int .u8 0, .int .u8 0, .int .u8 0, .int .u8 0, .int .u8 0, .int .u8 0, .int .u8 0, .int .u8 0, .int .u8 0, .int .u8 0, .int .u8 0, .int .u8 0, .int .u8 0, .int .u8 0, .int .u8 0, .int .u8 0, .int .u8 0, .int .u8 0, .int .u8 0, .int .u8 0, .int .u8 0, .int .u8 0, .int .u8 0, .int .u8 0, .int .u8 0, .int .u8 0, .int .u8 0, .int .u8 0, .int .u8 0, .int .u8 0, .int .u8 0, .int .u8 0, .int .u8 0, .int .u8 0, .int .u8 0, .int .u8 0, .int .u8 0, .int .u8 0, .int .u8 0, .int .u8 0, .int .u8 0, .int .u8 0, .int .u8 0, .int .u8 0, .int .u8 0, .int .u8 0, .int .u8 0, .int .u8 0, .int .u8 0, .int .u8 0, .int .u8 0, .int .u8 0, .int .u8 0, .int .u8 0, .int .u8 0, .int .u8 0, .int .u8 0])).run Try.prog w = .ok true w := by
  rw [← zlit]
  have h := run_equal_sec w 9998 37 5 Try.underlying37 Try.underlying5 (Try.sizeOf5 w) zsec zsec zsec_len zsec_len
  simpa using h
attribute [local go_sem] eql_zz
attribute [local go_sem ↓] Go.wp_at_zero Go.wp_at_succ
/-- an act, by value -/
abbrev actV (kd i : Int) (ab : Option Addr) (lb cb : Nat) (ak : Option Addr) (lk ck : Nat) : Value := .agg #[.int .i64 kd, .int .i64 i, .slice ab lb cb, .slice ak lk ck]
theorem keep4 {X W W' : World} {a b c : Addr} {u v x : Value} {g : Nat} {cs : List Value} (h : W.cell? ⟨a.block, a.off, none⟩ = some u ∧ W.cell? ⟨b.block, b.off, none⟩ = some v ∧ W.cell? ⟨c.block, c.off, none⟩ = some x ∧ W.rangeAt g 0 cs ∧ Below X.heap.size X W) (hc : Chg [] W W') :
    W'.cell? ⟨a.block, a.off, none⟩ = some u ∧ W'.cell? ⟨b.block, b.off, none⟩ = some v ∧ W'.cell? ⟨c.block, c.off, none⟩ = some x ∧ W'.rangeAt g 0 cs ∧ Below X.heap.size X W' :=
  ⟨hc.cell h.1 (by simp), hc.cell h.2.1 (by simp), hc.cell h.2.2.1 (by simp), hc.range h.2.2.2.1 (by simp), h.2.2.2.2.trans (hc.low.mono h.2.2.2.2.size)⟩
set_option maxHeartbeats 1000000 in
set_option maxRecDepth 100000 in
theorem diskNil_walk (w : World) (kd i : Int) (ab ak : Option Addr) (cb ck lk : Nat) (bs : List UInt8) (hrb : Ro w w.heap.size ab (u8s bs)) (hbs : bs.length ≤ 9223372036854775807) :
    Calls Try.prog 6 #[actV kd i ab bs.length cb ak lk ck] w fun e w' => e = .returned (.bool true) ∧ Below w.heap.size w w' := by
  by_cases hlong : 100 < bs.length
  · have hd : decide (100 < bs.length) = true := by simpa using hlong
    go_enter Try.func6, Try.ntmps6
    go_wp2_with (first
      | (go_at_call 10; refine (alive_any _).mono ?_; rintro e w1 ⟨rfl, hc1⟩)
      | fail)
    go_ret
    exact ⟨rfl, (((Chg.refl [] w).alloc _).trans hc1).low⟩
  · have hd : decide ((100 : Int) < (bs.length : Int)) = false := by simp; omega
    go_enter Try.func6, Try.ntmps6
    go_wp2_with (first
      | (go_at_call 20; refine (read_nil _ _).mono ?_; rintro e w1 ⟨rfl, hc1⟩)
      | (refine wpList_alloc37 rfl rfl ?_)
      | (refine wpList_laid rfl _ _ rfl zsec rfl rfl zsec_len ?_; intro w2 hr2 hc2)
      | fail)
    have hnew := heap_alloc_new w (.cells #[.int .i64 kd, .int .i64 i, .slice ab bs.length cb, .slice ak lk ck] 34)
    have hcA : Chg [] w (w.alloc (.cells #[.int .i64 kd, .int .i64 i, .slice ab bs.length cb, .slice ak lk ck] 34)) := (Chg.refl [] w).alloc _
    have hcB := hc1.trans hc2
    have hx1 := hcB.cell (show _ = some (.int .i64 i) from (cell_of_row _ w.heap.size 1 _ _ (0, 0) hnew)) (by simp)
    have hx2 := hcB.cell (show _ = some (.slice ab bs.length cb) from (cell_of_row _ w.heap.size 2 _ _ (0, 0) hnew)) (by simp)
    have hx3 := hcB.cell (show _ = some (.slice ak lk ck) from (cell_of_row _ w.heap.size 3 _ _ (0, 0) hnew)) (by simp)
    have hc02 := hcA.trans hcB
    have hr0 := hrb.keep (w' := w2) (fun p hp => hc02.low.cell hp)
    have HB := Lib.hid hc02.low
    have HRB := Lib.hid (show ∀ W, Below w2.heap.size w2 W → Calls Try.prog 12 #[.slice ab bs.length cb] W (fun e w' => e = .returned (sv (fillS bs)) ∧ Chg [] W w') from fun W hW => fill_any W ab bs cb w.heap.size (hr0.below hW hc02.size) (by have := hc02.size; have := hW.size; omega))
    have hst : w2.drew.cell? ⟨w.heap.size, 1, none⟩ = some (.int .i64 i) ∧ w2.drew.cell? ⟨w.heap.size, 2, none⟩ = some (.slice ab bs.length cb) ∧ w2.drew.cell? ⟨w.heap.size, 3, none⟩ = some (.slice ak lk ck) ∧ w2.drew.rangeAt w1.heap.size 0 (u8s zsec) ∧ Below w2.heap.size w2 w2.drew := ⟨hx1, hx2, hx3, (World.rangeAt_drew _ _ _ _).2 hr2, (Below.refl _ _).drew⟩
    have hu := Try.underlying37
    have hinf : (Try.prog.info? 37).map (·.size) = some (u8s zsec).length := by rw [u8s_length, zsec_len]; exact info37
    clear hnew hcA hcB hx1 hx2 hx3 hr0 hc02 hc1 hc2 hrb hr2
    go_region_held3 (fun w' => w'.cell? ⟨w.heap.size, 1, none⟩ = some (.int .i64 i) ∧ w'.cell? ⟨w.heap.size, 2, none⟩ = some (.slice ab bs.length cb) ∧ w'.cell? ⟨w.heap.size, 3, none⟩ = some (.slice ak lk ck) ∧ w'.rangeAt w1.heap.size 0 (u8s zsec) ∧ Below w2.heap.size w2 w')
      (first
        | assumption
        | exact hst
        | (have hH := ‹World.cell? _ ⟨w.heap.size, 1, none⟩ = _ ∧ _›; exact keep4 (a := ⟨w.heap.size, 1, none⟩) (b := ⟨w.heap.size, 2, none⟩) (c := ⟨w.heap.size, 3, none⟩) hH hc9))
      (first
        | (go_at_call 10; refine (alive_any _).mono ?_; rintro e w9 ⟨rfl, hc9⟩)
        | (go_at_call 12; have hH := ‹World.cell? _ ⟨w.heap.size, 1, none⟩ = _ ∧ _›; (with_reducible refine (HRB.out _ hH.2.2.2.2).mono ?_); clear hH; rintro e w9 ⟨rfl, hc9⟩)
        | (go_at_call 11; refine (write_nil _ _ _).mono ?_; rintro e w9 ⟨rfl, hc9⟩)
        | (go_at_call 15; refine (flush_nil _).mono ?_; rintro e w9 ⟨rfl, rfl⟩)
        | (go_at_call 23; refine (len_nil _).mono ?_; rintro e w9 ⟨rfl, rfl⟩)
        | (go_at_call 22; refine (dirty_nil _).mono ?_; rintro e w9 ⟨rfl, rfl⟩)
        | (go_at_call 17; refine (crash_nil _ _ _ _).mono ?_; rintro e w9 ⟨rfl, rfl⟩))
    have hH := ‹World.cell? w9 ⟨w.heap.size, 1, none⟩ = _ ∧ _›
    have hfin := HB.out.trans (hH.2.2.2.2.mono HB.out.size)
    clear hH hst
    go_wp2
    go_ret
    exact ⟨rfl, hfin⟩
theorem diskNil_row (w : World) {A : ActD} (h : ActOk w A) :
    Calls Try.prog 6 #[.agg #[.int .i64 A.kd, .int .i64 A.i, .slice A.ab A.bs.length A.cb, .slice A.ak A.ks.length A.ck]] w fun e w' => e = .returned (.bool true) ∧ Below w.heap.size w w' :=
  diskNil_walk w A.kd A.i A.ab A.ak A.cb A.ck A.ks.length A.bs h.ab h.bs
end Go.Proofs.Ytfgniggppafelaa
