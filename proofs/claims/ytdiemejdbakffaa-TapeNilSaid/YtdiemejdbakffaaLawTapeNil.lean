/-
  The statement TapeNil, walked: no tape. No condition but the ranges of the arguments.
-/
import Derived.Test.YtdiemejdbakffaaFit6
namespace Go.Proofs.Ytdiemejdbakffaa
open Go.RowKit Go.Maps Go.Shelf
set_option linter.unusedVariables false
set_option linter.unusedSimpArgs false

set_option maxHeartbeats 1000000 in
set_option maxRecDepth 100000 in
theorem tapeNil_walk (w : World) (kd i : Int) (ab : Option Addr) (lb cb : Nat) (al : Option Addr) (xs : List SB) (cl : Nat) (ak : Option Addr) (lk ck : Nat) (h : RoM w al xs) :
    Calls Try.prog 5 #[actV kd i ab lb cb al xs.length cl ak lk ck] w fun e w' => e = .returned (.bool true) ∧ Chg [] w w' := by
  have hA0 : Chg [] w (w.alloc (.cells #[.int .i64 kd, .int .i64 i, .slice ab lb cb, .slice al xs.length cl, .slice ak lk ck] 40)) := (Chg.refl [] w).alloc _
  have hO := Own.new w 40 [.int .i64 kd, .int .i64 i, .slice ab lb cb, .slice al xs.length cl, .slice ak lk ck]
  have h2 : RoM (w.alloc (.cells #[.int .i64 kd, .int .i64 i, .slice ab lb cb, .slice al xs.length cl, .slice ak lk ck] 40)) al xs := by
    have hk := hA0.size
    refine ⟨(h.row.chgs hA0 (by simp)).mono hk, fun x hx => ((h.el x hx).chgs hA0 (by simp)).mono hk, h.len, h.lens⟩
  have HF := Lib.hid (fits_any _ kd i ab lb cb al xs cl ak lk ck h2)
  have HA0 := Lib.hid hA0
  have HO := Lib.hid hO
  obtain ⟨n, HN⟩ : ∃ n, Hid (xs.length = n) := ⟨_, Lib.hid rfl⟩
  rw [HN.out] at HF HA0 HO ⊢
  generalize decide (fitsL xs ∧ lb ≤ 400) = T at HF
  clear h h2 hA0 hO
  cases T with
  | false =>
    go_enter Try.func5, Try.ntmps5
    go_wp2_with (first
      | (go_at_call 14; refine HF.out.mono ?_; rintro e w1 ⟨rfl, hc1⟩)
      | (go_at_call 8; refine (alive_any _).mono ?_; rintro e w2 ⟨rfl, hc2⟩)
      | fail)
    go_ret
    exact ⟨rfl, (HA0.out.trans hc1).trans hc2⟩
  | true =>
    go_enter Try.func5, Try.ntmps5
    go_wp2_with (first
      | (go_at_call 14; refine HF.out.mono ?_; rintro e w1 ⟨rfl, hc1⟩; have hO1 := HO.out.chg hc1 (by simp); have x1 := hO1.cell 1; have x2 := hO1.cell 2; have x3 := hO1.cell 3; simp at x1 x2 x3; have HC1 := Lib.hid (HA0.out.trans hc1); have HO1 := Lib.hid hO1; clear hO1 hc1)
      | (go_at_call 10; refine (open_nil _).mono ?_; rintro e w' ⟨rfl, rfl⟩)
      | (go_at_call 17; refine (step_nilT _).mono ?_; rintro e w' ⟨rfl, rfl⟩)
      | (go_at_call 23; refine (read_nilT _ _).mono ?_; rintro e w' ⟨rfl, rfl⟩)
      | (go_at_call 11; refine (append_nilT _ _ _ _).mono ?_; rintro e w' ⟨rfl, rfl⟩)
      | (go_at_call 15; refine (replace_nilT _ _ _ _).mono ?_; rintro e w' ⟨rfl, rfl⟩)
      | (go_at_call 12; refine (commit_nilT _).mono ?_; rintro e w' ⟨rfl, rfl⟩)
      | (go_at_call 21; refine (len_tape_nil _).mono ?_; rintro e w' ⟨rfl, rfl⟩)
      | (go_at_call 22; refine (waiting_nil _).mono ?_; rintro e w' ⟨rfl, rfl⟩)
      | (go_at_call 20; refine (room_nil _).mono ?_; rintro e w' ⟨rfl, rfl⟩)
      | (go_at_call 8; refine (alive_any _).mono ?_; rintro e w2 ⟨rfl, hc2⟩; clear x1 x2 x3; have hO2 := HO1.out.chg hc2 (by simp); have x1 := hO2.cell 1; have x2 := hO2.cell 2; have x3 := hO2.cell 3; simp at x1 x2 x3; have HC2 := Lib.hid (HC1.out.trans hc2); clear hO2 hc2)
      | fail)
    go_ret
    exact ⟨rfl, HC2.out⟩
theorem tapeNil_row (w : World) {A : ActT} (h : ActOk w A) :
    Calls Try.prog 5 #[.agg A.cells.toArray] w fun e w' => e = .returned (.bool true) ∧ Below w.heap.size w w' :=
  (tapeNil_walk w A.kd A.i A.ab A.bs.length A.cb A.al A.xs A.cl A.ak A.ks.length A.ck h.al).mono fun e w' h => ⟨h.1, h.2.low⟩
end Go.Proofs.Ytdiemejdbakffaa
