/-
  What a message that came in is. Plain lemmas, no claim of their own.
-/
import Derived.Test.YtdpaofedepnnbaaGreatOp7
import Derived.Test.YtdpaofedepnnbaaGreatOp9
import Derived.Test.YtdpaofedepnnbaaGreatMt
namespace Go.Proofs.YtdpaofedepnnbaaGreat
open Go.RowKit Go.ChangeShapes Go.WideShapes Go.Deep
set_option linter.unusedVariables false
set_option linter.unusedSimpArgs false

section
variable {H : Type} {enc : TypeId × Value → H} {w : World} {base : Nat} {held : Bool}
set_option maxRecDepth 100000 in
theorem trod_layout {n : Nat} {cs : List Value} {y : DataW H × List MemPlace} (h : DataW.trod enc Tryz.prog w base (fun _ => true) held n 38 cs = some y) :
    ∃ A : LyT, cs = [.int .u64 (A.e : Int), .slice A.a A.sg.length A.c, .int .i64 A.q] ∧ LyOk w A := by
  obtain ⟨xs, m, _, _, hlen, hxl, hf⟩ := DataW.trod_struct Tryz.underlying38 h
  have hc3 : cs.length = 3 := hlen.trans (by kernel_rfl)
  match cs, hc3, xs, hxl with
  | [c0, c1, c2], _, [x0, x1, x2], _ =>
    have g0 : DataW.trod enc Tryz.prog w base (fun _ => true) held m 26 (([c0, c1, c2].drop 0).take (Tryz.prog.cellsOf 26)) = some x0 := hf 0 _ rfl
    have g1 : DataW.trod enc Tryz.prog w base (fun _ => true) held m 36 (([c0, c1, c2].drop 1).take (Tryz.prog.cellsOf 36)) = some x1 := hf 1 _ rfl
    have g2 : DataW.trod enc Tryz.prog w base (fun _ => true) held m 3 (([c0, c1, c2].drop 2).take (Tryz.prog.cellsOf 3)) = some x2 := hf 2 _ rfl
    rw [show Tryz.prog.cellsOf 26 = 1 by kernel_rfl] at g0
    rw [show Tryz.prog.cellsOf 36 = 1 by kernel_rfl] at g1
    rw [show Tryz.prog.cellsOf 3 = 1 by kernel_rfl] at g2
    simp only [List.drop_zero, List.drop_succ_cons, List.take_succ_cons, List.take_zero] at g0 g1 g2
    obtain ⟨s, e0, _, hw0⟩ := DataW.trod_int Tryz.underlying26 g0
    obtain ⟨a, L, c, rfl, k1, k2, k3⟩ := row_segs g1
    obtain ⟨q, e2, _, hw2⟩ := DataW.trod_int Tryz.underlying3 g2
    simp only [List.cons.injEq, and_true] at e0 e2
    subst e0 e2
    have h1 := bounds_u64 hw0
    refine ⟨⟨s.toNat, a, c, L, q⟩, ?_, ⟨k1, k2⟩, k3, by show s.toNat ≤ _; omega, bounds_i64 hw2⟩
    simp only
    rw [show ((s.toNat : Nat) : Int) = s by omega]
set_option maxRecDepth 100000 in
theorem trod_place {n : Nat} {cs : List Value} {y : DataW H × List MemPlace} (h : DataW.trod enc Tryz.prog w base (fun _ => true) held n 25 cs = some y) :
    ∃ p : Int × Int, cs = [.int .i64 p.1, .int .i64 p.2] := by
  obtain ⟨xs, m, _, _, hlen, hxl, hf⟩ := DataW.trod_struct Tryz.underlying25 h
  have hc3 : cs.length = 2 := hlen.trans (by kernel_rfl)
  match cs, hc3, xs, hxl with
  | [c0, c1], _, [x0, x1], _ =>
    have g0 : DataW.trod enc Tryz.prog w base (fun _ => true) held m 23 (([c0, c1].drop 0).take (Tryz.prog.cellsOf 23)) = some x0 := hf 0 _ rfl
    have g1 : DataW.trod enc Tryz.prog w base (fun _ => true) held m 3 (([c0, c1].drop 1).take (Tryz.prog.cellsOf 3)) = some x1 := hf 1 _ rfl
    rw [show Tryz.prog.cellsOf 23 = 1 by kernel_rfl] at g0
    rw [show Tryz.prog.cellsOf 3 = 1 by kernel_rfl] at g1
    simp only [List.drop_zero, List.drop_succ_cons, List.take_succ_cons, List.take_zero] at g0 g1
    obtain ⟨s, e0, _, hw0⟩ := DataW.trod_int Tryz.underlying23 g0
    obtain ⟨q, e2, _, hw2⟩ := DataW.trod_int Tryz.underlying3 g1
    simp only [List.cons.injEq, and_true] at e0 e2
    subst e0 e2
    exact ⟨(s, q), rfl⟩
set_option maxRecDepth 100000 in
theorem trod_ballot {n : Nat} {cs : List Value} {y : DataW H × List MemPlace} (h : DataW.trod enc Tryz.prog w base (fun _ => true) held n 35 cs = some y) :
    ∃ p : Int × Int, cs = [.int .i64 p.1, .int .i64 p.2] := by
  obtain ⟨xs, m, _, _, hlen, hxl, hf⟩ := DataW.trod_struct Tryz.underlying35 h
  have hc3 : cs.length = 2 := hlen.trans (by kernel_rfl)
  match cs, hc3, xs, hxl with
  | [c0, c1], _, [x0, x1], _ =>
    have g0 : DataW.trod enc Tryz.prog w base (fun _ => true) held m 3 (([c0, c1].drop 0).take (Tryz.prog.cellsOf 3)) = some x0 := hf 0 _ rfl
    have g1 : DataW.trod enc Tryz.prog w base (fun _ => true) held m 3 (([c0, c1].drop 1).take (Tryz.prog.cellsOf 3)) = some x1 := hf 1 _ rfl
    rw [show Tryz.prog.cellsOf 3 = 1 by kernel_rfl] at g0
    rw [show Tryz.prog.cellsOf 3 = 1 by kernel_rfl] at g1
    simp only [List.drop_zero, List.drop_succ_cons, List.take_succ_cons, List.take_zero] at g0 g1
    obtain ⟨s, e0, _, hw0⟩ := DataW.trod_int Tryz.underlying3 g0
    obtain ⟨q, e2, _, hw2⟩ := DataW.trod_int Tryz.underlying3 g1
    simp only [List.cons.injEq, and_true] at e0 e2
    subst e0 e2
    exact ⟨(s, q), rfl⟩
/-- a message that came in -/
structure MgOk (w : World) (A : MgT) : Prop where
  inn : MgIn w w.heap.size A
  fit : MgFit A
set_option maxRecDepth 100000 in
set_option maxHeartbeats 4000000 in
theorem open_messageV {r : Reach} {b0 : Nat} {v : Value} {d : DataW H} {p : List MemPlace} (hv : Value.okWide Tryz.prog w r b0 40 v) (h : DataW.Trod enc Tryz.prog w base (fun _ => true) held 40 v d p) :
    ∃ A : MgT, v = .agg A.cs.toArray ∧ MgOk w A := by
  obtain ⟨cs, rfl, hsz⟩ := okWide_struct Tryz.underlying40 hv
  obtain ⟨fuel, hf⟩ := h
  obtain ⟨xs, m, _, _, hlen, hxl, hf⟩ := DataW.trod_struct Tryz.underlying40 hf
  have hc22 : cs.toList.length = 22 := hlen.trans (by kernel_rfl)
  obtain ⟨cl⟩ := cs
  match cl, hc22, xs, hxl with
  | [c0, c1, c2, c3, c4, c5, c6, c7, c8, c9, c10, c11, c12, c13, c14, c15, c16, c17, c18, c19, c20, c21], _, [x0, x1, x2, x3, x4, x5, x6, x7, x8, x9, x10, x11, x12, x13], _ =>
    have g0 : DataW.trod enc Tryz.prog w base (fun _ => true) held m 22 (([c0, c1, c2, c3, c4, c5, c6, c7, c8, c9, c10, c11, c12, c13, c14, c15, c16, c17, c18, c19, c20, c21].drop 0).take (Tryz.prog.cellsOf 22)) = some x0 := hf 0 _ rfl
    rw [show Tryz.prog.cellsOf 22 = 1 by kernel_rfl] at g0
    have g1 : DataW.trod enc Tryz.prog w base (fun _ => true) held m 25 (([c0, c1, c2, c3, c4, c5, c6, c7, c8, c9, c10, c11, c12, c13, c14, c15, c16, c17, c18, c19, c20, c21].drop 1).take (Tryz.prog.cellsOf 25)) = some x1 := hf 1 _ rfl
    rw [show Tryz.prog.cellsOf 25 = 2 by kernel_rfl] at g1
    have g2 : DataW.trod enc Tryz.prog w base (fun _ => true) held m 25 (([c0, c1, c2, c3, c4, c5, c6, c7, c8, c9, c10, c11, c12, c13, c14, c15, c16, c17, c18, c19, c20, c21].drop 3).take (Tryz.prog.cellsOf 25)) = some x2 := hf 2 _ rfl
    rw [show Tryz.prog.cellsOf 25 = 2 by kernel_rfl] at g2
    have g3 : DataW.trod enc Tryz.prog w base (fun _ => true) held m 3 (([c0, c1, c2, c3, c4, c5, c6, c7, c8, c9, c10, c11, c12, c13, c14, c15, c16, c17, c18, c19, c20, c21].drop 5).take (Tryz.prog.cellsOf 3)) = some x3 := hf 3 _ rfl
    rw [show Tryz.prog.cellsOf 3 = 1 by kernel_rfl] at g3
    have g4 : DataW.trod enc Tryz.prog w base (fun _ => true) held m 22 (([c0, c1, c2, c3, c4, c5, c6, c7, c8, c9, c10, c11, c12, c13, c14, c15, c16, c17, c18, c19, c20, c21].drop 6).take (Tryz.prog.cellsOf 22)) = some x4 := hf 4 _ rfl
    rw [show Tryz.prog.cellsOf 22 = 1 by kernel_rfl] at g4
    have g5 : DataW.trod enc Tryz.prog w base (fun _ => true) held m 26 (([c0, c1, c2, c3, c4, c5, c6, c7, c8, c9, c10, c11, c12, c13, c14, c15, c16, c17, c18, c19, c20, c21].drop 7).take (Tryz.prog.cellsOf 26)) = some x5 := hf 5 _ rfl
    rw [show Tryz.prog.cellsOf 26 = 1 by kernel_rfl] at g5
    have g6 : DataW.trod enc Tryz.prog w base (fun _ => true) held m 26 (([c0, c1, c2, c3, c4, c5, c6, c7, c8, c9, c10, c11, c12, c13, c14, c15, c16, c17, c18, c19, c20, c21].drop 8).take (Tryz.prog.cellsOf 26)) = some x6 := hf 6 _ rfl
    rw [show Tryz.prog.cellsOf 26 = 1 by kernel_rfl] at g6
    have g7 : DataW.trod enc Tryz.prog w base (fun _ => true) held m 27 (([c0, c1, c2, c3, c4, c5, c6, c7, c8, c9, c10, c11, c12, c13, c14, c15, c16, c17, c18, c19, c20, c21].drop 9).take (Tryz.prog.cellsOf 27)) = some x7 := hf 7 _ rfl
    rw [show Tryz.prog.cellsOf 27 = 1 by kernel_rfl] at g7
    have g8 : DataW.trod enc Tryz.prog w base (fun _ => true) held m 32 (([c0, c1, c2, c3, c4, c5, c6, c7, c8, c9, c10, c11, c12, c13, c14, c15, c16, c17, c18, c19, c20, c21].drop 10).take (Tryz.prog.cellsOf 32)) = some x8 := hf 8 _ rfl
    rw [show Tryz.prog.cellsOf 32 = 3 by kernel_rfl] at g8
    have g9 : DataW.trod enc Tryz.prog w base (fun _ => true) held m 33 (([c0, c1, c2, c3, c4, c5, c6, c7, c8, c9, c10, c11, c12, c13, c14, c15, c16, c17, c18, c19, c20, c21].drop 13).take (Tryz.prog.cellsOf 33)) = some x9 := hf 9 _ rfl
    rw [show Tryz.prog.cellsOf 33 = 1 by kernel_rfl] at g9
    have g10 : DataW.trod enc Tryz.prog w base (fun _ => true) held m 30 (([c0, c1, c2, c3, c4, c5, c6, c7, c8, c9, c10, c11, c12, c13, c14, c15, c16, c17, c18, c19, c20, c21].drop 14).take (Tryz.prog.cellsOf 30)) = some x10 := hf 10 _ rfl
    rw [show Tryz.prog.cellsOf 30 = 1 by kernel_rfl] at g10
    have g11 : DataW.trod enc Tryz.prog w base (fun _ => true) held m 35 (([c0, c1, c2, c3, c4, c5, c6, c7, c8, c9, c10, c11, c12, c13, c14, c15, c16, c17, c18, c19, c20, c21].drop 15).take (Tryz.prog.cellsOf 35)) = some x11 := hf 11 _ rfl
    rw [show Tryz.prog.cellsOf 35 = 2 by kernel_rfl] at g11
    have g12 : DataW.trod enc Tryz.prog w base (fun _ => true) held m 35 (([c0, c1, c2, c3, c4, c5, c6, c7, c8, c9, c10, c11, c12, c13, c14, c15, c16, c17, c18, c19, c20, c21].drop 17).take (Tryz.prog.cellsOf 35)) = some x12 := hf 12 _ rfl
    rw [show Tryz.prog.cellsOf 35 = 2 by kernel_rfl] at g12
    have g13 : DataW.trod enc Tryz.prog w base (fun _ => true) held m 38 (([c0, c1, c2, c3, c4, c5, c6, c7, c8, c9, c10, c11, c12, c13, c14, c15, c16, c17, c18, c19, c20, c21].drop 19).take (Tryz.prog.cellsOf 38)) = some x13 := hf 13 _ rfl
    rw [show Tryz.prog.cellsOf 38 = 3 by kernel_rfl] at g13
    clear hf
    simp only [List.drop_zero, List.drop_succ_cons, List.take_succ_cons, List.take_zero] at g0 g1 g2 g3 g4 g5 g6 g7 g8 g9 g10 g11 g12 g13
    obtain ⟨k, e0, _, hw0⟩ := DataW.trod_int Tryz.underlying22 g0
    obtain ⟨id, e3, _, hw3⟩ := DataW.trod_int Tryz.underlying3 g3
    obtain ⟨f, e4, _, hw4⟩ := DataW.trod_int Tryz.underlying22 g4
    obtain ⟨ep, e5, _, hw5⟩ := DataW.trod_int Tryz.underlying26 g5
    obtain ⟨ad, e6, _, hw6⟩ := DataW.trod_int Tryz.underlying26 g6
    obtain ⟨er, e7, _, hw7⟩ := DataW.trod_int Tryz.underlying27 g7
    obtain ⟨fr, e1⟩ := trod_place g1
    obtain ⟨to, e2⟩ := trod_place g2
    obtain ⟨C, e8, hC⟩ := trod_cell g8
    obtain ⟨sa, st, sc, e9, hst, hst2, hst3, _⟩ := row_ints g9
    obtain ⟨ka, bk, kc, e10, hbk, hbk2, hbk3⟩ := row_backs g10
    obtain ⟨ba, e11⟩ := trod_ballot g11
    obtain ⟨pr, e12⟩ := trod_ballot g12
    obtain ⟨L, e13, hL⟩ := trod_layout g13
    simp only [List.cons.injEq, and_true] at e0 e1 e2 e3 e4 e5 e6 e7 e8 e11 e12 e13
    have h5 := bounds_u64 hw5
    have h6 := bounds_u64 hw6
    obtain ⟨ep, rfl⟩ := Int.eq_ofNat_of_zero_le h5.1
    obtain ⟨ad, rfl⟩ := Int.eq_ofNat_of_zero_le h6.1
    refine ⟨⟨k, fr, to, id, f, ep, ad, er, C.x, C.a, C.c, C.a2, C.c2, st, sa, sc, bk, ka, kc, ba, pr, L⟩, ?_, ⟨hC.d, hC.b, hst, hbk, hL.inn⟩, ⟨hC.dl, hC.bl, by show st.length ≤ _; omega, hbk3, hL.fit, hC.fit, hbk2⟩⟩
    obtain ⟨e1, e1'⟩ := e1
    obtain ⟨e2, e2'⟩ := e2
    obtain ⟨e8, e8', e8''⟩ := e8
    obtain ⟨e11, e11'⟩ := e11
    obtain ⟨e12, e12'⟩ := e12
    obtain ⟨e13, e13', e13''⟩ := e13
    rw [e0, e1, e1', e2, e2', e3, e4, e5, e6, e7, e8, e8', e8'', e9, e10, e11, e11', e12, e12', e13, e13', e13'']
    rfl
end
end Go.Proofs.YtdpaofedepnnbaaGreat
