/-
  Places as two numbers of a machine's word. No claim of its own.
-/
import Derived.Test.YtdblplkaobeimaaGc1
import Derived.Test.YtdblplkaobeimaaGc16
import Derived.Test.YtdblplkaobeimaaGc11
import Derived.WideShapes
namespace Go.Proofs.Ytdblplkaobeimaa
/-- places -/
abbrev Pl2 := Int × Int
abbrev plV (p : Pl2) : Value := .agg #[.int .i64 p.1, .int .i64 p.2]
/-- numbers of a machine's word -/
def Pw (p : Pl2) : Prop := (-9223372036854775808 ≤ p.1 ∧ p.1 ≤ 9223372036854775807) ∧ (-9223372036854775808 ≤ p.2 ∧ p.2 ≤ 9223372036854775807)
end Go.Proofs.Ytdblplkaobeimaa
namespace Go.Proofs.Ytdblplkaobeimaa
open Go.RowKit Go.ChangeShapes Go.WideShapes Go.Deep
set_option linter.unusedVariables false
set_option linter.unusedSimpArgs false

section
variable {H : Type} {enc : TypeId × Value → H} {w : World} {base : Nat} {held : Bool}
set_option maxRecDepth 100000 in
theorem trod_layout {n : Nat} {cs : List Value} {y : DataW H × List MemPlace} (h : DataW.trod enc Try.prog w base (fun _ => true) held n 38 cs = some y) :
    ∃ A : LyT, cs = [.int .u64 (A.e : Int), .slice A.a A.sg.length A.c, .int .i64 A.q] ∧ LyOk w A := by
  obtain ⟨xs, m, _, _, hlen, hxl, hf⟩ := DataW.trod_struct Try.underlying38 h
  have hc3 : cs.length = 3 := hlen.trans (by kernel_rfl)
  match cs, hc3, xs, hxl with
  | [c0, c1, c2], _, [x0, x1, x2], _ =>
    have g0 : DataW.trod enc Try.prog w base (fun _ => true) held m 26 (([c0, c1, c2].drop 0).take (Try.prog.cellsOf 26)) = some x0 := hf 0 _ rfl
    have g1 : DataW.trod enc Try.prog w base (fun _ => true) held m 36 (([c0, c1, c2].drop 1).take (Try.prog.cellsOf 36)) = some x1 := hf 1 _ rfl
    have g2 : DataW.trod enc Try.prog w base (fun _ => true) held m 3 (([c0, c1, c2].drop 2).take (Try.prog.cellsOf 3)) = some x2 := hf 2 _ rfl
    rw [show Try.prog.cellsOf 26 = 1 by kernel_rfl] at g0
    rw [show Try.prog.cellsOf 36 = 1 by kernel_rfl] at g1
    rw [show Try.prog.cellsOf 3 = 1 by kernel_rfl] at g2
    simp only [List.drop_zero, List.drop_succ_cons, List.take_succ_cons, List.take_zero] at g0 g1 g2
    obtain ⟨s, e0, _, hw0⟩ := DataW.trod_int Try.underlying26 g0
    obtain ⟨a, L, c, rfl, k1, k2, k3⟩ := row_segs g1
    obtain ⟨q, e2, _, hw2⟩ := DataW.trod_int Try.underlying3 g2
    simp only [List.cons.injEq, and_true] at e0 e2
    subst e0 e2
    have h1 := bounds_u64 hw0
    refine ⟨⟨s.toNat, a, c, L, q⟩, ?_, ⟨k1, k2⟩, k3, by show s.toNat ≤ _; omega, bounds_i64 hw2⟩
    simp only
    rw [show ((s.toNat : Nat) : Int) = s by omega]
set_option maxRecDepth 100000 in
theorem trod_place {n : Nat} {cs : List Value} {y : DataW H × List MemPlace} (h : DataW.trod enc Try.prog w base (fun _ => true) held n 25 cs = some y) :
    ∃ p : Int × Int, cs = [.int .i64 p.1, .int .i64 p.2] ∧ Pw p := by
  obtain ⟨xs, m, _, _, hlen, hxl, hf⟩ := DataW.trod_struct Try.underlying25 h
  have hc3 : cs.length = 2 := hlen.trans (by kernel_rfl)
  match cs, hc3, xs, hxl with
  | [c0, c1], _, [x0, x1], _ =>
    have g0 : DataW.trod enc Try.prog w base (fun _ => true) held m 23 (([c0, c1].drop 0).take (Try.prog.cellsOf 23)) = some x0 := hf 0 _ rfl
    have g1 : DataW.trod enc Try.prog w base (fun _ => true) held m 3 (([c0, c1].drop 1).take (Try.prog.cellsOf 3)) = some x1 := hf 1 _ rfl
    rw [show Try.prog.cellsOf 23 = 1 by kernel_rfl] at g0
    rw [show Try.prog.cellsOf 3 = 1 by kernel_rfl] at g1
    simp only [List.drop_zero, List.drop_succ_cons, List.take_succ_cons, List.take_zero] at g0 g1
    obtain ⟨s, e0, _, hw0⟩ := DataW.trod_int Try.underlying23 g0
    obtain ⟨q, e2, _, hw2⟩ := DataW.trod_int Try.underlying3 g1
    simp only [List.cons.injEq, and_true] at e0 e2
    subst e0 e2
    exact ⟨(s, q), rfl, bounds_i64 hw0, bounds_i64 hw2⟩
set_option maxRecDepth 100000 in
theorem trod_ballot {n : Nat} {cs : List Value} {y : DataW H × List MemPlace} (h : DataW.trod enc Try.prog w base (fun _ => true) held n 35 cs = some y) :
    ∃ p : Int × Int, cs = [.int .i64 p.1, .int .i64 p.2] := by
  obtain ⟨xs, m, _, _, hlen, hxl, hf⟩ := DataW.trod_struct Try.underlying35 h
  have hc3 : cs.length = 2 := hlen.trans (by kernel_rfl)
  match cs, hc3, xs, hxl with
  | [c0, c1], _, [x0, x1], _ =>
    have g0 : DataW.trod enc Try.prog w base (fun _ => true) held m 3 (([c0, c1].drop 0).take (Try.prog.cellsOf 3)) = some x0 := hf 0 _ rfl
    have g1 : DataW.trod enc Try.prog w base (fun _ => true) held m 3 (([c0, c1].drop 1).take (Try.prog.cellsOf 3)) = some x1 := hf 1 _ rfl
    rw [show Try.prog.cellsOf 3 = 1 by kernel_rfl] at g0
    rw [show Try.prog.cellsOf 3 = 1 by kernel_rfl] at g1
    simp only [List.drop_zero, List.drop_succ_cons, List.take_succ_cons, List.take_zero] at g0 g1
    obtain ⟨s, e0, _, hw0⟩ := DataW.trod_int Try.underlying3 g0
    obtain ⟨q, e2, _, hw2⟩ := DataW.trod_int Try.underlying3 g1
    simp only [List.cons.injEq, and_true] at e0 e2
    subst e0 e2
    exact ⟨(s, q), rfl⟩
/-- a message that came in -/
structure MgOk (w : World) (A : MgT) : Prop where
  inn : MgIn w w.heap.size A
  fit : MgFit A
set_option maxRecDepth 100000 in
set_option maxHeartbeats 4000000 in
theorem trod_message {n : Nat} {cl : List Value} {y : DataW H × List MemPlace} (h : DataW.trod enc Try.prog w base (fun _ => true) held n 40 cl = some y) :
    ∃ A : MgT, cl = A.cs ∧ MgOk w A ∧ Pw A.fr ∧ Pw A.to := by
  obtain ⟨xs, m, _, _, hlen, hxl, hf⟩ := DataW.trod_struct Try.underlying40 h
  have hc22 : cl.length = 22 := hlen.trans (by kernel_rfl)
  match cl, hc22, xs, hxl with
  | [c0, c1, c2, c3, c4, c5, c6, c7, c8, c9, c10, c11, c12, c13, c14, c15, c16, c17, c18, c19, c20, c21], _, [x0, x1, x2, x3, x4, x5, x6, x7, x8, x9, x10, x11, x12, x13], _ =>
    have g0 : DataW.trod enc Try.prog w base (fun _ => true) held m 22 (([c0, c1, c2, c3, c4, c5, c6, c7, c8, c9, c10, c11, c12, c13, c14, c15, c16, c17, c18, c19, c20, c21].drop 0).take (Try.prog.cellsOf 22)) = some x0 := hf 0 _ rfl
    rw [show Try.prog.cellsOf 22 = 1 by kernel_rfl] at g0
    have g1 : DataW.trod enc Try.prog w base (fun _ => true) held m 25 (([c0, c1, c2, c3, c4, c5, c6, c7, c8, c9, c10, c11, c12, c13, c14, c15, c16, c17, c18, c19, c20, c21].drop 1).take (Try.prog.cellsOf 25)) = some x1 := hf 1 _ rfl
    rw [show Try.prog.cellsOf 25 = 2 by kernel_rfl] at g1
    have g2 : DataW.trod enc Try.prog w base (fun _ => true) held m 25 (([c0, c1, c2, c3, c4, c5, c6, c7, c8, c9, c10, c11, c12, c13, c14, c15, c16, c17, c18, c19, c20, c21].drop 3).take (Try.prog.cellsOf 25)) = some x2 := hf 2 _ rfl
    rw [show Try.prog.cellsOf 25 = 2 by kernel_rfl] at g2
    have g3 : DataW.trod enc Try.prog w base (fun _ => true) held m 3 (([c0, c1, c2, c3, c4, c5, c6, c7, c8, c9, c10, c11, c12, c13, c14, c15, c16, c17, c18, c19, c20, c21].drop 5).take (Try.prog.cellsOf 3)) = some x3 := hf 3 _ rfl
    rw [show Try.prog.cellsOf 3 = 1 by kernel_rfl] at g3
    have g4 : DataW.trod enc Try.prog w base (fun _ => true) held m 22 (([c0, c1, c2, c3, c4, c5, c6, c7, c8, c9, c10, c11, c12, c13, c14, c15, c16, c17, c18, c19, c20, c21].drop 6).take (Try.prog.cellsOf 22)) = some x4 := hf 4 _ rfl
    rw [show Try.prog.cellsOf 22 = 1 by kernel_rfl] at g4
    have g5 : DataW.trod enc Try.prog w base (fun _ => true) held m 26 (([c0, c1, c2, c3, c4, c5, c6, c7, c8, c9, c10, c11, c12, c13, c14, c15, c16, c17, c18, c19, c20, c21].drop 7).take (Try.prog.cellsOf 26)) = some x5 := hf 5 _ rfl
    rw [show Try.prog.cellsOf 26 = 1 by kernel_rfl] at g5
    have g6 : DataW.trod enc Try.prog w base (fun _ => true) held m 26 (([c0, c1, c2, c3, c4, c5, c6, c7, c8, c9, c10, c11, c12, c13, c14, c15, c16, c17, c18, c19, c20, c21].drop 8).take (Try.prog.cellsOf 26)) = some x6 := hf 6 _ rfl
    rw [show Try.prog.cellsOf 26 = 1 by kernel_rfl] at g6
    have g7 : DataW.trod enc Try.prog w base (fun _ => true) held m 27 (([c0, c1, c2, c3, c4, c5, c6, c7, c8, c9, c10, c11, c12, c13, c14, c15, c16, c17, c18, c19, c20, c21].drop 9).take (Try.prog.cellsOf 27)) = some x7 := hf 7 _ rfl
    rw [show Try.prog.cellsOf 27 = 1 by kernel_rfl] at g7
    have g8 : DataW.trod enc Try.prog w base (fun _ => true) held m 32 (([c0, c1, c2, c3, c4, c5, c6, c7, c8, c9, c10, c11, c12, c13, c14, c15, c16, c17, c18, c19, c20, c21].drop 10).take (Try.prog.cellsOf 32)) = some x8 := hf 8 _ rfl
    rw [show Try.prog.cellsOf 32 = 3 by kernel_rfl] at g8
    have g9 : DataW.trod enc Try.prog w base (fun _ => true) held m 33 (([c0, c1, c2, c3, c4, c5, c6, c7, c8, c9, c10, c11, c12, c13, c14, c15, c16, c17, c18, c19, c20, c21].drop 13).take (Try.prog.cellsOf 33)) = some x9 := hf 9 _ rfl
    rw [show Try.prog.cellsOf 33 = 1 by kernel_rfl] at g9
    have g10 : DataW.trod enc Try.prog w base (fun _ => true) held m 30 (([c0, c1, c2, c3, c4, c5, c6, c7, c8, c9, c10, c11, c12, c13, c14, c15, c16, c17, c18, c19, c20, c21].drop 14).take (Try.prog.cellsOf 30)) = some x10 := hf 10 _ rfl
    rw [show Try.prog.cellsOf 30 = 1 by kernel_rfl] at g10
    have g11 : DataW.trod enc Try.prog w base (fun _ => true) held m 35 (([c0, c1, c2, c3, c4, c5, c6, c7, c8, c9, c10, c11, c12, c13, c14, c15, c16, c17, c18, c19, c20, c21].drop 15).take (Try.prog.cellsOf 35)) = some x11 := hf 11 _ rfl
    rw [show Try.prog.cellsOf 35 = 2 by kernel_rfl] at g11
    have g12 : DataW.trod enc Try.prog w base (fun _ => true) held m 35 (([c0, c1, c2, c3, c4, c5, c6, c7, c8, c9, c10, c11, c12, c13, c14, c15, c16, c17, c18, c19, c20, c21].drop 17).take (Try.prog.cellsOf 35)) = some x12 := hf 12 _ rfl
    rw [show Try.prog.cellsOf 35 = 2 by kernel_rfl] at g12
    have g13 : DataW.trod enc Try.prog w base (fun _ => true) held m 38 (([c0, c1, c2, c3, c4, c5, c6, c7, c8, c9, c10, c11, c12, c13, c14, c15, c16, c17, c18, c19, c20, c21].drop 19).take (Try.prog.cellsOf 38)) = some x13 := hf 13 _ rfl
    rw [show Try.prog.cellsOf 38 = 3 by kernel_rfl] at g13
    clear hf
    simp only [List.drop_zero, List.drop_succ_cons, List.take_succ_cons, List.take_zero] at g0 g1 g2 g3 g4 g5 g6 g7 g8 g9 g10 g11 g12 g13
    obtain ⟨k, e0, _, hw0⟩ := DataW.trod_int Try.underlying22 g0
    obtain ⟨id, e3, _, hw3⟩ := DataW.trod_int Try.underlying3 g3
    obtain ⟨f, e4, _, hw4⟩ := DataW.trod_int Try.underlying22 g4
    obtain ⟨ep, e5, _, hw5⟩ := DataW.trod_int Try.underlying26 g5
    obtain ⟨ad, e6, _, hw6⟩ := DataW.trod_int Try.underlying26 g6
    obtain ⟨er, e7, _, hw7⟩ := DataW.trod_int Try.underlying27 g7
    obtain ⟨fr, e1, pw1⟩ := trod_place g1
    obtain ⟨to1, e2, pw2⟩ := trod_place g2
    obtain ⟨C, e8, hC⟩ := trod_cell g8
    obtain ⟨sa, st, sc, e9, hst, hst2, hst3, _⟩ := row_ints g9
    obtain ⟨ka, bk, kc, e10, hbk, hbk2, hbk3⟩ := row_backs g10
    obtain ⟨ba, e11⟩ := trod_ballot g11
    obtain ⟨pr, e12⟩ := trod_ballot g12
    obtain ⟨L, e13, hL⟩ := trod_layout g13
    simp only [List.cons.injEq, and_true] at e0 e1 e2 e3 e4 e5 e6 e7 e8 e11 e12 e13
    have h5 := bounds_u64 hw5
    have h6 := bounds_u64 hw6
    obtain ⟨ep, rfl⟩ := Int.eq_ofNat_of_zero_le h5.1
    obtain ⟨ad, rfl⟩ := Int.eq_ofNat_of_zero_le h6.1
    refine ⟨⟨k, fr, to1, id, f, ep, ad, er, C.x, C.a, C.c, C.a2, C.c2, st, sa, sc, bk, ka, kc, ba, pr, L⟩, ?_, ⟨⟨hC.d, hC.b, hst, hbk, hL.inn⟩, ⟨hC.dl, hC.bl, by show st.length ≤ _; omega, hbk3, hL.fit, hC.fit, hbk2⟩⟩, pw1, pw2⟩
    obtain ⟨e1, e1'⟩ := e1
    obtain ⟨e2, e2'⟩ := e2
    obtain ⟨e8, e8', e8''⟩ := e8
    obtain ⟨e11, e11'⟩ := e11
    obtain ⟨e12, e12'⟩ := e12
    obtain ⟨e13, e13', e13''⟩ := e13
    rw [e0, e1, e1', e2, e2', e3, e4, e5, e6, e7, e8, e8', e8'', e9, e10, e11, e11', e12, e12', e13, e13', e13'']
    rfl
set_option maxRecDepth 100000 in
theorem open_messageV {r : Reach} {b0 : Nat} {v : Value} {d : DataW H} {p : List MemPlace} (hv : Value.okWide Try.prog w r b0 40 v) (h : DataW.Trod enc Try.prog w base (fun _ => true) held 40 v d p) :
    ∃ A : MgT, v = .agg A.cs.toArray ∧ MgOk w A := by
  obtain ⟨cs, rfl, hsz⟩ := okWide_struct Try.underlying40 hv
  obtain ⟨fuel, hf⟩ := h
  obtain ⟨A, h1, h2, _⟩ := trod_message hf
  have h1' : cs.toList = A.cs := h1
  exact ⟨A, by rw [← h1'], h2⟩
end
end Go.Proofs.Ytdblplkaobeimaa
namespace Go.Proofs.Ytdblplkaobeimaa
open Go.RowKit Go.Deep Go.Shelf
set_option linter.unusedVariables false
set_option linter.unusedSimpArgs false

theorem Epoch_same (S : SqS) (p : Nat) (w : World) (ho : Sqn w p S) :
    Calls Try.prog 10 #[.pointer (some ⟨p, 0, none⟩)] w fun e w' => e = .returned (.int .u64 (S.e : Int)) ∧ w' = w := by
  have s0 := ho.c1
  have hp := ho.lt
  clear ho
  go_enter Try.func10, Try.ntmps10
  go_wp2_with fail
  go_ret
  exact ⟨rfl, rfl⟩
theorem Tail_same (S : SqS) (p : Nat) (w : World) (ho : Sqn w p S) :
    Calls Try.prog 12 #[.pointer (some ⟨p, 0, none⟩)] w fun e w' => e = .returned (.int .u64 (S.t : Int)) ∧ w' = w := by
  have s0 := ho.c2
  have hp := ho.lt
  clear ho
  go_enter Try.func12, Try.ntmps12
  go_wp2_with fail
  go_ret
  exact ⟨rfl, rfl⟩
/-- a message is loaded whole at an operation whose guard is met -/
theorem wpList_loadMgQ {ops : Array Oper} {rest : List Oper} {o : Oper} {a : Act} {w : World} {Q : Exit → Act → World → Prop} (x : Operand) (ho : o.op = .load 40 x) (b : Nat) (hx : a.eval x = .pointer (some ⟨b, 0, none⟩)) (A : MgT) (hr : Own w b 40 A.cs) (hw : Region.wanted o (yielded ops a.tmps) = true)
    (h : wpList Try.prog ops Q rest (a.put o.dst (.agg A.cs.toArray)) w) : wpList Try.prog ops Q (o :: rest) a w :=
  wpList_step fun K hK => by
    rw [if_pos hw]
    exact wp_load_mid _ x ho b 0 hx A.cs _ hr.range Try.underlying40 rfl infoMg (hK _ _ h)
/-- a Token, or a Tail, of an epoch -/
def tkM (k : Int) (fr : Int × Int) (n : Int) (ep : Nat) (a : Option Addr) (st : List Int) (c : Nat) : MgT := ⟨k, fr, (2, n), 0, 0, ep, 0, 0, noC, none, 0, none, 0, st, a, c, [], none, 0, (0, 0), (0, 0), ⟨0, none, 0, [], 0⟩⟩
theorem tkM_right {k : Int} {fr : Int × Int} {n : Int} {ep : Nat} {a : Option Addr} {st : List Int} {c : Nat} (hk : k = 9 ∨ k = 7) (hf : plOk fr = true) (hn : 0 ≤ n ∧ n < 32) (he : ep ≤ 1048576) : mright (tkM k fr n ep a st c).x = stOk st := by
  have k1 : kindsOk k 0 = true := by rcases hk with rfl | rfl <;> rfl
  have k2 : plOk (2, n) = true := blw_iff.2 hn
  have r1 : (mbOk [] && (mcOk noC && mlOk (LyT.x ⟨0, none, 0, [], 0⟩))) = true := by kernel_rfl
  have r2 : blw 0 1048576 = true := rfl
  have r3 : blw 0 256 = true := rfl
  have r4 : baOk (0, 0) = true := rfl
  show (kindsOk k 0 && (plOk fr && (plOk (2, n) && (blw 0 1048576 && (decide (ep ≤ 1048576) && (decide (0 ≤ 1048576) && (blw 0 256 && (baOk (0, 0) && (baOk (0, 0) && (stOk st && (mbOk [] && (mcOk noC && mlOk (LyT.x ⟨0, none, 0, [], 0⟩))))))))))))) = stOk st
  rw [k1, hf, k2, r2, r3, r4, r1, decide_eq_true he]
  simp
theorem tkM_in {w : World} {B : Nat} {k : Int} {fr : Int × Int} {n : Int} {ep : Nat} {a : Option Addr} {st : List Int} {c : Nat} (h : Ro w B a (i64s st)) : MgIn w B (tkM k fr n ep a st c) := ⟨Ro.nil _ _ _, Ro.nil _ _ _, h, Ro.nil _ _ _, noly_in _ _⟩
theorem tkM_fit {k : Int} {fr : Int × Int} {n : Int} {ep : Nat} {a : Option Addr} {st : List Int} {c : Nat} (h : st.length ≤ 9223372036854775807) : MgFit (tkM k fr n ep a st c) := ⟨by simp [tkM, noC], by simp [tkM, noC], h, by simp [tkM], noly_fit, (fun b hb => by cases hb), (fun b hb => by cases hb)⟩
/-- the message, sent to sequencer 0 -/
def toQ (A : MgT) : MgT := { A with «to» := (2, 0) }
theorem toQ_right {A : MgT} (h : mright A.x = true) : mright (toQ A).x = true := by
  have hm := h
  unfold mright at hm ⊢
  simp only [Bool.and_eq_true] at hm ⊢
  obtain ⟨g1, g2, g3, g4⟩ := hm
  exact ⟨g1, g2, (show plOk (2, 0) = true by decide), g4⟩
/-- the answers to what is of another epoch -/
theorem Serve_late (S : SqS) (hSL : S.L.length = 16) (hST : S.t ≤ 1048576) (hn : 0 ≤ S.n ∧ S.n < 32) (p : Nat) (k : Int) (hk : k = 9 ∨ k = 7) (fr : Int × Int) (hf : plOk fr = true) (ep : Nat) (he : ep ≤ 1048576) (hne : ep ≠ S.e) (w : World) (ho : Sqn w p S) :
    Calls Try.prog 9 #[.pointer (some ⟨p, 0, none⟩), .agg (tkM k fr S.n ep none [] 0).cs.toArray] w fun e w' => e = .returned (.tuple #[.agg (refT S (tkM k fr S.n ep none [] 0)).cs.toArray, .bool true]) ∧ Sqn w' p S ∧ Chg [p] w w' := by
  refine (Serve_any S hSL hST p (tkM k fr S.n ep none [] 0) w ho (tkM_in (Ro.nil _ _ _)) (tkM_fit (by simp)) (.inl rfl)).mono ?_
  have hr : mright (tkM k fr S.n ep none [] 0).x = true := (tkM_right hk hf hn he).trans rfl
  have hB : svB S (tkM k fr S.n ep none [] 0) = true := by
    unfold svB
    rw [hr, decide_eq_true (show (tkM k fr S.n ep none [] 0).to.1 = 2 ∧ (tkM k fr S.n ep none [] 0).to.2 = S.n from ⟨rfl, rfl⟩), decide_eq_true (show (tkM k fr S.n ep none [] 0).k = 10 ∨ (tkM k fr S.n ep none [] 0).k = 7 ∨ (tkM k fr S.n ep none [] 0).k = 9 from by rcases hk with rfl | rfl; exact .inr (.inr rfl); exact .inr (.inl rfl))]
    rfl
  have hN : S.now (tkM k fr S.n ep none [] 0).ep = false := by
    show (decide (ep = S.e) && decide (ep ≠ 0)) = false
    rw [decide_eq_false hne]; rfl
  have h10 : (tkM k fr S.n ep none [] 0).k ≠ 10 := by
    rcases hk with rfl | rfl
    · show (9 : Int) ≠ 10; decide
    · show (7 : Int) ≠ 10; decide
  rintro e w' ⟨a1, c1, a2, c2, rfl, h1, -, h2⟩
  refine ⟨?_, ?_, h2⟩
  · unfold svT
    rw [hB, if_pos rfl, if_neg h10, hN]
    rcases hk with rfl | rfl
    · rw [if_neg (show (tkM 9 fr S.n ep none [] 0).k ≠ 7 by show (9 : Int) ≠ 7; decide)]; rfl
    · rw [if_pos (show (tkM 7 fr S.n ep none [] 0).k = 7 from rfl)]
      unfold endT
      rw [hN]; rfl
  · unfold svS at h1
    rw [hB, if_pos rfl, if_neg h10, hN] at h1
    simpa using h1
/-- the state behind a first Begin -/
def fstS (A : MgT) : SqS := ⟨0, A.ep, A.ad, lastsM A.bk 16⟩
/-- a first Begin -/
theorem Serve_first (p : Nat) (A : MgT) (w : World) (ho : Sqn w p (newS 0)) (hr : mright A.x = true) (hk : A.k = 10) (he : A.ep ≠ 0) (hin : MgIn w w.heap.size A) (hf : MgFit A) (hx : RoX w [p] A.sa (i64s A.st)) :
    Calls Try.prog 9 #[.pointer (some ⟨p, 0, none⟩), .agg (toQ A).cs.toArray] w fun e w' => e = .returned (.tuple #[.agg (ansT (toQ A) (if before ⟨0, [], A.bk⟩ A.ad then 0 else 151)).cs.toArray, .bool true]) ∧ Sqn w' p (if before ⟨0, [], A.bk⟩ A.ad then fstS A else newS 0) ∧ Chg [p] w w' := by
  have hin' : MgIn w w.heap.size (toQ A) := ⟨hin.d, hin.b, hin.st, hin.bk, hin.ly⟩
  have hf' : MgFit (toQ A) := ⟨hf.d, hf.b, hf.st, hf.bk, hf.ly, hf.fb, hf.fk⟩
  refine (Serve_any (newS 0) (by simp [newS]) (by simp [newS]) p (toQ A) w ho hin' hf' hx).mono ?_
  have hB : svB (newS 0) (toQ A) = true := by
    unfold svB
    rw [toQ_right hr, decide_eq_true (show (toQ A).to.1 = 2 ∧ (toQ A).to.2 = (newS 0).n from ⟨rfl, rfl⟩), decide_eq_true (show (toQ A).k = 10 ∨ (toQ A).k = 7 ∨ (toQ A).k = 9 from .inl hk)]
    rfl
  have h10 : (toQ A).k = 10 := hk
  have hep : ¬ (toQ A).ep ≤ (newS 0).e := by show ¬ A.ep ≤ 0; omega
  rintro e w' ⟨a1, c1, a2, c2, rfl, h1, -, h2⟩
  refine ⟨?_, ?_, h2⟩
  · unfold svT begT
    rw [hB, if_pos rfl, if_pos h10, if_neg hep]
    show _ = Ending.returned (.tuple #[.agg (ansT (toQ A) (if before ⟨0, [], (toQ A).bk⟩ (toQ A).ad then 0 else 151)).cs.toArray, .bool true])
    split <;> rfl
  · unfold svS begS at h1
    rw [hB, if_pos rfl, if_pos h10, if_neg hep] at h1
    exact h1
/-- the same Begin again -/
theorem Serve_again (p : Nat) (A : MgT) (w : World) (ho : Sqn w p (fstS A)) (hr : mright A.x = true) (hk : A.k = 10) (hin : MgIn w w.heap.size A) (hf : MgFit A) (hx : RoX w [p] A.sa (i64s A.st)) :
    Calls Try.prog 9 #[.pointer (some ⟨p, 0, none⟩), .agg (toQ A).cs.toArray] w fun e w' => e = .returned (.tuple #[.agg (refT (fstS A) (toQ A)).cs.toArray, .bool true]) ∧ Sqn w' p (fstS A) ∧ Chg [p] w w' := by
  have hin' : MgIn w w.heap.size (toQ A) := ⟨hin.d, hin.b, hin.st, hin.bk, hin.ly⟩
  have hf' : MgFit (toQ A) := ⟨hf.d, hf.b, hf.st, hf.bk, hf.ly, hf.fb, hf.fk⟩
  have had : A.ad ≤ 1048576 := (mright_all hr).ad
  refine (Serve_any (fstS A) (by simp [fstS]) had p (toQ A) w ho hin' hf' hx).mono ?_
  have hB : svB (fstS A) (toQ A) = true := by
    unfold svB
    rw [toQ_right hr, decide_eq_true (show (toQ A).to.1 = 2 ∧ (toQ A).to.2 = (fstS A).n from ⟨rfl, rfl⟩), decide_eq_true (show (toQ A).k = 10 ∨ (toQ A).k = 7 ∨ (toQ A).k = 9 from .inl hk)]
    rfl
  have h10 : (toQ A).k = 10 := hk
  have hep : (toQ A).ep ≤ (fstS A).e := Nat.le_refl A.ep
  rintro e w' ⟨a1, c1, a2, c2, rfl, h1, -, h2⟩
  refine ⟨?_, ?_, h2⟩
  · unfold svT begT
    rw [hB, if_pos rfl, if_pos h10, if_pos hep]
  · unfold svS begS at h1
    rw [hB, if_pos rfl, if_pos h10, if_pos hep] at h1
    exact h1
end Go.Proofs.Ytdblplkaobeimaa
namespace Go.Proofs.Ytdblplkaobeimaa
open Go.RowKit Go.Deep Go.Shelf Go.WideShapes
set_option linter.unusedVariables false
set_option linter.unusedSimpArgs false
set_option maxRecDepth 100000

/-- the world in the midst of a walk, by name -/
theorem wp_worldQ {P : Program} {c : Code} {Q : Exit → Act → World → Prop} {a : Act} {W : World} (h : ∀ V, V = W → Code.wp P c Q a V) : Code.wp P c Q a W := h W rfl
/-- a message is stored whole, in a region that draws its order -/
theorem wp_storeMgQ {o : Oper} {a : Act} {w : World} {K : Act → World → Prop} {Q : Exit → Act → World → Prop} (x y : Operand) (ho : o.op = .store 40 x y) (b : Nat) (hx : a.eval x = .pointer (some ⟨b, 0, none⟩)) (A : MgT) (hy : a.eval y = .agg A.cs.toArray) (old : List Value) (hr : Own w b 40 old) (hl : old.length = 22)
    (h : ∀ w', Own w' b 40 A.cs → Chg [b] w w' → K (a.put o.dst undef) w') : o.wp Try.prog a w K Q := by
  refine wp_store_mid _ x y ho b 0 A.cs.toArray hx hy (fun j hj => ?_) infoMg (all_oneCell_toArray A.one) (h _ ?_ ?_)
  · have hj' : j < 22 := hj
    rw [Nat.zero_add, hr.cell j]
    exact ⟨by simp [hl, hj'], hr.frozen j⟩
  · exact own_setCells A.cs [] old w hr (by rw [hl]; rfl)
  · exact (Chg.refl [b] w).setCells (.inl (by simp)) 0 _
/-- lists of streams that came in -/
structure ChsOk (w : World) (a : Option Addr) (M : List ChT) (c : Nat) : Prop where
  ro : Ro w w.heap.size a (chv M)
  inn : ChIn w w.heap.size M
  fit : ChFit M
section
variable {H : Type} {enc : TypeId × Value → H} {w : World} {base : Nat} {held : Bool}
theorem open_chsV {r : Reach} {b0 : Nat} {v : Value} {d : DataW H} {p : List MemPlace} (hv : Value.okWide Try.prog w r b0 41 v) (h : DataW.Trod enc Try.prog w base (fun _ => true) held 41 v d p) :
    ∃ (a : Option Addr) (M : List ChT) (c : Nat), v = .slice a M.length c ∧ ChsOk w a M c := by
  obtain ⟨a, l, c, rfl⟩ := okWide_slice Try.underlying41 hv
  obtain ⟨fuel, hf⟩ := h
  obtain ⟨a', M, c', he, h1, h2, h3⟩ := row_chs (v := .slice a l c) (by simpa [Value.cells] using hf)
  exact ⟨a', M, c', he, h1, h2, h3⟩
end
/-- right streams rise -/
theorem stOk_rise {L : List Int} (h : stOk L = true) : ∀ i j, i < j → j < L.length → L.getD i 0 < L.getD j 0 := by
  have hb := stOk_iff h
  have hs : ∀ k, k < L.length → ¬ mis (leastI L k) (L.getD k 0) = true := by
    unfold stOk at h
    rw [Bool.and_eq_true] at h
    have h2 := h.2
    rw [Bool.not_eq_true', anyN_false] at h2
    intro k hk hm
    rw [h2 k hk] at hm
    cases hm
  have hstep : ∀ k, k + 1 < L.length → L.getD k 0 < L.getD (k + 1) 0 := by
    intro k hk
    have h1 := hs (k + 1) hk
    have hm : L.getD k 0 ∈ L := by
      have : L.getD k 0 = L[k]'(by omega) := by simp [List.getD, show k < L.length by omega]
      rw [this]; exact List.getElem_mem _
    have hr := hb.2 _ hm
    have e : leastI L (k + 1) = L.getD k 0 + 1 := by
      unfold leastI
      rw [if_neg (by omega), Nat.add_sub_cancel]
      unfold wrap64
      omega
    rw [e] at h1
    simp only [mis, Bool.or_eq_true, decide_eq_true_eq, not_or] at h1
    omega
  intro i j hij
  induction j with
  | zero => omega
  | succ j ih =>
    intro hj
    have h1 := hstep j hj
    rcases Nat.lt_or_ge i j with h2 | h2
    · have := ih h2 (by omega); omega
    · obtain rfl : i = j := by omega
      exact h1
theorem la_pushS {a : Nat} {n : Nat} : ∀ (S : List Int) (L : List La), (∀ s ∈ S, s.toNat < L.length) → (∀ s ∈ S, s.toNat ≠ n) → la (pushS a S L) n = la L n
  | [], _, _, _ => rfl
  | s :: S, L, h1, h2 => by
    rw [pushS, la_pushS S _ (fun x hx => by simpa using h1 x (List.mem_cons_of_mem _ hx)) (fun x hx => h2 x (List.mem_cons_of_mem _ hx)), la_set (h1 s (List.mem_cons_self)), if_neg (h2 s (List.mem_cons_self))]
/-- the last addresses of the k-th stream are untouched while those ahead of it are pushed -/
theorem la_take {a : Nat} {S : List Int} {L : List La} (hL : L.length = 16) (h : stOk S = true) {k : Nat} (hk : k < S.length) : la (pushS a (S.take k) L) (S.getD k 0).toNat = la L (S.getD k 0).toNat := by
  have hb := stOk_iff h
  have hr := stOk_rise h
  refine la_pushS _ _ (fun s hs => ?_) (fun s hs => ?_)
  · have := hb.2 s (List.mem_of_mem_take hs); omega
  · obtain ⟨i, hi, rfl⟩ := List.getElem_of_mem hs
    rw [List.length_take] at hi
    have h1 := hr i k (by omega) hk
    have e : (S.take k)[i] = S.getD i 0 := by simp [List.getD, show i < S.length by omega]
    rw [e]
    have h2 := hb.2 (S.getD i 0) (by rw [← e]; exact List.mem_of_mem_take (List.getElem_mem _))
    omega
theorem backsL_at {L : List La} {S : List Int} {k : Nat} (hk : k < S.length) : bk (backsL L S) k = (S.getD k 0, la L (S.getD k 0).toNat) := by
  simp [bk, backsL, List.getD, hk]
/-- a Token of right streams while there is room -/
theorem Serve_tokR (S : SqS) (hSL : S.L.length = 16) (hST : S.t < 1048576) (hn : 0 ≤ S.n ∧ S.n < 32) (he : S.e ≤ 1048576) (he0 : S.e ≠ 0) (p : Nat) (fr : Int × Int) (hf : plOk fr = true) (a : Option Addr) (st : List Int) (c : Nat) (hs : stOk st = true) (w : World) (ho : Sqn w p S) (hro : Ro w w.heap.size a (i64s st)) (hx : RoX w [p] a (i64s st)) :
    Calls Try.prog 9 #[.pointer (some ⟨p, 0, none⟩), .agg (tkM 9 fr S.n S.e a st c).cs.toArray] w fun e w' => ∃ a1 c1 a2 c2, e = .returned (.tuple #[.agg (tokT S (tkM 9 fr S.n S.e a st c) a1 c1 a2 c2).cs.toArray, .bool true]) ∧ Sqn w' p ⟨S.n, S.e, S.t + 1, pushS S.t st S.L⟩ ∧ Lb w' w.heap.size (.slice a2 st.length c2) (backsL S.L st) ∧ Chg [p] w w' := by
  have hst := stOk_iff hs
  refine (Serve_any S hSL (by omega) p (tkM 9 fr S.n S.e a st c) w ho (tkM_in hro) (tkM_fit (by omega)) hx).mono ?_
  have hr : mright (tkM 9 fr S.n S.e a st c).x = true := (tkM_right (.inl rfl) hf hn he).trans hs
  have hB : svB S (tkM 9 fr S.n S.e a st c) = true := by
    unfold svB
    rw [hr, decide_eq_true (show (tkM 9 fr S.n S.e a st c).to.1 = 2 ∧ (tkM 9 fr S.n S.e a st c).to.2 = S.n from ⟨rfl, rfl⟩), decide_eq_true (show (tkM 9 fr S.n S.e a st c).k = 10 ∨ (tkM 9 fr S.n S.e a st c).k = 7 ∨ (tkM 9 fr S.n S.e a st c).k = 9 from .inr (.inr rfl))]
    rfl
  have hN : S.now (tkM 9 fr S.n S.e a st c).ep = true := by
    show (decide (S.e = S.e) && decide (S.e ≠ 0)) = true
    rw [decide_eq_true rfl, decide_eq_true he0]; rfl
  have h10 : (tkM 9 fr S.n S.e a st c).k ≠ 10 := by show (9 : Int) ≠ 10; decide
  have h7 : (tkM 9 fr S.n S.e a st c).k ≠ 7 := by show (9 : Int) ≠ 7; decide
  have ht : ¬ S.t = 1048576 := by omega
  rintro e w' ⟨a1, c1, a2, c2, rfl, h1, h3, h2⟩
  have eT : svT S (tkM 9 fr S.n S.e a st c) a1 c1 a2 c2 = tokT S (tkM 9 fr S.n S.e a st c) a1 c1 a2 c2 := by
    unfold svT
    rw [hB, if_pos rfl, if_neg h10, if_neg h7, hN, if_pos rfl, if_neg ht]
  rw [eT] at h3 ⊢
  rw [hB]
  refine ⟨a1, c1, a2, c2, rfl, ?_, ?_, h2⟩
  · unfold svS at h1
    rw [hB, if_pos rfl, if_neg h10, if_neg h7, hN, if_pos rfl, if_neg ht] at h1
    exact h1
  · have h4 := h3.2
    have e4 : (tokT S (tkM 9 fr S.n S.e a st c) a1 c1 a2 c2).bk.length = st.length := backsL_length _ _
    rw [e4] at h4
    exact h4
/-- a Token when all addresses are gone -/
theorem Serve_tokF (S : SqS) (hSL : S.L.length = 16) (hST : S.t = 1048576) (hn : 0 ≤ S.n ∧ S.n < 32) (he : S.e ≤ 1048576) (he0 : S.e ≠ 0) (p : Nat) (fr : Int × Int) (hf : plOk fr = true) (a : Option Addr) (st : List Int) (c : Nat) (hs : stOk st = true) (w : World) (ho : Sqn w p S) (hro : Ro w w.heap.size a (i64s st)) (hx : RoX w [p] a (i64s st)) :
    Calls Try.prog 9 #[.pointer (some ⟨p, 0, none⟩), .agg (tkM 9 fr S.n S.e a st c).cs.toArray] w fun e w' => e = .returned (.tuple #[.agg (ansT (tkM 9 fr S.n S.e a st c) 152).cs.toArray, .bool true]) ∧ Sqn w' p S ∧ Chg [p] w w' := by
  have hst := stOk_iff hs
  refine (Serve_any S hSL (by omega) p (tkM 9 fr S.n S.e a st c) w ho (tkM_in hro) (tkM_fit (by omega)) hx).mono ?_
  have hr : mright (tkM 9 fr S.n S.e a st c).x = true := (tkM_right (.inl rfl) hf hn he).trans hs
  have hB : svB S (tkM 9 fr S.n S.e a st c) = true := by
    unfold svB
    rw [hr, decide_eq_true (show (tkM 9 fr S.n S.e a st c).to.1 = 2 ∧ (tkM 9 fr S.n S.e a st c).to.2 = S.n from ⟨rfl, rfl⟩), decide_eq_true (show (tkM 9 fr S.n S.e a st c).k = 10 ∨ (tkM 9 fr S.n S.e a st c).k = 7 ∨ (tkM 9 fr S.n S.e a st c).k = 9 from .inr (.inr rfl))]
    rfl
  have hN : S.now (tkM 9 fr S.n S.e a st c).ep = true := by
    show (decide (S.e = S.e) && decide (S.e ≠ 0)) = true
    rw [decide_eq_true rfl, decide_eq_true he0]; rfl
  have h10 : (tkM 9 fr S.n S.e a st c).k ≠ 10 := by show (9 : Int) ≠ 10; decide
  have h7 : (tkM 9 fr S.n S.e a st c).k ≠ 7 := by show (9 : Int) ≠ 7; decide
  rintro e w' ⟨a1, c1, a2, c2, rfl, h1, h3, h2⟩
  have eT : svT S (tkM 9 fr S.n S.e a st c) a1 c1 a2 c2 = ansT (tkM 9 fr S.n S.e a st c) 152 := by
    unfold svT
    rw [hB, if_pos rfl, if_neg h10, if_neg h7, hN, if_pos rfl, if_pos hST]
  rw [eT, hB]
  refine ⟨rfl, ?_, h2⟩
  unfold svS at h1
  rw [hB, if_pos rfl, if_neg h10, if_neg h7, hN, if_pos rfl, if_pos hST] at h1
  exact h1
end Go.Proofs.Ytdblplkaobeimaa
