/-
  What a message that came in is. Plain lemmas, no claim of their own.
-/
import Derived.Test.YtcadnlilijkneaaGa2
import Derived.Test.YtcadnlilijkneaaGa3
import Derived.Test.YtcadnlilijkneaaGa6
import Derived.Test.YtcadnlilijkneaaGa5
import Derived.Deep.Cut
namespace Go.Proofs.Ytcadnlilijkneaa
open Go.RowKit Go.ChangeShapes Go.WideShapes Go.Deep
set_option linter.unusedVariables false
set_option linter.unusedSimpArgs false

section
variable {H : Type} {enc : TypeId × Value → H} {w : World} {base : Nat} {held : Bool}
set_option maxRecDepth 100000 in
theorem trod_layout {n : Nat} {cs : List Value} {y : DataW H × List MemPlace} (h : DataW.trod enc Try.prog w base (fun _ => true) held n 38 cs = some y) :
    ∃ A : LyT, cs = [.int .u64 (A.e : Int), .slice A.a A.sg.length A.c, .int .i64 A.q] ∧ LyOk w A := by
  obtain ⟨xs, m, _, _, hlen, hxl, hf⟩ := DataW.trod_struct Try.underlying38 h
  have hc3 : cs.length = 3 := hlen.trans (by kernel_rfl)
  match cs, hc3, xs, hxl with
  | [c0, c1, c2], _, [x0, x1, x2], _ =>
    have g0 : DataW.trod enc Try.prog w base (fun _ => true) held m 26 (([c0, c1, c2].drop 0).take (Try.prog.cellsOf 26)) = some x0 := hf 0 _ rfl
    have g1 : DataW.trod enc Try.prog w base (fun _ => true) held m 36 (([c0, c1, c2].drop 1).take (Try.prog.cellsOf 36)) = some x1 := hf 1 _ rfl
    have g2 : DataW.trod enc Try.prog w base (fun _ => true) held m 3 (([c0, c1, c2].drop 2).take (Try.prog.cellsOf 3)) = some x2 := hf 2 _ rfl
    rw [show Try.prog.cellsOf 26 = 1 by kernel_rfl] at g0
    rw [show Try.prog.cellsOf 36 = 1 by kernel_rfl] at g1
    rw [show Try.prog.cellsOf 3 = 1 by kernel_rfl] at g2
    simp only [List.drop_zero, List.drop_succ_cons, List.take_succ_cons, List.take_zero] at g0 g1 g2
    obtain ⟨s, e0, _, hw0⟩ := DataW.trod_int Try.underlying26 g0
    obtain ⟨a, L, c, rfl, k1, k2, k3⟩ := row_segs g1
    obtain ⟨q, e2, _, hw2⟩ := DataW.trod_int Try.underlying3 g2
    simp only [List.cons.injEq, and_true] at e0 e2
    subst e0 e2
    have h1 := bounds_u64 hw0
    refine ⟨⟨s.toNat, a, c, L, q⟩, ?_, ⟨k1, k2⟩, k3, by show s.toNat ≤ _; omega, bounds_i64 hw2⟩
    simp only
    rw [show ((s.toNat : Nat) : Int) = s by omega]
set_option maxRecDepth 100000 in
theorem trod_place {n : Nat} {cs : List Value} {y : DataW H × List MemPlace} (h : DataW.trod enc Try.prog w base (fun _ => true) held n 25 cs = some y) :
    ∃ p : Int × Int, cs = [.int .i64 p.1, .int .i64 p.2] ∧ Pw p := by
  obtain ⟨xs, m, _, _, hlen, hxl, hf⟩ := DataW.trod_struct Try.underlying25 h
  have hc3 : cs.length = 2 := hlen.trans (by kernel_rfl)
  match cs, hc3, xs, hxl with
  | [c0, c1], _, [x0, x1], _ =>
    have g0 : DataW.trod enc Try.prog w base (fun _ => true) held m 23 (([c0, c1].drop 0).take (Try.prog.cellsOf 23)) = some x0 := hf 0 _ rfl
    have g1 : DataW.trod enc Try.prog w base (fun _ => true) held m 3 (([c0, c1].drop 1).take (Try.prog.cellsOf 3)) = some x1 := hf 1 _ rfl
    rw [show Try.prog.cellsOf 23 = 1 by kernel_rfl] at g0
    rw [show Try.prog.cellsOf 3 = 1 by kernel_rfl] at g1
    simp only [List.drop_zero, List.drop_succ_cons, List.take_succ_cons, List.take_zero] at g0 g1
    obtain ⟨s, e0, _, hw0⟩ := DataW.trod_int Try.underlying23 g0
    obtain ⟨q, e2, _, hw2⟩ := DataW.trod_int Try.underlying3 g1
    simp only [List.cons.injEq, and_true] at e0 e2
    subst e0 e2
    exact ⟨(s, q), rfl, bounds_i64 hw0, bounds_i64 hw2⟩
set_option maxRecDepth 100000 in
theorem trod_ballot {n : Nat} {cs : List Value} {y : DataW H × List MemPlace} (h : DataW.trod enc Try.prog w base (fun _ => true) held n 35 cs = some y) :
    ∃ p : Int × Int, cs = [.int .i64 p.1, .int .i64 p.2] := by
  obtain ⟨xs, m, _, _, hlen, hxl, hf⟩ := DataW.trod_struct Try.underlying35 h
  have hc3 : cs.length = 2 := hlen.trans (by kernel_rfl)
  match cs, hc3, xs, hxl with
  | [c0, c1], _, [x0, x1], _ =>
    have g0 : DataW.trod enc Try.prog w base (fun _ => true) held m 3 (([c0, c1].drop 0).take (Try.prog.cellsOf 3)) = some x0 := hf 0 _ rfl
    have g1 : DataW.trod enc Try.prog w base (fun _ => true) held m 3 (([c0, c1].drop 1).take (Try.prog.cellsOf 3)) = some x1 := hf 1 _ rfl
    rw [show Try.prog.cellsOf 3 = 1 by kernel_rfl] at g0
    rw [show Try.prog.cellsOf 3 = 1 by kernel_rfl] at g1
    simp only [List.drop_zero, List.drop_succ_cons, List.take_succ_cons, List.take_zero] at g0 g1
    obtain ⟨s, e0, _, hw0⟩ := DataW.trod_int Try.underlying3 g0
    obtain ⟨q, e2, _, hw2⟩ := DataW.trod_int Try.underlying3 g1
    simp only [List.cons.injEq, and_true] at e0 e2
    subst e0 e2
    exact ⟨(s, q), rfl⟩
/-- a message that came in -/
structure MgOk (w : World) (A : MgT) : Prop where
  inn : MgIn w w.heap.size A
  fit : MgFit A
set_option maxRecDepth 100000 in
set_option maxHeartbeats 4000000 in
theorem trod_message {n : Nat} {cl : List Value} {y : DataW H × List MemPlace} (h : DataW.trod enc Try.prog w base (fun _ => true) held n 40 cl = some y) :
    ∃ A : MgT, cl = A.cs ∧ MgOk w A ∧ Pw A.fr ∧ Pw A.to := by
  obtain ⟨xs, m, _, _, hlen, hxl, hf⟩ := DataW.trod_struct Try.underlying40 h
  have hc22 : cl.length = 22 := hlen.trans (by kernel_rfl)
  match cl, hc22, xs, hxl with
  | [c0, c1, c2, c3, c4, c5, c6, c7, c8, c9, c10, c11, c12, c13, c14, c15, c16, c17, c18, c19, c20, c21], _, [x0, x1, x2, x3, x4, x5, x6, x7, x8, x9, x10, x11, x12, x13], _ =>
    have g0 : DataW.trod enc Try.prog w base (fun _ => true) held m 22 (([c0, c1, c2, c3, c4, c5, c6, c7, c8, c9, c10, c11, c12, c13, c14, c15, c16, c17, c18, c19, c20, c21].drop 0).take (Try.prog.cellsOf 22)) = some x0 := hf 0 _ rfl
    rw [show Try.prog.cellsOf 22 = 1 by kernel_rfl] at g0
    have g1 : DataW.trod enc Try.prog w base (fun _ => true) held m 25 (([c0, c1, c2, c3, c4, c5, c6, c7, c8, c9, c10, c11, c12, c13, c14, c15, c16, c17, c18, c19, c20, c21].drop 1).take (Try.prog.cellsOf 25)) = some x1 := hf 1 _ rfl
    rw [show Try.prog.cellsOf 25 = 2 by kernel_rfl] at g1
    have g2 : DataW.trod enc Try.prog w base (fun _ => true) held m 25 (([c0, c1, c2, c3, c4, c5, c6, c7, c8, c9, c10, c11, c12, c13, c14, c15, c16, c17, c18, c19, c20, c21].drop 3).take (Try.prog.cellsOf 25)) = some x2 := hf 2 _ rfl
    rw [show Try.prog.cellsOf 25 = 2 by kernel_rfl] at g2
    have g3 : DataW.trod enc Try.prog w base (fun _ => true) held m 3 (([c0, c1, c2, c3, c4, c5, c6, c7, c8, c9, c10, c11, c12, c13, c14, c15, c16, c17, c18, c19, c20, c21].drop 5).take (Try.prog.cellsOf 3)) = some x3 := hf 3 _ rfl
    rw [show Try.prog.cellsOf 3 = 1 by kernel_rfl] at g3
    have g4 : DataW.trod enc Try.prog w base (fun _ => true) held m 22 (([c0, c1, c2, c3, c4, c5, c6, c7, c8, c9, c10, c11, c12, c13, c14, c15, c16, c17, c18, c19, c20, c21].drop 6).take (Try.prog.cellsOf 22)) = some x4 := hf 4 _ rfl
    rw [show Try.prog.cellsOf 22 = 1 by kernel_rfl] at g4
    have g5 : DataW.trod enc Try.prog w base (fun _ => true) held m 26 (([c0, c1, c2, c3, c4, c5, c6, c7, c8, c9, c10, c11, c12, c13, c14, c15, c16, c17, c18, c19, c20, c21].drop 7).take (Try.prog.cellsOf 26)) = some x5 := hf 5 _ rfl
    rw [show Try.prog.cellsOf 26 = 1 by kernel_rfl] at g5
    have g6 : DataW.trod enc Try.prog w base (fun _ => true) held m 26 (([c0, c1, c2, c3, c4, c5, c6, c7, c8, c9, c10, c11, c12, c13, c14, c15, c16, c17, c18, c19, c20, c21].drop 8).take (Try.prog.cellsOf 26)) = some x6 := hf 6 _ rfl
    rw [show Try.prog.cellsOf 26 = 1 by kernel_rfl] at g6
    have g7 : DataW.trod enc Try.prog w base (fun _ => true) held m 27 (([c0, c1, c2, c3, c4, c5, c6, c7, c8, c9, c10, c11, c12, c13, c14, c15, c16, c17, c18, c19, c20, c21].drop 9).take (Try.prog.cellsOf 27)) = some x7 := hf 7 _ rfl
    rw [show Try.prog.cellsOf 27 = 1 by kernel_rfl] at g7
    have g8 : DataW.trod enc Try.prog w base (fun _ => true) held m 32 (([c0, c1, c2, c3, c4, c5, c6, c7, c8, c9, c10, c11, c12, c13, c14, c15, c16, c17, c18, c19, c20, c21].drop 10).take (Try.prog.cellsOf 32)) = some x8 := hf 8 _ rfl
    rw [show Try.prog.cellsOf 32 = 3 by kernel_rfl] at g8
    have g9 : DataW.trod enc Try.prog w base (fun _ => true) held m 33 (([c0, c1, c2, c3, c4, c5, c6, c7, c8, c9, c10, c11, c12, c13, c14, c15, c16, c17, c18, c19, c20, c21].drop 13).take (Try.prog.cellsOf 33)) = some x9 := hf 9 _ rfl
    rw [show Try.prog.cellsOf 33 = 1 by kernel_rfl] at g9
    have g10 : DataW.trod enc Try.prog w base (fun _ => true) held m 30 (([c0, c1, c2, c3, c4, c5, c6, c7, c8, c9, c10, c11, c12, c13, c14, c15, c16, c17, c18, c19, c20, c21].drop 14).take (Try.prog.cellsOf 30)) = some x10 := hf 10 _ rfl
    rw [show Try.prog.cellsOf 30 = 1 by kernel_rfl] at g10
    have g11 : DataW.trod enc Try.prog w base (fun _ => true) held m 35 (([c0, c1, c2, c3, c4, c5, c6, c7, c8, c9, c10, c11, c12, c13, c14, c15, c16, c17, c18, c19, c20, c21].drop 15).take (Try.prog.cellsOf 35)) = some x11 := hf 11 _ rfl
    rw [show Try.prog.cellsOf 35 = 2 by kernel_rfl] at g11
    have g12 : DataW.trod enc Try.prog w base (fun _ => true) held m 35 (([c0, c1, c2, c3, c4, c5, c6, c7, c8, c9, c10, c11, c12, c13, c14, c15, c16, c17, c18, c19, c20, c21].drop 17).take (Try.prog.cellsOf 35)) = some x12 := hf 12 _ rfl
    rw [show Try.prog.cellsOf 35 = 2 by kernel_rfl] at g12
    have g13 : DataW.trod enc Try.prog w base (fun _ => true) held m 38 (([c0, c1, c2, c3, c4, c5, c6, c7, c8, c9, c10, c11, c12, c13, c14, c15, c16, c17, c18, c19, c20, c21].drop 19).take (Try.prog.cellsOf 38)) = some x13 := hf 13 _ rfl
    rw [show Try.prog.cellsOf 38 = 3 by kernel_rfl] at g13
    clear hf
    simp only [List.drop_zero, List.drop_succ_cons, List.take_succ_cons, List.take_zero] at g0 g1 g2 g3 g4 g5 g6 g7 g8 g9 g10 g11 g12 g13
    obtain ⟨k, e0, _, hw0⟩ := DataW.trod_int Try.underlying22 g0
    obtain ⟨id, e3, _, hw3⟩ := DataW.trod_int Try.underlying3 g3
    obtain ⟨f, e4, _, hw4⟩ := DataW.trod_int Try.underlying22 g4
    obtain ⟨ep, e5, _, hw5⟩ := DataW.trod_int Try.underlying26 g5
    obtain ⟨ad, e6, _, hw6⟩ := DataW.trod_int Try.underlying26 g6
    obtain ⟨er, e7, _, hw7⟩ := DataW.trod_int Try.underlying27 g7
    obtain ⟨fr, e1, pw1⟩ := trod_place g1
    obtain ⟨to, e2, pw2⟩ := trod_place g2
    obtain ⟨C, e8, hC⟩ := trod_cell g8
    obtain ⟨sa, st, sc, e9, hst, hst2, hst3, _⟩ := row_ints g9
    obtain ⟨ka, bk, kc, e10, hbk, hbk2, hbk3⟩ := row_backs g10
    obtain ⟨ba, e11⟩ := trod_ballot g11
    obtain ⟨pr, e12⟩ := trod_ballot g12
    obtain ⟨L, e13, hL⟩ := trod_layout g13
    simp only [List.cons.injEq, and_true] at e0 e1 e2 e3 e4 e5 e6 e7 e8 e11 e12 e13
    have h5 := bounds_u64 hw5
    have h6 := bounds_u64 hw6
    obtain ⟨ep, rfl⟩ := Int.eq_ofNat_of_zero_le h5.1
    obtain ⟨ad, rfl⟩ := Int.eq_ofNat_of_zero_le h6.1
    refine ⟨⟨k, fr, to, id, f, ep, ad, er, C.x, C.a, C.c, C.a2, C.c2, st, sa, sc, bk, ka, kc, ba, pr, L⟩, ?_, ⟨⟨hC.d, hC.b, hst, hbk, hL.inn⟩, ⟨hC.dl, hC.bl, by show st.length ≤ _; omega, hbk3, hL.fit, hC.fit, hbk2⟩⟩, pw1, pw2⟩
    obtain ⟨e1, e1'⟩ := e1
    obtain ⟨e2, e2'⟩ := e2
    obtain ⟨e8, e8', e8''⟩ := e8
    obtain ⟨e11, e11'⟩ := e11
    obtain ⟨e12, e12'⟩ := e12
    obtain ⟨e13, e13', e13''⟩ := e13
    rw [e0, e1, e1', e2, e2', e3, e4, e5, e6, e7, e8, e8', e8'', e9, e10, e11, e11', e12, e12', e13, e13', e13'']
    rfl
set_option maxRecDepth 100000 in
theorem open_messageV {r : Reach} {b0 : Nat} {v : Value} {d : DataW H} {p : List MemPlace} (hv : Value.okWide Try.prog w r b0 40 v) (h : DataW.Trod enc Try.prog w base (fun _ => true) held 40 v d p) :
    ∃ A : MgT, v = .agg A.cs.toArray ∧ MgOk w A := by
  obtain ⟨cs, rfl, hsz⟩ := okWide_struct Try.underlying40 hv
  obtain ⟨fuel, hf⟩ := h
  obtain ⟨A, h1, h2, _⟩ := trod_message hf
  have h1' : cs.toList = A.cs := h1
  exact ⟨A, by rw [← h1'], h2⟩
end
end Go.Proofs.Ytcadnlilijkneaa
namespace Go.Proofs.Ytcadnlilijkneaa
open Go.RowKit Go.Deep Go.Shelf
set_option linter.unusedVariables false
set_option linter.unusedSimpArgs false

set_option maxHeartbeats 2000000 in
theorem equalInts_any (w : World) (a b : Option Addr) (A B : List Int) (c d n m B0 : Nat) (hn : A.length = n) (hm : B.length = m) (ha : Ro w B0 a (i64s A)) (hb : Ro w B0 b (i64s B)) (hl : n ≤ 9223372036854775807) (hl2 : m ≤ 9223372036854775807) :
    Calls Try.prog 72 #[.slice a n c, .slice b m d] w fun e w' => e = .returned (.bool (decide (A = B))) ∧ Qt w w' := by
  have HN := Lib.hid hn
  have HM := Lib.hid hm
  have HA := Lib.hid ha
  have HB := Lib.hid hb
  clear ha hb hn hm
  go_enter Try.func72, Try.ntmps72
  by_cases hnm : n = m
  · subst hnm
    go_wp2_with fail
    go_loopw [13] (fun i wr => ∃ k : Nat, i = .int .i64 k ∧ k ≤ n ∧ Hid (∀ j, j < k → A.getD j 0 = B.getD j 0) ∧ Qt w wr) (fun i _ => n - (Go.RowKit.intOf i).toNat)
    case atStart => exact ⟨0, rfl, Nat.zero_le _, Lib.hid (by omega), Qt.refl _⟩
    case round =>
      obtain ⟨k, rfl, hk, HT, hq⟩ := hrel
      by_cases hlt : k < n
      · have hkA : k < A.length := by rw [HN.out]; exact hlt
        have hkB : k < B.length := by rw [HM.out]; exact hlt
        obtain ⟨g, off, rfl, hg, hcl⟩ := (HA.out.qt hq).i64 (by omega)
        obtain ⟨g', off', rfl, hg', hcl'⟩ := (HB.out.qt hq).i64 (by omega)
        have h1 := hcl k hkA
        have h4 := hcl' k hkB
        clear hcl hcl'
        obtain ⟨x, hx⟩ : ∃ x, A.getD k 0 = x := ⟨_, rfl⟩
        obtain ⟨y, hy⟩ : ∃ y, B.getD k 0 = y := ⟨_, rfl⟩
        rw [hx] at h1
        rw [hy] at h4
        have HX := Lib.hid hx
        have HY := Lib.hid hy
        have hk0 : (0 : Int) ≤ (k : Int) := by omega
        have hk1 : (k : Int) < (n : Int) := by omega
        have HQ := Lib.hid hq
        clear hq hx hy
        by_cases hxy : x = y
        · have hne : (x != y) = false := by rw [bne_eq_false_iff_eq]; exact hxy
          have HE := Lib.hid hxy
          clear hxy
          go_wp2_with fail
          go_region
          go_wp2_with fail
          go_roundw
          case rel =>
            refine ⟨k + 1, by go_num, by omega, Lib.hid fun j hj => ?_, by first | exact HQ.out | exact HQ.out.trans ⟨1, rfl⟩⟩
            by_cases e : j = k
            · subst e; rw [HX.out, HY.out]; exact HE.out
            · exact HT.out j (by omega)
          case measure => simp [Go.RowKit.intOf]; omega
        · have hne : (x != y) = true := by rw [bne_iff_ne]; exact hxy
          have HF : Hid (decide (A = B) = false) := Lib.hid (by
            simp only [decide_eq_false_iff_not]
            rintro rfl
            exact hxy (HX.out.symm.trans HY.out))
          clear hxy
          go_wp2_with fail
          go_region
          go_wp2_with fail
          go_ret
          exact ⟨by rw [HF.out]; rfl, by first | exact HQ.out | exact HQ.out.trans ⟨1, rfl⟩⟩
      · obtain rfl : k = n := by omega
        have HF : Hid (decide (A = B) = true) := Lib.hid (by
          simp only [decide_eq_true_eq]
          apply List.ext_getElem (by rw [HN.out, HM.out])
          intro i h1 h2
          have := HT.out i (by rw [HN.out] at h1; exact h1)
          simpa [List.getD, h1, h2] using this)
        go_wp2_with fail
        go_ret
        exact ⟨by rw [HF.out]; rfl, hq⟩
  · have hd0 : ((n : Int) != (m : Int)) = true := by rw [bne_iff_ne]; omega
    have HF := Lib.hid (show decide (A = B) = false by simp only [decide_eq_false_iff_not]; rintro rfl; exact hnm (HN.out.symm.trans HM.out))
    go_wp2_with fail
    go_ret
    exact ⟨by rw [HF.out]; rfl, Qt.refl _⟩

theorem chx_ext {A B : List ChT} (h : A.length = B.length) (he : ∀ j, j < A.length → (ct A j).u = (ct B j).u) : chx A = chx B := by
  apply List.ext_getElem (by simpa using h)
  intro i h1 h2
  have h1' : i < A.length := by simpa using h1
  have h2' : i < B.length := by simpa using h2
  have := he i h1'
  simpa [chx, ct, List.getD, h1', h2'] using this
theorem sgx_ext {A B : List SgT} (h : A.length = B.length) (he : ∀ j, j < A.length → (st A j).x = (st B j).x) : sgx A = sgx B := by
  apply List.ext_getElem (by simpa using h)
  intro i h1 h2
  have h1' : i < A.length := by simpa using h1
  have h2' : i < B.length := by simpa using h2
  have := he i h1'
  simpa [sgx, st, List.getD, h1', h2'] using this

set_option maxHeartbeats 2000000 in
theorem eqChs_any (A B : List ChT) (a b : Option Addr) (c d B0 : Nat) (w : World) (ha : Ro w B0 a (chv A)) (hb : Ro w B0 b (chv B)) (hia : ChIn w B0 A) (hib : ChIn w B0 B) (hfa : ChFit A) (hfb : ChFit B) (hB : B0 ≤ w.heap.size) :
    Calls Try.prog 71 #[.slice a A.length c, .slice b B.length d, .func (.func 72) #[] #[]] w fun e w' => e = .returned (.bool (decide (chx A = chx B))) ∧ Below w.heap.size w w' := by
  have eg : ∀ args w, (callFunc 72 args).run Try.prog w = .ok (.enter 72 args) w := enters_of Try.func72 (by kernel_rfl) rfl
  have HA := Lib.hid (And.intro ha hia)
  have HBb := Lib.hid (And.intro hb hib)
  have HFA := Lib.hid hfa.2
  have HFB := Lib.hid hfb.2
  have hl1 := hfa.1
  have HS := Lib.hid hB
  obtain ⟨n, hn⟩ : ∃ n, A.length = n := ⟨_, rfl⟩
  obtain ⟨m, hm⟩ : ∃ m, B.length = m := ⟨_, rfl⟩
  have hl2 := hfb.1
  rw [hn] at hl1 ⊢
  rw [hm] at hl2 ⊢
  have HN := Lib.hid hn
  have HM := Lib.hid hm
  obtain ⟨t, HT⟩ : ∃ t, Hid (decide (chx A = chx B) = t) := ⟨_, Lib.hid rfl⟩
  rw [HT.out]
  clear ha hb hia hib hfa hfb hB hn hm
  go_enter Try.func71, Try.ntmps71
  by_cases hnm : n = m
  · subst hnm
    go_wp2_with fail
    go_loopw [17] (fun i wr => ∃ k : Nat, i = .int .i64 k ∧ k ≤ n ∧ Hid (∀ j, j < k → (ct A j).u = (ct B j).u) ∧ Hid (Below w.heap.size w wr)) (fun i _ => n - (Go.RowKit.intOf i).toNat)
    case atStart => exact ⟨0, rfl, Nat.zero_le _, Lib.hid (by omega), Lib.hid (Below.refl _ _)⟩
    case round =>
      obtain ⟨k, rfl, hk, HE, HBk⟩ := hrel
      rename World => w6
      by_cases hlt : k < n
      · have hkA : k < A.length := by rw [HN.out]; exact hlt
        have hkB : k < B.length := by rw [HM.out]; exact hlt
        obtain ⟨g, off, rfl, hg, hcl⟩ := (HA.out.1.below HBk.out HS.out).ch (show 0 < A.length by omega)
        obtain ⟨g', off', rfl, hg', hcl'⟩ := (HBb.out.1.below HBk.out HS.out).ch (show 0 < B.length by omega)
        have h1 := hcl k hkA
        have h4 := hcl' k hkB
        have HCA := Lib.hid ((HA.out.2 _ (ct_mem hkA)).below HBk.out HS.out)
        have HCB := Lib.hid ((HBb.out.2 _ (ct_mem hkB)).below HBk.out HS.out)
        have HQA := Lib.hid (HFA.out _ (ct_mem hkA))
        have HQB := Lib.hid (HFB.out _ (ct_mem hkB))
        clear hcl hcl'
        obtain ⟨x, hx⟩ : ∃ x, ct A k = x := ⟨_, rfl⟩
        obtain ⟨y, hy⟩ : ∃ y, ct B k = y := ⟨_, rfl⟩
        rw [hx] at h1 HCA HQA
        rw [hy] at h4 HCB HQB
        have HX := Lib.hid hx
        have HY := Lib.hid hy
        obtain ⟨xa, xc, xu⟩ := x
        obtain ⟨ya, yc, yu⟩ := y
        simp only at h1 h4 HCA HCB HQA HQB
        have hk0 : (0 : Int) ≤ (k : Int) := by omega
        have hk1 : (k : Int) < (n : Int) := by omega
        have HEQ : Hid (∀ W, Qt w6 W → Calls Try.prog 72 #[.slice xa xu.length xc, .slice ya yu.length yc] W fun e w' => e = .returned (.bool (decide (xu = yu))) ∧ Qt W w') := Lib.hid fun W hW => equalInts_any W xa ya xu yu xc yc _ _ B0 rfl rfl (HCA.out.qt hW) (HCB.out.qt hW) HQA.out HQB.out
        obtain ⟨r, hr⟩ : ∃ r, decide (xu = yu) = r := ⟨_, rfl⟩
        rw [hr] at HEQ
        have HR := Lib.hid hr
        clear hx hy hr
        generalize xu.length = xn at *
        generalize yu.length = yn at *
        go_wp2_with fail
        refine (HEQ.out _ (Qt.refl _)).mono ?_
        rintro e w7 ⟨rfl, hq⟩
        have HB7 : Hid (Below w.heap.size w w7) := Lib.hid (hq.below HBk.out)
        clear hq
        cases r with
        | true =>
          go_wp2_with fail
          go_roundw
          case rel =>
            refine ⟨k + 1, by go_num, by omega, Lib.hid fun j hj => ?_, HB7⟩
            by_cases e : j = k
            · subst e; rw [HX.out, HY.out]; simpa using HR.out
            · exact HE.out j (by omega)
          case measure => simp [Go.RowKit.intOf]; omega
        | false =>
          obtain rfl : t = false := by
            rw [← HT.out]
            simp only [decide_eq_false_iff_not]
            intro h
            have := congrArg (fun l => cx l k) h
            simp only [cx_chx, HX.out, HY.out] at this
            have h2 := HR.out
            simp only [decide_eq_false_iff_not] at h2
            exact h2 this
          go_wp2_with fail
          go_ret
          exact ⟨rfl, HB7.out⟩
      · obtain rfl : k = n := by omega
        obtain rfl : t = true := by
          rw [← HT.out]
          simp only [decide_eq_true_eq]
          exact chx_ext (by rw [HN.out, HM.out]) (by rw [HN.out]; exact HE.out)
        go_wp2_with fail
        go_ret
        exact ⟨rfl, HBk.out⟩
  · have hd0 : ((n : Int) != (m : Int)) = true := by rw [bne_iff_ne]; omega
    obtain rfl : t = false := by
      rw [← HT.out]
      simp only [decide_eq_false_iff_not]
      intro h
      have := congrArg List.length h
      simp only [chx_length, HN.out, HM.out] at this
      exact hnm this
    go_wp2_with fail
    go_ret
    exact ⟨rfl, Below.refl _ _⟩
set_option maxHeartbeats 2000000 in
theorem sameSeg_any (A B : SgT) (B0 : Nat) (w : World) (ha : Ro w B0 A.a (chv A.ch)) (hb : Ro w B0 B.a (chv B.ch)) (hia : ChIn w B0 A.ch) (hib : ChIn w B0 B.ch) (hfa : ChFit A.ch) (hfb : ChFit B.ch) (hB : B0 ≤ w.heap.size) :
    Calls Try.prog 67 #[A.val, B.val] w fun e w' => e = .returned (.bool (decide (A.x = B.x))) ∧ Below w.heap.size w w' := by
  obtain ⟨f, a, c, L⟩ := A
  obtain ⟨f', a', c', L'⟩ := B
  simp only [SgT.val] at *
  obtain ⟨W, HWW⟩ : ∃ W, Hid ((w.alloc (.cells #[.int .u64 (f : Int), .slice a L.length c] 67)).alloc (.cells #[.int .u64 (f' : Int), .slice a' L'.length c'] 67) = W) := ⟨_, Lib.hid rfl⟩
  have hWc : Chg [] w W := by rw [← HWW.out]; exact ((Chg.refl [] w).alloc _).alloc _
  have hWb : Below w.heap.size w W := hWc.low
  have o1 : Own W w.heap.size 67 [.int .u64 (f : Int), .slice a L.length c] := by rw [← HWW.out]; exact (Own.new w _ _).alloc _
  have o2 : Own W (w.heap.size + 1) 67 [.int .u64 (f' : Int), .slice a' L'.length c'] := by
    rw [← HWW.out]
    have := Own.new (w.alloc (.cells #[.int .u64 (f : Int), .slice a L.length c] 67)) 67 [.int .u64 (f' : Int), .slice a' L'.length c']
    simpa using this
  have HE := Lib.hid (eqChs_any L L' a a' c c' B0 W (ha.below hWb hB) (hb.below hWb hB) (hia.below hWb hB) (hib.below hWb hB) hfa hfb (Nat.le_trans hB hWb.size))
  obtain ⟨r, hr⟩ : ∃ r, decide (chx L = chx L') = r := ⟨_, rfl⟩
  rw [hr] at HE
  have HX : Hid (decide (SgT.x ⟨f, a, c, L⟩ = SgT.x ⟨f', a', c', L'⟩) = (decide (f = f') && r)) := Lib.hid (by
    rw [← hr]
    simp only [SgT.x, Prod.mk.injEq, Bool.decide_and])
  rw [HX.out]
  have HB := Lib.hid hWb
  have c0 := o1.cell 0
  have c1 := o1.cell 1
  have d0 := o2.cell 0
  have d1 := o2.cell 1
  simp at c0 c1 d0 d1
  generalize L.length = n at *
  generalize L'.length = n' at *
  clear hWc hWb o1 o2 hr ha hb hia hib hfa hfb hB
  by_cases e : f = f'
  · subst e
    have e0 : decide (f = f) = true := by simp
    rw [e0, Bool.true_and]
    clear e0
    go_enter Try.func67, Try.ntmps67
    go_upto_region 1 with fail
    rw [HWW.out]
    go_wp2_with fail
    refine HE.out.mono ?_
    rintro e w1 ⟨rfl, hb⟩
    have HB1 := Lib.hid (HB.out.trans (hb.mono HB.out.size))
    clear hb
    go_wp2_with fail
    go_ret
    exact ⟨rfl, HB1.out⟩
  · have e0 : decide (f = f') = false := by simpa using e
    have e1 : ((f : Int) == (f' : Int)) = false := by rw [beq_eq_false_iff_ne]; omega
    rw [e0, Bool.false_and]
    clear e0 e
    go_enter Try.func67, Try.ntmps67
    go_upto_region 1 with fail
    rw [HWW.out]
    go_wp2_with fail
    go_ret
    exact ⟨rfl, HB.out⟩

set_option maxHeartbeats 2000000 in
theorem eqSgs_any (A B : List SgT) (a b : Option Addr) (c d B0 : Nat) (w : World) (ha : Ro w B0 a (sgv A)) (hb : Ro w B0 b (sgv B)) (hia : SgIn w B0 A) (hib : SgIn w B0 B) (hfa : SgFit A) (hfb : SgFit B) (hB : B0 ≤ w.heap.size) :
    Calls Try.prog 66 #[.slice a A.length c, .slice b B.length d, .func (.func 67) #[] #[]] w fun e w' => e = .returned (.bool (decide (sgx A = sgx B))) ∧ Below w.heap.size w w' := by
  have eg : ∀ args w, (callFunc 67 args).run Try.prog w = .ok (.enter 67 args) w := enters_of Try.func67 (by kernel_rfl) rfl
  have HA := Lib.hid (And.intro ha hia)
  have HBb := Lib.hid (And.intro hb hib)
  have HFA := Lib.hid hfa.2
  have HFB := Lib.hid hfb.2
  have hl1 := hfa.1
  have HS := Lib.hid hB
  obtain ⟨n, hn⟩ : ∃ n, A.length = n := ⟨_, rfl⟩
  obtain ⟨m, hm⟩ : ∃ m, B.length = m := ⟨_, rfl⟩
  have hl2 := hfb.1
  rw [hn] at hl1 ⊢
  rw [hm] at hl2 ⊢
  have HN := Lib.hid hn
  have HM := Lib.hid hm
  obtain ⟨t, HT⟩ : ∃ t, Hid (decide (sgx A = sgx B) = t) := ⟨_, Lib.hid rfl⟩
  rw [HT.out]
  clear ha hb hia hib hfa hfb hB hn hm
  go_enter Try.func66, Try.ntmps66
  by_cases hnm : n = m
  · subst hnm
    go_wp2_with fail
    go_loopw [17] (fun i wr => ∃ k : Nat, i = .int .i64 k ∧ k ≤ n ∧ Hid (∀ j, j < k → (st A j).x = (st B j).x) ∧ Hid (Below w.heap.size w wr)) (fun i _ => n - (Go.RowKit.intOf i).toNat)
    case atStart => exact ⟨0, rfl, Nat.zero_le _, Lib.hid (by omega), Lib.hid (Below.refl _ _)⟩
    case round =>
      obtain ⟨k, rfl, hk, HE, HBk⟩ := hrel
      rename World => w6
      by_cases hlt : k < n
      · have hkA : k < A.length := by rw [HN.out]; exact hlt
        have hkB : k < B.length := by rw [HM.out]; exact hlt
        obtain ⟨g, off, rfl, hg, hcl⟩ := (HA.out.1.below HBk.out HS.out).sg (show 0 < A.length by omega)
        obtain ⟨g', off', rfl, hg', hcl'⟩ := (HBb.out.1.below HBk.out HS.out).sg (show 0 < B.length by omega)
        obtain ⟨h1, h2⟩ := hcl k hkA
        obtain ⟨h4, h5⟩ := hcl' k hkB
        have HCA := Lib.hid (HA.out.2 _ (st_mem hkA))
        have HCB := Lib.hid (HBb.out.2 _ (st_mem hkB))
        have HQA := Lib.hid (HFA.out _ (st_mem hkA))
        have HQB := Lib.hid (HFB.out _ (st_mem hkB))
        clear hcl hcl'
        obtain ⟨x, hx⟩ : ∃ x, st A k = x := ⟨_, rfl⟩
        obtain ⟨y, hy⟩ : ∃ y, st B k = y := ⟨_, rfl⟩
        rw [hx] at h1 h2 HCA HQA
        rw [hy] at h4 h5 HCB HQB
        have HX := Lib.hid hx
        have HY := Lib.hid hy
        have HEQ : Hid (∀ W, Below w.heap.size w W → Calls Try.prog 67 #[x.val, y.val] W fun e w' => e = .returned (.bool (decide (x.x = y.x))) ∧ Below W.heap.size W w') := Lib.hid fun W hW => sameSeg_any x y B0 W (HCA.out.1.below hW HS.out) (HCB.out.1.below hW HS.out) (HCA.out.2.below hW HS.out) (HCB.out.2.below hW HS.out) HQA.out HQB.out (Nat.le_trans HS.out hW.size)
        obtain ⟨r, hr⟩ : ∃ r, decide (x.x = y.x) = r := ⟨_, rfl⟩
        rw [hr] at HEQ
        have HR := Lib.hid hr
        obtain ⟨xf, xa, xc, xu⟩ := x
        obtain ⟨yf, ya, yc, yu⟩ := y
        simp only [SgT.val] at h1 h2 h4 h5 HEQ
        have hk0 : (0 : Int) ≤ (k : Int) := by omega
        have hk1 : (k : Int) < (n : Int) := by omega
        clear hx hy hr
        generalize xu.length = xn at *
        generalize yu.length = yn at *
        have HK2 : Hid (w.heap.size ≤ w6.heap.size) := Lib.hid HBk.out.size
        have hgz := hg
        have hgz' : g' < w6.heap.size := by have := HS.out; have := HK2.out; omega
        have hgz2 : g < w6.heap.size := by have := HS.out; have := HK2.out; omega
        have h4' : (w6.alloc (.cells #[.int .u64 (xf : Int), .slice xa xn xc] 67)).cell? ⟨g', off' + k * 2, none⟩ = some (.int .u64 (yf : Int)) := (((Chg.refl [] w6).alloc _).cell h4 (by simp))
        have h5' : (w6.alloc (.cells #[.int .u64 (xf : Int), .slice xa xn xc] 67)).cell? ⟨g', off' + k * 2 + 1, none⟩ = some (.slice ya yn yc) := (((Chg.refl [] w6).alloc _).cell h5 (by simp))
        go_wp2_with fail
        refine (HEQ.out _ ((HBk.out.alloc HBk.out.size _).alloc (by have := HK2.out; simp; omega) _)).mono ?_
        rintro e w7 ⟨rfl, hq⟩
        have HB7 : Hid (Below w.heap.size w w7) := Lib.hid (((HBk.out.alloc HBk.out.size _).alloc (by have := HK2.out; simp; omega) _).trans (hq.mono (by have := HK2.out; simp; omega)))
        clear hq h4' h5'
        cases r with
        | true =>
          go_wp2_with fail
          go_roundw
          case rel =>
            refine ⟨k + 1, by go_num, by omega, Lib.hid fun j hj => ?_, HB7⟩
            by_cases e : j = k
            · subst e; rw [HX.out, HY.out]; simpa using HR.out
            · exact HE.out j (by omega)
          case measure => simp [Go.RowKit.intOf]; omega
        | false =>
          obtain rfl : t = false := by
            rw [← HT.out]
            simp only [decide_eq_false_iff_not]
            intro h
            have := congrArg (fun l => sx l k) h
            simp only [sx_sgx, HX.out, HY.out] at this
            have h2 := HR.out
            simp only [decide_eq_false_iff_not] at h2
            exact h2 this
          go_wp2_with fail
          go_ret
          exact ⟨rfl, HB7.out⟩
      · obtain rfl : k = n := by omega
        obtain rfl : t = true := by
          rw [← HT.out]
          simp only [decide_eq_true_eq]
          exact sgx_ext (by rw [HN.out, HM.out]) (by rw [HN.out]; exact HE.out)
        go_wp2_with fail
        go_ret
        exact ⟨rfl, HBk.out⟩
  · have hd0 : ((n : Int) != (m : Int)) = true := by rw [bne_iff_ne]; omega
    obtain rfl : t = false := by
      rw [← HT.out]
      simp only [decide_eq_false_iff_not]
      intro h
      have := congrArg List.length h
      simp only [sgx_length, HN.out, HM.out] at this
      exact hnm this
    go_wp2_with fail
    go_ret
    exact ⟨rfl, Below.refl _ _⟩

set_option maxHeartbeats 2000000 in
theorem lsame_any (A B : LyT) (B0 : Nat) (w : World) (ha : LyIn w B0 A) (hb : LyIn w B0 B) (hfa : SgFit A.sg) (hfb : SgFit B.sg) (hB : B0 ≤ w.heap.size) :
    Calls Try.prog 53 #[A.val, B.val] w fun e w' => e = .returned (.bool (lalike A.x B.x)) ∧ Below w.heap.size w w' := by
  obtain ⟨f, a, c, L, q⟩ := A
  obtain ⟨f', a', c', L', q'⟩ := B
  simp only [LyT.val] at *
  obtain ⟨W, HWW⟩ : ∃ W, Hid ((w.alloc (.cells #[.int .u64 (f : Int), .slice a L.length c, .int .i64 q] 38)).alloc (.cells #[.int .u64 (f' : Int), .slice a' L'.length c', .int .i64 q'] 38) = W) := ⟨_, Lib.hid rfl⟩
  have hWc : Chg [] w W := by rw [← HWW.out]; exact ((Chg.refl [] w).alloc _).alloc _
  have hWb : Below w.heap.size w W := hWc.low
  have o1 : Own W w.heap.size 38 [.int .u64 (f : Int), .slice a L.length c, .int .i64 q] := by rw [← HWW.out]; exact (Own.new w _ _).alloc _
  have o2 : Own W (w.heap.size + 1) 38 [.int .u64 (f' : Int), .slice a' L'.length c', .int .i64 q'] := by
    rw [← HWW.out]
    have := Own.new (w.alloc (.cells #[.int .u64 (f : Int), .slice a L.length c, .int .i64 q] 38)) 38 [.int .u64 (f' : Int), .slice a' L'.length c', .int .i64 q']
    simpa using this
  have HE := Lib.hid (eqSgs_any L L' a a' c c' B0 W (ha.1.below hWb hB) (hb.1.below hWb hB) (ha.2.below hWb hB) (hb.2.below hWb hB) hfa hfb (Nat.le_trans hB hWb.size))
  obtain ⟨r, hr⟩ : ∃ r, decide (sgx L = sgx L') = r := ⟨_, rfl⟩
  rw [hr] at HE
  have HX : Hid (lalike (LyT.x ⟨f, a, c, L, q⟩) (LyT.x ⟨f', a', c', L', q'⟩) = (decide (f = f') && (decide (q = q') && r))) := Lib.hid (by
    rw [← hr]
    rfl)
  rw [HX.out]
  have HB := Lib.hid hWb
  have c0 := o1.cell 0
  have c1 := o1.cell 1
  have c2 := o1.cell 2
  have d0 := o2.cell 0
  have d1 := o2.cell 1
  have d2 := o2.cell 2
  simp at c0 c1 c2 d0 d1 d2
  generalize L.length = n at *
  generalize L'.length = n' at *
  clear hWc hWb o1 o2 hr ha hb hfa hfb hB
  by_cases e : f = f'
  · subst e
    have e0 : decide (f = f) = true := by simp
    rw [e0, Bool.true_and]
    clear e0
    by_cases e : q = q'
    · subst e
      have e0 : decide (q = q) = true := by simp
      rw [e0, Bool.true_and]
      clear e0
      go_enter Try.func53, Try.ntmps53
      go_upto_region 1 with fail
      rw [HWW.out]
      go_wp2_with fail
      refine HE.out.mono ?_
      rintro e w1 ⟨rfl, hb⟩
      have HB1 := Lib.hid (HB.out.trans (hb.mono HB.out.size))
      clear hb
      go_wp2_with fail
      go_ret
      exact ⟨rfl, HB1.out⟩
    · have e0 : decide (q = q') = false := by simpa using e
      have e1 : (q == q') = false := by rw [beq_eq_false_iff_ne]; exact e
      rw [e0, Bool.false_and]
      clear e0 e
      go_enter Try.func53, Try.ntmps53
      go_upto_region 1 with fail
      rw [HWW.out]
      go_wp2_with fail
      go_ret
      exact ⟨rfl, HB.out⟩
  · have e0 : decide (f = f') = false := by simpa using e
    have e1 : ((f : Int) == (f' : Int)) = false := by rw [beq_eq_false_iff_ne]; omega
    rw [e0, Bool.false_and]
    clear e0 e
    go_enter Try.func53, Try.ntmps53
    go_upto_region 1 with fail
    rw [HWW.out]
    go_wp2_with fail
    go_ret
    exact ⟨rfl, HB.out⟩
end Go.Proofs.Ytcadnlilijkneaa
namespace Go.Proofs.Ytcadnlilijkneaa
open Go.RowKit Go.Deep Go.Shelf
set_option linter.unusedVariables false
set_option linter.unusedSimpArgs false

set_option maxHeartbeats 1000000 in
theorem index_backL (S : Nat → World → Prop) (p : Nat → Bool) (g : Nat) (lb : Array Value) (eg : ∀ args w, (callFunc g args).run Try.prog w = .ok (.enter g args) w)
    (L : List Bk) (a : Option Addr) (c B : Nat) (w : World) (hl : L.length ≤ 9223372036854775807)
    (hro : ∀ k W, S k W → Ro W B a (bcs L)) (h0 : S 0 w)
    (hf : ∀ k W, k < L.length → S k W → Calls Try.prog g (#[bkv (bk L k)] ++ lb) W fun e w' => e = .returned (.bool (p k)) ∧ S (k + 1) w') :
    Calls Try.prog 62 #[.slice a L.length c, .func (.func g) #[] lb] w fun e w' => e = .returned (.int .i64 (fx p L.length)) ∧ ∃ k, S k w' := by
  obtain ⟨n, HN⟩ : ∃ n, Hid (L.length = n) := ⟨_, Lib.hid rfl⟩
  have HR := Lib.hid hro
  have HF := Lib.hid hf
  have H0 := Lib.hid h0
  clear hro hf h0
  rw [HN.out] at hl ⊢
  go_enter Try.func62, Try.ntmps62
  go_wp2_with fail
  go_loopw [8] (fun i wr => ∃ k : Nat, k ≤ n ∧ i = .int .i64 (k : Int) ∧ Hid (S k wr) ∧ Hid (∀ j, j < k → p j = false)) (fun i _ => n - (Go.RowKit.intOf i).toNat)
  case atStart => exact ⟨0, Nat.zero_le _, rfl, H0, Lib.hid (by omega)⟩
  case round =>
    obtain ⟨k, hk, rfl, HS, HP⟩ := hrel
    by_cases hlt : k < n
    · have hkL : k < L.length := by rw [HN.out]; exact hlt
      obtain ⟨b, off, rfl, hb, hc⟩ := (HR.out k wr HS.out).bk (by omega)
      obtain ⟨c1, c2, c3⟩ := hc k hkL
      have HC := Lib.hid (HF.out k wr hkL HS.out)
      clear hc
      have hk0 : (0 : Int) ≤ (k : Int) := by omega
      have hk1 : (k : Int) < (n : Int) := by omega
      generalize bk L k = x at *
      cases hq : p k with
      | true =>
        have HQ := Lib.hid hq
        clear hq
        go_wp2_with fail
        refine HC.out.mono ?_
        rintro e w' ⟨rfl, hs⟩
        rw [HQ.out]
        have HS2 := Lib.hid hs
        clear hs
        go_wp2_with fail
        go_ret
        exact ⟨ret_int (fx_hit p n k hlt HQ.out HP.out).symm, _, HS2.out⟩
      | false =>
        have HQ := Lib.hid hq
        clear hq
        go_wp2_with fail
        refine HC.out.mono ?_
        rintro e w' ⟨rfl, hs⟩
        rw [HQ.out]
        have HS2 := Lib.hid hs
        clear hs
        go_wp2_with fail
        go_roundw
        case rel =>
          refine ⟨k + 1, by omega, by go_num, HS2, Lib.hid fun j hj => ?_⟩
          by_cases e : j = k
          · subst e; exact HQ.out
          · exact HP.out j (by omega)
        case measure => simp [Go.RowKit.intOf]; omega
    · obtain rfl : k = n := by omega
      go_wp2_with fail
      go_ret
      exact ⟨ret_int (fx_miss p k HP.out).symm, _, HS.out⟩

set_option maxHeartbeats 1000000 in
theorem contains_backL (S : Nat → World → Prop) (p : Nat → Bool) (g : Nat) (lb : Array Value) (eg : ∀ args w, (callFunc g args).run Try.prog w = .ok (.enter g args) w)
    (L : List Bk) (a : Option Addr) (c B : Nat) (w : World) (hl : L.length ≤ 9223372036854775807)
    (hro : ∀ k W, S k W → Ro W B a (bcs L)) (h0 : S 0 w)
    (hf : ∀ k W, k < L.length → S k W → Calls Try.prog g (#[bkv (bk L k)] ++ lb) W fun e w' => e = .returned (.bool (p k)) ∧ S (k + 1) w') :
    Calls Try.prog 49 #[.slice a L.length c, .func (.func g) #[] lb] w fun e w' => e = .returned (.bool (anyN p L.length)) ∧ ∃ k, S k w' := by
  have HC := Lib.hid (index_backL S p g lb eg L a c B w hl hro h0 hf)
  clear hro h0 hf
  obtain ⟨z, hz⟩ : ∃ z, z = fx p L.length := ⟨_, rfl⟩
  unfold anyN
  rw [← hz] at HC ⊢
  clear hz
  go_enter Try.func49, Try.ntmps49
  go_wp2_with fail
  refine HC.out.mono ?_
  rintro e w' ⟨rfl, hs⟩
  have HS := Lib.hid hs
  clear hs
  go_wp2_with fail
  go_ret
  exact ⟨rfl, HS.out⟩

theorem below_any (n l : Int) (w : World) :
    Calls Try.prog 36 #[.int .i64 n, .int .i64 l] w fun e w' => e = .returned (.bool (blw n l)) ∧ w' = w := by
  unfold blw
  by_cases h0 : 0 ≤ n
  · have e0 : decide (0 ≤ n) = true := by simpa using h0
    rw [e0, Bool.true_and]
    go_enter Try.func36, Try.ntmps36
    go_wp2_with fail
    go_ret
    exact ⟨rfl, rfl⟩
  · have e0 : decide (0 ≤ n) = false := by simpa using h0
    rw [e0, Bool.false_and]
    have h1 : n < 0 := by omega
    clear h0
    go_enter Try.func36, Try.ntmps36
    go_wp2_with fail
    go_ret
    exact ⟨rfl, rfl⟩
theorem isReq_any (k : Int) (w : World) :
    Calls Try.prog 46 #[.int .i64 k] w fun e w' => e = .returned (.bool (isReq k)) ∧ w' = w := by
  unfold isReq
  by_cases h0 : 1 ≤ k
  · have e0 : decide (1 ≤ k) = true := by simpa using h0
    rw [e0, Bool.true_and]
    go_enter Try.func46, Try.ntmps46
    go_wp2_with fail
    go_ret
    exact ⟨rfl, rfl⟩
  · have e0 : decide (1 ≤ k) = false := by simpa using h0
    rw [e0, Bool.false_and]
    go_enter Try.func46, Try.ntmps46
    go_wp2_with fail
    go_ret
    exact ⟨rfl, rfl⟩
theorem rkinds_any (k f : Int) (w : World) :
    Calls Try.prog 34 #[.int .i64 k, .int .i64 f] w fun e w' => e = .returned (.bool (kindsOk k f)) ∧ w' = w := by
  unfold kindsOk
  have H1 := Lib.hid (isReq_any k w)
  have H2 := Lib.hid (isReq_any f w)
  by_cases h : k = 14
  · subst h
    rw [if_pos rfl]
    generalize isReq f = t at *
    go_enter Try.func34, Try.ntmps34
    go_wp2_with fail
    refine H2.out.mono ?_
    rintro e w' ⟨rfl, rfl⟩
    go_wp2_with fail
    go_ret
    exact ⟨rfl, rfl⟩
  · rw [if_neg h]
    have e0 : (k == 14) = false := by rw [beq_eq_false_iff_ne]; exact h
    generalize isReq k = t at *
    clear h
    cases t with
    | true =>
      go_enter Try.func34, Try.ntmps34
      go_wp2_with fail
      refine H1.out.mono ?_
      rintro e w' ⟨rfl, rfl⟩
      go_wp2_with fail
      go_ret
      exact ⟨ret_bool (by rw [Bool.true_and]; rfl), rfl⟩
    | false =>
      go_enter Try.func34, Try.ntmps34
      go_wp2_with fail
      refine H1.out.mono ?_
      rintro e w' ⟨rfl, rfl⟩
      go_wp2_with fail
      go_ret
      exact ⟨rfl, rfl⟩
theorem rplace_any (p : Int × Int) (w : World) :
    Calls Try.prog 35 #[.agg #[.int .i64 p.1, .int .i64 p.2]] w fun e w' => e = .returned (.bool (plOk p)) ∧ Below w.heap.size w w' := by
  obtain ⟨r, n⟩ := p
  simp only
  have HB := Lib.hid ((Below.refl w.heap.size w).alloc (Nat.le_refl _) (.cells #[.int .i64 r, .int .i64 n] 25))
  have HK := Lib.hid (fun l => below_any n l (w.alloc (.cells #[.int .i64 r, .int .i64 n] 25)))
  unfold plOk plMost
  simp only
  by_cases h1 : r = 1
  · subst h1
    rw [if_pos (by simp)]
    have HK32 := Lib.hid (HK.out 32)
    generalize blw n 32 = t at *
    clear HK
    go_enter Try.func35, Try.ntmps35
    go_wp2_with fail
    refine HK32.out.mono ?_
    rintro e w' ⟨rfl, rfl⟩
    go_wp2_with fail
    go_ret
    exact ⟨rfl, HB.out⟩
  by_cases h2 : r = 2
  · subst h2
    rw [if_pos (by simp)]
    clear h1
    have HK32 := Lib.hid (HK.out 32)
    generalize blw n 32 = t at *
    clear HK
    go_enter Try.func35, Try.ntmps35
    go_wp2_with fail
    refine HK32.out.mono ?_
    rintro e w' ⟨rfl, rfl⟩
    go_wp2_with fail
    go_ret
    exact ⟨rfl, HB.out⟩
  by_cases h3 : r = 3
  · subst h3
    rw [if_neg (by omega), if_pos rfl]
    clear h1 h2
    have HK3 := Lib.hid (HK.out 3)
    generalize blw n 3 = t at *
    clear HK
    go_enter Try.func35, Try.ntmps35
    go_wp2_with fail
    refine HK3.out.mono ?_
    rintro e w' ⟨rfl, rfl⟩
    go_wp2_with fail
    go_ret
    exact ⟨rfl, HB.out⟩
  by_cases h4 : r = 4
  · subst h4
    rw [if_neg (by omega), if_neg (by omega), if_pos rfl]
    clear h1 h2 h3
    have HK4 := Lib.hid (HK.out 4)
    generalize blw n 4 = t at *
    clear HK
    go_enter Try.func35, Try.ntmps35
    go_wp2_with fail
    refine HK4.out.mono ?_
    rintro e w' ⟨rfl, rfl⟩
    go_wp2_with fail
    go_ret
    exact ⟨rfl, HB.out⟩
  · rw [if_neg (by omega), if_neg h3, if_neg h4]
    have e0 : blw n 0 = false := by unfold blw; by_cases h : 0 ≤ n <;> simp [h] <;> omega
    have e1 : (r == 1) = false := by rw [beq_eq_false_iff_ne]; exact h1
    have e2 : (r == 2) = false := by rw [beq_eq_false_iff_ne]; exact h2
    have e3 : (r == 3) = false := by rw [beq_eq_false_iff_ne]; exact h3
    have e4 : (r == 4) = false := by rw [beq_eq_false_iff_ne]; exact h4
    rw [e0]
    clear h1 h2 h3 h4 e0
    go_enter Try.func35, Try.ntmps35
    go_wp2_with fail
    go_ret
    exact ⟨rfl, HB.out⟩
theorem rballot_any (p : Int × Int) (w : World) :
    Calls Try.prog 37 #[.agg #[.int .i64 p.1, .int .i64 p.2]] w fun e w' => e = .returned (.bool (baOk p)) ∧ Below w.heap.size w w' := by
  obtain ⟨r, n⟩ := p
  simp only
  have HB := Lib.hid ((Below.refl w.heap.size w).alloc (Nat.le_refl _) (.cells #[.int .i64 r, .int .i64 n] 35))
  have HK := Lib.hid (below_any r 65536 (w.alloc (.cells #[.int .i64 r, .int .i64 n] 35)))
  have HL := Lib.hid (below_any n 4 (w.alloc (.cells #[.int .i64 r, .int .i64 n] 35)))
  unfold baOk
  simp only
  generalize blw r 65536 = t at *
  generalize blw n 4 = u at *
  cases t with
  | true =>
    go_enter Try.func37, Try.ntmps37
    go_wp2_with fail
    refine HK.out.mono ?_
    rintro e w' ⟨rfl, rfl⟩
    go_wp2_with fail
    refine HL.out.mono ?_
    rintro e w' ⟨rfl, rfl⟩
    go_wp2_with fail
    go_ret
    exact ⟨rfl, HB.out⟩
  | false =>
    go_enter Try.func37, Try.ntmps37
    go_wp2_with fail
    refine HK.out.mono ?_
    rintro e w' ⟨rfl, rfl⟩
    go_wp2_with fail
    go_ret
    exact ⟨rfl, HB.out⟩
theorem mis1_any (s m : Int) (g : Nat) (w : World) (h : Own w g 3 [.int .i64 m]) :
    Calls Try.prog 61 #[.int .i64 s, .pointer (some ⟨g, 0, none⟩)] w fun e w' => e = .returned (.bool (mis m s)) ∧ w' = w.setCell ⟨g, 0, none⟩ (.int .i64 (wrap64 (s + 1))) := by
  have hc := h.cell 0
  have hf := h.frozen 0
  have hz := h.lt
  simp at hc
  unfold mis
  clear h
  by_cases h0 : s < m
  · have e0 : decide (s < m) = true := by simpa using h0
    rw [e0, Bool.true_or]
    go_enter Try.func61, Try.ntmps61
    go_wp2_with fail
    go_ret
    exact ⟨rfl, rfl⟩
  · have e0 : decide (s < m) = false := by simpa using h0
    rw [e0, Bool.false_or]
    go_enter Try.func61, Try.ntmps61
    go_wp2_with fail
    go_ret
    exact ⟨rfl, rfl⟩
theorem misplaced_any (w : World) :
    Calls Try.prog 48 #[] w fun e w' => e = .returned (.func (.func 61) #[] #[.pointer (some ⟨w.heap.size, 0, none⟩)]) ∧ w' = w.alloc (.cells #[.int .i64 0] 3) := by
  go_enter Try.func48, Try.ntmps48
  go_wp2_with fail
  go_ret
  exact ⟨rfl, rfl⟩

set_option maxHeartbeats 1000000 in
theorem rstreams_any (L : List Int) (a : Option Addr) (c B : Nat) (w : World) (hro : Ro w B a (i64s L)) (hB : B ≤ w.heap.size) (hl : L.length ≤ 9223372036854775807) :
    Calls Try.prog 38 #[.slice a L.length c] w fun e w' => e = .returned (.bool (stOk L)) ∧ Below w.heap.size w w' := by
  have eg : ∀ args w, (callFunc 61 args).run Try.prog w = .ok (.enter 61 args) w := enters_of Try.func61 (by kernel_rfl) rfl
  obtain ⟨t, ht⟩ : ∃ t, t = anyN (fun k => mis (leastI L k) (L.getD k 0)) L.length := ⟨_, rfl⟩
  have HC : Hid (L.length ≤ 4 → Calls Try.prog 47 #[.slice a L.length c, .func (.func 61) #[] #[.pointer (some ⟨w.heap.size, 0, none⟩)]] (w.alloc (.cells #[.int .i64 0] 3)) fun e w' => e = .returned (.bool t) ∧ Below w.heap.size w w') := by
    apply Lib.hid
    intro h4
    refine (contains_int (fun k W => Own W w.heap.size 3 [.int .i64 (leastI L k)] ∧ Below w.heap.size w W) (fun W => Below w.heap.size w W) (fun k => mis (leastI L k) (L.getD k 0)) 61 #[.pointer (some ⟨w.heap.size, 0, none⟩)] eg L a c B _ (by omega) (fun k W' h => hro.below h.2 hB) ⟨Own.new w _ _, (Below.refl _ _).alloc (Nat.le_refl _) _⟩ (fun k W' hk h => ?_)).mono ?_
    · obtain ⟨o1, o2⟩ := h
      refine (mis1_any (L.getD k 0) (leastI L k) w.heap.size W' o1).mono ?_
      rintro e w' ⟨rfl, rfl⟩
      refine ⟨rfl, fun _ => o2.setCell (Nat.le_refl _) _, fun _ => ⟨?_, o2.setCell (Nat.le_refl _) _⟩⟩
      have := o1.set 0 (.int .i64 (wrap64 (L.getD k 0 + 1)))
      simpa [leastI] using this
    · rintro e w' ⟨rfl, h⟩
      rw [ht]
      exact ⟨rfl, by rcases h with h | h; exact h; exact h.2⟩
  unfold stOk
  rw [← ht]
  generalize L.length = n at *
  clear ht hro
  by_cases h4 : n ≤ 4
  · have e0 : decide (n ≤ 4) = true := by simpa using h4
    have HM := Lib.hid (misplaced_any w)
    have HC4 := Lib.hid (HC.out h4)
    rw [e0, Bool.true_and]
    go_enter Try.func38, Try.ntmps38
    go_wp2_with fail
    refine HM.out.mono ?_
    rintro e w' ⟨rfl, rfl⟩
    go_wp2_with fail
    refine HC4.out.mono ?_
    rintro e w' ⟨rfl, hb⟩
    have HB := Lib.hid hb
    clear hb
    go_wp2_with fail
    go_ret
    exact ⟨rfl, HB.out⟩
  · have e0 : decide (n ≤ 4) = false := by simpa using h4
    rw [e0, Bool.false_and]
    clear HC
    go_enter Try.func38, Try.ntmps38
    go_wp2_with fail
    go_ret
    exact ⟨rfl, Below.refl _ _⟩

set_option maxHeartbeats 1000000 in
theorem mb1_any (b : Bk) (m : Int) (g p : Nat) (w : World) (h : Own w g 3 [.int .i64 m]) (hp : w.cell? ⟨p, 0, none⟩ = some (.func (.func 61) #[] #[.pointer (some ⟨g, 0, none⟩)])) (hpg : g < p) :
    Calls Try.prog 50 #[bkv b, .pointer (some ⟨p, 0, none⟩)] w fun e w' => e = .returned (.bool (mbad m b)) ∧ Own w' g 3 [.int .i64 (wrap64 (b.1 + 1))] ∧ w'.cell? ⟨p, 0, none⟩ = some (.func (.func 61) #[] #[.pointer (some ⟨g, 0, none⟩)]) ∧ Below g w w' := by
  have eg : ∀ args w, (callFunc 61 args).run Try.prog w = .ok (.enter 61 args) w := enters_of Try.func61 (by kernel_rfl) rfl
  obtain ⟨W, HWW⟩ : ∃ W, Hid (w.alloc (.cells #[.int .i64 b.1, .int .u64 (b.2.1 : Int), .int .u64 (b.2.2 : Int)] 93) = W) := ⟨_, Lib.hid rfl⟩
  have hWc : Chg [] w W := by rw [← HWW.out]; exact (Chg.refl [] w).alloc _
  have HO : Hid (Own W w.heap.size 93 [.int .i64 b.1, .int .u64 (b.2.1 : Int), .int .u64 (b.2.2 : Int)]) := Lib.hid (by rw [← HWW.out]; exact Own.new w _ _)
  have HG : Hid (Own W g 3 [.int .i64 m]) := Lib.hid (h.chg hWc (by simp))
  have HP := Lib.hid (hWc.cell hp (by simp))
  have HGZ := Lib.hid h.lt
  have HPZ := Lib.hid (World.block_lt_of_cell? _ _ hp)
  have HPG := Lib.hid hpg
  have HM := Lib.hid (mis1_any b.1 m g W HG.out)
  have HB := Lib.hid (hWc.low.mono (Nat.le_of_lt h.lt))
  unfold mbad
  obtain ⟨t, HT⟩ : ∃ t, Hid (mis m b.1 = t) := ⟨_, Lib.hid rfl⟩
  obtain ⟨u, HU⟩ : ∃ u, Hid (right ⟨1, [], [b]⟩ = u) := ⟨_, Lib.hid rfl⟩
  rw [HT.out] at HM ⊢
  rw [HU.out]
  have c0 := HP.out
  have d0 := HO.out.cell 0
  have d1 := HO.out.cell 1
  have d2 := HO.out.cell 2
  simp at d0 d1 d2
  clear h hp hWc hpg
  obtain ⟨s, q, r⟩ := b
  simp only at *
  cases t with
  | true =>
    go_enter Try.func50, Try.ntmps50
    go_upto_region 1 with fail
    rw [HWW.out]
    go_wp2_with fail
    refine HM.out.mono ?_
    rintro e w' ⟨rfl, rfl⟩
    go_wp2_with fail
    go_ret
    exact ⟨rfl, by simpa using HG.out.set 0 _, (Chg.cell (l := [g]) ((Chg.refl [g] W).setCell (by simp) _) HP.out (by have := HPG.out; simp; omega)), HB.out.setCell (Nat.le_refl _) _⟩
  | false =>
    go_enter Try.func50, Try.ntmps50
    go_upto_region 1 with fail
    rw [HWW.out]
    go_wp2_with fail
    refine HM.out.mono ?_
    rintro e w' ⟨rfl, rfl⟩
    have hsc : Chg [g] W (W.setCell ⟨g, 0, none⟩ (.int .i64 (wrap64 (s + 1)))) := (Chg.refl [g] W).setCell (by simp) _
    have HO2 := Lib.hid (HO.out.chg hsc (by have := HGZ.out; simp; omega))
    have HG2 : Hid (Own (W.setCell ⟨g, 0, none⟩ (.int .i64 (wrap64 (s + 1)))) g 3 [.int .i64 (wrap64 (s + 1))]) := Lib.hid (by simpa using HG.out.set 0 (.int .i64 (wrap64 (s + 1))))
    have HP2 := Lib.hid (hsc.cell HP.out (by have := HPG.out; simp; omega))
    have HB2 : Hid (Below g w (W.setCell ⟨g, 0, none⟩ (.int .i64 (wrap64 (s + 1))))) := Lib.hid (HB.out.setCell (Nat.le_refl _) _)
    have HG3 := Lib.hid HG2.out.lt
    generalize W.setCell ⟨g, 0, none⟩ (.int .i64 (wrap64 (s + 1))) = W2 at *
    clear hsc c0 d0 d1 d2
    have d0 := HO2.out.cell 0
    have d1 := HO2.out.cell 1
    have d2 := HO2.out.cell 2
    simp at d0 d1 d2
    have HRO : Hid (Ro (W2.alloc (.cells #[.int .i64 s, .int .u64 (q : Int), .int .u64 (r : Int)] 93)) (W2.heap.size + 1) (some ⟨W2.heap.size, 0, none⟩) (bcs [(s, q, r)])) := Lib.hid ((Own.new W2 93 [.int .i64 s, .int .u64 (q : Int), .int .u64 (r : Int)]).ro _ (by omega))
    have HR := Lib.hid (right_any ⟨1, [], [(s, q, r)]⟩ none 0 (some ⟨W2.heap.size, 0, none⟩) 1 (W2.heap.size + 1) _ HRO.out (by simp) (by simp) (by simp))
    rw [HU.out] at HR
    simp only [List.length_cons, List.length_nil, Nat.zero_add] at HR
    go_wp2_with fail
    refine HR.out.mono ?_
    rintro e w3 ⟨rfl, hb⟩
    have HB3 := Lib.hid hb
    clear hb d0 d1 d2
    go_wp2_with fail
    go_ret
    have hb2 : Below W2.heap.size W2 w3 := ((Below.refl _ _).alloc (Nat.le_refl _) _).trans (HB3.out.mono (by simp))
    exact ⟨rfl, HG2.out.below hb2 HG3.out, cell_keep hb2 HP2.out (World.block_lt_of_cell? _ _ HP2.out), HB2.out.trans (hb2.mono (by have := HG3.out; omega))⟩

set_option maxHeartbeats 1000000 in
theorem rbacks_any (L : List Bk) (a : Option Addr) (c B : Nat) (w : World) (hro : Ro w B a (bcs L)) (hB : B ≤ w.heap.size) (hl : L.length ≤ 9223372036854775807) :
    Calls Try.prog 39 #[.slice a L.length c] w fun e w' => e = .returned (.bool (mbOk L)) ∧ Below w.heap.size w w' := by
  have eg : ∀ args w, (callFunc 50 args).run Try.prog w = .ok (.enter 50 args) w := enters_of Try.func50 (by kernel_rfl) rfl
  obtain ⟨t, ht⟩ : ∃ t, t = anyN (fun k => mbad (least L k) (bk L k)) L.length := ⟨_, rfl⟩
  obtain ⟨FV, hFV⟩ : ∃ FV : Value, FV = .func (.func 61) #[] #[.pointer (some ⟨w.heap.size, 0, none⟩)] := ⟨_, rfl⟩
  obtain ⟨W, HWW⟩ : ∃ W, Hid ((w.alloc (.cells #[.int .i64 0] 3)).alloc (.cells #[.func (.func 61) #[] #[.pointer (some ⟨w.heap.size, 0, none⟩)]] 76) = W) := ⟨_, Lib.hid rfl⟩
  have hWc : Chg [] w W := by rw [← HWW.out]; exact ((Chg.refl [] w).alloc _).alloc _
  have o1 : Own W w.heap.size 3 [.int .i64 0] := by rw [← HWW.out]; exact (Own.new w _ _).alloc _
  have o2 : Own W (w.heap.size + 1) 76 [.func (.func 61) #[] #[.pointer (some ⟨w.heap.size, 0, none⟩)]] := by
    rw [← HWW.out]
    have := Own.new (w.alloc (.cells #[.int .i64 0] 3)) 76 [.func (.func 61) #[] #[.pointer (some ⟨w.heap.size, 0, none⟩)]]
    simpa using this
  have c2 := o2.cell 0
  simp at c2
  have HC : Hid (Calls Try.prog 49 #[.slice a L.length c, .func (.func 50) #[] #[.pointer (some ⟨w.heap.size + 1, 0, none⟩)]] W fun e w' => e = .returned (.bool t) ∧ Below w.heap.size w w') := by
    apply Lib.hid
    refine (contains_backL (fun k W => Own W w.heap.size 3 [.int .i64 (least L k)] ∧ W.cell? ⟨w.heap.size + 1, 0, none⟩ = some (.func (.func 61) #[] #[.pointer (some ⟨w.heap.size, 0, none⟩)]) ∧ Below w.heap.size w W) (fun k => mbad (least L k) (bk L k)) 50 #[.pointer (some ⟨w.heap.size + 1, 0, none⟩)] eg L a c B _ hl (fun k W' h => hro.below h.2.2 hB) ⟨o1, c2, hWc.low⟩ (fun k W' hk h => ?_)).mono ?_
    · obtain ⟨o1, o2, o3⟩ := h
      refine (mb1_any (bk L k) (least L k) w.heap.size (w.heap.size + 1) W' o1 o2 (Nat.lt_succ_self _)).mono ?_
      rintro e w' ⟨rfl, o4, o5, o6⟩
      exact ⟨rfl, by simpa [least] using o4, o5, o3.trans o6⟩
    · rintro e w' ⟨rfl, k, hk⟩
      rw [ht]
      exact ⟨rfl, hk.2.2⟩
  unfold mbOk
  rw [← ht]
  have HM := Lib.hid (misplaced_any w)
  generalize L.length = n at *
  clear ht hro hWc o1 o2 c2 hFV
  go_enter Try.func39, Try.ntmps39
  go_wp2_with fail
  refine HM.out.mono ?_
  rintro e w' ⟨rfl, rfl⟩
  go_upto_region 2 with fail
  rw [HWW.out]
  go_wp2_with fail
  refine HC.out.mono ?_
  rintro e w' ⟨rfl, hb⟩
  have HB := Lib.hid hb
  clear hb
  go_wp2_with fail
  go_ret
  exact ⟨rfl, HB.out⟩
end Go.Proofs.Ytcadnlilijkneaa
