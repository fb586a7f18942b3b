/-
  What a message that came in is. Plain lemmas, no claim of their own.
-/
import Derived.Test.YteenlkmnadjnpaaGreatH1
import Derived.Test.YteenlkmnadjnpaaGreatH3
import Derived.Test.YteenlkmnadjnpaaGreatH6
import Derived.Sort.KeysCollected
import Derived.Shelf.SlGeneric
import Derived.Shelf.SlIter.Nil
import Derived.Shelf.SlIter.Sorted
import Derived.Shelf.SortM.Plain
import Derived.Shelf.SortM.SortNone
import Derived.Test.YteenlkmnadjnpaaGreatRows
import Derived.Maps.RangeWalk
import Derived.Maps.OwnSet
import Derived.Maps.Ext
import Derived.DeepKeys4
import Derived.StringKeys
import Derived.Shelf.AbstractIn
namespace Go.Proofs.YteenlkmnadjnpaaGreat
open Go.RowKit Go.ChangeShapes Go.WideShapes Go.Deep
set_option linter.unusedVariables false
set_option linter.unusedSimpArgs false

section
variable {H : Type} {enc : TypeId × Value → H} {w : World} {base : Nat} {held : Bool}
set_option maxRecDepth 100000 in
theorem trod_layout {n : Nat} {cs : List Value} {y : DataW H × List MemPlace} (h : DataW.trod enc Tryz.prog w base (fun _ => true) held n 38 cs = some y) :
    ∃ A : LyT, cs = [.int .u64 (A.e : Int), .slice A.a A.sg.length A.c, .int .i64 A.q] ∧ LyOk w A := by
  obtain ⟨xs, m, _, _, hlen, hxl, hf⟩ := DataW.trod_struct Tryz.underlying38 h
  have hc3 : cs.length = 3 := hlen.trans (by kernel_rfl)
  match cs, hc3, xs, hxl with
  | [c0, c1, c2], _, [x0, x1, x2], _ =>
    have g0 : DataW.trod enc Tryz.prog w base (fun _ => true) held m 26 (([c0, c1, c2].drop 0).take (Tryz.prog.cellsOf 26)) = some x0 := hf 0 _ rfl
    have g1 : DataW.trod enc Tryz.prog w base (fun _ => true) held m 36 (([c0, c1, c2].drop 1).take (Tryz.prog.cellsOf 36)) = some x1 := hf 1 _ rfl
    have g2 : DataW.trod enc Tryz.prog w base (fun _ => true) held m 3 (([c0, c1, c2].drop 2).take (Tryz.prog.cellsOf 3)) = some x2 := hf 2 _ rfl
    rw [show Tryz.prog.cellsOf 26 = 1 by kernel_rfl] at g0
    rw [show Tryz.prog.cellsOf 36 = 1 by kernel_rfl] at g1
    rw [show Tryz.prog.cellsOf 3 = 1 by kernel_rfl] at g2
    simp only [List.drop_zero, List.drop_succ_cons, List.take_succ_cons, List.take_zero] at g0 g1 g2
    obtain ⟨s, e0, _, hw0⟩ := DataW.trod_int Tryz.underlying26 g0
    obtain ⟨a, L, c, rfl, k1, k2, k3⟩ := row_segs g1
    obtain ⟨q, e2, _, hw2⟩ := DataW.trod_int Tryz.underlying3 g2
    simp only [List.cons.injEq, and_true] at e0 e2
    subst e0 e2
    have h1 := bounds_u64 hw0
    refine ⟨⟨s.toNat, a, c, L, q⟩, ?_, ⟨k1, k2⟩, k3, by show s.toNat ≤ _; omega, bounds_i64 hw2⟩
    simp only
    rw [show ((s.toNat : Nat) : Int) = s by omega]
set_option maxRecDepth 100000 in
theorem trod_place {n : Nat} {cs : List Value} {y : DataW H × List MemPlace} (h : DataW.trod enc Tryz.prog w base (fun _ => true) held n 25 cs = some y) :
    ∃ p : Int × Int, cs = [.int .i64 p.1, .int .i64 p.2] ∧ Pw p := by
  obtain ⟨xs, m, _, _, hlen, hxl, hf⟩ := DataW.trod_struct Tryz.underlying25 h
  have hc3 : cs.length = 2 := hlen.trans (by kernel_rfl)
  match cs, hc3, xs, hxl with
  | [c0, c1], _, [x0, x1], _ =>
    have g0 : DataW.trod enc Tryz.prog w base (fun _ => true) held m 23 (([c0, c1].drop 0).take (Tryz.prog.cellsOf 23)) = some x0 := hf 0 _ rfl
    have g1 : DataW.trod enc Tryz.prog w base (fun _ => true) held m 3 (([c0, c1].drop 1).take (Tryz.prog.cellsOf 3)) = some x1 := hf 1 _ rfl
    rw [show Tryz.prog.cellsOf 23 = 1 by kernel_rfl] at g0
    rw [show Tryz.prog.cellsOf 3 = 1 by kernel_rfl] at g1
    simp only [List.drop_zero, List.drop_succ_cons, List.take_succ_cons, List.take_zero] at g0 g1
    obtain ⟨s, e0, _, hw0⟩ := DataW.trod_int Tryz.underlying23 g0
    obtain ⟨q, e2, _, hw2⟩ := DataW.trod_int Tryz.underlying3 g1
    simp only [List.cons.injEq, and_true] at e0 e2
    subst e0 e2
    exact ⟨(s, q), rfl, bounds_i64 hw0, bounds_i64 hw2⟩
set_option maxRecDepth 100000 in
theorem trod_ballot {n : Nat} {cs : List Value} {y : DataW H × List MemPlace} (h : DataW.trod enc Tryz.prog w base (fun _ => true) held n 35 cs = some y) :
    ∃ p : Int × Int, cs = [.int .i64 p.1, .int .i64 p.2] := by
  obtain ⟨xs, m, _, _, hlen, hxl, hf⟩ := DataW.trod_struct Tryz.underlying35 h
  have hc3 : cs.length = 2 := hlen.trans (by kernel_rfl)
  match cs, hc3, xs, hxl with
  | [c0, c1], _, [x0, x1], _ =>
    have g0 : DataW.trod enc Tryz.prog w base (fun _ => true) held m 3 (([c0, c1].drop 0).take (Tryz.prog.cellsOf 3)) = some x0 := hf 0 _ rfl
    have g1 : DataW.trod enc Tryz.prog w base (fun _ => true) held m 3 (([c0, c1].drop 1).take (Tryz.prog.cellsOf 3)) = some x1 := hf 1 _ rfl
    rw [show Tryz.prog.cellsOf 3 = 1 by kernel_rfl] at g0
    rw [show Tryz.prog.cellsOf 3 = 1 by kernel_rfl] at g1
    simp only [List.drop_zero, List.drop_succ_cons, List.take_succ_cons, List.take_zero] at g0 g1
    obtain ⟨s, e0, _, hw0⟩ := DataW.trod_int Tryz.underlying3 g0
    obtain ⟨q, e2, _, hw2⟩ := DataW.trod_int Tryz.underlying3 g1
    simp only [List.cons.injEq, and_true] at e0 e2
    subst e0 e2
    exact ⟨(s, q), rfl⟩
/-- a message that came in -/
structure MgOk (w : World) (A : MgT) : Prop where
  inn : MgIn w w.heap.size A
  fit : MgFit A
set_option maxRecDepth 100000 in
set_option maxHeartbeats 4000000 in
theorem trod_message {n : Nat} {cl : List Value} {y : DataW H × List MemPlace} (h : DataW.trod enc Tryz.prog w base (fun _ => true) held n 40 cl = some y) :
    ∃ A : MgT, cl = A.cs ∧ MgOk w A ∧ Pw A.fr ∧ Pw A.to := by
  obtain ⟨xs, m, _, _, hlen, hxl, hf⟩ := DataW.trod_struct Tryz.underlying40 h
  have hc22 : cl.length = 22 := hlen.trans (by kernel_rfl)
  match cl, hc22, xs, hxl with
  | [c0, c1, c2, c3, c4, c5, c6, c7, c8, c9, c10, c11, c12, c13, c14, c15, c16, c17, c18, c19, c20, c21], _, [x0, x1, x2, x3, x4, x5, x6, x7, x8, x9, x10, x11, x12, x13], _ =>
    have g0 : DataW.trod enc Tryz.prog w base (fun _ => true) held m 22 (([c0, c1, c2, c3, c4, c5, c6, c7, c8, c9, c10, c11, c12, c13, c14, c15, c16, c17, c18, c19, c20, c21].drop 0).take (Tryz.prog.cellsOf 22)) = some x0 := hf 0 _ rfl
    rw [show Tryz.prog.cellsOf 22 = 1 by kernel_rfl] at g0
    have g1 : DataW.trod enc Tryz.prog w base (fun _ => true) held m 25 (([c0, c1, c2, c3, c4, c5, c6, c7, c8, c9, c10, c11, c12, c13, c14, c15, c16, c17, c18, c19, c20, c21].drop 1).take (Tryz.prog.cellsOf 25)) = some x1 := hf 1 _ rfl
    rw [show Tryz.prog.cellsOf 25 = 2 by kernel_rfl] at g1
    have g2 : DataW.trod enc Tryz.prog w base (fun _ => true) held m 25 (([c0, c1, c2, c3, c4, c5, c6, c7, c8, c9, c10, c11, c12, c13, c14, c15, c16, c17, c18, c19, c20, c21].drop 3).take (Tryz.prog.cellsOf 25)) = some x2 := hf 2 _ rfl
    rw [show Tryz.prog.cellsOf 25 = 2 by kernel_rfl] at g2
    have g3 : DataW.trod enc Tryz.prog w base (fun _ => true) held m 3 (([c0, c1, c2, c3, c4, c5, c6, c7, c8, c9, c10, c11, c12, c13, c14, c15, c16, c17, c18, c19, c20, c21].drop 5).take (Tryz.prog.cellsOf 3)) = some x3 := hf 3 _ rfl
    rw [show Tryz.prog.cellsOf 3 = 1 by kernel_rfl] at g3
    have g4 : DataW.trod enc Tryz.prog w base (fun _ => true) held m 22 (([c0, c1, c2, c3, c4, c5, c6, c7, c8, c9, c10, c11, c12, c13, c14, c15, c16, c17, c18, c19, c20, c21].drop 6).take (Tryz.prog.cellsOf 22)) = some x4 := hf 4 _ rfl
    rw [show Tryz.prog.cellsOf 22 = 1 by kernel_rfl] at g4
    have g5 : DataW.trod enc Tryz.prog w base (fun _ => true) held m 26 (([c0, c1, c2, c3, c4, c5, c6, c7, c8, c9, c10, c11, c12, c13, c14, c15, c16, c17, c18, c19, c20, c21].drop 7).take (Tryz.prog.cellsOf 26)) = some x5 := hf 5 _ rfl
    rw [show Tryz.prog.cellsOf 26 = 1 by kernel_rfl] at g5
    have g6 : DataW.trod enc Tryz.prog w base (fun _ => true) held m 26 (([c0, c1, c2, c3, c4, c5, c6, c7, c8, c9, c10, c11, c12, c13, c14, c15, c16, c17, c18, c19, c20, c21].drop 8).take (Tryz.prog.cellsOf 26)) = some x6 := hf 6 _ rfl
    rw [show Tryz.prog.cellsOf 26 = 1 by kernel_rfl] at g6
    have g7 : DataW.trod enc Tryz.prog w base (fun _ => true) held m 27 (([c0, c1, c2, c3, c4, c5, c6, c7, c8, c9, c10, c11, c12, c13, c14, c15, c16, c17, c18, c19, c20, c21].drop 9).take (Tryz.prog.cellsOf 27)) = some x7 := hf 7 _ rfl
    rw [show Tryz.prog.cellsOf 27 = 1 by kernel_rfl] at g7
    have g8 : DataW.trod enc Tryz.prog w base (fun _ => true) held m 32 (([c0, c1, c2, c3, c4, c5, c6, c7, c8, c9, c10, c11, c12, c13, c14, c15, c16, c17, c18, c19, c20, c21].drop 10).take (Tryz.prog.cellsOf 32)) = some x8 := hf 8 _ rfl
    rw [show Tryz.prog.cellsOf 32 = 3 by kernel_rfl] at g8
    have g9 : DataW.trod enc Tryz.prog w base (fun _ => true) held m 33 (([c0, c1, c2, c3, c4, c5, c6, c7, c8, c9, c10, c11, c12, c13, c14, c15, c16, c17, c18, c19, c20, c21].drop 13).take (Tryz.prog.cellsOf 33)) = some x9 := hf 9 _ rfl
    rw [show Tryz.prog.cellsOf 33 = 1 by kernel_rfl] at g9
    have g10 : DataW.trod enc Tryz.prog w base (fun _ => true) held m 30 (([c0, c1, c2, c3, c4, c5, c6, c7, c8, c9, c10, c11, c12, c13, c14, c15, c16, c17, c18, c19, c20, c21].drop 14).take (Tryz.prog.cellsOf 30)) = some x10 := hf 10 _ rfl
    rw [show Tryz.prog.cellsOf 30 = 1 by kernel_rfl] at g10
    have g11 : DataW.trod enc Tryz.prog w base (fun _ => true) held m 35 (([c0, c1, c2, c3, c4, c5, c6, c7, c8, c9, c10, c11, c12, c13, c14, c15, c16, c17, c18, c19, c20, c21].drop 15).take (Tryz.prog.cellsOf 35)) = some x11 := hf 11 _ rfl
    rw [show Tryz.prog.cellsOf 35 = 2 by kernel_rfl] at g11
    have g12 : DataW.trod enc Tryz.prog w base (fun _ => true) held m 35 (([c0, c1, c2, c3, c4, c5, c6, c7, c8, c9, c10, c11, c12, c13, c14, c15, c16, c17, c18, c19, c20, c21].drop 17).take (Tryz.prog.cellsOf 35)) = some x12 := hf 12 _ rfl
    rw [show Tryz.prog.cellsOf 35 = 2 by kernel_rfl] at g12
    have g13 : DataW.trod enc Tryz.prog w base (fun _ => true) held m 38 (([c0, c1, c2, c3, c4, c5, c6, c7, c8, c9, c10, c11, c12, c13, c14, c15, c16, c17, c18, c19, c20, c21].drop 19).take (Tryz.prog.cellsOf 38)) = some x13 := hf 13 _ rfl
    rw [show Tryz.prog.cellsOf 38 = 3 by kernel_rfl] at g13
    clear hf
    simp only [List.drop_zero, List.drop_succ_cons, List.take_succ_cons, List.take_zero] at g0 g1 g2 g3 g4 g5 g6 g7 g8 g9 g10 g11 g12 g13
    obtain ⟨k, e0, _, hw0⟩ := DataW.trod_int Tryz.underlying22 g0
    obtain ⟨id, e3, _, hw3⟩ := DataW.trod_int Tryz.underlying3 g3
    obtain ⟨f, e4, _, hw4⟩ := DataW.trod_int Tryz.underlying22 g4
    obtain ⟨ep, e5, _, hw5⟩ := DataW.trod_int Tryz.underlying26 g5
    obtain ⟨ad, e6, _, hw6⟩ := DataW.trod_int Tryz.underlying26 g6
    obtain ⟨er, e7, _, hw7⟩ := DataW.trod_int Tryz.underlying27 g7
    obtain ⟨fr, e1, pw1⟩ := trod_place g1
    obtain ⟨to, e2, pw2⟩ := trod_place g2
    obtain ⟨C, e8, hC⟩ := trod_cell g8
    obtain ⟨sa, st, sc, e9, hst, hst2, hst3, _⟩ := row_ints g9
    obtain ⟨ka, bk, kc, e10, hbk, hbk2, hbk3⟩ := row_backs g10
    obtain ⟨ba, e11⟩ := trod_ballot g11
    obtain ⟨pr, e12⟩ := trod_ballot g12
    obtain ⟨L, e13, hL⟩ := trod_layout g13
    simp only [List.cons.injEq, and_true] at e0 e1 e2 e3 e4 e5 e6 e7 e8 e11 e12 e13
    have h5 := bounds_u64 hw5
    have h6 := bounds_u64 hw6
    obtain ⟨ep, rfl⟩ := Int.eq_ofNat_of_zero_le h5.1
    obtain ⟨ad, rfl⟩ := Int.eq_ofNat_of_zero_le h6.1
    refine ⟨⟨k, fr, to, id, f, ep, ad, er, C.x, C.a, C.c, C.a2, C.c2, st, sa, sc, bk, ka, kc, ba, pr, L⟩, ?_, ⟨⟨hC.d, hC.b, hst, hbk, hL.inn⟩, ⟨hC.dl, hC.bl, by show st.length ≤ _; omega, hbk3, hL.fit, hC.fit, hbk2⟩⟩, pw1, pw2⟩
    obtain ⟨e1, e1'⟩ := e1
    obtain ⟨e2, e2'⟩ := e2
    obtain ⟨e8, e8', e8''⟩ := e8
    obtain ⟨e11, e11'⟩ := e11
    obtain ⟨e12, e12'⟩ := e12
    obtain ⟨e13, e13', e13''⟩ := e13
    rw [e0, e1, e1', e2, e2', e3, e4, e5, e6, e7, e8, e8', e8'', e9, e10, e11, e11', e12, e12', e13, e13', e13'']
    rfl
set_option maxRecDepth 100000 in
theorem open_messageV {r : Reach} {b0 : Nat} {v : Value} {d : DataW H} {p : List MemPlace} (hv : Value.okWide Tryz.prog w r b0 40 v) (h : DataW.Trod enc Tryz.prog w base (fun _ => true) held 40 v d p) :
    ∃ A : MgT, v = .agg A.cs.toArray ∧ MgOk w A := by
  obtain ⟨cs, rfl, hsz⟩ := okWide_struct Tryz.underlying40 hv
  obtain ⟨fuel, hf⟩ := h
  obtain ⟨A, h1, h2, _⟩ := trod_message hf
  have h1' : cs.toList = A.cs := h1
  exact ⟨A, by rw [← h1'], h2⟩
end
end Go.Proofs.YteenlkmnadjnpaaGreat
namespace Go.Proofs.YteenlkmnadjnpaaGreat
set_option linter.unusedVariables false
set_option linter.unusedSimpArgs false

/-- a message's bytes -/
abbrev Ky := List UInt8
/-- in order -/
def Srt (l : List Ky) : Prop := l.Pairwise (· ≤ ·)
/-- one more, in its place -/
def ins (b : Ky) : List Ky → List Ky
  | [] => [b]
  | x :: l => if x < b then x :: ins b l else b :: x :: l
theorem ins_perm (b : Ky) : ∀ l : List Ky, (ins b l).Perm (b :: l)
  | [] => List.Perm.refl _
  | x :: l => by
    unfold ins
    by_cases h : x < b
    · rw [if_pos h]
      exact ((ins_perm b l).cons x).trans (List.Perm.swap b x l)
    · rw [if_neg h]
theorem ins_len (b : Ky) (l : List Ky) : (ins b l).length = l.length + 1 := by rw [(ins_perm b l).length_eq]; rfl
theorem ins_mem {b x : Ky} {l : List Ky} : x ∈ ins b l ↔ x = b ∨ x ∈ l := by rw [(ins_perm b l).mem_iff]; simp
theorem ins_count (b k : Ky) (l : List Ky) : (ins b l).count k = l.count k + if b = k then 1 else 0 := by
  rw [(ins_perm b l).count_eq, List.count_cons]
  by_cases h : b = k <;> simp [h]
theorem Srt.ins {b : Ky} : ∀ {l : List Ky}, Srt l → Srt (ins b l)
  | [], _ => by simp [Srt, Proofs.YteenlkmnadjnpaaGreat.ins]
  | x :: l, h => by
    have h1 := List.pairwise_cons.1 h
    unfold Proofs.YteenlkmnadjnpaaGreat.ins
    by_cases hx : x < b
    · rw [if_pos hx]
      refine List.pairwise_cons.2 ⟨fun y hy => ?_, Srt.ins h1.2⟩
      rcases ins_mem.1 hy with rfl | hy
      · exact List.le_of_lt hx
      · exact h1.1 y hy
    · rw [if_neg hx]
      have hbx : b ≤ x := List.not_lt.1 hx
      refine List.pairwise_cons.2 ⟨fun y hy => ?_, h⟩
      rcases List.mem_cons.1 hy with rfl | hy
      · exact hbx
      · exact List.le_trans hbx (h1.1 y hy)
theorem Srt.erase {b : Ky} {l : List Ky} (h : Srt l) : Srt (l.erase b) := List.Pairwise.sublist List.erase_sublist h
/-- by its place: as many as are less -/
theorem ins_at {b : Ky} : ∀ {l : List Ky} {k : Nat}, k ≤ l.length → (∀ j (hj : j < l.length), j < k → l[j] < b) → (∀ (hk : k < l.length), ¬ l[k] < b) → l.take k ++ b :: l.drop k = ins b l
  | [], k, hk, _, _ => by simp at hk; subst hk; rfl
  | x :: l, 0, _, _, h2 => by
    have := h2 (by simp)
    have hx : ¬ x < b := by simpa using this
    simp [ins, if_neg hx]
  | x :: l, k + 1, hk, h1, h2 => by
    have hx := h1 0 (by simp) (by omega)
    simp at hx
    have ih := ins_at (b := b) (l := l) (k := k) (by simpa using hk) (fun j hj hjk => by have := h1 (j + 1) (by simpa using hj) (by omega); simpa using this) (fun hk2 => by have := h2 (by simpa using hk2); simpa using this)
    simp [ins, hx, ih]

/-- is the k-th one the first of its kind? -/
def isFirst (L : List Ky) (k : Nat) : Bool := decide (k = 0) || decide (L.getD k [] ≠ L.getD (k - 1) [])
/-- the first n places' firsts -/
def firsts (L : List Ky) (n : Nat) : List Nat := (List.range n).filter (isFirst L)
theorem firsts_succ (L : List Ky) (n : Nat) : firsts L (n + 1) = firsts L n ++ if isFirst L n then [n] else [] := by
  unfold firsts
  rw [List.range_succ, List.filter_append]
  cases h : isFirst L n <;> simp [h]
/-- the kinds -/
def dd (L : List Ky) : List Ky := (firsts L L.length).map fun k => L.getD k []
theorem mem_firsts {L : List Ky} {n k : Nat} : k ∈ firsts L n ↔ k < n ∧ isFirst L k = true := by simp [firsts]
theorem Srt.le {L : List Ky} (h : Srt L) {i j : Nat} (hij : i ≤ j) (hj : j < L.length) : L.getD i [] ≤ L.getD j [] := by
  rcases Nat.eq_or_lt_of_le hij with rfl | hlt
  · exact List.le_refl _
  · have := List.pairwise_iff_getElem.1 h i j (by omega) hj hlt
    simpa [List.getD, show i < L.length by omega, hj] using this
theorem lt_of_le_ne' {a b : Ky} (h : a ≤ b) (hn : a ≠ b) : a < b := by
  refine Classical.byContradiction fun hlt => hn ?_
  exact List.le_antisymm h (List.not_lt.1 hlt)
theorem Srt.lt {L : List Ky} (h : Srt L) {i j : Nat} (hij : i < j) (hj : j < L.length) (hf : isFirst L j = true) : L.getD i [] < L.getD j [] := by
  have h1 : L.getD (j - 1) [] ≠ L.getD j [] := by
    simp only [isFirst, Bool.or_eq_true, decide_eq_true_eq] at hf
    rcases hf with hf | hf
    · omega
    · exact fun e => hf e.symm
  have h2 := lt_of_le_ne' (h.le (Nat.sub_le j 1) hj) h1
  have h3 := h.le (show i ≤ j - 1 by omega) (by omega)
  exact List.lt_of_le_of_lt h3 h2
theorem dd_strict {L : List Ky} (h : Srt L) : (dd L).Pairwise (· < ·) := by
  unfold dd
  refine List.pairwise_map.2 ?_
  have hr : (firsts L L.length).Pairwise (· < ·) := (List.pairwise_lt_range).sublist List.filter_sublist
  refine hr.imp_of_mem fun {a b} ha hb hab => ?_
  obtain ⟨h1, h2⟩ := mem_firsts.1 hb
  exact h.lt hab h1 h2
theorem first_ex (L : List Ky) (x : Ky) : ∀ n, (∃ i, i < n ∧ L.getD i [] = x) → ∃ i, i < n ∧ L.getD i [] = x ∧ isFirst L i = true
  | 0, ⟨i, hi, _⟩ => by omega
  | n + 1, ⟨i, hi, he⟩ => by
    by_cases hin : i < n
    · obtain ⟨j, h1, h2, h3⟩ := first_ex L x n ⟨i, hin, he⟩
      exact ⟨j, by omega, h2, h3⟩
    · obtain rfl : i = n := by omega
      by_cases hf : isFirst L i = true
      · exact ⟨i, by omega, he, hf⟩
      · simp only [isFirst, Bool.or_eq_true, decide_eq_true_eq, not_or, Classical.not_not] at hf
        obtain ⟨j, h1, h2, h3⟩ := first_ex L x i ⟨i - 1, by omega, by rw [← hf.2]; exact he⟩
        exact ⟨j, by omega, h2, h3⟩
theorem dd_mem {L : List Ky} {x : Ky} : x ∈ dd L ↔ x ∈ L := by
  unfold dd
  rw [List.mem_map]
  constructor
  · rintro ⟨k, hk, rfl⟩
    have := (mem_firsts.1 hk).1
    simp [List.getD, this]
  · intro hx
    obtain ⟨i, hi, he⟩ := List.getElem_of_mem hx
    obtain ⟨j, h1, h2, h3⟩ := first_ex L x L.length ⟨i, hi, by simp [List.getD, hi, he]⟩
    exact ⟨j, mem_firsts.2 ⟨h1, h3⟩, h2⟩
theorem strict_nodup {l : List Ky} (h : l.Pairwise (· < ·)) : l.Nodup := h.imp fun {a b} hab e => by subst e; exact List.lt_irrefl _ hab
theorem dd_nodup {L : List Ky} (h : Srt L) : (dd L).Nodup := strict_nodup (dd_strict h)
/-- strictly in order, with these members: just one list -/
theorem strict_ext {l m : List Ky} (hl : l.Pairwise (· < ·)) (hm : m.Pairwise (· < ·)) (h : ∀ x, x ∈ l ↔ x ∈ m) : l = m := by
  have hp : l.Perm m := (List.perm_ext_iff_of_nodup (strict_nodup hl) (strict_nodup hm)).2 h
  exact hp.eq_of_pairwise (le := fun a b => a < b) (fun a b _ _ h1 h2 => absurd (List.lt_trans h1 h2) (List.lt_irrefl _)) hl hm
theorem sorted_dd {L ss : List Ky} (h : Srt L) (hn : ss.Nodup) (hm : ∀ x, x ∈ ss ↔ x ∈ L) : ss.mergeSort leB = dd L := by
  have hp : ss.Perm (dd L) := (List.perm_ext_iff_of_nodup hn (dd_nodup h)).2 fun x => by rw [hm, dd_mem]
  rw [mergeSort_of_perm hp]
  refine List.mergeSort_of_pairwise ?_
  exact (dd_strict h).imp fun {a b} hab => by simp [leB, List.le_of_lt hab]
/-- how many there are, kind by kind -/
theorem sum_delta (a : Ky) : ∀ (d : List Ky), (d.map fun x => if a = x then 1 else 0).sum = d.count a
  | [] => rfl
  | y :: d => by
    rw [List.map_cons, List.sum_cons, sum_delta a d, List.count_cons]
    by_cases h : a = y
    · subst h; simp; omega
    · have : ¬ y = a := fun e => h e.symm
      simp [h, this]
theorem sum_add (f g : Ky → Nat) : ∀ (d : List Ky), (d.map fun x => f x + g x).sum = (d.map f).sum + (d.map g).sum
  | [] => rfl
  | y :: d => by simp only [List.map_cons, List.sum_cons, sum_add f g d]; omega
theorem sum_counts {d : List Ky} (hn : d.Nodup) : ∀ (L : List Ky), (∀ x ∈ L, x ∈ d) → (d.map fun x => L.count x).sum = L.length
  | [], _ => by
    have : (d.map fun x => ([] : List Ky).count x) = d.map fun _ => 0 := by simp
    rw [this]
    clear this hn
    induction d with
    | nil => rfl
    | cons y d ih => simp [ih]
  | a :: L, h => by
    have h1 : (d.map fun x => (a :: L).count x) = d.map fun x => L.count x + if a = x then 1 else 0 := by
      apply List.map_congr_left
      intro x _
      rw [List.count_cons]
      by_cases e : a = x <;> simp [e]
    rw [h1, sum_add, sum_counts hn L (fun x hx => h x (by simp [hx])), sum_delta, hn.count, if_pos (h a (by simp))]
    simp
theorem sum_dd {L : List Ky} (h : Srt L) : ((dd L).map fun x => L.count x).sum = L.length := sum_counts (dd_nodup h) L fun x hx => dd_mem.2 hx
/-- without the first of a kind -/
theorem erase_first {L : List Ky} (h : Srt L) {k : Nat} (hk : k < L.length) (hf : isFirst L k = true) : L.eraseIdx k = L.erase (L.getD k []) := by
  have e : L.getD k [] = L[k] := by simp [List.getD, hk]
  have hsplit : L = L.take k ++ L[k] :: L.drop (k + 1) := by
    conv => lhs; rw [← List.take_append_drop k L]
    rw [List.drop_eq_getElem_cons hk]
  have hni : L[k] ∉ L.take k := fun hm => by
    obtain ⟨j, hj, he⟩ := List.getElem_of_mem hm
    have hj' : j < k := by simp at hj; omega
    have hlt := h.lt hj' hk hf
    have e2 : L.getD j [] = L[k] := by
      rw [List.getElem_take] at he
      simp [List.getD, show j < L.length by omega, he]
    rw [e2, e] at hlt
    exact List.lt_irrefl _ hlt
  rw [e, List.eraseIdx_eq_take_drop_succ]
  generalize L[k] = x at *
  generalize List.take k L = A at *
  generalize List.drop (k + 1) L = B at *
  rw [hsplit, List.erase_append_right _ hni, List.erase_cons_head]
end Go.Proofs.YteenlkmnadjnpaaGreat
namespace Go.Proofs.YteenlkmnadjnpaaGreat
open Go.Shelf
def keysA_ren : Go.Shelf.Ren := ⟨fun | 7 => 133 | 10 => 158 | n => n, fun | 23 => 120 | 26 => 9 | 3 => 3 | 28 => 172 | 0 => 0 | 27 => 171 | 33 => 197 | 4 => 4 | n => n, fun | n => n⟩
theorem keysA : Go.Proofs.SlLaysZ.n7 Tryz.prog keysA_ren := {
  mixed := by kernel_rfl
  f7 := ⟨Tryz.f133.name, by decide, Tryz.func133.trans (congrArg some (by kernel_rfl))⟩
  f10 := ⟨Tryz.f158.name, by decide, Tryz.func158.trans (congrArg some (by kernel_rfl))⟩
  t0 := Tryz.underlying0
  a0 := Tryz.isAgg0
  z0 := Tryz.sizeOf0
  v0 := Tryz.zeroValue0
  t4 := Tryz.underlying4
  a4 := Tryz.isAgg4
  z4 := Tryz.sizeOf4
  v4 := Tryz.zeroValue4
  t23 := Tryz.underlying120
  a23 := Tryz.isAgg120
  z23 := Tryz.sizeOf120
  v23 := Tryz.zeroValue120
  t26 := Tryz.underlying9
  a26 := Tryz.isAgg9
  z26 := Tryz.sizeOf9
  v26 := Tryz.zeroValue9
  t27 := Tryz.underlying171
  a27 := Tryz.isAgg171
  z27 := Tryz.sizeOf171
  v27 := Tryz.zeroValue171
  t28 := Tryz.underlying172
  a28 := Tryz.isAgg172
  z28 := Tryz.sizeOf172
  v28 := Tryz.zeroValue172
  t33 := Tryz.underlying197
  a33 := Tryz.isAgg197
  z33 := Tryz.sizeOf197
  v33 := Tryz.zeroValue197 }
def sortedA_ren : Go.Shelf.Ren := ⟨fun | 6 => 132 | 8 => 156 | 9 => 157 | 11 => 176 | 13 => 178 | 12 => 177 | 23 => 200 | 24 => 201 | 14 => 191 | 15 => 192 | 16 => 193 | 17 => 194 | 18 => 195 | 19 => 196 | 20 => 197 | 21 => 198 | 22 => 199 | 25 => 204 | 26 => 205 | 27 => 206 | 28 => 207 | 29 => 208 | 30 => 209 | 31 => 210 | n => n, fun | 26 => 9 | 28 => 172 | 24 => 54 | 0 => 0 | 3 => 3 | 37 => 198 | 48 => 218 | 50 => 26 | 4 => 4 | 40 => 230 | 39 => 229 | 45 => 146 | 5 => 5 | 9 => 9 | 51 => 240 | 55 => 243 | 57 => 245 | 58 => 246 | 33 => 197 | n => n, fun | n => n⟩
theorem sortedA : Go.Proofs.SlLaysZ.n6 Tryz.prog sortedA_ren := {
  mixed := by kernel_rfl
  f6 := ⟨Tryz.f132.name, by decide, Tryz.func132.trans (congrArg some (by kernel_rfl))⟩
  f8 := ⟨Tryz.f156.name, by decide, Tryz.func156.trans (congrArg some (by kernel_rfl))⟩
  f11 := ⟨Tryz.f176.name, by decide, Tryz.func176.trans (congrArg some (by kernel_rfl))⟩
  t0 := Tryz.underlying0
  a0 := Tryz.isAgg0
  z0 := Tryz.sizeOf0
  v0 := Tryz.zeroValue0
  t24 := Tryz.underlying54
  a24 := Tryz.isAgg54
  z24 := Tryz.sizeOf54
  v24 := Tryz.zeroValue54
  t26 := Tryz.underlying9
  a26 := Tryz.isAgg9
  z26 := Tryz.sizeOf9
  v26 := Tryz.zeroValue9
  t28 := Tryz.underlying172
  a28 := Tryz.isAgg172
  z28 := Tryz.sizeOf172
  v28 := Tryz.zeroValue172
  i26 := by kernel_rfl }
def sortA_ren : Go.Shelf.Ren := ⟨fun | 6 => 157 | 8 => 178 | 9 => 177 | 19 => 200 | 20 => 201 | 21 => 191 | 22 => 192 | 23 => 193 | 24 => 194 | 25 => 195 | 26 => 196 | 27 => 197 | 28 => 198 | 29 => 199 | 36 => 204 | 31 => 205 | 32 => 206 | 37 => 207 | 38 => 208 | 39 => 209 | 41 => 210 | n => n, fun | 27 => 54 | 29 => 9 | 3 => 3 | 32 => 198 | 26 => 54 | 0 => 0 | 44 => 218 | 46 => 26 | 4 => 4 | 36 => 230 | 35 => 229 | 41 => 146 | 5 => 5 | 9 => 9 | 53 => 240 | 57 => 243 | 63 => 245 | 64 => 246 | n => n, fun | n => n⟩
theorem sortA : Go.Proofs.SlLaysM.n6 Tryz.prog sortA_ren := {
  mixed := by kernel_rfl
  f6 := ⟨Tryz.f157.name, by decide, Tryz.func157.trans (congrArg some (by kernel_rfl))⟩
  f8 := Tryz.func178.trans (congrArg some (by kernel_rfl))
  f9 := ⟨Tryz.f177.name, by decide, Tryz.func177.trans (congrArg some (by kernel_rfl))⟩
  f19 := Tryz.func200.trans (congrArg some (by kernel_rfl))
  f20 := Tryz.func201.trans (congrArg some (by kernel_rfl))
  f21 := ⟨Tryz.f191.name, by decide, Tryz.func191.trans (congrArg some (by kernel_rfl))⟩
  f22 := ⟨Tryz.f192.name, by decide, Tryz.func192.trans (congrArg some (by kernel_rfl))⟩
  f23 := ⟨Tryz.f193.name, by decide, Tryz.func193.trans (congrArg some (by kernel_rfl))⟩
  f24 := ⟨Tryz.f194.name, by decide, Tryz.func194.trans (congrArg some (by kernel_rfl))⟩
  f25 := ⟨Tryz.f195.name, by decide, Tryz.func195.trans (congrArg some (by kernel_rfl))⟩
  f26 := ⟨Tryz.f196.name, by decide, Tryz.func196.trans (congrArg some (by kernel_rfl))⟩
  f27 := ⟨Tryz.f197.name, by decide, Tryz.func197.trans (congrArg some (by kernel_rfl))⟩
  f28 := ⟨Tryz.f198.name, by decide, Tryz.func198.trans (congrArg some (by kernel_rfl))⟩
  f29 := ⟨Tryz.f199.name, by decide, Tryz.func199.trans (congrArg some (by kernel_rfl))⟩
  f31 := Tryz.func205.trans (congrArg some (by kernel_rfl))
  f32 := Tryz.func206.trans (congrArg some (by kernel_rfl))
  f36 := ⟨Tryz.f204.name, by decide, Tryz.func204.trans (congrArg some (by kernel_rfl))⟩
  f37 := ⟨Tryz.f207.name, by decide, Tryz.func207.trans (congrArg some (by kernel_rfl))⟩
  f38 := ⟨Tryz.f208.name, by decide, Tryz.func208.trans (congrArg some (by kernel_rfl))⟩
  f39 := ⟨Tryz.f209.name, by decide, Tryz.func209.trans (congrArg some (by kernel_rfl))⟩
  f41 := ⟨Tryz.f210.name, by decide, Tryz.func210.trans (congrArg some (by kernel_rfl))⟩
  t0 := Tryz.underlying0
  a0 := Tryz.isAgg0
  z0 := Tryz.sizeOf0
  v0 := Tryz.zeroValue0
  t3 := Tryz.underlying3
  a3 := Tryz.isAgg3
  z3 := Tryz.sizeOf3
  v3 := Tryz.zeroValue3
  t4 := Tryz.underlying4
  a4 := Tryz.isAgg4
  z4 := Tryz.sizeOf4
  v4 := Tryz.zeroValue4
  t5 := Tryz.underlying5
  a5 := Tryz.isAgg5
  z5 := Tryz.sizeOf5
  v5 := Tryz.zeroValue5
  t9 := Tryz.underlying9
  a9 := Tryz.isAgg9
  z9 := Tryz.sizeOf9
  v9 := Tryz.zeroValue9
  t26 := Tryz.underlying54
  a26 := Tryz.isAgg54
  z26 := Tryz.sizeOf54
  v26 := Tryz.zeroValue54
  t27 := Tryz.underlying54
  a27 := Tryz.isAgg54
  z27 := Tryz.sizeOf54
  v27 := Tryz.zeroValue54
  t29 := Tryz.underlying9
  a29 := Tryz.isAgg9
  z29 := Tryz.sizeOf9
  v29 := Tryz.zeroValue9
  t32 := Tryz.underlying198
  a32 := Tryz.isAgg198
  z32 := Tryz.sizeOf198
  v32 := Tryz.zeroValue198
  t35 := Tryz.underlying229
  a35 := Tryz.isAgg229
  z35 := Tryz.sizeOf229
  v35 := Tryz.zeroValue229
  t36 := Tryz.underlying230
  a36 := Tryz.isAgg230
  z36 := Tryz.sizeOf230
  v36 := Tryz.zeroValue230
  t41 := Tryz.underlying146
  a41 := Tryz.isAgg146
  z41 := Tryz.sizeOf146
  v41 := Tryz.zeroValue146
  t44 := Tryz.underlying218
  a44 := Tryz.isAgg218
  z44 := Tryz.sizeOf218
  v44 := Tryz.zeroValue218
  t46 := Tryz.underlying26
  a46 := Tryz.isAgg26
  z46 := Tryz.sizeOf26
  v46 := Tryz.zeroValue26
  t53 := Tryz.underlying240
  a53 := Tryz.isAgg240
  z53 := Tryz.sizeOf240
  v53 := Tryz.zeroValue240
  t57 := Tryz.underlying243
  a57 := Tryz.isAgg243
  z57 := Tryz.sizeOf243
  v57 := Tryz.zeroValue243
  t63 := Tryz.underlying245
  a63 := Tryz.isAgg245
  z63 := Tryz.sizeOf245
  v63 := Tryz.zeroValue245
  t64 := Tryz.underlying246
  a64 := Tryz.isAgg246
  z64 := Tryz.sizeOf246
  v64 := Tryz.zeroValue246 }
end Go.Proofs.YteenlkmnadjnpaaGreat
namespace Go.Proofs.YteenlkmnadjnpaaGreat
open Go.RowKit Go.Maps Go.Shelf
set_option linter.unusedVariables false
set_option linter.unusedSimpArgs false

/-- a value reads as itself -/
def idR (v : Value) : Option (DataW Value × List MemPlace) := some (.held v, [])
theorem idR_inv {v : Value} {z : DataW Value × List MemPlace} (h : idR v = some z) : z = (.held v, []) := by simpa [idR, eq_comm] using h
open Classical in
theorem nodup_sub_le {α : Type} : ∀ {l K : List α}, l.Nodup → (∀ x ∈ l, x ∈ K) → l.length ≤ K.length
  | [], _, _, _ => by simp
  | x :: l, K, h, hs => by
    have h1 := List.nodup_cons.1 h
    have hx := hs x (by simp)
    have := nodup_sub_le (l := l) (K := K.erase x) h1.2 fun y hy => by
      have hyx : y ≠ x := fun e => h1.1 (e ▸ hy)
      exact (List.mem_erase_of_ne hyx).2 (hs y (by simp [hy]))
    rw [List.length_erase_of_mem hx] at this
    have hp := List.length_pos_of_mem hx
    simp only [List.length_cons]
    omega
theorem tightK {P : Program} {k : TypeId} (KK : Keyed P k) {w : World} {b n : Nat} {D : DataW Value} {R : Value → Option (DataW Value × List MemPlace)} (h : w.ownsMap P k R b n D) {K : List Lit} (hk : ∀ kl, has D kl = true → kl ∈ K) : w.ownsMap P k R b K.length D := by
  obtain ⟨es, hD, hpw, hkl⟩ := h.entries KK
  obtain ⟨es0, clock, hb, F, hn, hD0⟩ := h
  refine ⟨es0, clock, hb, F, ?_, hD0⟩
  have e1 : es0.size = es.length := by
    rw [hD] at hD0
    have := DataW.map.inj hD0
    rw [this, length_sorted]
    simp
  rw [e1]
  subst hD
  have hnd : (es.map (·.1)).Nodup := List.pairwise_map.2 (hpw.imp fun {p q} hne => hne)
  have := nodup_sub_le hnd (K := K) fun x hx => by
    obtain ⟨p, hp, rfl⟩ := List.mem_map.1 hx
    exact hk p.1 (List.any_eq_true.2 ⟨p, hp, WideAt.sameKey_self (hkl p hp)⟩)
  simpa using this
theorem owns_blockP {P : Program} {k : TypeId} {w w' : World} {b n : Nat} {D : DataW Value} {R : Value → Option (DataW Value × List MemPlace)} (h : w.ownsMap P k R b n D) (hb : w'.heap[b]? = w.heap[b]?) : w'.ownsMap P k R b n D := by
  obtain ⟨es, clock, h1, h2⟩ := h
  exact ⟨es, clock, hb.trans h1, h2⟩

/-- the literal of a string -/
abbrev sk (a : Ky) : Lit := .string a
abbrev sv (a : Ky) : Value := .string ⟨a.toArray⟩
theorem skeyed : Keyed Tryz.prog 9 := string_keyed Tryz.underlying9
theorem sk_isKey (a : Ky) : WideAt.IsKeyLit (sk a) := by simp [WideAt.IsKeyLit]
theorem keyOf_sk {a : Ky} (h : a.length ≤ maxLen) : keyOf Tryz.prog 9 (sv a) = some (sk a) := by
  have := WideMaps.keyOf_string_mk (P := Tryz.prog) Tryz.underlying9 (s := ⟨a.toArray⟩) (by show a.toArray.size ≤ maxLen; simpa using h)
  simpa using this
/-- the datum of the map V -/
structure MapSD (V : Ky → Option Nat) (D : DataW Value) : Prop where
  some_ : ∀ a n, V a = some n → has D (sk a) = true ∧ ∀ z, D.atKey (sk a) z = .held (.int .i64 (n : Int))
  none_ : ∀ a, V a = none → has D (sk a) = false
  keys : ∀ kl, has D kl = true → ∃ a, kl = sk a
theorem MapSD.has {V : Ky → Option Nat} {D : DataW Value} (h : MapSD V D) (a : Ky) : Go.Maps.has D (sk a) = (V a).isSome := by
  cases hV : V a with
  | none => exact h.none_ a hV
  | some v => exact (h.some_ a v hV).1
theorem MapSD.congr {V V' : Ky → Option Nat} {D : DataW Value} (h : MapSD V D) (he : ∀ a, V' a = V a) : MapSD V' D := by
  have : V' = V := funext he
  rwa [this]
theorem MapSD.empty : MapSD (fun _ => none) (.map []) := ⟨fun _ _ h => (by cases h), fun _ _ => rfl, fun kl h => by simp [Go.Maps.has] at h⟩
def updS (V : Ky → Option Nat) (a : Ky) (v : Option Nat) : Ky → Option Nat := fun x => if x = a then v else V x
theorem MapSD.put {V : Ky → Option Nat} {D : DataW Value} (h : MapSD V D) (hD : IsMap D) (i : Ky) (v : Nat) : MapSD (updS V i (some v)) (D.put (sk i) (.held (.int .i64 (v : Int)))) := by
  have hne : ∀ j, j ≠ i → sk j ≠ sk i := fun j hj e => hj (by simpa using e)
  refine ⟨fun j u hj => ?_, fun j hj => ?_, fun kl hkl => ?_⟩
  · by_cases e : j = i
    · subst e
      simp only [updS, if_true, Option.some.injEq] at hj
      subst hj
      exact ⟨has_put_same hD (sk_isKey j) _, fun z => atKey_put_same hD (sk_isKey j) _ z⟩
    · simp only [updS, if_neg e] at hj
      obtain ⟨h1, h2⟩ := h.some_ j u hj
      exact ⟨by rw [has_put_other (hne j e)]; exact h1, fun z => by rw [atKey_put_other (hne j e)]; exact h2 z⟩
  · by_cases e : j = i
    · subst e
      simp [updS] at hj
    · simp only [updS, if_neg e] at hj
      rw [has_put_other (hne j e)]
      exact h.none_ j hj
  · by_cases e : kl = sk i
    · exact ⟨i, e⟩
    · rw [has_put_other e] at hkl
      exact h.keys kl hkl
theorem MapSD.del {V : Ky → Option Nat} {D : DataW Value} (h : MapSD V D) (i : Ky) : MapSD (updS V i none) (D.del (sk i)) := by
  have hne : ∀ j, j ≠ i → sk j ≠ sk i := fun j hj e => hj (by simpa using e)
  refine ⟨fun j u hj => ?_, fun j hj => ?_, fun kl hkl => ?_⟩
  · by_cases e : j = i
    · subst e
      simp [updS] at hj
    · simp only [updS, if_neg e] at hj
      obtain ⟨h1, h2⟩ := h.some_ j u hj
      exact ⟨by rw [has_del_other (hne j e)]; exact h1, fun z => by rw [atKey_del_other (hne j e)]; exact h2 z⟩
  · by_cases e : j = i
    · subst e
      exact has_del_same
    · simp only [updS, if_neg e] at hj
      rw [has_del_other (hne j e)]
      exact h.none_ j hj
  · by_cases e : kl = sk i
    · exact ⟨i, e⟩
    · rw [has_del_other e] at hkl
      exact h.keys kl hkl
/-- how many times each message is there, in block b; its keys are among K -/
structure MapS (w : World) (b : Nat) (K : List Ky) (V : Ky → Option Nat) : Prop where
  own : ∃ D, w.ownsMap Tryz.prog 9 idR b K.length D ∧ MapSD V D
  dom : ∀ a, (V a).isSome = true → a ∈ K
theorem MapS.lt {w : World} {b : Nat} {K : List Ky} {V : Ky → Option Nat} (h : MapS w b K V) : b < w.heap.size := by obtain ⟨D, h1, _⟩ := h.own; exact h1.lt
theorem MapS.chg {l : List Nat} {w w' : World} {b : Nat} {K : List Ky} {V : Ky → Option Nat} (h : MapS w b K V) (hc : Chg l w w') (hb : b ∉ l) : MapS w' b K V := by
  obtain ⟨D, h1, h2⟩ := h.own
  exact ⟨⟨D, owns_blockP h1 (hc.block b h1.lt hb), h2⟩, h.dom⟩
theorem MapS.congr {w : World} {b : Nat} {K : List Ky} {V V' : Ky → Option Nat} (h : MapS w b K V) (he : ∀ a, V' a = V a) : MapS w b K V' := by
  have : V' = V := funext he
  rwa [this]
theorem tightS {w : World} {b n : Nat} {V : Ky → Option Nat} {D : DataW Value} (h : w.ownsMap Tryz.prog 9 idR b n D) (hm : MapSD V D) {K : List Ky} (hd : ∀ a, (V a).isSome = true → a ∈ K) : MapS w b K V := by
  refine ⟨⟨D, ?_, hm⟩, hd⟩
  have := tightK skeyed h (K := K.map sk) fun kl hkl => by
    obtain ⟨a, rfl⟩ := hm.keys kl hkl
    rw [hm.has] at hkl
    exact List.mem_map_of_mem (hd a hkl)
  simpa using this
theorem MapS.made (w : World) (K : List Ky) : MapS (w.alloc (.map #[] 0)) w.heap.size K (fun _ => none) := tightS (World.ownsMap_made w Tryz.prog 9 idR) MapSD.empty (fun _ h => by cases h)
/-- m[a], whatever stands there: 0 if nothing -/
theorem MapS.look {w : World} {b : Nat} {K : List Ky} {V : Ky → Option Nat} (h : MapS w b K V) {t e : TypeId} (ht : Tryz.prog.underlying t = some (.map 9 e)) (hz : (zeroValue e).run Tryz.prog w = .ok (.int .i64 0) w) {a : Ky} (ha : a.length ≤ maxLen) :
    (Instr.lookup t (.map (some b)) (sv a) false).run Tryz.prog w = .ok (.int .i64 ((V a).getD 0 : Nat)) w := by
  obtain ⟨D, ho, hm⟩ := h.own
  obtain ⟨v, ps, hrun, hv⟩ := ho.lookup skeyed ht hz (zd := .held (.int .i64 0)) (zp := []) rfl (keyOf_sk ha)
  have h2 := idR_inv hv
  rw [hrun]
  cases hV : V a with
  | none =>
    have e1 : D.atKey (sk a) (.held (.int .i64 0)) = .held (.int .i64 0) := atKey_of_not_has (hm.none_ a hV) _
    rw [e1] at h2
    simp at h2
    simp [h2]
  | some u =>
    rw [(hm.some_ a u hV).2] at h2
    simp at h2
    simp [h2]
/-- m[a] = v -/
theorem MapS.put {w : World} {b : Nat} {K : List Ky} {V : Ky → Option Nat} (h : MapS w b K V) {t e : TypeId} (ht : Tryz.prog.underlying t = some (.map 9 e)) {a : Ky} (ha : a.length ≤ maxLen) (hK : K.length ≤ 1000000) (v : Nat) (K' : List Ky) (hK' : ∀ x, x = a ∨ x ∈ K → x ∈ K') :
    ∃ w', (Instr.mapUpdate t (.map (some b)) (sv a) (.int .i64 (v : Int))).run Tryz.prog w = .ok () w' ∧ MapS w' b K' (updS V a (some v)) ∧ Chg [b] w w' := by
  obtain ⟨D, ho, hm⟩ := h.own
  obtain ⟨w', hrun, ho', htn⟩ := ho.store skeyed ht (by unfold maxLen; omega) (keyOf_sk ha) (val := .int .i64 (v : Int)) (d := .held (.int .i64 (v : Int))) (ps := []) rfl
  refine ⟨w', hrun, tightS ho' (hm.put ho.isMap a v) fun x hx => ?_, (Chg.refl [b] w).grown htn.grown (by simp)⟩
  by_cases e : x = a
  · exact hK' x (.inl e)
  · have h2 : updS V a (some v) x = V x := if_neg e
    rw [h2] at hx
    exact hK' x (.inr (h.dom x hx))
/-- delete(m, a) -/
theorem MapS.del {w : World} {b : Nat} {K : List Ky} {V : Ky → Option Nat} (h : MapS w b K V) {t e : TypeId} (ht : Tryz.prog.underlying t = some (.map 9 e)) {a : Ky} (ha : a.length ≤ maxLen) (ty : TypeId) (K' : List Ky) (hK' : ∀ x, x ≠ a → x ∈ K → x ∈ K') :
    ∃ w', (Builtin.delete_ #[t, 9] ty #[.map (some b), sv a]).run Tryz.prog w = .ok (.tuple #[]) w' ∧ MapS w' b K' (updS V a none) ∧ Chg [b] w w' := by
  obtain ⟨D, ho, hm⟩ := h.own
  obtain ⟨w', hrun, ho', htn⟩ := ho.drop skeyed ht (keyOf_sk ha) ty
  refine ⟨w', hrun, tightS ho' (hm.del a) fun x hx => ?_, (Chg.refl [b] w).grown htn.grown (by simp)⟩
  by_cases e : x = a
  · simp [updS, e] at hx
  · have h2 : updS V a none x = V x := if_neg e
    rw [h2] at hx
    exact hK' x e (h.dom x hx)

theorem Tryz.wide_place : (match Tryz.prog.underlying 25 with | some (.array _ _) | some (.struct _) => true | _ => false) = true := by kernel_rfl
set_option maxRecDepth 100000 in
theorem plaw : WideMaps.KeyLaw Tryz.prog 25 := deep_law_laid (by kernel_rfl) (m := 2) (by omega) (of_decide_eq_true (by kernel_rfl)) (by kernel_rfl) Tryz.wide_place
theorem pkeyed : Keyed Tryz.prog 25 := Keyed.of_law plaw
def pk (p : Pl2) : Lit := .string (keyBytes [.int .i64 p.1, .int .i64 p.2])
set_option maxRecDepth 100000 in
theorem keyOf_pk {p : Pl2} (h : Pw p) : keyOf Tryz.prog 25 (plV p) = some (pk p) := by
  have hf : (Tryz.prog.keyType 25 && (plV p).formed Tryz.prog 25) = true := by
    rw [Bool.and_eq_true]
    exact ⟨by kernel_rfl, by simp [Value.formed, Tryz.underlying25, show Tryz.prog.cellsOf 25 = 2 by kernel_rfl]⟩
  obtain ⟨m, hm⟩ : ∃ m, Tryz.prog.types.size = m + 1 := ⟨Tryz.prog.types.size - 1, by kernel_rfl⟩
  have w1 : (Lit.int .i64 p.1).wf = true := by have := h.1; simp [Lit.wf, IntKind.min, IntKind.max, IntKind.signed, IntKind.bits]; omega
  have w2 : (Lit.int .i64 p.2).wf = true := by have := h.2; simp [Lit.wf, IntKind.min, IntKind.max, IntKind.signed, IntKind.bits]; omega
  have g1 : Tryz.prog.keyLits (m + 1) 23 [.int .i64 p.1] = some [.int .i64 p.1] := by
    unfold Program.keyLits
    rw [Tryz.underlying23]
    simp [w1]
  have g2 : Tryz.prog.keyLits (m + 1) 3 [.int .i64 p.2] = some [.int .i64 p.2] := by
    unfold Program.keyLits
    rw [Tryz.underlying3]
    simp [w2]
  unfold keyOf
  rw [Tryz.underlying25]
  simp only [hf, if_true, hm]
  unfold Program.keyLits
  rw [Tryz.underlying25]
  simp [Value.cells, show Tryz.prog.cellsOf 25 = 2 by kernel_rfl, show Tryz.prog.cellsOf 23 = 1 by kernel_rfl, show Tryz.prog.cellsOf 3 = 1 by kernel_rfl, g1, g2, pk]
theorem pk_inj {p q : Pl2} (hp : Pw p) (hq : Pw q) (h : pk p = pk q) : p = q := by
  have h1 := keyOf_pk hp
  have h2 := keyOf_pk hq
  rw [h] at h1
  have := plaw.inj h1 h2
  simp only [plV, Value.agg.injEq, Array.mk.injEq, List.cons.injEq, Value.int.injEq, true_and, and_true] at this
  exact Prod.ext this.1 this.2
theorem pk_isKey (p : Pl2) : WideAt.IsKeyLit (pk p) := by simp [pk, WideAt.IsKeyLit]
/-- which places are down, in block b; they are among K -/
structure MapP (w : World) (b : Nat) (K : List Pl2) (F : Pl2 → Bool) : Prop where
  own : ∃ D : DataW Value, w.ownsMap Tryz.prog 25 unitElem b K.length D ∧ (∀ p, Pw p → has D (pk p) = F p) ∧ ∀ kl, has D kl = true → ∃ p ∈ K, kl = pk p
  wf : ∀ p ∈ K, Pw p
theorem MapP.lt {w : World} {b : Nat} {K : List Pl2} {F : Pl2 → Bool} (h : MapP w b K F) : b < w.heap.size := by obtain ⟨D, h1, _⟩ := h.own; exact h1.lt
theorem MapP.chg {l : List Nat} {w w' : World} {b : Nat} {K : List Pl2} {F : Pl2 → Bool} (h : MapP w b K F) (hc : Chg l w w') (hb : b ∉ l) : MapP w' b K F := by
  obtain ⟨D, h1, h2⟩ := h.own
  exact ⟨⟨D, owns_blockP h1 (hc.block b h1.lt hb), h2⟩, h.wf⟩
theorem MapP.congr {w : World} {b : Nat} {K : List Pl2} {F F' : Pl2 → Bool} (h : MapP w b K F) (he : ∀ p, F' p = F p) : MapP w b K F' := by
  have : F' = F := funext he
  rwa [this]
theorem MapP.made (w : World) (K : List Pl2) (hK : ∀ p ∈ K, Pw p) : MapP (w.alloc (.map #[] 0)) w.heap.size K (fun _ => false) := by
  refine ⟨⟨.map [], (World.ownsMap_made w Tryz.prog 25 (unitElem (H := Value))).mono (Nat.zero_le _), fun _ _ => rfl, fun kl h => by simp [Go.Maps.has] at h⟩, hK⟩
/-- _, is := m[p] -/
theorem MapP.look {w : World} {b : Nat} {K : List Pl2} {F : Pl2 → Bool} (h : MapP w b K F) {t e : TypeId} (ht : Tryz.prog.underlying t = some (.map 25 e)) (hz : (zeroValue e).run Tryz.prog w = .ok (.agg #[]) w) {p : Pl2} (hp : Pw p) :
    (Instr.lookup t (.map (some b)) (plV p) true).run Tryz.prog w = .ok (.tuple #[.agg #[], .bool (F p)]) w := by
  obtain ⟨D, ho, hm, _⟩ := h.own
  obtain ⟨v, ps, hrun, hv⟩ := ho.look_ok pkeyed ht hz (zd := .agg []) (zp := []) unitElem_mk (keyOf_pk hp)
  rw [hm p hp] at hrun
  rw [(unitElem_inv hv).1] at hrun
  exact hrun
def updF (F : Pl2 → Bool) (p : Pl2) (x : Bool) : Pl2 → Bool := fun q => if q = p then x else F q
/-- m[p] = v -/
theorem MapP.put {w : World} {b : Nat} {K : List Pl2} {F : Pl2 → Bool} (h : MapP w b K F) {t e : TypeId} (ht : Tryz.prog.underlying t = some (.map 25 e)) {p : Pl2} (hp : p ∈ K) (hK : K.length ≤ 1000000) :
    ∃ w', (Instr.mapUpdate t (.map (some b)) (plV p) (.agg #[])).run Tryz.prog w = .ok () w' ∧ MapP w' b K (updF F p true) ∧ Chg [b] w w' := by
  obtain ⟨D, ho, hm, hk⟩ := h.own
  have hpw := h.wf p hp
  obtain ⟨w', hrun, ho', htn⟩ := ho.store pkeyed ht (by unfold maxLen; omega) (keyOf_pk hpw) (val := .agg #[]) (d := .agg []) (ps := []) unitElem_mk
  have hk' : ∀ kl, has (D.put (pk p) (.agg [])) kl = true → ∃ q ∈ K, kl = pk q := fun kl hkl => by
    by_cases e : kl = pk p
    · exact ⟨p, hp, e⟩
    · rw [has_put_other e] at hkl
      exact hk kl hkl
  refine ⟨w', hrun, ⟨⟨_, ?_, fun q hq => ?_, hk'⟩, h.wf⟩, (Chg.refl [b] w).grown htn.grown (by simp)⟩
  · have := tightK pkeyed ho' (K := K.map pk) fun kl hkl => by
      obtain ⟨q, hq, rfl⟩ := hk' kl hkl
      exact List.mem_map_of_mem hq
    simpa using this
  · by_cases e : q = p
    · subst e
      simp [updF, has_put_same ho.isMap (pk_isKey q)]
    · rw [has_put_other (fun e2 => e (pk_inj hq hpw e2)), hm q hq]
      simp [updF, e]
/-- delete(m, p) -/
theorem MapP.del {w : World} {b : Nat} {K : List Pl2} {F : Pl2 → Bool} (h : MapP w b K F) {t e : TypeId} (ht : Tryz.prog.underlying t = some (.map 25 e)) {p : Pl2} (hpw : Pw p) (ty : TypeId) :
    ∃ w', (Builtin.delete_ #[t, 25] ty #[.map (some b), plV p]).run Tryz.prog w = .ok (.tuple #[]) w' ∧ MapP w' b K (updF F p false) ∧ Chg [b] w w' := by
  obtain ⟨D, ho, hm, hk⟩ := h.own
  obtain ⟨w', hrun, ho', htn⟩ := ho.drop pkeyed ht (keyOf_pk hpw) ty
  have hk' : ∀ kl, has (D.del (pk p)) kl = true → ∃ q ∈ K, kl = pk q := fun kl hkl => by
    by_cases e : kl = pk p
    · subst e
      rw [has_del_same] at hkl
      cases hkl
    · rw [has_del_other e] at hkl
      exact hk kl hkl
  refine ⟨w', hrun, ⟨⟨_, ho', fun q hq => ?_, hk'⟩, h.wf⟩, (Chg.refl [b] w).grown htn.grown (by simp)⟩
  by_cases e : q = p
  · subst e
    rw [has_del_same]
    simp [updF]
  · rw [has_del_other (fun e2 => e (pk_inj hq hpw e2)), hm q hq]
    simp [updF, e]
end Go.Proofs.YteenlkmnadjnpaaGreat
namespace Go.Proofs.YteenlkmnadjnpaaGreat
open Go.RowKit Go.Maps Go.Sort Go.Shelf Go.Deep
set_option linter.unusedVariables false
set_option linter.unusedSimpArgs false

/-- a soup's state: what is there, in order; who is down; how many were lost -/
structure SpS where
  L : List Ky
  F : Pl2 → Bool
  lost : Nat
/-- how many times each is there, as the map has it -/
def cntV (L : List Ky) (k : Ky) : Option Nat := if L.count k = 0 then none else some (L.count k)
theorem cntV_get (L : List Ky) (k : Ky) : (cntV L k).getD 0 = L.count k := by
  unfold cntV
  by_cases h : L.count k = 0
  · rw [if_pos h, h]; rfl
  · rw [if_neg h]; rfl
theorem cntV_some {L : List Ky} {k : Ky} : (cntV L k).isSome = true ↔ k ∈ L := by
  unfold cntV
  by_cases h : L.count k = 0
  · rw [if_pos h]
    simp [List.count_eq_zero.1 h]
  · rw [if_neg h]
    have : k ∈ L := List.count_pos_iff.1 (Nat.pos_of_ne_zero h)
    simp [this]
/-- the places that may be down -/
def vpl : List Pl2 := (List.range 4).flatMap fun r => (List.range 32).map fun n => (((r + 1 : Nat) : Int), ((n : Nat) : Int))
theorem vpl_mem {p : Pl2} (h : plOk p = true) : p ∈ vpl := by
  obtain ⟨h1, h2⟩ := plOk_iff h
  unfold vpl
  rw [List.mem_flatMap]
  refine ⟨(p.1 - 1).toNat, by rw [List.mem_range]; omega, ?_⟩
  rw [List.mem_map]
  exact ⟨p.2.toNat, by rw [List.mem_range]; omega, Prod.ext (by show (((p.1 - 1).toNat + 1 : Nat) : Int) = p.1; omega) (by show ((p.2.toNat : Nat) : Int) = p.2; omega)⟩
theorem vpl_wf : ∀ p ∈ vpl, Pw p := by
  intro p hp
  unfold vpl at hp
  rw [List.mem_flatMap] at hp
  obtain ⟨r, hr, hp⟩ := hp
  rw [List.mem_map] at hp
  obtain ⟨n, hn, rfl⟩ := hp
  rw [List.mem_range] at hr hn
  constructor <;> simp only <;> omega
theorem vpl_len : vpl.length ≤ 1000000 := by
  unfold vpl
  rw [List.length_flatMap]
  simp only [List.length_map, List.length_range]
  rw [List.map_const']
  simp
theorem plOk_pw {p : Pl2} (h : plOk p = true) : Pw p := vpl_wf p (vpl_mem h)
/-- is it a valid message's bytes? -/
def MOk (k : Ky) : Prop := mright (pMg k) = true ∧ IsME (pMg k) k
theorem MOk.of {x : Mg} {k : Ky} (h1 : mright x = true) (h2 : IsME x k) : MOk k := by
  unfold MOk
  rw [pMg_enc' h1 h2]
  exact ⟨h1, h2⟩
theorem MOk.len {k : Ky} (h : MOk k) : k.length ≤ 1000 := by
  obtain ⟨h1, cb, lb, h2, h3, h4⟩ := h
  have h5 := h4.1
  rw [nat_fw_sum, fMg_sum] at h5
  have h6 := mright_all h1
  have h7 := h6.st.1
  have h8 := h6.bk.1
  have h9 := h2.len
  have h10 := h3.len
  omega
/-- a soup in memory: its struct in block p, its maps in b and d -/
structure Sp (w : World) (p b d : Nat) (S : SpS) : Prop where
  own : Own w p 123 [.map (some b), .map (some d), .int .i64 (S.lost : Int)]
  tm : MapS w b S.L (cntV S.L)
  dn : MapP w d vpl S.F
  srt : Srt S.L
  len : S.L.length ≤ 400
  enc : ∀ k ∈ S.L, MOk k
  ne : p ≠ b ∧ p ≠ d ∧ b ≠ d
theorem Sp.chg {l : List Nat} {w w' : World} {p b d : Nat} {S : SpS} (h : Sp w p b d S) (hc : Chg l w w') (h1 : p ∉ l) (h2 : b ∉ l) (h3 : d ∉ l) : Sp w' p b d S :=
  ⟨h.own.chg hc h1, h.tm.chg hc h2, h.dn.chg hc h3, h.srt, h.len, h.enc, h.ne⟩
theorem Sp.kept {w w' : World} {p b d : Nat} {S : SpS} (h : Sp w p b d S) (hc : Chg [] w w') : Sp w' p b d S := h.chg hc (by simp) (by simp) (by simp)
theorem Sp.below {w w' : World} {p b d B : Nat} {S : SpS} (h : Sp w p b d S) (hb : Below w.heap.size w w') : Sp w' p b d S := h.kept ((Chg.refl [] w).of_below hb)
theorem Sp.lt {w : World} {p b d : Nat} {S : SpS} (h : Sp w p b d S) : ∀ x ∈ [p, b, d], x < w.heap.size := by
  intro x hx
  simp only [List.mem_cons, List.not_mem_nil, or_false] at hx
  rcases hx with rfl | rfl | rfl
  · exact h.own.lt
  · exact h.tm.lt
  · exact h.dn.lt

/-- which keys have come -/
def ColS (V : Ky → Option Nat) (left : Lit → Bool) (ss : List Ky) : Prop := ss.Nodup ∧ ∀ x, x ∈ ss ↔ ((V x).isSome = true ∧ left (sk x) = false)
theorem ColS.start {V : Ky → Option Nat} {D : DataW Value} (h : MapSD V D) : ColS V (Go.Maps.has D) [] := ⟨List.nodup_nil, fun x => by rw [h.has]; cases (V x).isSome <;> simp⟩
theorem ColS.step {V : Ky → Option Nat} {left : Lit → Bool} {ss : List Ky} (h : ColS V left ss) {x : Ky} (hlk : left (sk x) = true) (hV : (V x).isSome = true) : ColS V (fun z => left z && !z.sameKey (sk x)) (ss ++ [x]) := by
  have hnew : x ∉ ss := fun hx => by have := ((h.2 x).1 hx).2; rw [hlk] at this; cases this
  refine ⟨List.nodup_append.2 ⟨h.1, by simp, fun a ha b hb => by simp at hb; subst hb; exact fun e => hnew (e ▸ ha)⟩, fun y => ?_⟩
  by_cases hy : y = x
  · subst hy; simp [hV, Lit.sameKey]
  · simp [h.2 y, hy, Lit.sameKey]
/-- how many of these kinds there are -/
def sumK (L ss : List Ky) : Nat := (ss.map fun k => L.count k).sum
theorem sumK_snoc (L ss : List Ky) (x : Ky) : sumK L (ss ++ [x]) = sumK L ss + L.count x := by simp [sumK]
theorem sumK_le {ss : List Ky} (hn : ss.Nodup) : ∀ L : List Ky, sumK L ss ≤ L.length
  | [] => by
    have : (ss.map fun x => ([] : List Ky).count x) = ss.map fun _ => 0 := by simp
    unfold sumK
    rw [this]
    clear this hn
    induction ss with
    | nil => simp
    | cons y d ih => simpa using ih
  | a :: L => by
    have h1 : sumK (a :: L) ss = sumK L ss + ss.count a := by
      unfold sumK
      rw [← sum_delta, ← sum_add]
      congr 1
      apply List.map_congr_left
      intro x _
      rw [List.count_cons]
      by_cases e : a = x <;> simp [e]
    have h2 := sumK_le hn L
    have h3 : ss.count a ≤ 1 := by rw [hn.count]; split <;> omega
    simp only [List.length_cons]
    omega
set_option maxHeartbeats 2000000 in
theorem Len_any {w : World} {p b d : Nat} {S : SpS} (h : Sp w p b d S) :
    Calls Tryz.prog 26 #[.pointer (some ⟨p, 0, none⟩)] w fun e w' => e = .returned (.int .i64 (S.L.length : Int)) ∧ Chg [] w w' := by
  obtain ⟨D, hown, hD⟩ := h.tm.own
  have HD := Lib.hid hD
  have c0 := h.own.cell 0
  simp at c0
  have hz := h.own.lt
  have HLE := Lib.hid h.len
  obtain ⟨nl, hnl⟩ : ∃ n, S.L.length = n := ⟨_, rfl⟩
  have HNL := Lib.hid hnl
  rw [hnl] at hown ⊢
  clear h hD hnl
  go_enter Tryz.func26, Tryz.ntmps26
  go_wp2_with (first
    | (at_range; refine wpList_range_own _ rfl _ 120 rfl 9 3 skeyed Tryz.underlying120 idR b nl _ rfl hown ?_; intro w0 hrg0 hg0 hs0)
    | fail)
  go_frame
  go_loopw [3] (fun v3 wr => ∃ (left : Lit → Bool) (cnt : Nat) (ss : List Ky), v3 = .int .i64 (sumK S.L ss : Int) ∧ wr.ranges Tryz.prog 9 idR b w.heap.size nl D left cnt ∧ Hid (ColS (cntV S.L) left ss) ∧ w.grownBy wr none)
    (fun _ wr => wr.rangeLeft b w.heap.size)
  case atStart => exact ⟨_, _, [], rfl, hrg0, Lib.hid (ColS.start HD.out), hg0⟩
  case round =>
    obtain ⟨left, cnt, ss, rfl, hrg, hC, hgw⟩ := hrel
    go_wp2_with (first
      | (at_next; refine wpList_next_ranges _ rfl _ rfl 9 skeyed idR encStr id (fun key kl hk => by obtain ⟨x, hx, _⟩ := Maps.keyOf_str Tryz.underlying9 hk; exact ⟨x, hx⟩) (fun v _ _ => ⟨v, rfl⟩) b w.heap.size nl _ _ _ rfl hrg ?_ ?_)
      | fail)
    · intro _ hl0
      have e1 : sumK S.L ss = nl := by
        rw [← HNL.out]
        exact sum_counts hC.out.1 S.L fun x hx => (hC.out.2 x).2 ⟨cntV_some.2 hx, hl0 _⟩
      rw [e1]
      go_wp2
      go_ret
      exact ⟨rfl, (Chg.refl [] w).grown hgw (fun k e => by cases e)⟩
    · intro x c kl yd yp w2 cnt2 hkey hlk hv hat hrg2 hlt hg2 hs2 hen
      obtain ⟨x', ex, rfl, _⟩ := Maps.keyOf_str Tryz.underlying9 hkey
      obtain rfl : x = x' := encStr_inj ex
      have hsome : (cntV S.L x).isSome = true := by
        rw [← HD.out.has]
        exact has_true_of_atKey hat
      obtain ⟨n, hn⟩ := Option.isSome_iff_exists.1 hsome
      have hn2 : n = S.L.count x := by rw [← cntV_get, hn]; rfl
      obtain rfl : c = .int .i64 (n : Int) := by
        have h1 := hat (.held (.int .i64 0))
        rw [(HD.out.some_ x n hn).2] at h1
        have h2 := idR_inv hv
        rw [← h1] at h2
        simpa using (congrArg Prod.fst h2).symm
      have hC2 := Lib.hid (hC.out.step hlk hsome)
      have HSN := Lib.hid (sumK_snoc S.L ss x)
      have hb1 := sumK_le hC2.out.1 S.L
      have hb2 := HLE.out
      rw [HSN.out, ← hn2] at hb1
      rw [← hn2] at HSN
      generalize sumK S.L ss = m at *
      have hb3 : (m : Int) + (n : Int) ≤ 400 := by omega
      have hb4 : IntKind.i64.wrap ((m : Int) + (n : Int)) = ((m + n : Nat) : Int) := by rw [IntWalk.i64_in _ (by omega)]; omega
      clear hv hat hs2 hsome hb1 hb2 hn hn2
      go_wp2_with fail
      go_roundw
      case rel => exact ⟨_, cnt2, ss ++ [x], by rw [HSN.out, Int.natCast_add], hrg2, hC2, hgw.andThen hg2 (fun j hj => by cases hj; exact Or.inl (Nat.le_refl _))⟩
      case measure => rw [hrg2.left_eq, hrg.left_eq]; exact hlt
end Go.Proofs.YteenlkmnadjnpaaGreat
