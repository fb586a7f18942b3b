/-
  What an act of a script on an acceptor, and a slice of acts, that came in are. Plain lemmas, no claim of their own.
-/
import Derived.Test.YtcadnlilijkneaaGreatGb4
import Derived.Test.YtcadnlilijkneaaGreatGb7
import Derived.Test.YtcadnlilijkneaaGreatGb41
import Derived.Deep.Grids
import Derived.Deep.Fields
import Derived.Lib.SmallJoins
namespace Go.Proofs.YtcadnlilijkneaaGreat
open Go.RowKit Go.ChangeShapes Go.WideShapes Go.Deep
set_option linter.unusedVariables false
set_option linter.unusedSimpArgs false

structure ActZ where
  k : Int
  e : Nat
  b : Bt
  y : LyT
  own : Bool
  ka : Option Addr
  ks : List Bool
  kc : Nat
  ra : Option Addr
  rs : List UInt8
  rc : Nat
def ActZ.cs (Z : ActZ) : List Value := [.int .i64 Z.k, .int .u64 (Z.e : Int), .int .i64 Z.b.1, .int .i64 Z.b.2, .int .u64 (Z.y.e : Int), .slice Z.y.a Z.y.sg.length Z.y.c, .int .i64 Z.y.q, .bool Z.own, .slice Z.ka Z.ks.length Z.kc, .slice Z.ra Z.rs.length Z.rc]
structure ActZk (w : World) (Z : ActZ) : Prop where
  e : Z.e < 18446744073709551616
  y : LyOk w Z.y
  ks : Ro w w.heap.size Z.ka (bls Z.ks)
  kl : Z.ks.length ≤ 9223372036854775807
  rs : Ro w w.heap.size Z.ra (u8s Z.rs)
def zAct : ActZ := ⟨0, 0, (0, 0), zLt, false, none, [], 0, none, [], 0⟩
section
variable {H : Type} {enc : TypeId × Value → H} {w : World} {base : Nat} {held : Bool}
theorem flat_len {τ : Type} {cells : τ → List Value} {c : Nat} (hcl : ∀ T, (cells T).length = c) (L : List τ) : (L.flatMap cells).length = L.length * c := by
  induction L with
  | nil => simp
  | cons T L ih => rw [List.flatMap_cons, List.length_append, ih, hcl, List.length_cons, Nat.succ_mul, Nat.add_comm]
theorem flat_at {τ : Type} {cells : τ → List Value} {c : Nat} (hcl : ∀ T, (cells T).length = c) {L : List τ} {k : Nat} (hk : k < L.length) {j : Nat} (hj : j < c) : (L.flatMap cells)[k * c + j]? = (cells L[k])[j]? := by
  have h1 : L = L.take k ++ L[k] :: L.drop (k + 1) := by rw [← List.drop_eq_getElem_cons hk, List.take_append_drop]
  have h2 : L.flatMap cells = (L.take k).flatMap cells ++ (cells L[k] ++ (L.drop (k + 1)).flatMap cells) := by
    conv => lhs; rw [h1]
    rw [List.flatMap_append, List.flatMap_cons]
  have h3 : ((L.take k).flatMap cells).length = k * c := by rw [flat_len hcl, List.length_take]; congr 1; omega
  rw [h2, List.getElem?_append_right (by omega), h3, Nat.add_sub_cancel_left, List.getElem?_append_left (by rw [hcl]; exact hj)]
set_option maxRecDepth 100000 in
theorem open_rowG {t e : TypeId} {c : Nat} {τ : Type} (d0 : τ) (cells : τ → List Value) (Ok : τ → Prop) (ht : Tryz.prog.underlying t = some (.slice e)) (hc : Tryz.prog.cellsOf e = c) (hcl : ∀ T, (cells T).length = c) (hc0 : 0 < c)
    (hopen : ∀ (n : Nat) (cs : List Value) (y : DataW H × List MemPlace), DataW.trod enc Tryz.prog w base (fun _ => true) held n e cs = some y → ∃ T, cs = cells T ∧ Ok T)
    {n : Nat} {v : Value} {y : DataW H × List MemPlace} (h : DataW.trod enc Tryz.prog w base (fun _ => true) held n t [v] = some y) :
    ∃ (a : Option Addr) (L : List τ) (cap : Nat), v = .slice a L.length cap ∧ L.length ≤ 9223372036854775807 ∧ (∀ T ∈ L, Ok T) ∧ Ro w w.heap.size a (L.flatMap cells) := by
  rcases open_slice ht h with ⟨hv, _⟩ | ⟨a, len, cap, m, k, D, Pl, hv, _, hl, hm, hmm, _, hi⟩
  · exact ⟨none, [], 0, by simpa using hv, by simp, (fun T hT => by cases hT), Ro.nil _ _ _⟩
  · simp only [if_true] at hmm
    subst hmm
    have hall : ∀ i, i < m → ∃ T, Ok T ∧ ∀ j, j < c → w.cell? ((a.add (i * c)).add j) = (cells T)[j]? := by
      intro i him
      obtain ⟨cs, h1, h2⟩ := hi i him
      rw [hc] at h1
      obtain ⟨hsz, _, h3⟩ := World.cells?_some h1
      obtain ⟨T, hT, hok⟩ := hopen _ _ _ h2
      refine ⟨T, hok, fun j hj => ?_⟩
      rw [h3 j hj, ← hT]
    obtain ⟨A, hA⟩ : ∃ A : Nat → τ, ∀ i, i < m → Ok (A i) ∧ ∀ j, j < c → w.cell? ((a.add (i * c)).add j) = (cells (A i))[j]? :=
      ⟨fun i => if hi : i < m then Classical.choose (hall i hi) else d0, fun i him => by
        have := Classical.choose_spec (hall i him)
        dsimp only
        rw [dif_pos him]
        exact this⟩
    refine ⟨some a, (List.range len).map A, m, by simpa using hv, by simp; unfold maxLen at hm; omega, fun T hT => ?_, ?_⟩
    · obtain ⟨i, hi, rfl⟩ := List.mem_map.1 hT
      exact (hA i (by have := List.mem_range.1 hi; omega)).1
    · rcases Nat.eq_zero_or_pos len with h0 | h0
      · subst h0; exact .inl rfl
      · obtain ⟨b, off, spot⟩ := a
        have hc1 := (hA 0 (by omega)).2 0 hc0
        have hc2 : (cells (A 0))[0]? = some ((cells (A 0))[0]'(by rw [hcl]; exact hc0)) := List.getElem?_eq_getElem _
        rw [hc2] at hc1
        have hspot : spot = none := by simpa [Addr.add] using World.cell?_spot hc1
        subst hspot
        have hb := World.block_lt_of_cell? w _ hc1
        refine .inr ⟨b, off, rfl, by simpa [add_off] using hb, fun i hi => ?_⟩
        rw [flat_len hcl, List.length_map, List.length_range] at hi
        have hi2 : i / c < len := Nat.div_lt_of_lt_mul (by rw [Nat.mul_comm]; exact hi)
        have hj := Nat.mod_lt i hc0
        have h4 : i = i / c * c + i % c := by have := Nat.div_add_mod i c; rw [Nat.mul_comm] at this; omega
        generalize i / c = q at *
        generalize i % c = r at *
        have hg := (hA q (by omega)).2 r hj
        rw [add_off, add_off, Nat.add_assoc, ← h4] at hg
        rw [hg]
        have hq : q < ((List.range len).map A).length := by simpa using hi2
        have hget := flat_at hcl hq hj
        rw [← h4] at hget
        rw [show ((List.range len).map A)[q] = A q by simp] at hget
        have hx : r < (cells (A q)).length := by rw [hcl]; exact hj
        rw [List.getD_eq_getElem?_getD, hget, List.getElem?_eq_getElem hx]
        rfl
set_option maxRecDepth 100000 in
theorem trod_layout {n : Nat} {cs : List Value} {y : DataW H × List MemPlace} (h : DataW.trod enc Tryz.prog w base (fun _ => true) held n 26 cs = some y) :
    ∃ A : LyT, cs = [.int .u64 (A.e : Int), .slice A.a A.sg.length A.c, .int .i64 A.q] ∧ LyOk w A := by
  obtain ⟨xs, m, _, _, hlen, hxl, hf⟩ := DataW.trod_struct Tryz.underlying26 h
  have hc3 : cs.length = 3 := hlen.trans (by kernel_rfl)
  match cs, hc3, xs, hxl with
  | [c0, c1, c2], _, [x0, x1, x2], _ =>
    have g0 : DataW.trod enc Tryz.prog w base (fun _ => true) held m 23 (([c0, c1, c2].drop 0).take (Tryz.prog.cellsOf 23)) = some x0 := hf 0 _ rfl
    have g1 : DataW.trod enc Tryz.prog w base (fun _ => true) held m 24 (([c0, c1, c2].drop 1).take (Tryz.prog.cellsOf 24)) = some x1 := hf 1 _ rfl
    have g2 : DataW.trod enc Tryz.prog w base (fun _ => true) held m 3 (([c0, c1, c2].drop 2).take (Tryz.prog.cellsOf 3)) = some x2 := hf 2 _ rfl
    rw [show Tryz.prog.cellsOf 23 = 1 by kernel_rfl] at g0
    rw [show Tryz.prog.cellsOf 24 = 1 by kernel_rfl] at g1
    rw [show Tryz.prog.cellsOf 3 = 1 by kernel_rfl] at g2
    simp only [List.drop_zero, List.drop_succ_cons, List.take_succ_cons, List.take_zero] at g0 g1 g2
    obtain ⟨s, e0, _, hw0⟩ := DataW.trod_int Tryz.underlying23 g0
    obtain ⟨a, L, c, rfl, k1, k2, k3⟩ := row_segs g1
    obtain ⟨q, e2, _, hw2⟩ := DataW.trod_int Tryz.underlying3 g2
    simp only [List.cons.injEq, and_true] at e0 e2
    subst e0 e2
    have h1 := bounds_u64 hw0
    refine ⟨⟨s.toNat, a, c, L, q⟩, ?_, ⟨k1, k2⟩, k3, by show s.toNat ≤ _; omega, bounds_i64 hw2⟩
    simp only
    rw [show ((s.toNat : Nat) : Int) = s by omega]
set_option maxRecDepth 100000 in
theorem trod_ballot {n : Nat} {cs : List Value} {y : DataW H × List MemPlace} (h : DataW.trod enc Tryz.prog w base (fun _ => true) held n 48 cs = some y) :
    ∃ p : Int × Int, cs = [.int .i64 p.1, .int .i64 p.2] := by
  obtain ⟨xs, m, _, _, hlen, hxl, hf⟩ := DataW.trod_struct Tryz.underlying48 h
  have hc3 : cs.length = 2 := hlen.trans (by kernel_rfl)
  match cs, hc3, xs, hxl with
  | [c0, c1], _, [x0, x1], _ =>
    have g0 : DataW.trod enc Tryz.prog w base (fun _ => true) held m 3 (([c0, c1].drop 0).take (Tryz.prog.cellsOf 3)) = some x0 := hf 0 _ rfl
    have g1 : DataW.trod enc Tryz.prog w base (fun _ => true) held m 3 (([c0, c1].drop 1).take (Tryz.prog.cellsOf 3)) = some x1 := hf 1 _ rfl
    rw [show Tryz.prog.cellsOf 3 = 1 by kernel_rfl] at g0
    rw [show Tryz.prog.cellsOf 3 = 1 by kernel_rfl] at g1
    simp only [List.drop_zero, List.drop_succ_cons, List.take_succ_cons, List.take_zero] at g0 g1
    obtain ⟨s, e0, _, hw0⟩ := DataW.trod_int Tryz.underlying3 g0
    obtain ⟨q, e2, _, hw2⟩ := DataW.trod_int Tryz.underlying3 g1
    simp only [List.cons.injEq, and_true] at e0 e2
    subst e0 e2
    exact ⟨(s, q), rfl⟩
theorem row_bl8 {n : Nat} {v : Value} {y : DataW H × List MemPlace} (h : DataW.trod enc Tryz.prog w base (fun _ => true) held n 71 [v] = some y) :
    ∃ (a : Option Addr) (ks : List Bool) (c : Nat), v = .slice a ks.length c ∧ Ro w w.heap.size a (bls ks) ∧ ks.length ≤ 9223372036854775807 := by
  rcases open_bools Tryz.underlying71 Tryz.underlying4 (by kernel_rfl) h with ⟨hc, _⟩ | ⟨a, l, c, B, hc, _, hl, hm, _, hcell⟩
  · exact ⟨none, [], 0, by simpa using hc, Ro.nil _ _ _, by simp⟩
  · refine ⟨some a, (List.range l).map B, c, by simpa using hc, ?_, by simp; unfold maxLen at hm; omega⟩
    rcases Nat.eq_zero_or_pos l with h0 | h0
    · subst h0; exact .inl (by simp [bls])
    · obtain ⟨b, off, spot⟩ := a
      have hc0 := hcell 0 (by omega)
      have hspot : spot = none := by simpa [Addr.add] using World.cell?_spot hc0
      subst hspot
      have hb := World.block_lt_of_cell? w _ hc0
      refine .inr ⟨b, off, rfl, by simpa [add_off] using hb, fun i hi => ?_⟩
      have hil : i < l := by simpa using hi
      have := hcell i (by omega)
      rw [add_off] at this
      rw [this]
      simp [bls, List.getD, hil]
theorem trod_bool1 {n : Nat} {cs : List Value} {y : DataW H × List MemPlace} (h : DataW.trod enc Tryz.prog w base (fun _ => true) held n 4 cs = some y) : ∃ t, cs = [.bool t] := by
  obtain ⟨t, h1, _⟩ := DataW.trod_bool Tryz.underlying4 h
  exact ⟨t, h1⟩
set_option maxRecDepth 100000 in
theorem trod_actZ {n : Nat} {cs : List Value} {y : DataW H × List MemPlace} (h : DataW.trod enc Tryz.prog w base (fun _ => true) held n 100 cs = some y) :
    ∃ Z : ActZ, cs = Z.cs ∧ ActZk w Z := by
  obtain ⟨xs, m, _, _, hlen, hxl, hf⟩ := DataW.trod_struct Tryz.underlying100 h
  have hc : cs.length = 10 := hlen.trans (by kernel_rfl)
  match cs, hc, xs, hxl with
  | [c0, c1, c2, c3, c4, c5, c6, c7, c8, c9], _, [x0, x1, x2, x3, x4, x5, x6], _ =>
    have g0 : DataW.trod enc Tryz.prog w base (fun _ => true) held m 3 (([c0, c1, c2, c3, c4, c5, c6, c7, c8, c9].drop 0).take (Tryz.prog.cellsOf 3)) = some x0 := hf 0 _ rfl
    have g1 : DataW.trod enc Tryz.prog w base (fun _ => true) held m 23 (([c0, c1, c2, c3, c4, c5, c6, c7, c8, c9].drop 1).take (Tryz.prog.cellsOf 23)) = some x1 := hf 1 _ rfl
    have g2 : DataW.trod enc Tryz.prog w base (fun _ => true) held m 48 (([c0, c1, c2, c3, c4, c5, c6, c7, c8, c9].drop 2).take (Tryz.prog.cellsOf 48)) = some x2 := hf 2 _ rfl
    have g3 : DataW.trod enc Tryz.prog w base (fun _ => true) held m 26 (([c0, c1, c2, c3, c4, c5, c6, c7, c8, c9].drop 4).take (Tryz.prog.cellsOf 26)) = some x3 := hf 3 _ rfl
    have g4 : DataW.trod enc Tryz.prog w base (fun _ => true) held m 4 (([c0, c1, c2, c3, c4, c5, c6, c7, c8, c9].drop 7).take (Tryz.prog.cellsOf 4)) = some x4 := hf 4 _ rfl
    have g5 : DataW.trod enc Tryz.prog w base (fun _ => true) held m 71 (([c0, c1, c2, c3, c4, c5, c6, c7, c8, c9].drop 8).take (Tryz.prog.cellsOf 71)) = some x5 := hf 5 _ rfl
    have g6 : DataW.trod enc Tryz.prog w base (fun _ => true) held m 42 (([c0, c1, c2, c3, c4, c5, c6, c7, c8, c9].drop 9).take (Tryz.prog.cellsOf 42)) = some x6 := hf 6 _ rfl
    rw [show Tryz.prog.cellsOf 3 = 1 by kernel_rfl] at g0
    rw [show Tryz.prog.cellsOf 23 = 1 by kernel_rfl] at g1
    rw [show Tryz.prog.cellsOf 48 = 2 by kernel_rfl] at g2
    rw [show Tryz.prog.cellsOf 26 = 3 by kernel_rfl] at g3
    rw [show Tryz.prog.cellsOf 4 = 1 by kernel_rfl] at g4
    rw [show Tryz.prog.cellsOf 71 = 1 by kernel_rfl] at g5
    rw [show Tryz.prog.cellsOf 42 = 1 by kernel_rfl] at g6
    simp only [List.drop_zero, List.drop_succ_cons, List.take_succ_cons, List.take_zero] at g0 g1 g2 g3 g4 g5 g6
    obtain ⟨kd, e0, _, hw0⟩ := DataW.trod_int Tryz.underlying3 g0
    obtain ⟨i, e1, _, hw1⟩ := DataW.trod_int Tryz.underlying23 g1
    obtain ⟨b, e2⟩ := trod_ballot g2
    obtain ⟨Y, e3, hY⟩ := trod_layout g3
    obtain ⟨o, e4⟩ := trod_bool1 g4
    obtain ⟨ak, ks, ck, e5, h5, h5l⟩ := row_bl8 g5
    obtain ⟨ab, bs, cb, e6, h6, _⟩ := row_u8 g6
    have hi := bounds_u64 hw1
    obtain ⟨j, rfl⟩ : ∃ j : Nat, i = (j : Int) := ⟨i.toNat, by omega⟩
    simp only [List.cons.injEq, and_true] at e0 e1 e2 e3 e4
    obtain ⟨rfl, rfl⟩ := e2
    obtain ⟨rfl, rfl, rfl⟩ := e3
    subst e0 e1 e4 e5 e6
    exact ⟨⟨kd, j, b, Y, o, ak, ks, ck, ab, bs, cb⟩, rfl, ⟨by show j < _; omega, hY, h5, h5l, h6⟩⟩
set_option maxRecDepth 100000 in
theorem open_act12V {r : Reach} {b0 : Nat} {v : Value} {d : DataW H} {p : List MemPlace} (hv : Value.okWide Tryz.prog w r b0 100 v) (h : DataW.Trod enc Tryz.prog w base (fun _ => true) held 100 v d p) :
    ∃ Z : ActZ, v = .agg Z.cs.toArray ∧ ActZk w Z := by
  obtain ⟨cs, rfl, hsz⟩ := okWide_struct Tryz.underlying100 hv
  obtain ⟨fuel, hf⟩ := h
  obtain ⟨A, h1, h2⟩ := trod_actZ hf
  have h1' : cs.toList = A.cs := h1
  exact ⟨A, by rw [← h1'], h2⟩
structure ActsZk (w : World) (a : Option Addr) (L : List ActZ) : Prop where
  len : L.length ≤ 9223372036854775807
  ok : ∀ A ∈ L, ActZk w A
  row : Ro w w.heap.size a (L.flatMap ActZ.cs)
set_option maxRecDepth 100000 in
theorem open_acts12V {r : Reach} {b0 : Nat} {v : Value} {d : DataW H} {p : List MemPlace} (hv : Value.okWide Tryz.prog w r b0 86 v) (h : DataW.Trod enc Tryz.prog w base (fun _ => true) held 86 v d p) :
    ∃ (a : Option Addr) (L : List ActZ) (c : Nat), v = .slice a L.length c ∧ ActsZk w a L := by
  obtain ⟨a, l, c, rfl⟩ := okWide_slice Tryz.underlying86 hv
  obtain ⟨fuel, hf⟩ := h
  obtain ⟨a', L, cap, e, h1, h2, h3⟩ := open_rowG (c := 10) zAct ActZ.cs (ActZk w) Tryz.underlying86 (by kernel_rfl) (fun T => rfl) (by omega) (fun n cs y hh => trod_actZ hh) hf
  exact ⟨a', L, cap, e, h1, h2, h3⟩
end
end Go.Proofs.YtcadnlilijkneaaGreat
