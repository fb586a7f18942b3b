/-
  What an act, and a slice of acts, that came in is. Plain lemmas, no claim of their own.
-/
import Derived.Test.YtfgniggppafelaaArgs
import Derived.Test.YtfgniggppafelaaDkK
import Derived.Deep.Grids
import Derived.Deep.Fields
import Derived.Lib.SmallJoins
namespace Go.Proofs.Ytfgniggppafelaa
open Go.RowKit Go.ChangeShapes Go.WideShapes Go.Deep

section
variable {H : Type} {enc : TypeId × Value → H} {w : World} {base : Nat} {held : Bool}
theorem row_u8 {n : Nat} {v : Value} {y : DataW H × List MemPlace} (h : DataW.trod enc Try.prog w base (fun _ => true) held n 31 [v] = some y) :
    ∃ (a : Option Addr) (bs : List UInt8) (c : Nat), v = .slice a bs.length c ∧ Ro w w.heap.size a (u8s bs) ∧ bs.length ≤ 9223372036854775807 := by
  have hrow : ∃ a l c zs, v = .slice a l c ∧ IsRow .u8 w a l c zs := by
    rcases open_ints Try.underlying31 Try.underlying5 (by kernel_rfl) h with ⟨hc, _⟩ | ⟨a, l, c, zs, hc, _, hl, hm, hz, _, hcell, hwz⟩
    · exact ⟨none, 0, 0, [], by simpa using hc, .inl ⟨rfl, rfl, rfl, rfl⟩⟩
    · exact ⟨some a, l, c, zs, by simpa using hc, .inr ⟨a, rfl, hl, hm, by simpa using hz, hcell, hwz⟩⟩
  obtain ⟨a, l, c, zs, rfl, hr⟩ := hrow
  obtain ⟨bs, h1, h2, h3, h4⟩ := hr.u8s
  have := hr.len_le
  exact ⟨a, bs, c, by rw [h1], h4, by omega⟩
theorem row_bl {n : Nat} {v : Value} {y : DataW H × List MemPlace} (h : DataW.trod enc Try.prog w base (fun _ => true) held n 32 [v] = some y) :
    ∃ (a : Option Addr) (ks : List Bool) (c : Nat), v = .slice a ks.length c ∧ Ro w w.heap.size a (bls ks) ∧ ks.length ≤ 9223372036854775807 := by
  rcases open_bools Try.underlying32 Try.underlying4 (by kernel_rfl) h with ⟨hc, _⟩ | ⟨a, l, c, B, hc, _, hl, hm, _, hcell⟩
  · exact ⟨none, [], 0, by simpa using hc, Ro.nil _ _ _, by simp⟩
  · refine ⟨some a, (List.range l).map B, c, by simpa using hc, ?_, by simp; unfold maxLen at hm; omega⟩
    rcases Nat.eq_zero_or_pos l with h0 | h0
    · subst h0; exact .inl (by simp [bls])
    · obtain ⟨b, off, spot⟩ := a
      have hc0 := hcell 0 (by omega)
      have hspot : spot = none := by simpa [Addr.add] using World.cell?_spot hc0
      subst hspot
      have hb := World.block_lt_of_cell? w _ hc0
      refine .inr ⟨b, off, rfl, by simpa [add_off] using hb, fun i hi => ?_⟩
      have hil : i < l := by simpa using hi
      have := hcell i (by omega)
      rw [add_off] at this
      rw [this]
      simp [bls, List.getD, hil]
/-- an act -/
structure ActD where
  kd : Int
  i : Int
  ab : Option Addr
  bs : List UInt8
  cb : Nat
  ak : Option Addr
  ks : List Bool
  ck : Nat
/-- its ranges, and the rows that it leads to -/
structure ActOk (w : World) (A : ActD) : Prop where
  kd : -9223372036854775808 ≤ A.kd ∧ A.kd ≤ 9223372036854775807
  i : -9223372036854775808 ≤ A.i ∧ A.i ≤ 9223372036854775807
  ab : Ro w w.heap.size A.ab (u8s A.bs)
  bs : A.bs.length ≤ 9223372036854775807
  ak : Ro w w.heap.size A.ak (bls A.ks)
  ks : A.ks.length ≤ 9223372036854775807
theorem trod_act {n : Nat} {cs : List Value} {y : DataW H × List MemPlace} (h : DataW.trod enc Try.prog w base (fun _ => true) held n 34 cs = some y) :
    ∃ A : ActD, cs = [.int .i64 A.kd, .int .i64 A.i, .slice A.ab A.bs.length A.cb, .slice A.ak A.ks.length A.ck] ∧ ActOk w A := by
  obtain ⟨xs, m, _, _, hlen, hxl, hf⟩ := DataW.trod_struct Try.underlying34 h
  have hc4 : cs.length = 4 := hlen.trans (by kernel_rfl)
  match cs, hc4, xs, hxl with
  | [c0, c1, c2, c3], _, [x0, x1, x2, x3], _ =>
    have g0 : DataW.trod enc Try.prog w base (fun _ => true) held m 3 (([c0, c1, c2, c3].drop 0).take (Try.prog.cellsOf 3)) = some x0 := hf 0 _ rfl
    have g1 : DataW.trod enc Try.prog w base (fun _ => true) held m 3 (([c0, c1, c2, c3].drop 1).take (Try.prog.cellsOf 3)) = some x1 := hf 1 _ rfl
    have g2 : DataW.trod enc Try.prog w base (fun _ => true) held m 31 (([c0, c1, c2, c3].drop 2).take (Try.prog.cellsOf 31)) = some x2 := hf 2 _ rfl
    have g3 : DataW.trod enc Try.prog w base (fun _ => true) held m 32 (([c0, c1, c2, c3].drop 3).take (Try.prog.cellsOf 32)) = some x3 := hf 3 _ rfl
    rw [show Try.prog.cellsOf 3 = 1 by kernel_rfl] at g0 g1
    rw [show Try.prog.cellsOf 31 = 1 by kernel_rfl] at g2
    rw [show Try.prog.cellsOf 32 = 1 by kernel_rfl] at g3
    simp only [List.drop_zero, List.drop_succ_cons, List.take_succ_cons, List.take_zero] at g0 g1 g2 g3
    obtain ⟨kd, e0, _, hw0⟩ := DataW.trod_int Try.underlying3 g0
    obtain ⟨i, e1, _, hw1⟩ := DataW.trod_int Try.underlying3 g1
    obtain ⟨ab, bs, cb, e2, h2, h2'⟩ := row_u8 g2
    obtain ⟨ak, ks, ck, e3, h3, h3'⟩ := row_bl g3
    simp only [List.cons.injEq, and_true] at e0 e1
    subst e0 e1 e2 e3
    exact ⟨⟨kd, i, ab, bs, cb, ak, ks, ck⟩, rfl, ⟨bounds_i64 hw0, bounds_i64 hw1, h2, h2', h3, h3'⟩⟩
/-- a slice of acts that came in -/
def IsActs (w : World) (a : Option Addr) (len : Nat) (A : Nat → ActD) : Prop :=
  len ≤ 9223372036854775807 ∧ (0 < len → ∃ b off, a = some ⟨b, off, none⟩ ∧ b < w.heap.size ∧ ∀ i, i < len → ActOk w (A i) ∧
    w.cell? ⟨b, off + i * 4, none⟩ = some (.int .i64 (A i).kd) ∧ w.cell? ⟨b, off + i * 4 + 1, none⟩ = some (.int .i64 (A i).i) ∧
    w.cell? ⟨b, off + i * 4 + 2, none⟩ = some (.slice (A i).ab (A i).bs.length (A i).cb) ∧ w.cell? ⟨b, off + i * 4 + 3, none⟩ = some (.slice (A i).ak (A i).ks.length (A i).ck))
theorem open_acts {n : Nat} {v : Value} {y : DataW H × List MemPlace} (h : DataW.trod enc Try.prog w base (fun _ => true) held n 22 [v] = some y) :
    ∃ (a : Option Addr) (len cap : Nat) (A : Nat → ActD), v = .slice a len cap ∧ IsActs w a len A := by
  have dA : ActD := ⟨0, 0, none, [], 0, none, [], 0⟩
  rcases open_slice Try.underlying22 h with ⟨hc, _⟩ | ⟨a, len, cap, m, k, D, Pl, hc, _, hl, hm, hmm, _, hi⟩
  · exact ⟨none, 0, 0, fun _ => dA, by simpa using hc, by omega, fun h => by omega⟩
  · have hc4 : Try.prog.cellsOf 34 = 4 := by kernel_rfl
    simp only [if_true] at hmm
    subst hmm
    have hall : ∀ i, i < m → ∃ A : ActD, ActOk w A ∧ w.cell? (a.add (i * 4)) = some (.int .i64 A.kd) ∧ w.cell? ((a.add (i * 4)).add 1) = some (.int .i64 A.i) ∧
        w.cell? ((a.add (i * 4)).add 2) = some (.slice A.ab A.bs.length A.cb) ∧ w.cell? ((a.add (i * 4)).add 3) = some (.slice A.ak A.ks.length A.ck) := by
      intro i him
      obtain ⟨cs, h1, h2⟩ := hi i him
      rw [hc4] at h1
      obtain ⟨_, _, h3⟩ := World.cells?_some h1
      obtain ⟨A, rfl, hA⟩ := trod_act h2
      refine ⟨A, hA, ?_, h3 1 (by omega), h3 2 (by omega), h3 3 (by omega)⟩
      have := h3 0 (by omega)
      simpa [Addr.add] using this
    refine ⟨some a, len, m, fun i => if hi : i < m then Classical.choose (hall i hi) else dA, by simpa using hc, by unfold maxLen at hm; omega, fun hpos => ?_⟩
    obtain ⟨b, off, spot⟩ := a
    obtain ⟨A0, _, hc0, _⟩ := hall 0 (by omega)
    have hspot : spot = none := by simpa [Addr.add] using World.cell?_spot hc0
    subst hspot
    have hb := World.block_lt_of_cell? w _ hc0
    refine ⟨b, off, rfl, by simpa [add_off] using hb, fun i hil => ?_⟩
    have hsp := Classical.choose_spec (hall i (by omega))
    have e : ∀ j, ((⟨b, off, none⟩ : Addr).add (i * 4)).add j = ⟨b, off + i * 4 + j, none⟩ := fun j => by rw [add_off, add_off]
    dsimp only
    rw [dif_pos (show i < m by omega)]
    obtain ⟨g0, g1, g2, g3, g4⟩ := hsp
    exact ⟨g0, (congrArg w.cell? (add_off b off (i * 4))).symm.trans g1, (congrArg w.cell? (e 1)).symm.trans g2, (congrArg w.cell? (e 2)).symm.trans g3, (congrArg w.cell? (e 3)).symm.trans g4⟩
end
section
variable {H : Type} {enc : TypeId × Value → H} {w : World} {base : Nat} {held : Bool}
theorem open_actV {r : Reach} {b0 : Nat} {v : Value} {d : DataW H} {p : List MemPlace} (hv : Value.okWide Try.prog w r b0 34 v) (h : DataW.Trod enc Try.prog w base (fun _ => true) held 34 v d p) :
    ∃ A : ActD, v = .agg #[.int .i64 A.kd, .int .i64 A.i, .slice A.ab A.bs.length A.cb, .slice A.ak A.ks.length A.ck] ∧ ActOk w A := by
  obtain ⟨cs, rfl, hsz⟩ := okWide_struct Try.underlying34 hv
  obtain ⟨fuel, hf⟩ := h
  obtain ⟨A, hA, hok⟩ := trod_act hf
  refine ⟨A, ?_, hok⟩
  congr 1
  apply Array.ext'
  exact hA
theorem open_actsV {r : Reach} {b0 : Nat} {v : Value} {d : DataW H} {p : List MemPlace} (hv : Value.okWide Try.prog w r b0 22 v) (h : DataW.Trod enc Try.prog w base (fun _ => true) held 22 v d p) :
    ∃ (a : Option Addr) (len cap : Nat) (A : Nat → ActD), v = .slice a len cap ∧ IsActs w a len A := by
  obtain ⟨a, l, c, rfl⟩ := okWide_slice Try.underlying22 hv
  obtain ⟨fuel, hf⟩ := h
  exact open_acts hf
theorem open_blsV {r : Reach} {b0 : Nat} {v : Value} {d : DataW H} {p : List MemPlace} (hv : Value.okWide Try.prog w r b0 32 v) (h : DataW.Trod enc Try.prog w base (fun _ => true) held 32 v d p) :
    ∃ (a : Option Addr) (ks : List Bool) (c : Nat), v = .slice a ks.length c ∧ Ro w w.heap.size a (bls ks) ∧ ks.length ≤ 9223372036854775807 := by
  obtain ⟨a, l, c, rfl⟩ := okWide_slice Try.underlying32 hv
  obtain ⟨fuel, hf⟩ := h
  exact row_bl hf
theorem open_acts2 {r : Reach} {b0 : Nat} {v : Value} {d : DataW H} {p : List MemPlace} (hv : Value.okWide Try.prog w r b0 50 v) (h : DataW.Trod enc Try.prog w base (fun _ => true) held 50 v d p) :
    ∃ (a0 : Option Addr) (l0 c0 : Nat) (A0 : Nat → ActD) (a1 : Option Addr) (l1 c1 : Nat) (A1 : Nat → ActD), v = .agg #[.slice a0 l0 c0, .slice a1 l1 c1] ∧ IsActs w a0 l0 A0 ∧ IsActs w a1 l1 A1 := by
  have ht := Try.underlying50
  have hcs : Try.prog.cellsOf 22 = 1 := by kernel_rfl
  obtain ⟨cs, rfl, hsz⟩ : ∃ cs, v = .agg cs ∧ cs.size = Try.prog.cellsOf 50 := by
    simp only [Value.okWide, ht] at hv
    obtain ⟨cs, h1, h2, _⟩ := hv
    exact ⟨cs, h1, h2⟩
  have h2 : cs.toList.length = 2 := by rw [Array.length_toList, hsz]; kernel_rfl
  obtain ⟨fuel, hf⟩ := h
  obtain ⟨xs, m, _, _, _, hl, hi⟩ := DataW.trod_array ht hf
  obtain ⟨l⟩ := cs
  match l, h2, xs, hl with
  | [x, y], _, [u, v], _ =>
    have g0 := hi 0 (by omega)
    have g1 := hi 1 (by omega)
    rw [hcs] at g0 g1
    simp only [Value.cells, Nat.zero_mul, Nat.one_mul, List.drop_zero, List.drop_succ_cons, List.take_succ_cons, List.take_zero, List.getElem?_cons_zero, List.getElem?_cons_succ] at g0 g1
    obtain ⟨a0, l0, c0, A0, rfl, h0⟩ := open_acts g0
    obtain ⟨a1, l1, c1, A1, rfl, h1⟩ := open_acts g1
    exact ⟨a0, l0, c0, A0, a1, l1, c1, A1, rfl, h0, h1⟩
end
theorem ActOk.keep {w w' : World} {A : ActD} (h : ActOk w A) (hb : Below w.heap.size w w') : ActOk w' A :=
  ⟨h.kd, h.i, (h.ab.below hb (Nat.le_refl _)).mono hb.size, h.bs, (h.ak.below hb (Nat.le_refl _)).mono hb.size, h.ks⟩
theorem IsActs.keep {w w' : World} {a : Option Addr} {len : Nat} {A : Nat → ActD} (h : IsActs w a len A) (hb : Below w.heap.size w w') : IsActs w' a len A := by
  refine ⟨h.1, fun hp => ?_⟩
  obtain ⟨b, off, h1, h2, h3⟩ := h.2 hp
  refine ⟨b, off, h1, Nat.lt_of_lt_of_le h2 hb.size, fun i hi => ?_⟩
  obtain ⟨g0, g1, g2, g3, g4⟩ := h3 i hi
  exact ⟨g0.keep hb, (hb.cell (p := ⟨b, _, none⟩) h2).trans g1, (hb.cell (p := ⟨b, _, none⟩) h2).trans g2, (hb.cell (p := ⟨b, _, none⟩) h2).trans g3, (hb.cell (p := ⟨b, _, none⟩) h2).trans g4⟩
end Go.Proofs.Ytfgniggppafelaa
