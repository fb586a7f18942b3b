/-
  What a slice of integers that came in is, in the words of this seat. Plain lemmas, no claim of their own.
-/
import Derived.OpenShut
import Derived.ChangeSlices
import Derived.Test.YtmpajlpemabniaaGreatZk1
import Derived.Deep.Grids
import Derived.Deep.Fields
import Derived.Lib.SmallJoins
import Derived.Test.YtmpajlpemabniaaGreatZk8
import Derived.Test.YtmpajlpemabniaaGreatZk24
import Derived.Test.YtmpajlpemabniaaGreatZk29
import Derived.Test.YtmpajlpemabniaaGreatZk30
import Derived.Test.YtmpajlpemabniaaGreatZk7
namespace Go.Proofs.YtmpajlpemabniaaGreat
set_option linter.unusedVariables false
set_option linter.unusedSimpArgs false
open Go.RowKit

def IsRow (k : IntKind) (w : World) (a : Option Addr) (len cap : Nat) (zs : List Int) : Prop :=
  (a = none ∧ len = 0 ∧ cap = 0 ∧ zs = []) ∨
  ∃ x, a = some x ∧ len ≤ cap ∧ cap ≤ maxLen ∧ zs.length = cap ∧ (∀ i, i < zs.length → w.cell? (x.add i) = some (.int k (zs.getD i 0))) ∧ ∀ n ∈ zs, (Lit.int k n).wf = true

theorem IsRow.vals {k : IntKind} {w : World} {a : Option Addr} {len cap : Nat} {zs : List Int} (h : IsRow k w a len cap zs) :
    ∃ ys : List Int, ys.length = len ∧ len ≤ cap ∧ (a = none → cap = 0) ∧ Ro w w.heap.size a (ys.map fun x => .int k x) ∧ ∀ n ∈ ys, (Lit.int k n).wf = true := by
  rcases h with ⟨rfl, rfl, rfl, rfl⟩ | ⟨x, rfl, h1, h2, h3, h4, h5⟩
  · exact ⟨[], rfl, Nat.le_refl _, fun _ => rfl, .inl rfl, by simp⟩
  · refine ⟨zs.take len, by rw [List.length_take]; omega, h1, (fun h => by cases h), ?_, (fun n hn => h5 n (List.mem_of_mem_take hn))⟩
    by_cases h0 : len = 0
    · subst h0; exact .inl (by simp)
    · obtain ⟨b, off, spot⟩ := x
      have hc := h4 0 (by omega)
      have hspot : spot = none := by simpa [Addr.add] using World.cell?_spot hc
      subst hspot
      have hb := World.block_lt_of_cell? w _ hc
      refine .inr ⟨b, off, rfl, by simpa [add_off] using hb, fun i hi => ?_⟩
      rw [List.length_map, List.length_take] at hi
      have := h4 i (by omega)
      rw [add_off] at this
      rw [this]
      simp [List.getD, List.getElem?_take, show i < len from by omega, show i < zs.length from by omega]
theorem IsRow.len_le {k : IntKind} {w : World} {a : Option Addr} {len cap : Nat} {zs : List Int} (h : IsRow k w a len cap zs) : len ≤ 9223372036854775807 := by
  rcases h with ⟨_, rfl, _, _⟩ | ⟨x, _, h1, h2, _⟩
  · omega
  · unfold maxLen at h2; omega
theorem IsRow.cap_le {k : IntKind} {w : World} {a : Option Addr} {len cap : Nat} {zs : List Int} (h : IsRow k w a len cap zs) : cap ≤ 9223372036854775807 := by
  rcases h with ⟨_, _, rfl, _⟩ | ⟨x, _, h1, h2, _⟩
  · omega
  · unfold maxLen at h2; omega
theorem IsRow.u8s {w : World} {a : Option Addr} {len cap : Nat} {zs : List Int} (h : IsRow .u8 w a len cap zs) :
    ∃ bs : List UInt8, bs.length = len ∧ len ≤ cap ∧ (a = none → cap = 0) ∧ Ro w w.heap.size a (u8s bs) := by
  obtain ⟨ys, h1, h2, h3, h4, h5⟩ := h.vals
  refine ⟨ys.map fun n => UInt8.ofNat n.toNat, by simpa using h1, h2, h3, ?_⟩
  have e : YtmpajlpemabniaaGreat.u8s (ys.map fun n => UInt8.ofNat n.toNat) = ys.map fun x => .int .u8 x := by
    unfold YtmpajlpemabniaaGreat.u8s
    rw [List.map_map]
    apply List.map_congr_left
    intro n hn
    have := bounds_u8 (h5 n hn)
    have e2 : (UInt8.ofNat n.toNat).toNat = n.toNat := by simp; omega
    simp only [Function.comp, e2]
    congr 1
    omega
  rw [e]; exact h4
theorem IsRow.u64s {w : World} {a : Option Addr} {len cap : Nat} {zs : List Int} (h : IsRow .u64 w a len cap zs) :
    ∃ l : List Nat, l.length = len ∧ len ≤ cap ∧ (a = none → cap = 0) ∧ Ro w w.heap.size a (u64s l) ∧ ∀ i, l.getD i 0 < 18446744073709551616 := by
  obtain ⟨ys, h1, h2, h3, h4, h5⟩ := h.vals
  refine ⟨ys.map Int.toNat, by simpa using h1, h2, h3, ?_, fun i => ?_⟩
  · have e : YtmpajlpemabniaaGreat.u64s (ys.map Int.toNat) = ys.map fun x => .int .u64 x := by
      unfold YtmpajlpemabniaaGreat.u64s
      rw [List.map_map]
      apply List.map_congr_left
      intro n hn
      have := bounds_u64 (h5 n hn)
      simp only [Function.comp]
      congr 1
      omega
    rw [e]; exact h4
  · by_cases hi : i < ys.length
    · have := bounds_u64 (h5 ys[i] (List.getElem_mem hi))
      have e : (ys.map Int.toNat).getD i 0 = ys[i].toNat := by simp [List.getD, hi]
      rw [e]; omega
    · have e : (ys.map Int.toNat).getD i 0 = 0 := by simp [List.getD, hi]
      rw [e]; omega
theorem IsRow.i64s {w : World} {a : Option Addr} {len cap : Nat} {zs : List Int} (h : IsRow .i64 w a len cap zs) :
    ∃ l : List Int, l.length = len ∧ len ≤ cap ∧ (a = none → cap = 0) ∧ Ro w w.heap.size a (i64s l) ∧ ∀ i, -9223372036854775808 ≤ l.getD i 0 ∧ l.getD i 0 ≤ 9223372036854775807 := by
  obtain ⟨ys, h1, h2, h3, h4, h5⟩ := h.vals
  refine ⟨ys, h1, h2, h3, h4, fun i => ?_⟩
  by_cases hi : i < ys.length
  · have := bounds_i64 (h5 ys[i] (List.getElem_mem hi))
    have e : ys.getD i 0 = ys[i] := by simp [List.getD, hi]
    rw [e]; omega
  · have e : ys.getD i 0 = 0 := by simp [List.getD, hi]
    rw [e]; omega
section
variable {H : Type} {enc : TypeId × Value → H} {P : Program} {w : World} {base : Nat} {spare : Nat → Bool} {held : Bool}
end
end Go.Proofs.YtmpajlpemabniaaGreat
namespace Go.Proofs.YtmpajlpemabniaaGreat
open Go.RowKit Go.ChangeShapes Go.WideShapes Go.Deep
set_option linter.unusedVariables false
set_option linter.unusedSimpArgs false

section
variable {H : Type} {enc : TypeId × Value → H} {w : World} {base : Nat} {held : Bool}
theorem row_u8 {n : Nat} {v : Value} {y : DataW H × List MemPlace} (h : DataW.trod enc Tryz.prog w base (fun _ => true) held n 39 [v] = some y) :
    ∃ (a : Option Addr) (bs : List UInt8) (c : Nat), v = .slice a bs.length c ∧ Ro w w.heap.size a (u8s bs) ∧ bs.length ≤ c ∧ c ≤ 9223372036854775807 := by
  have hrow : ∃ a l c zs, v = .slice a l c ∧ IsRow .u8 w a l c zs := by
    rcases open_ints Tryz.underlying39 Tryz.underlying5 (by kernel_rfl) h with ⟨hc, _⟩ | ⟨a, l, c, zs, hc, _, hl, hm, hz, _, hcell, hwz⟩
    · exact ⟨none, 0, 0, [], by simpa using hc, .inl ⟨rfl, rfl, rfl, rfl⟩⟩
    · exact ⟨some a, l, c, zs, by simpa using hc, .inr ⟨a, rfl, hl, hm, by simpa using hz, hcell, hwz⟩⟩
  obtain ⟨a, l, c, zs, rfl, hr⟩ := hrow
  obtain ⟨bs, h1, h2, h3, h4⟩ := hr.u8s
  have := hr.cap_le
  exact ⟨a, bs, c, by rw [h1], h4, by omega, by omega⟩
set_option maxRecDepth 100000 in
theorem trod_back {n : Nat} {cs : List Value} {y : DataW H × List MemPlace} (h : DataW.trod enc Tryz.prog w base (fun _ => true) held n 143 cs = some y) :
    ∃ b : Bk, cs = [.int .i64 b.1, .int .u64 (b.2.1 : Int), .int .u64 (b.2.2 : Int)] ∧ FitB b := by
  obtain ⟨xs, m, _, _, hlen, hxl, hf⟩ := DataW.trod_struct Tryz.underlying143 h
  have hc3 : cs.length = 3 := hlen.trans (by kernel_rfl)
  match cs, hc3, xs, hxl with
  | [c0, c1, c2], _, [x0, x1], _ =>
    have g0 : DataW.trod enc Tryz.prog w base (fun _ => true) held m 3 (([c0, c1, c2].drop 0).take (Tryz.prog.cellsOf 3)) = some x0 := hf 0 _ rfl
    have g1 : DataW.trod enc Tryz.prog w base (fun _ => true) held m 141 (([c0, c1, c2].drop 1).take (Tryz.prog.cellsOf 141)) = some x1 := hf 1 _ rfl
    rw [show Tryz.prog.cellsOf 3 = 1 by kernel_rfl] at g0
    rw [show Tryz.prog.cellsOf 141 = 2 by kernel_rfl] at g1
    simp only [List.drop_zero, List.drop_succ_cons, List.take_succ_cons, List.take_zero] at g0 g1
    obtain ⟨s, e0, _, hw0⟩ := DataW.trod_int Tryz.underlying3 g0
    have hu : Tryz.prog.underlying 141 = some (.array 2 37) := by kernel_rfl
    obtain ⟨ys, m2, _, _, _, hl, hi⟩ := DataW.trod_array hu g1
    have hce : Tryz.prog.cellsOf 37 = 1 := by kernel_rfl
    have i0 := hi 0 (by omega)
    have i1 := hi 1 (by omega)
    rw [hce, Nat.mul_one, List.getElem?_eq_getElem (by omega)] at i0 i1
    simp only [List.drop_zero, List.drop_succ_cons, List.take_succ_cons, List.take_zero] at i0 i1
    obtain ⟨p, e1, _, hw1⟩ := DataW.trod_int Tryz.underlying37 i0
    obtain ⟨q, e2, _, hw2⟩ := DataW.trod_int Tryz.underlying37 i1
    simp only [List.cons.injEq, and_true] at e0 e1 e2
    subst e0 e1 e2
    have h0 := bounds_i64 hw0
    have h1 := bounds_u64 hw1
    have h2 := bounds_u64 hw2
    refine ⟨(s, p.toNat, q.toNat), ?_, ⟨h0.1, h0.2, ?_, ?_⟩⟩
    · simp only
      rw [show ((p.toNat : Nat) : Int) = p by omega, show ((q.toNat : Nat) : Int) = q by omega]
    · show p.toNat ≤ _; omega
    · show q.toNat ≤ _; omega
set_option maxRecDepth 100000 in
theorem row_backs {n : Nat} {v : Value} {y : DataW H × List MemPlace} (h : DataW.trod enc Tryz.prog w base (fun _ => true) held n 40 [v] = some y) :
    ∃ (a : Option Addr) (L : List Bk) (c : Nat), v = .slice a L.length c ∧ Ro w w.heap.size a (bcs L) ∧ (∀ b ∈ L, FitB b) ∧ L.length ≤ 9223372036854775807 := by
  rcases open_slice Tryz.underlying40 h with ⟨hc, _⟩ | ⟨a, len, cap, m, k, D, Pl, hc, _, hl, hm, hmm, _, hi⟩
  · exact ⟨none, [], 0, by simpa using hc, Ro.nil _ _ _, by simp, by simp⟩
  · have hc2 : Tryz.prog.cellsOf 143 = 3 := by kernel_rfl
    simp only [if_true] at hmm
    subst hmm
    have hall : ∀ i, i < m → ∃ b : Bk, FitB b ∧ w.cell? (a.add (i * 3)) = some (.int .i64 b.1) ∧ w.cell? ((a.add (i * 3)).add 1) = some (.int .u64 (b.2.1 : Int)) ∧ w.cell? ((a.add (i * 3)).add 2) = some (.int .u64 (b.2.2 : Int)) := by
      intro i him
      obtain ⟨cs, h1, h2⟩ := hi i him
      rw [hc2] at h1
      obtain ⟨_, _, h3⟩ := World.cells?_some h1
      obtain ⟨r, rfl, hr⟩ := trod_back h2
      refine ⟨r, hr, ?_, h3 1 (by omega), h3 2 (by omega)⟩
      have := h3 0 (by omega)
      simpa [Addr.add] using this
    obtain ⟨A, hA⟩ : ∃ A : Nat → Bk, ∀ i, i < m → FitB (A i) ∧ w.cell? (a.add (i * 3)) = some (.int .i64 (A i).1) ∧ w.cell? ((a.add (i * 3)).add 1) = some (.int .u64 ((A i).2.1 : Int)) ∧ w.cell? ((a.add (i * 3)).add 2) = some (.int .u64 ((A i).2.2 : Int)) :=
      ⟨fun i => if hi : i < m then Classical.choose (hall i hi) else (0, 0, 0), fun i him => by
        have := Classical.choose_spec (hall i him)
        dsimp only
        rw [dif_pos him]
        exact this⟩
    refine ⟨some a, (List.range len).map A, m, by simpa using hc, ?_, fun r hr => ?_, by simp; unfold maxLen at hm; omega⟩
    · rcases Nat.eq_zero_or_pos len with h0 | h0
      · subst h0; exact .inl rfl
      · obtain ⟨b, off, spot⟩ := a
        have hc0 := (hA 0 (by omega)).2.1
        have hspot : spot = none := by simpa [Addr.add] using World.cell?_spot hc0
        subst hspot
        have hb := World.block_lt_of_cell? w _ hc0
        refine .inr ⟨b, off, rfl, by simpa [add_off] using hb, fun i hi => ?_⟩
        rw [bcs_length, List.length_map, List.length_range] at hi
        have hel : ∀ t, t < len → bk ((List.range len).map A) t = A t := fun t ht => by simp [bk, List.getD, ht]
        have hi2 : i / 3 < len := by omega
        obtain ⟨_, g1, g2, g3⟩ := hA (i / 3) (by omega)
        have e := bcs_bk (L := (List.range len).map A) (i := i / 3) (by simpa using hi2)
        rw [hel _ hi2] at e
        have hp : i % 3 = 0 ∨ i % 3 = 1 ∨ i % 3 = 2 := by omega
        rcases hp with hp | hp | hp
        · have ei : i = i / 3 * 3 := by omega
          rw [ei, e.1]
          rw [add_off] at g1
          exact g1
        · have ei : i = i / 3 * 3 + 1 := by omega
          rw [ei, e.2.1]
          rw [add_off, add_off] at g2
          exact g2
        · have ei : i = i / 3 * 3 + 2 := by omega
          rw [ei, e.2.2]
          rw [add_off, add_off] at g3
          exact g3
    · rw [List.mem_map] at hr
      obtain ⟨i, hi, rfl⟩ := hr
      exact (hA i (by have := List.mem_range.1 hi; omega)).1
structure CeT where
  x : Ce
  a : Option Addr
  c : Nat
  a2 : Option Addr
  c2 : Nat
structure CeOk (w : World) (A : CeT) : Prop where
  k : -9223372036854775808 ≤ A.x.k ∧ A.x.k ≤ 9223372036854775807
  d : Ro w w.heap.size A.a (u8s A.x.d)
  dl : A.x.d.length ≤ 9223372036854775807
  b : Ro w w.heap.size A.a2 (bcs A.x.b)
  bl : A.x.b.length ≤ 9223372036854775807
  fit : ∀ b ∈ A.x.b, FitB b
def CeT.val (A : CeT) : Value := cev A.x.k A.a A.x.d.length A.c A.a2 A.x.b.length A.c2
set_option maxRecDepth 100000 in
theorem trod_cell {n : Nat} {cs : List Value} {y : DataW H × List MemPlace} (h : DataW.trod enc Tryz.prog w base (fun _ => true) held n 42 cs = some y) :
    ∃ A : CeT, cs = [.int .i64 A.x.k, .slice A.a A.x.d.length A.c, .slice A.a2 A.x.b.length A.c2] ∧ CeOk w A := by
  obtain ⟨xs, m, _, _, hlen, hxl, hf⟩ := DataW.trod_struct Tryz.underlying42 h
  have hc3 : cs.length = 3 := hlen.trans (by kernel_rfl)
  match cs, hc3, xs, hxl with
  | [c0, c1, c2], _, [x0, x1, x2], _ =>
    have g0 : DataW.trod enc Tryz.prog w base (fun _ => true) held m 38 (([c0, c1, c2].drop 0).take (Tryz.prog.cellsOf 38)) = some x0 := hf 0 _ rfl
    have g1 : DataW.trod enc Tryz.prog w base (fun _ => true) held m 39 (([c0, c1, c2].drop 1).take (Tryz.prog.cellsOf 39)) = some x1 := hf 1 _ rfl
    have g2 : DataW.trod enc Tryz.prog w base (fun _ => true) held m 40 (([c0, c1, c2].drop 2).take (Tryz.prog.cellsOf 40)) = some x2 := hf 2 _ rfl
    rw [show Tryz.prog.cellsOf 38 = 1 by kernel_rfl] at g0
    rw [show Tryz.prog.cellsOf 39 = 1 by kernel_rfl] at g1
    rw [show Tryz.prog.cellsOf 40 = 1 by kernel_rfl] at g2
    simp only [List.drop_zero, List.drop_succ_cons, List.take_succ_cons, List.take_zero] at g0 g1 g2
    obtain ⟨k, e0, _, hw0⟩ := DataW.trod_int Tryz.underlying38 g0
    obtain ⟨a, bs, c, e1, h1, h1', h1''⟩ := row_u8 g1
    obtain ⟨a2, L, c2', e2, h2, h2', h2''⟩ := row_backs g2
    simp only [List.cons.injEq, and_true] at e0
    subst e0 e1 e2
    exact ⟨⟨⟨k, bs, L⟩, a, c, a2, c2'⟩, rfl, ⟨bounds_i64 hw0, h1, by show bs.length ≤ _; omega, h2, h2'', h2'⟩⟩
end
end Go.Proofs.YtmpajlpemabniaaGreat
namespace Go.Proofs.YtmpajlpemabniaaGreat
open Go.RowKit Go.Maps Go.Shelf Go.Deep
set_option linter.unusedVariables false
set_option linter.unusedSimpArgs false

structure CellV (w : World) (C : List Nat) (A : CeT) : Prop where
  d : Ro w w.heap.size A.a (u8s A.x.d)
  b : Ro w w.heap.size A.a2 (bcs A.x.b)
  da : A.x.d ≠ [] → ∀ ad, A.a = some ad → ad.block ∈ C
  ba : A.x.b ≠ [] → ∀ ad, A.a2 = some ad → ad.block ∈ C
theorem Ro.chg2 {l : List Nat} {w w' : World} {a : Option Addr} {vs : List Value} (h : Ro w w.heap.size a vs) (hc : Chg l w w') (hl : ∀ ad, a = some ad → ad.block ∉ l) : Ro w' w'.heap.size a vs :=
  (h.chgs2 hc (fun _ => hl)).mono hc.size
theorem Ro.chg3 {l : List Nat} {w w' : World} {a : Option Addr} {vs : List Value} (h : Ro w w.heap.size a vs) (hc : Chg l w w') (hl : vs ≠ [] → ∀ ad, a = some ad → ad.block ∉ l) : Ro w' w'.heap.size a vs :=
  (h.chgs2 hc hl).mono hc.size
theorem CellV.chg {l : List Nat} {w w' : World} {C : List Nat} {A : CeT} (h : CellV w C A) (hc : Chg l w w') (hl : ∀ x ∈ C, x ∉ l) : CellV w' C A :=
  ⟨h.d.chg3 hc (fun h0 ad e => hl _ (h.da (fun e0 => h0 (by rw [e0]; rfl)) ad e)), h.b.chg3 hc (fun h0 ad e => hl _ (h.ba (fun e0 => h0 (by rw [e0]; rfl)) ad e)), h.da, h.ba⟩
theorem CellV.mono {w : World} {C C' : List Nat} {A : CeT} (h : CellV w C A) (hC : ∀ x ∈ C, x ∈ C') : CellV w C' A := ⟨h.d, h.b, fun h0 ad e => hC _ (h.da h0 ad e), fun h0 ad e => hC _ (h.ba h0 ad e)⟩
structure NewC (w w' : World) (A : CeT) : Prop where
  d : Ro w' w'.heap.size A.a (u8s A.x.d)
  b : Ro w' w'.heap.size A.a2 (bcs A.x.b)
  da : ∀ ad, A.a = some ad → w.heap.size ≤ ad.block
  ba : ∀ ad, A.a2 = some ad → w.heap.size ≤ ad.block
def CeT.blocks (A : CeT) : List Nat := (if A.x.d.length = 0 then [] else (A.a.map (·.block)).toList) ++ (if A.x.b.length = 0 then [] else (A.a2.map (·.block)).toList)
theorem CeT.mem_a {A : CeT} {ad : Addr} (h0 : A.x.d ≠ []) (h : A.a = some ad) : ad.block ∈ A.blocks := by
  have h1 : ¬ A.x.d.length = 0 := fun e => h0 (List.eq_nil_of_length_eq_zero e)
  simp only [CeT.blocks, if_neg h1, h]; simp
theorem CeT.mem_b {A : CeT} {ad : Addr} (h0 : A.x.b ≠ []) (h : A.a2 = some ad) : ad.block ∈ A.blocks := by
  have h1 : ¬ A.x.b.length = 0 := fun e => h0 (List.eq_nil_of_length_eq_zero e)
  simp only [CeT.blocks, if_neg h1, h]; simp
theorem NewC.cellV {w w' : World} {A : CeT} (h : NewC w w' A) : CellV w' A.blocks A := ⟨h.d, h.b, fun h0 _ e => CeT.mem_a h0 e, fun h0 _ e => CeT.mem_b h0 e⟩
theorem CeT.blocks_of {A : CeT} {x : Nat} (hx : x ∈ A.blocks) : (A.x.d ≠ [] ∧ ∃ ad, A.a = some ad ∧ x = ad.block) ∨ (A.x.b ≠ [] ∧ ∃ ad, A.a2 = some ad ∧ x = ad.block) := by
  unfold CeT.blocks at hx
  rcases List.mem_append.1 hx with hx | hx
  · by_cases h0 : A.x.d.length = 0
    · rw [if_pos h0] at hx; cases hx
    · rw [if_neg h0] at hx
      refine .inl ⟨fun e => h0 (by rw [e]; rfl), ?_⟩
      cases ha : A.a with
      | none => rw [ha] at hx; simp at hx
      | some ad => rw [ha] at hx; simp at hx; exact ⟨ad, rfl, hx⟩
  · by_cases h0 : A.x.b.length = 0
    · rw [if_pos h0] at hx; cases hx
    · rw [if_neg h0] at hx
      refine .inr ⟨fun e => h0 (by rw [e]; rfl), ?_⟩
      cases ha : A.a2 with
      | none => rw [ha] at hx; simp at hx
      | some ad => rw [ha] at hx; simp at hx; exact ⟨ad, rfl, hx⟩
theorem NewC.new {w w' : World} {A : CeT} (h : NewC w w' A) : ∀ x ∈ A.blocks, w.heap.size ≤ x ∧ x < w'.heap.size := by
  intro x hx
  rcases CeT.blocks_of hx with ⟨h0, ad, ha, rfl⟩ | ⟨h0, ad, ha, rfl⟩
  · obtain ⟨g, off, e, hg, _⟩ := h.d.at_ (by intro e; have := congrArg List.length e; simp at this; exact h0 this)
    rw [ha] at e
    injection e with e
    subst e
    exact ⟨h.da _ ha, hg⟩
  · obtain ⟨g, off, e, hg, _⟩ := h.b.at_ (by intro e; have := congrArg List.length e; simp at this; exact h0 (List.eq_nil_of_length_eq_zero (by omega)))
    rw [ha] at e
    injection e with e
    subst e
    exact ⟨h.ba _ ha, hg⟩
theorem bclone_any (bs : List UInt8) (n : Nat) (a : Option Addr) (c B : Nat) (w : World) (hn : bs.length = n) (h : Ro w B a (u8s bs)) (hB : B ≤ w.heap.size) (hl : n ≤ 1000000) :
    Calls Tryz.prog 126 #[.slice a n c] w (ClP w bs n) := by
  cases a with
  | some ad => exact clone_any bs n (some ad) c B w hn h hB (fun e => nomatch e) hl
  | none =>
    have h0 : bs = [] := by
      rcases h with h | ⟨b, off, h, _⟩
      · have := congrArg List.length h; simp at this; exact this
      · cases h
    subst h0
    subst hn
    have hnil := fun W => eql_nil none 0 c W
    simp only [Option.isNone_none] at hnil
    go_enter Tryz.func126, Tryz.ntmps126
    go_wp2
    go_ret
    unfold ClP
    exact ⟨none, 0, rfl, Ro.nil _ _ _, (fun ad h => nomatch h), Below.refl _ _⟩
theorem infoBk : (Tryz.prog.info? 143).map (fun i => (i.zero, i.size, i.bytes)) = some (some (.agg #[.int .i64 0, .int .u64 0, .int .u64 0]), 3, 24) := by kernel_rfl
theorem sizeOfBk (w : World) : (Go.sizeOf 143).run Tryz.prog w = .ok 3 w := by
  obtain ⟨i, hi, hzz⟩ := Option.map_eq_some_iff.1 infoBk
  simp only [Prod.mk.injEq] at hzz
  simp [sizeOf, typeInfo, hi, hzz.2.1]
theorem kclone_empty (w : World) (a : Addr) (c : Nat) :
    Calls Tryz.prog 127 #[.slice (some a) 0 c] w fun e w' => ∃ a' c', e = .returned (.slice a' (0 : Nat) c') ∧ Ro w' w'.heap.size a' (bcs []) ∧ (∀ ad, a' = some ad → w.heap.size ≤ ad.block) ∧ Below w.heap.size w w' := by
  have q22 : ∀ (w : World) (a : Option Addr) (n c n' c' : Nat), (binOp .eql 40 (.slice a n c) (.slice none n' c')).run Tryz.prog w = .ok (.bool a.isNone) w := fun w a n c n' c' => Lib.run_eql_slice_nil w _ _ a n c n' c' Tryz.underlying40
  have hrun : ∀ (ty : TypeId) (W : World), (Builtin.append_ #[40, 40] ty #[.slice (some ⟨W.heap.size, 0, none⟩) 0 0, .slice (some a) 0 c]).run Tryz.prog (W.alloc (.cells #[] 143)) = .ok (.slice (some ⟨W.heap.size, 0, none⟩) 0 0) (W.alloc (.cells #[] 143)) := by
    intro ty W
    obtain ⟨i0, hi0, hzz⟩ := Option.map_eq_some_iff.1 infoBk
    have hl : ∀ (x : Addr) W, (loadCells x 0).run Tryz.prog W = .ok #[] W := fun x W => by simpa using run_loadCells_list (P := Tryz.prog) W x [] (by simp)
    simp [Builtin.append_, run_underlying Tryz.underlying40, sizeOf, typeInfo, hi0, Builtin.lenOf, Builtin.firstCells, storeCells, hl]
  go_enter Tryz.func127, Tryz.ntmps127
  go_wp2_with (at_builtin; refine Lib.wpList_append_run _ rfl _ _ _ _ rfl _ _ rfl rfl _ _ (hrun _ _) ?_)
  go_ret
  exact ⟨some ⟨w.heap.size, 0, none⟩, 0, rfl, Ro.nil _ _ _, (fun ad e => by cases e; exact Nat.le_refl _), (Below.refl _ _).alloc (Nat.le_refl _) _⟩
theorem kclone_any (w : World) (a : Option Addr) (c B : Nat) (L : List Bk) (hro : Ro w B a (bcs L)) (hl : L.length ≤ 1000000) :
    Calls Tryz.prog 127 #[.slice a L.length c] w fun e w' => ∃ a' c', e = .returned (.slice a' L.length c') ∧ Ro w' w'.heap.size a' (bcs L) ∧ (∀ ad, a' = some ad → w.heap.size ≤ ad.block) ∧ Below w.heap.size w w' := by
  rcases a with _ | ⟨b, off, spot⟩
  · have h0 : L.length = 0 := by
      rcases hro with h | ⟨b, off, h, _⟩
      · have := congrArg List.length h; simp at this; omega
      · cases h
    obtain rfl : L = [] := List.eq_nil_of_length_eq_zero h0
    refine (AnyE.slices_Clone_nil cloneK 0 c w).mono fun e w' ⟨he, hw⟩ => ⟨none, 0, he, Ro.nil _ _ _, (fun ad h => nomatch h), by rw [hw]; exact Below.refl _ _⟩
  · obtain ⟨i0, hi0, hzz⟩ := Option.map_eq_some_iff.1 infoBk
    simp only [Prod.mk.injEq] at hzz
    obtain ⟨hz0, hzs, hzb⟩ := hzz
    rcases Nat.eq_zero_or_pos L.length with h0 | h0
    · obtain rfl : L = [] := List.eq_nil_of_length_eq_zero h0
      exact kclone_empty w _ c
    · obtain ⟨b', off', e, hb, hc⟩ := hro.at_ (by intro e; have e2 := congrArg List.length e; simp at e2; omega)
      cases e
      have := AnyE.slices_Clone cloneK i0 (.agg #[.int .i64 0, .int .u64 0, .int .u64 0]) 3 24 hi0 hz0 hzs hzb rfl (by omega) sizeOfBk b off L.length c (bcs L) w (by simp) (by unfold maxLen; omega) (by omega) (fun j u hu => by
        have hj := (List.getElem?_eq_some_iff.1 hu).1
        rw [hc j hj]
        simp [List.getD, hu]) (bcs_one L)
      refine Calls.mono (R' := _) this fun e w' ⟨v, he, hr, _, hb⟩ => ?_
      rcases hr.2 with ⟨rfl, hz⟩ | ⟨g, cap, cur, rfl, hg1, hg2, hg3, hg4, hg5, hg6⟩
      · omega
      · refine ⟨some ⟨g, 0, none⟩, cap, he, ?_, (fun ad e => by cases e; exact hg1), hb⟩
        refine .inr ⟨g, 0, rfl, (Array.getElem?_eq_some_iff.1 hg2).1, fun i hi => ?_⟩
        rw [Nat.zero_add, cell_of_row w' g i cur _ (0, 0) hg2]
        have h9 : cur.toList[i]? = (bcs L)[i]? := by
          rw [← hg6, List.getElem?_take, if_pos (by rw [bcs_length] at hi; exact hi)]
        have h10 : cur[i]? = (bcs L)[i]? := by rw [← h9]; simp
        rw [h10, List.getD_eq_getElem?_getD, List.getElem?_eq_getElem hi]
        rfl
end Go.Proofs.YtmpajlpemabniaaGreat
namespace Go.Proofs.YtmpajlpemabniaaGreat
open Go.RowKit Go.Maps Go.Shelf Go.Deep
set_option linter.unusedVariables false
set_option linter.unusedSimpArgs false

theorem pwidths_any (k : Nat) (h1 : 1 ≤ k) (h5 : k ≤ 5) (w : World) : Calls Tryz.prog 88 #[.int .u64 (k : Int)] w fun e w' => e = .returned (.slice (some ⟨w.heap.size, 0, none⟩) 3 3) ∧ w' = w.alloc (.cells (i64s (wid3 k)).toArray 3) := by
  have hk : k = 1 ∨ k = 2 ∨ k = 3 ∨ k = 4 ∨ k = 5 := by omega
  rcases hk with rfl | rfl | rfl | rfl | rfl <;>
  · go_enter Tryz.func88, Tryz.ntmps88
    go_wp2_with fail
    go_ret
    exact ⟨rfl, rfl⟩
def CpS (w : World) (b1 b2 : Nat) (k : Int) (a : Option Addr) (n c : Nat) (a2 : Option Addr) (m c2 : Nat) (W : World) : Prop :=
  W.cell? ⟨b1, 0, none⟩ = some (.int .i64 k) ∧ W.cell? ⟨b1, 1, none⟩ = some (.slice a n c) ∧ W.cell? ⟨b1, 2, none⟩ = some (.slice a2 m c2) ∧ Chg [] w W ∧
  ∃ r : List Value, r.length = 3 ∧ Own W b2 42 r
theorem CpS.step {w W W' : World} {b1 b2 : Nat} {k : Int} {a : Option Addr} {n c : Nat} {a2 : Option Addr} {m c2 : Nat} (h : CpS w b1 b2 k a n c a2 m c2 W) (hc : Chg [] W W') : CpS w b1 b2 k a n c a2 m c2 W' := by
  obtain ⟨h1, h2, h3, h4, r, h5, h6⟩ := h
  exact ⟨hc.cell h1 (by simp), hc.cell h2 (by simp), hc.cell h3 (by simp), h4.trans hc, r, h5, h6.chg hc (by simp)⟩
theorem cpS_end {w W : World} {b1 b2 : Nat} {k : Int} {a : Option Addr} {n c : Nat} {a2 : Option Addr} {m c2 : Nat} {r1 r2 r3 : Value} (g1 : W.cell? ⟨b1, 0, none⟩ = some (.int .i64 k)) (g2 : W.cell? ⟨b1, 1, none⟩ = some (.slice a n c)) (g3 : W.cell? ⟨b1, 2, none⟩ = some (.slice a2 m c2)) (g4 : Chg [] w W)
    (g6 : Own W b2 42 [r1, r2, r3]) (hb : w.heap.size = b1) (hb2 : b1 ≤ b2 ∧ b1 ≠ b2) (k' : Int) (a5 : Option Addr) (n5 c5 : Nat) (a6 : Option Addr) (m6 c6 : Nat) :
    CpS w b1 b2 k a n c a2 m c2 (((W.setCell ⟨b2, 0, none⟩ (.int .i64 k')).setCell ⟨b2, 1, none⟩ (.slice a5 n5 c5)).setCell ⟨b2, 2, none⟩ (.slice a6 m6 c6)) := by
  have hc : Chg [b2] W (((W.setCell ⟨b2, 0, none⟩ (.int .i64 k')).setCell ⟨b2, 1, none⟩ (.slice a5 n5 c5)).setCell ⟨b2, 2, none⟩ (.slice a6 m6 c6)) :=
    (((Chg.refl [b2] W).setCell (.inl (by simp)) _).setCell (.inl (by simp)) _).setCell (.inl (by simp)) _
  have hn : b1 ∉ [b2] := by simpa using hb2.2
  refine ⟨hc.cell g1 hn, hc.cell g2 hn, hc.cell g3 hn, g4.then hc (fun x hx => .inr (by simp at hx; omega)), _, ?_, ((g6.set 0 _).set 1 _).set 2 _⟩
  rfl
set_option maxHeartbeats 1000000 in
theorem copyOf_any (A : CeT) (C : List Nat) (w : World) (h : CellV w C A) (hd : A.x.d.length ≤ 1000000) (hb : A.x.b.length ≤ 1000000) :
    Calls Tryz.prog 70 #[A.val] w fun e w' => ∃ A' : CeT, e = .returned A'.val ∧ A'.x = A.x ∧ Hid (NewC w w' A') ∧ Chg [] w w' := by
  obtain ⟨⟨k, d, b⟩, a, c, a2, c2⟩ := A
  unfold CeT.val
  obtain ⟨h1, h2, _, _⟩ := h
  simp only at h1 h2 hd hb ⊢
  obtain ⟨n, hn⟩ : ∃ n, Hid (d.length = n) := ⟨_, Lib.hid rfl⟩
  obtain ⟨m, hm⟩ : ∃ n, Hid (b.length = n) := ⟨_, Lib.hid rfl⟩
  have HR := Lib.hid (And.intro h1 h2)
  have H1 := Lib.hid (fun W (hW : Chg [] w W) => bclone_any d n a c w.heap.size W hn.out (h1.below hW.low (Nat.le_refl _)) hW.size (by rw [← hn.out]; exact hd))
  have H2 := Lib.hid (fun W (hW : Chg [] w W) => kclone_any W a2 c2 w.heap.size b (h2.below hW.low (Nat.le_refl _)) hb)
  rw [hm.out] at H2
  rw [hn.out, hm.out]
  clear h1 h2 hd hb
  go_enter Tryz.func70, Tryz.ntmps70
  go_wp2_with fail
  obtain ⟨w1, HW1⟩ : ∃ W, Hid ((w.alloc (.cells #[.int .i64 k, .slice a n c, .slice a2 m c2] 42)).alloc (.cells #[.int .i64 0, .slice none 0 0, .slice none 0 0] 42) = W) := ⟨_, Lib.hid rfl⟩
  have hC1 : Chg [] w w1 := by rw [← HW1.out]; exact ((Chg.refl [] w).alloc _).alloc _
  have ho1 : Own w1 w.heap.size 42 [.int .i64 k, .slice a n c, .slice a2 m c2] := by rw [← HW1.out]; exact (Own.new w _ _).alloc _
  have ho2 : Own w1 (w.heap.size + 1) 42 [.int .i64 0, .slice none 0 0, .slice none 0 0] := by
    rw [← HW1.out]
    have h9 := Own.new (w.alloc (.cells #[.int .i64 k, .slice a n c, .slice a2 m c2] 42)) 42 [.int .i64 0, .slice none 0 0, .slice none 0 0]
    rw [World.size_alloc] at h9
    exact h9
  have HS0 : Hid (CpS w w.heap.size (w.heap.size + 1) k a n c a2 m c2 w1) := Lib.hid ⟨by rw [ho1.cell]; rfl, by rw [ho1.cell]; rfl, by rw [ho1.cell]; rfl, hC1, _, rfl, ho2⟩
  have HB2 : Hid (w.heap.size ≤ w.heap.size + 1 ∧ w.heap.size ≠ w.heap.size + 1) := Lib.hid (by omega)
  rw [HW1.out]
  clear hC1 ho1 ho2
  generalize hb2 : w.heap.size + 1 = b2 at HS0 HB2 ⊢
  clear hb2
  generalize hb1 : w.heap.size = b1 at HS0 HB2 ⊢
  refine wp_region_held_drew (S := (fun W : World => W.cell? ⟨b1, 0, none⟩ = some (.int .i64 k) ∧ W.cell? ⟨b1, 1, none⟩ = some (.slice a n c) ∧ W.cell? ⟨b1, 2, none⟩ = some (.slice a2 m c2) ∧ Chg [] w W ∧ ∃ r : List Value, r.length = 3 ∧ Own W b2 42 r)) (by kernel_rfl) (by have h9 := HS0.out.step (Chg.refl [] w1).drew; exact h9) (fun hHeld => ?_)
  have HB1 := Lib.hid hb1
  clear hb1
  refine wpAnyH_take (i := 0) (v := ?_) rfl (by kernel_rfl) (by kernel_rfl) (by kernel_rfl) (fun _ _ _ h => h) (Or.inl ⟨by kernel_rfl, ?_⟩) hHeld ?_
  rotate_left
  · (intro w hSw; first | (go_simp; done) | (go_simp; with_reducible rfl))
  (try simp only [Act.put, List.getElem_toArray, List.getElem_cons_succ, List.getElem_cons_zero, List.setIfInBounds_toArray, List.set_cons_zero, List.set_cons_succ])
  refine wpAnyH_take (i := 1) (v := ?_) rfl (by kernel_rfl) (by kernel_rfl) (by kernel_rfl) (fun _ _ _ h => h) (Or.inl ⟨by kernel_rfl, ?_⟩) hHeld ?_
  rotate_left
  · (intro w hSw; first | (go_simp; done) | (go_simp; with_reducible rfl))
  (try simp only [Act.put, List.getElem_toArray, List.getElem_cons_succ, List.getElem_cons_zero, List.setIfInBounds_toArray, List.set_cons_zero, List.set_cons_succ])
  refine wpAnyH_take (i := 2) (v := ?_) rfl (by kernel_rfl) (by kernel_rfl) (by kernel_rfl) (fun _ _ _ h => h) (Or.inl ⟨by kernel_rfl, ?_⟩) hHeld ?_
  rotate_left
  · (intro w hSw; first | (go_simp; done) | (go_simp; with_reducible rfl))
  (try simp only [Act.put, List.getElem_toArray, List.getElem_cons_succ, List.getElem_cons_zero, List.setIfInBounds_toArray, List.set_cons_zero, List.set_cons_succ])
  refine wpAnyH_take (i := 3) (v := ?_) rfl (by kernel_rfl) (by kernel_rfl) (by kernel_rfl) (fun _ _ _ h => h) (Or.inl ⟨by kernel_rfl, ?_⟩) hHeld ?_
  rotate_left
  · (intro w hSw; first | (go_simp; done) | (go_simp; with_reducible rfl))
  (try simp only [Act.put, List.getElem_toArray, List.getElem_cons_succ, List.getElem_cons_zero, List.setIfInBounds_toArray, List.set_cons_zero, List.set_cons_succ])
  refine wpAnyH_take (i := 5) (v := ?_) rfl (by kernel_rfl) (by kernel_rfl) (by kernel_rfl) (fun _ _ _ h => h) (Or.inl ⟨by kernel_rfl, ?_⟩) hHeld ?_
  rotate_left
  · (intro w hSw; first | (go_simp; done) | (go_simp; with_reducible rfl))
  (try simp only [Act.put, List.getElem_toArray, List.getElem_cons_succ, List.getElem_cons_zero, List.setIfInBounds_toArray, List.set_cons_zero, List.set_cons_succ])
  refine wpAnyH_take (i := 6) (v := ?_) rfl (by kernel_rfl) (by kernel_rfl) (by kernel_rfl) (fun _ _ _ h => h) (Or.inl ⟨by kernel_rfl, ?_⟩) hHeld ?_
  rotate_left
  · (intro w hSw; first | (go_simp; done) | (go_simp; with_reducible rfl))
  (try simp only [Act.put, List.getElem_toArray, List.getElem_cons_succ, List.getElem_cons_zero, List.setIfInBounds_toArray, List.set_cons_zero, List.set_cons_succ])
  refine wpAnyH_ready (rs := [4]) (by kernel_rfl) (by simp) (AllReadyH.cons rfl (fun K hK => ?_) AllReadyH.nil)
  have hH := hHeld
  (go_simp; go_at_call 126; refine (H1.out _ hH.2.2.2.1).mono ?_; rintro e w5 ⟨a5, c5, rfl, hr5, hn5, hb5⟩)
  refine hK.out _ _ (by exact CpS.step hH (low_chg hb5)) (fun hHq1 => ?_)
  clear hK K hH 
  (try simp only [Act.put, List.getElem_toArray, List.getElem_cons_succ, List.getElem_cons_zero, List.setIfInBounds_toArray, List.set_cons_zero, List.set_cons_succ])
  refine wpAnyH_ready (rs := [7]) (by kernel_rfl) (by simp) (AllReadyH.cons rfl (fun K hK => ?_) AllReadyH.nil)
  have hH := hHq1
  (go_simp; go_at_call 127; refine (H2.out _ hH.2.2.2.1).mono ?_; rintro e w6 ⟨a6, c6, rfl, hr6, hn6, hb6⟩)
  refine hK.out _ _ (by exact CpS.step hH (low_chg hb6)) (fun hHq2 => ?_)
  clear hK K hH hHq1
  (try simp only [Act.put, List.getElem_toArray, List.getElem_cons_succ, List.getElem_cons_zero, List.setIfInBounds_toArray, List.set_cons_zero, List.set_cons_succ])
  refine wpAnyH_take (i := 8) (v := ?_) rfl (by kernel_rfl) (by kernel_rfl) (by kernel_rfl) (fun _ _ _ h => h) (Or.inl ⟨by kernel_rfl, ?_⟩) hHq2 ?_
  rotate_left
  · (intro w hSw; first | (go_simp; done) | (go_simp; with_reducible rfl))
  (try simp only [Act.put, List.getElem_toArray, List.getElem_cons_succ, List.getElem_cons_zero, List.setIfInBounds_toArray, List.set_cons_zero, List.set_cons_succ])
  refine wpAnyH_ready (rs := [9]) (by kernel_rfl) (by simp) (AllReadyH.cons rfl (fun K hK => ?_) AllReadyH.nil)
  have hH := hHq2
  (go_simp; have hHc := hH; obtain ⟨g1, g2, g3, g4, r, g5, g6⟩ := hHc; obtain ⟨r1, r2, r3, rfl⟩ : ∃ x y z, r = [x, y, z] := by { rcases r with _ | ⟨x, _ | ⟨y, _ | ⟨z, _ | ⟨_, _⟩⟩⟩⟩ <;> simp at g5; exact ⟨_, _, _, rfl⟩ }; have q0 := g6.cell 0; have q1 := g6.cell 1; have q2 := g6.cell 2; have f0 := g6.frozen 0; have f1 := g6.frozen 1; have f2 := g6.frozen 2; simp only [List.getElem?_cons_zero, List.getElem?_cons_succ] at q0 q1 q2; go_simp)
  refine hK.out _ _ (by exact (cpS_end g1 g2 g3 g4 g6 HB1.out HB2.out k a5 n c5 a6 m c6)) (fun hHq3 => ?_)
  clear hK K hH hHq2
  (try simp only [Act.put, List.getElem_toArray, List.getElem_cons_succ, List.getElem_cons_zero, List.setIfInBounds_toArray, List.set_cons_zero, List.set_cons_succ])
  refine wpAnyH_done (by kernel_rfl) ?_ _
  have hEnd := hHq3
  have hE2 := ((g6.set 0 (.int .i64 k)).set 1 (.slice a5 n c5)).set 2 (.slice a6 m c6)
  simp only [List.set_cons_zero, List.set_cons_succ] at hE2
  have hb2s : b2 < w1.heap.size := by obtain ⟨_, _, _, _, _, _, h9⟩ := HS0.out; exact h9.lt
  have hCe : Chg [b2] w6 (((w6.setCell ⟨b2, 0, none⟩ (.int .i64 k)).setCell ⟨b2, 1, none⟩ (.slice a5 n c5)).setCell ⟨b2, 2, none⟩ (.slice a6 m c6)) :=
    (((Chg.refl [b2] w6).setCell (.inl (by simp)) _).setCell (.inl (by simp)) _).setCell (.inl (by simp)) _
  have hs1 : w1.heap.size ≤ w5.heap.size := hb5.size
  have hNC : Hid (NewC w (((w6.setCell ⟨b2, 0, none⟩ (.int .i64 k)).setCell ⟨b2, 1, none⟩ (.slice a5 n c5)).setCell ⟨b2, 2, none⟩ (.slice a6 m c6)) ⟨⟨k, d, b⟩, a5, c5, a6, c6⟩) := by
    refine Lib.hid ⟨(hr5.chg2 (low_chg hb6) (fun _ _ => by simp)).chg2 hCe (fun ad e => ?_), hr6.chg2 hCe (fun ad e => ?_), fun ad e => ?_, fun ad e => ?_⟩
    · have h9 : w1.heap.size ≤ ad.block := hn5 ad e
      simp; omega
    · have h9 : w5.heap.size ≤ ad.block := hn6 ad e
      simp; omega
    · have h9 : w1.heap.size ≤ ad.block := hn5 ad e
      have h8 := HS0.out.2.2.2.1.size
      exact Nat.le_trans h8 h9
    · have h9 : w5.heap.size ≤ ad.block := hn6 ad e
      have h8 := HS0.out.2.2.2.1.size
      show w.heap.size ≤ ad.block
      omega
  have hC6 := Lib.hid hEnd.2.2.2.1
  clear hHq3 hEnd hCe g1 g2 g3 g4 g6 f0 f1 f2 hr5 hr6 hn5 hn6 hb5 hb6 hHeld HS0
  generalize (((w6.setCell ⟨b2, 0, none⟩ (.int .i64 k)).setCell ⟨b2, 1, none⟩ (.slice a5 n c5)).setCell ⟨b2, 2, none⟩ (.slice a6 m c6)) = W7 at *
  go_wp2_with fail
  refine bodyPost_ret (results_cell_row Tryz.results70 _ _ b2 42 _ (0, 0) _ rfl hE2 Tryz.underlying42 rfl (by kernel_rfl)) rfl ?_
  exact ⟨⟨⟨k, d, b⟩, a5, c5, a6, c6⟩, by simp only [CeT.val]; rw [hn.out, hm.out], rfl, hNC, hC6.out⟩
end Go.Proofs.YtmpajlpemabniaaGreat
namespace Go.Proofs.YtmpajlpemabniaaGreat
open Go.RowKit Go.Maps Go.Shelf Go.Deep
set_option linter.unusedVariables false
set_option linter.unusedSimpArgs false

def CelV (w : World) (C : List Nat) (m : Nat → Option Ce) (V : Nat → Option Value) : Prop :=
  ∀ a, (m a = none ∧ V a = none) ∨ ∃ A : CeT, m a = some A.x ∧ V a = some A.val ∧ CellV w C A
structure Sta (w : World) (q p : Nat) (v : Value) (b : Nat) (C : List Nat) (S : PS) : Prop where
  own : Own w q 138 [.int .u64 (S.ep : Int), .int .u64 (S.op : Int), .int .u64 (S.mr : Int), .pointer (some ⟨p, 0, none⟩), .map (some b)]
  set : St w p v S.T
  map : ∃ V, MapV w b V ∧ CelV w C S.m V
  gd : Gd S
  ap : ∀ x ∈ C, x < w.heap.size ∧ x ∉ q :: p :: b :: rowOf v
theorem CelV.chg {l : List Nat} {w w' : World} {C : List Nat} {m : Nat → Option Ce} {V : Nat → Option Value} (h : CelV w C m V) (hc : Chg l w w') (hl : ∀ x ∈ C, x ∉ l) : CelV w' C m V := fun a => by
  rcases h a with h1 | ⟨A, h1, h2, h3⟩
  · exact .inl h1
  · exact .inr ⟨A, h1, h2, h3.chg hc hl⟩
theorem CelV.isS {w : World} {C : List Nat} {m : Nat → Option Ce} {V : Nat → Option Value} (h : CelV w C m V) {a : Nat} : (V a).isSome = (m a).isSome := by
  rcases h a with ⟨h1, h2⟩ | ⟨A, h1, h2, h3⟩ <;> rw [h1, h2] <;> rfl
theorem CelV.vals {w : World} {C : List Nat} {m : Nat → Option Ce} {V : Nat → Option Value} (h : CelV w C m V) : ∀ a v, V a = Option.some v → ∃ A : CeT, v = A.val := fun a v hv => by
  rcases h a with ⟨h1, h2⟩ | ⟨A, h1, h2, h3⟩
  · rw [h2] at hv; cases hv
  · rw [h2] at hv; cases hv; exact ⟨A, rfl⟩
theorem Sta.chg {l : List Nat} {w w' : World} {q p : Nat} {v : Value} {b : Nat} {C : List Nat} {S : PS} (h : Sta w q p v b C S) (hc : Chg l w w') (hl : ∀ x ∈ q :: p :: b :: rowOf v, x ∉ l) (hC : ∀ x ∈ C, x ∉ l) : Sta w' q p v b C S := by
  obtain ⟨V, hV, hV2⟩ := h.map
  exact ⟨h.own.chg hc (hl q (by simp)), h.set.chg hc (hl p (by simp)) (fun g hg => hl g (by simp [mem_rowOf, hg])), ⟨V, hV.chg hc (hl b (by simp)), hV2.chg hc hC⟩, h.gd, fun x hx => ⟨Nat.lt_of_lt_of_le (h.ap x hx).1 hc.size, (h.ap x hx).2⟩⟩
theorem Sta.kept {w w' : World} {q p : Nat} {v : Value} {b : Nat} {C : List Nat} {S : PS} (h : Sta w q p v b C S) (hc : Chg [] w w') : Sta w' q p v b C S := h.chg hc (by simp) (by simp)
theorem Sta.qp {w : World} {q p : Nat} {v : Value} {b : Nat} {C : List Nat} {S : PS} (h : Sta w q p v b C S) : q ≠ p := by
  intro e; have h1 := h.own; have h2 := h.set.own; subst e; unfold Own at h1 h2; rw [h1] at h2; simp at h2
theorem MapV.neOwn {w : World} {b : Nat} {V : Nat → Option Value} {g : Nat} {t : TypeId} {cs : List Value} (h : MapV w b V) (ho : Own w g t cs) : g ≠ b := by
  intro e; subst e
  obtain ⟨D, ⟨es, clock, h1, _⟩, _⟩ := h.own
  unfold Own at ho; rw [ho] at h1; simp at h1
theorem Sta.cells {w : World} {q p : Nat} {v : Value} {b : Nat} {C : List Nat} {S : PS} (h : Sta w q p v b C S) :
    w.cell? ⟨q, 0, none⟩ = some (.int .u64 (S.ep : Int)) ∧ w.cell? ⟨q, 1, none⟩ = some (.int .u64 (S.op : Int)) ∧ w.cell? ⟨q, 2, none⟩ = some (.int .u64 (S.mr : Int)) ∧ w.cell? ⟨q, 3, none⟩ = some (.pointer (some ⟨p, 0, none⟩)) ∧ w.cell? ⟨q, 4, none⟩ = some (.map (some b)) := by
  have := h.own
  refine ⟨?_, ?_, ?_, ?_, ?_⟩ <;> rw [this.cell] <;> rfl
theorem Sta.fit {w : World} {q p : Nat} {v : Value} {b : Nat} {C : List Nat} {S : PS} (h : Sta w q p v b C S) : ∀ r ∈ S.T, r.2 ≤ top64 := fun r hr => by have := h.gd.hi r hr; unfold top64; omega
theorem Sta.setV {w : World} {q p : Nat} {v : Value} {b : Nat} {C : List Nat} {S : PS} (h : Sta w q p v b C S) : SetV w (.pointer (some ⟨p, 0, none⟩)) (p :: rowOf v) S.T :=
  .inr ⟨p, v, rfl, h.set, by simp, fun g hg => by simp [mem_rowOf, hg]⟩
theorem St.rowlt {w : World} {p : Nat} {v : Value} {L : List Rn} (h : St w p v L) : ∀ k ∈ p :: rowOf v, k < w.heap.size := fun k hk => by
  rcases List.mem_cons.1 hk with rfl | hk
  · exact h.own.lt
  · exact (h.row.lt k (by simpa [mem_rowOf] using hk)).2
theorem newState_any (w : World) : Calls Tryz.prog 38 #[] w fun e w' => ∃ q p v b, e = .returned (.pointer (some ⟨q, 0, none⟩)) ∧ Sta w' q p v b [] PS.zero ∧ (∀ x ∈ q :: p :: b :: rowOf v, w.heap.size ≤ x) ∧ Chg [] w w' := by
  have hmm := @run_makeMap Tryz.prog
  go_enter Tryz.func38, Tryz.ntmps38
  go_wp2_with (go_at_call 82; refine (New_any _).mono ?_; rintro e w1 ⟨rfl, rfl⟩)
  go_ret
  obtain ⟨w1, HW1⟩ : ∃ W, w.alloc (.cells #[.slice none 0 0] 199) = W := ⟨_, rfl⟩
  have hN := new_st w
  have hC1 : Chg [] w w1 := by rw [← HW1]; exact (Chg.refl [] w).alloc _
  have hs1 : w1.heap.size = w.heap.size + 1 := by rw [← HW1]; simp
  rw [HW1] at hN ⊢
  have hm := MapV.made w1
  have hC2 : Chg [] w1 (w1.alloc (.map #[] 0)) := (Chg.refl [] w1).alloc _
  have hs2 : (w1.alloc (.map #[] 0)).heap.size = w.heap.size + 2 := by rw [World.size_alloc, hs1]
  have hC3 := fun o => (Chg.refl [] (w1.alloc (.map #[] 0))).alloc o
  refine ⟨w.heap.size + 2, w.heap.size, .slice none 0 0, w.heap.size + 1, ?_, ⟨?_, (hN.st.kept hC2).kept (hC3 _), ⟨fun _ => none, ?_, fun a => .inl ⟨rfl, rfl⟩⟩, Gd.zero, by simp⟩, by simp [rowOf, Value.ownBlock], (hC1.trans hC2).trans (hC3 _)⟩
  · rfl
  · have := Own.new (w1.alloc (.map #[] 0)) 138 [.int .u64 0, .int .u64 0, .int .u64 0, .pointer (some ⟨w.heap.size, 0, none⟩), .map (some (w.heap.size + 1))]
    rw [hs2] at this
    exact this
  · rw [hs1] at hm
    exact hm.kept (hC3 _)
theorem isTrimmed_any (w : World) {q p : Nat} {v : Value} {b : Nat} {C : List Nat} {S : PS} (h : Sta w q p v b C S) (a : Nat) (ha : a < 18446744073709551616) :
    Calls Tryz.prog 67 #[.pointer (some ⟨q, 0, none⟩), .int .u64 (a : Int)] w fun e w' => e = .returned (.bool (S.tr a)) ∧ Chg [] w w' := by
  obtain ⟨h0, h1, h2, h3, h4⟩ := h.cells
  have HH := Lib.hid (Has_any (some ⟨p, 0, none⟩) S.T a w (p :: rowOf v) h.setV h.set.rowlt ha h.gd.nf h.fit)
  clear h
  unfold PS.tr
  obtain ⟨mr, hmr⟩ : ∃ x, x = S.mr := ⟨_, rfl⟩
  rw [← hmr] at h2 ⊢
  clear hmr
  cases hd : decide (a < mr)
  · simp only [Bool.false_or]
    go_enter Tryz.func67, Tryz.ntmps67
    go_wp2_with (go_at_call 121; refine HH.out.mono ?_; rintro e w1 ⟨rfl, hb1⟩)
    go_ret
    exact ⟨rfl, low_chg hb1⟩
  · simp only [Bool.true_or]
    go_enter Tryz.func67, Tryz.ntmps67
    go_wp2_with fail
    go_ret
    exact ⟨rfl, Chg.refl [] w⟩
theorem isWritten_any (w : World) {q p : Nat} {v : Value} {b : Nat} {C : List Nat} {S : PS} (h : Sta w q p v b C S) (a : Nat) (ha : a < 18446744073709551616) :
    Calls Tryz.prog 68 #[.pointer (some ⟨q, 0, none⟩), .int .u64 (a : Int)] w fun e w' => e = .returned (.bool (S.m a).isSome) ∧ Chg [] w w' := by
  obtain ⟨h0, h1, h2, h3, h4⟩ := h.cells
  obtain ⟨V, hV, hV2⟩ := h.map
  have HL := hV.look (t := 136) (e := 42) Tryz.underlying136 (z := .agg #[.int .i64 0, .slice none 0 0, .slice none 0 0]) (by kernel_rfl) ha
  rw [hV2.isS] at HL
  obtain ⟨B, hB⟩ : ∃ x, x = (S.m a).isSome := ⟨_, rfl⟩
  rw [← hB] at HL ⊢
  clear hB
  obtain ⟨A, hA⟩ : ∃ A : CeT, (V a).getD (.agg #[.int .i64 0, .slice none 0 0, .slice none 0 0]) = A.val := by
    rcases hV2 a with ⟨e1, e2⟩ | ⟨A, e1, e2, _⟩
    · exact ⟨⟨⟨0, [], []⟩, none, 0, none, 0⟩, by rw [e2]; rfl⟩
    · exact ⟨A, by rw [e2]; rfl⟩
  rw [hA] at HL
  obtain ⟨⟨k, d, cb⟩, a1, c1, a2, c2⟩ := A
  unfold CeT.val at HL
  simp only at HL
  clear h hV hV2 hA
  go_enter Tryz.func68, Tryz.ntmps68
  go_wp2_with fail
  go_ret
  exact ⟨rfl, ((Chg.refl [] w).alloc _)⟩
end Go.Proofs.YtmpajlpemabniaaGreat
