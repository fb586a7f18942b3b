/-
  Contract of the live question that the statements of package tape ask. No claim of their own.
-/
import Derived.Test.YtdiemejdbakffaaGreatJ4
import Derived.Test.YtdiemejdbakffaaGreatArgs
import Derived.Deep.Grids
import Derived.Deep.Fields
import Derived.Lib.SmallJoins
namespace Go.Proofs.YtdiemejdbakffaaGreat
open Go.RowKit Go.Maps Go.Shelf Go.Deep
set_option linter.unusedVariables false
set_option linter.unusedSimpArgs false

theorem ro_marked (w : World) (bs : List UInt8) (t : TypeId) (fr : Nat × Nat) : Ro (w.alloc (.cells (u8s bs).toArray t fr)) (w.heap.size + 1) (some ⟨w.heap.size, 0, none⟩) (u8s bs) := by
  refine .inr ⟨w.heap.size, 0, rfl, by omega, fun i hi => ?_⟩
  rw [Nat.zero_add]
  refine (cell_of_row _ w.heap.size i (u8s bs).toArray t fr (World.alloc_heap_new w _)).trans ?_
  simp [List.getD, List.getElem?_eq_getElem hi]
theorem conv4 {w : World} {g : Nat} {S : Sec} (h : w.rangeAt g 0 (u8s S)) (l : List UInt8) (c : Nat) (hl : S.take l.length = l) :
    (convert 37 9 (.slice (some ⟨g, 0, none⟩) l.length c)).run Tryz.prog w = .ok (.string ⟨l.toArray⟩) w :=
  run_convert_bytes_back w _ _ _ _ _ l Tryz.underlying37 Tryz.underlying5 Tryz.underlying9 fun j hj => by
    have h1 : S[j]? = some l[j] := by
      have h2 : (S.take l.length)[j]? = some l[j] := by rw [hl]; exact List.getElem?_eq_getElem hj
      rwa [List.getElem?_take, if_pos hj] at h2
    have := h j (.int .u8 (l[j].toNat : Nat)) (by simp [u8s, h1])
    rw [add_off]
    exact this
def hi2 : Rec := [104, 105]
theorem new_ex (w : World) (n : Nat) (h1 : 1 ≤ n) (h2 : n ≤ 1024) :
    Calls Tryz.prog 5 #[.int .i64 n] w fun e w' => ∃ p g b, e = .returned (.tuple #[.pointer (some ⟨p, 0, none⟩), .int .i64 0]) ∧ w.heap.size ≤ p ∧ w.heap.size ≤ g ∧ w.heap.size ≤ b ∧ Dsk w' p g b n (fun _ => zsec) (fun _ => none) ∧ Chg [] w w' :=
  (new_ok w n h1 h2).mono fun e w' ⟨he, hd, hc⟩ => ⟨_, _, _, he, by omega, by omega, by omega, hd, hc⟩
theorem alive_app : appE 5 0 0 0 [] [] hi2 = 0 ∧ appL 5 0 0 0 [] [] hi2 = [hi2] := by decide
theorem alive_not : ¬ TS.idle ⟨fun _ => zsec, fun _ => none, 0, 0, [], [hi2], 0⟩ := by decide
theorem alive_sec (F : Nat → Sec) : ((now (now F (wfM 5 0 0 [] [hi2] fun _ => none)) (upd (fun _ => none) 0 (supS 0 1 4))) 1).take 5 = [0, 2, 104, 105, 0] := by
  have h1 : (now (now F (wfM 5 0 0 [] [hi2] fun _ => none)) (upd (fun _ => none) 0 (supS 0 1 4))) 1 = fillS ((frs [hi2]).drop 0) := by
    show ((upd (fun _ => none) 0 (supS 0 1 4)) 1).getD _ = _
    rw [show (upd (fun _ => none) 0 (supS 0 1 4)) 1 = none from rfl]
    show now F (wfM 5 0 0 [] [hi2] fun _ => none) 1 = _
    rw [now_wf, if_pos (by decide), show (1 - (1 + 0 * hsec 5)) * 64 = 0 from by decide]
  rw [h1]
  decide
theorem alive_room : roomN 5 0 0 [hi2] [hi2] = 124 := by decide
set_option maxHeartbeats 2000000 in
set_option maxRecDepth 100000 in
theorem alive_any (w : World) : Calls Tryz.prog 4 #[] w fun e w' => e = .returned (.bool true) ∧ Chg [] w w' := by
  have H0 := Lib.hid (new_ex w 5 (by omega) (by omega))
  have kc := fun (w : World) (C : Array Value) (n c : Nat) => Lib.run_convert_bytes_const (P := Tryz.prog) w 37 5 C n c Tryz.underlying37 Tryz.underlying5
  go_enter Tryz.func4, Tryz.ntmps4
  go_wp2_with fail
  refine H0.out.mono ?_
  rintro e w1 ⟨p, g, b, rfl, hp, hg, hb, hd1, hc1⟩
  have H1 := Lib.hid (open_at w1 hd1 (by omega) (h := 0) (L := []) (opens_zero 5))
  clear hd1
  go_wp2_with fail
  refine H1.out.mono ?_
  rintro e w2 ⟨q, l, rfl, ht2, hl2, hc2⟩
  have hc02 : Chg [] w w2 := hc1.trans hc2
  clear H0 H1
  go_wp2_with fail
  have hc01 : w.heap.size ≤ w1.heap.size := hc1.size
  have hC3 : Chg [] w2 (w2.alloc (.cells (u8s hi2).toArray 5 (2, 3))) := (Chg.refl [] w2).alloc _
  have h3 := append_TD (ht2.out.kept hC3) (some ⟨w2.heap.size, 0, none⟩) hi2 2 _ (ro_marked w2 hi2 5 (2, 3)) (by simp) (fun _ x hx hm => by
    injection hx with hx
    subst hx
    have := ht2.out.lt _ hm
    simp at this)
  rw [show appE 5 (calm (fun _ => zsec) (fun _ => none) 0 []).k (calm (fun _ => zsec) (fun _ => none) 0 []).h (calm (fun _ => zsec) (fun _ => none) 0 []).h' (calm (fun _ => zsec) (fun _ => none) 0 []).L (calm (fun _ => zsec) (fun _ => none) 0 []).L' hi2 = 0 from alive_app.1, show appS 5 (calm (fun _ => zsec) (fun _ => none) 0 []) hi2 = ⟨fun _ => zsec, fun _ => none, 0, 0, [], [hi2], 0⟩ from by unfold appS; rw [show appL 5 (calm (fun _ => zsec) (fun _ => none) 0 []).k (calm (fun _ => zsec) (fun _ => none) 0 []).h (calm (fun _ => zsec) (fun _ => none) 0 []).h' (calm (fun _ => zsec) (fun _ => none) 0 []).L (calm (fun _ => zsec) (fun _ => none) 0 []).L' hi2 = [hi2] from alive_app.2]; rfl] at h3
  have H3 := Lib.hid h3
  have HL := Lib.hid hl2.out
  have HC3 := Lib.hid (hc02.trans hC3)
  clear h3 hC3 ht2 hl2 hc2 hc1 kc
  refine H3.out.mono ?_
  rintro e w4 ⟨rfl, ht4⟩
  obtain ⟨l4, ht4, hl4, hc4⟩ := ht4.out
  have h5 := commit_TD ht4
  rw [commit_k0 alive_not rfl] at h5
  have H5 := Lib.hid h5
  have hw12 : w.heap.size ≤ w2.heap.size := hc02.size
  have hc04 : Chg [] w w4 := HC3.out.then hc4 (fun x hx => .inr (by have := HL.out x hx; have := hc01; omega))
  have hg4 : ∀ x ∈ l4 ++ [g, b], x ∈ [] ∨ w.heap.size ≤ x := fun x hx => by
    simp only [List.mem_append, List.mem_cons, List.mem_nil_iff, or_false] at hx
    rcases hx with hx | rfl | rfl
    · rcases hl4 x hx with h | h
      · exact .inr (by have := HL.out x h; have := hc01; omega)
      · exact .inr (by have := HC3.out.size; omega)
    · exact .inr hg
    · exact .inr hb
  have HG := Lib.hid hg4
  have HC4 := Lib.hid hc04
  clear h5 hc4 ht4 H3 hg4 hc04 HC3 HL hl4 hc02
  go_wp2_with fail
  refine H5.out.mono ?_
  rintro e w5 ⟨rfl, ht5, hc5⟩
  have h6 := read_ok w5 ht5.out.dsk 1 (by omega)
  have hl6 := ht5.out.dsk.lenN 1
  have hs6 : ((now (now (now (fun _ => zsec) (wfM 5 0 0 [] [hi2] fun _ => none)) (upd (fun _ => none) 0 (supS 0 1 4))) (fun _ => none)) 1).take 5 = [0, 2, 104, 105, 0] := alive_sec (fun _ => zsec)
  have h6 : Calls Tryz.prog 23 #[.pointer (some ⟨p, 0, none⟩), .int .i64 1] w5 fun e w' => ∃ S, e = .returned (.tuple #[sv S, .int .i64 0]) ∧ S.length = 64 ∧ Hid (S.take 5 = [0, 2, 104, 105, 0]) ∧ Chg [] w5 w' := h6.mono fun e w' h => ⟨_, h.1, hl6, Lib.hid hs6, h.2⟩
  clear hl6 hs6
  have H6 := Lib.hid h6
  have HC5 := Lib.hid (HC4.out.then hc5 HG.out)
  clear h6 H5 HG HC4 hc5
  have HT5 := ht5
  clear ht5
  go_wp2_with fail
  refine H6.out.mono ?_
  rintro e w6 ⟨S6, rfl, hS6, hS5, hc6⟩
  have HT6 := Lib.hid (HT5.out.kept hc6)
  have HC6 := Lib.hid (HC5.out.trans hc6)
  clear HT5 HC5 hc6 H6
  go_wp2_with (first
    | (refine wpList_alloc37 rfl rfl ?_)
    | (refine wpList_laid rfl _ _ rfl S6 rfl rfl rfl hS6 ?_; intro w7 hr7 hc7)
    | fail)
  have HT7 := Lib.hid (HT6.out.kept hc7)
  have HC7 := Lib.hid (HC6.out.trans hc7)
  have HR7 := Lib.hid hr7
  clear HT6 HC6 hr7 hc7
  have H8 := Lib.hid (read_TD HT7.out 0 (by decide))
  go_wp2_with (first
    | (go_at_call 19; refine H8.out.mono ?_; rintro e w8 ⟨v8, rfl, hv8, hc8⟩)
    | fail)
  have hv9 : Lst w8 w7.heap.size 5 v8 (u8s hi2) := hv8.out
  obtain ⟨a8, c8, hv10, hro8, _, _⟩ := hv9.form
  rw [u8s_length] at hv10
  replace hv10 : v8 = .slice a8 2 c8 := hv10
  subst hv10
  have hr8 := hc8.range HR7.out (by simp)
  have hcv1 : (convert 37 9 (.slice (some ⟨w6.heap.size, 0, none⟩) 5 64)).run Tryz.prog w8 = .ok (.string ⟨#[0, 2, 104, 105, 0]⟩) w8 := conv4 hr8 [0, 2, 104, 105, 0] 64 hS5.out
  have hcv2 : (convert 37 9 (.slice a8 2 c8)).run Tryz.prog w8 = .ok (.string ⟨#[104, 105]⟩) w8 := conv_ro (bs := hi2) hro8 rfl
  have hR := room_TD (HT7.out.kept hc8)
  rw [show roomN 5 0 0 [hi2] [hi2] = 124 from alive_room] at hR
  have HR := Lib.hid hR
  have HLn := Lib.hid (fun w' (hc : Chg [] w8 w') => len_TD ((HT7.out.kept hc8).kept hc))
  have HC8 := Lib.hid (HC7.out.trans hc8)
  clear hR hv9 hv8 hr8 HR7 HT7 HC7 hS5 hS6 hc8 H8 hro8
  go_simp
  go_wp2_with (first
    | (go_at_call 24; refine HR.out.mono ?_; rintro e w9 ⟨rfl, hc9⟩; have H9 := Lib.hid (HLn.out w9 hc9))
    | (go_at_call 20; refine H9.out.mono ?_; rintro e w10 ⟨rfl, hc10⟩)
    | fail)

  go_ret
  exact ⟨rfl, (HC8.out.trans hc9).trans hc10⟩
end Go.Proofs.YtdiemejdbakffaaGreat
namespace Go.Proofs.YtdiemejdbakffaaGreat
open Go.RowKit Go.ChangeShapes Go.WideShapes Go.Deep
set_option linter.unusedVariables false
set_option linter.unusedSimpArgs false

/-- a slice of slices of bytes that came in -/
structure RoM (w : World) (a : Option Addr) (xs : List SB) : Prop where
  row : Ro w w.heap.size a (xs.map SB.val)
  el : ∀ x ∈ xs, Ro w w.heap.size x.a (u8s x.bs)
  len : xs.length ≤ 9223372036854775807
  lens : ∀ x ∈ xs, x.bs.length ≤ 9223372036854775807
theorem RoM.rol {w : World} {a : Option Addr} {xs : List SB} (h : RoM w a xs) (hl : ∀ x ∈ xs, x.bs.length ≤ 140737488355328) : RoL w w.heap.size a xs := ⟨h.row, fun x hx => ⟨h.el x hx, hl x hx⟩⟩
theorem RoM.nil (w : World) (a : Option Addr) : RoM w a [] := ⟨Ro.nil _ _ _, by simp, by simp, by simp⟩
section
variable {H : Type} {enc : TypeId × Value → H} {w : World} {base : Nat} {held : Bool}
theorem row_u8 {n : Nat} {v : Value} {y : DataW H × List MemPlace} (h : DataW.trod enc Tryz.prog w base (fun _ => true) held n 37 [v] = some y) :
    ∃ (a : Option Addr) (bs : List UInt8) (c : Nat), v = .slice a bs.length c ∧ Ro w w.heap.size a (u8s bs) ∧ bs.length ≤ 9223372036854775807 := by
  have hrow : ∃ a l c zs, v = .slice a l c ∧ IsRow .u8 w a l c zs := by
    rcases open_ints Tryz.underlying37 Tryz.underlying5 (by kernel_rfl) h with ⟨hc, _⟩ | ⟨a, l, c, zs, hc, _, hl, hm, hz, _, hcell, hwz⟩
    · exact ⟨none, 0, 0, [], by simpa using hc, .inl ⟨rfl, rfl, rfl, rfl⟩⟩
    · exact ⟨some a, l, c, zs, by simpa using hc, .inr ⟨a, rfl, hl, hm, by simpa using hz, hcell, hwz⟩⟩
  obtain ⟨a, l, c, zs, rfl, hr⟩ := hrow
  obtain ⟨bs, h1, h2, h3, h4⟩ := hr.u8s
  have := hr.len_le
  exact ⟨a, bs, c, by rw [h1], h4, by omega⟩
theorem row_bl {n : Nat} {v : Value} {y : DataW H × List MemPlace} (h : DataW.trod enc Tryz.prog w base (fun _ => true) held n 39 [v] = some y) :
    ∃ (a : Option Addr) (ks : List Bool) (c : Nat), v = .slice a ks.length c ∧ Ro w w.heap.size a (bls ks) ∧ ks.length ≤ 9223372036854775807 := by
  rcases open_bools Tryz.underlying39 Tryz.underlying4 (by kernel_rfl) h with ⟨hc, _⟩ | ⟨a, l, c, B, hc, _, hl, hm, _, hcell⟩
  · exact ⟨none, [], 0, by simpa using hc, Ro.nil _ _ _, by simp⟩
  · refine ⟨some a, (List.range l).map B, c, by simpa using hc, ?_, by simp; unfold maxLen at hm; omega⟩
    rcases Nat.eq_zero_or_pos l with h0 | h0
    · subst h0; exact .inl (by simp [bls])
    · obtain ⟨b, off, spot⟩ := a
      have hc0 := hcell 0 (by omega)
      have hspot : spot = none := by simpa [Addr.add] using World.cell?_spot hc0
      subst hspot
      have hb := World.block_lt_of_cell? w _ hc0
      refine .inr ⟨b, off, rfl, by simpa [add_off] using hb, fun i hi => ?_⟩
      have hil : i < l := by simpa using hi
      have := hcell i (by omega)
      rw [add_off] at this
      rw [this]
      simp [bls, List.getD, hil]
theorem row_rows {n : Nat} {v : Value} {y : DataW H × List MemPlace} (h : DataW.trod enc Tryz.prog w base (fun _ => true) held n 38 [v] = some y) :
    ∃ (a : Option Addr) (xs : List SB) (c : Nat), v = .slice a xs.length c ∧ RoM w a xs := by
  rcases open_slice Tryz.underlying38 h with ⟨hc, _⟩ | ⟨a, len, cap, m, k, D, Pl, hc, _, hl, hm, hmm, _, hi⟩
  · exact ⟨none, [], 0, by simpa using hc, RoM.nil _ _⟩
  · have hc4 : Tryz.prog.cellsOf 37 = 1 := by kernel_rfl
    simp only [if_true] at hmm
    subst hmm
    have hall : ∀ i, i < m → ∃ x : SB, Ro w w.heap.size x.a (u8s x.bs) ∧ x.bs.length ≤ 9223372036854775807 ∧ w.cell? (a.add i) = some x.val := by
      intro i him
      obtain ⟨cs, h1, h2⟩ := hi i him
      rw [hc4] at h1
      obtain ⟨h0, _, h3⟩ := World.cells?_some h1
      match cs, h0 with
      | [v], _ =>
        obtain ⟨xa, bs, xc, rfl, hr, hlb⟩ := row_u8 h2
        refine ⟨⟨xa, bs, xc⟩, hr, hlb, ?_⟩
        have := h3 0 (by omega)
        simpa [Addr.add, SB.val] using this
    have dS : SB := ⟨none, [], 0⟩
    have hf : ∃ f : Nat → SB, ∀ i, i < m → Ro w w.heap.size (f i).a (u8s (f i).bs) ∧ (f i).bs.length ≤ 9223372036854775807 ∧ w.cell? (a.add i) = some (f i).val :=
      ⟨fun i => if hi : i < m then Classical.choose (hall i hi) else dS, fun i him => by
        have := Classical.choose_spec (hall i him)
        dsimp only
        rw [dif_pos him]
        exact this⟩
    obtain ⟨f, hf⟩ := hf
    refine ⟨some a, (List.range len).map f, m, by simpa using hc, ?_, ?_, by simp; unfold maxLen at hm; omega, ?_⟩
    · rcases Nat.eq_zero_or_pos len with h0 | h0
      · subst h0; exact .inl (by simp)
      · obtain ⟨b, off, spot⟩ := a
        have hc0 := (hf 0 (by omega)).2.2
        have hspot : spot = none := by simpa [Addr.add] using World.cell?_spot hc0
        subst hspot
        have hb := World.block_lt_of_cell? w _ hc0
        refine .inr ⟨b, off, rfl, by simpa [add_off] using hb, fun i hi => ?_⟩
        have hil : i < len := by simpa using hi
        have := (hf i (by omega)).2.2
        rw [add_off] at this
        rw [this]
        simp [List.getD, hil]
    · intro x hx
      obtain ⟨i, hi1, rfl⟩ := List.mem_map.1 hx
      exact (hf i (by have := List.mem_range.1 hi1; omega)).1
    · intro x hx
      obtain ⟨i, hi1, rfl⟩ := List.mem_map.1 hx
      exact (hf i (by have := List.mem_range.1 hi1; omega)).2.1
/-- an act -/
structure ActT where
  kd : Int
  i : Int
  ab : Option Addr
  bs : List UInt8
  cb : Nat
  al : Option Addr
  xs : List SB
  cl : Nat
  ak : Option Addr
  ks : List Bool
  ck : Nat
/-- its ranges, and the rows that it leads to -/
structure ActOk (w : World) (A : ActT) : Prop where
  kd : -9223372036854775808 ≤ A.kd ∧ A.kd ≤ 9223372036854775807
  i : -9223372036854775808 ≤ A.i ∧ A.i ≤ 9223372036854775807
  ab : Ro w w.heap.size A.ab (u8s A.bs)
  bs : A.bs.length ≤ 9223372036854775807
  al : RoM w A.al A.xs
  ak : Ro w w.heap.size A.ak (bls A.ks)
  ks : A.ks.length ≤ 9223372036854775807
def ActT.cells (A : ActT) : List Value := [.int .i64 A.kd, .int .i64 A.i, .slice A.ab A.bs.length A.cb, .slice A.al A.xs.length A.cl, .slice A.ak A.ks.length A.ck]
set_option maxRecDepth 100000 in
theorem trod_act {n : Nat} {cs : List Value} {y : DataW H × List MemPlace} (h : DataW.trod enc Tryz.prog w base (fun _ => true) held n 41 cs = some y) :
    ∃ A : ActT, cs = A.cells ∧ ActOk w A := by
  obtain ⟨xs, m, _, _, hlen, hxl, hf⟩ := DataW.trod_struct Tryz.underlying41 h
  have hc4 : cs.length = 5 := hlen.trans (by kernel_rfl)
  match cs, hc4, xs, hxl with
  | [c0, c1, c2, c3, c4], _, [x0, x1, x2, x3, x4], _ =>
    have g0 : DataW.trod enc Tryz.prog w base (fun _ => true) held m 3 (([c0, c1, c2, c3, c4].drop 0).take (Tryz.prog.cellsOf 3)) = some x0 := hf 0 _ rfl
    have g1 : DataW.trod enc Tryz.prog w base (fun _ => true) held m 3 (([c0, c1, c2, c3, c4].drop 1).take (Tryz.prog.cellsOf 3)) = some x1 := hf 1 _ rfl
    have g2 : DataW.trod enc Tryz.prog w base (fun _ => true) held m 37 (([c0, c1, c2, c3, c4].drop 2).take (Tryz.prog.cellsOf 37)) = some x2 := hf 2 _ rfl
    have g3 : DataW.trod enc Tryz.prog w base (fun _ => true) held m 38 (([c0, c1, c2, c3, c4].drop 3).take (Tryz.prog.cellsOf 38)) = some x3 := hf 3 _ rfl
    have g4 : DataW.trod enc Tryz.prog w base (fun _ => true) held m 39 (([c0, c1, c2, c3, c4].drop 4).take (Tryz.prog.cellsOf 39)) = some x4 := hf 4 _ rfl
    rw [show Tryz.prog.cellsOf 3 = 1 by kernel_rfl] at g0 g1
    rw [show Tryz.prog.cellsOf 37 = 1 by kernel_rfl] at g2
    rw [show Tryz.prog.cellsOf 38 = 1 by kernel_rfl] at g3
    rw [show Tryz.prog.cellsOf 39 = 1 by kernel_rfl] at g4
    simp only [List.drop_zero, List.drop_succ_cons, List.take_succ_cons, List.take_zero] at g0 g1 g2 g3 g4
    obtain ⟨kd, e0, _, hw0⟩ := DataW.trod_int Tryz.underlying3 g0
    obtain ⟨i, e1, _, hw1⟩ := DataW.trod_int Tryz.underlying3 g1
    obtain ⟨ab, bs, cb, e2, h2, h2'⟩ := row_u8 g2
    obtain ⟨al, ls, cl, e3, h3⟩ := row_rows g3
    obtain ⟨ak, ks, ck, e4, h4, h4'⟩ := row_bl g4
    simp only [List.cons.injEq, and_true] at e0 e1
    subst e0 e1 e2 e3 e4
    exact ⟨⟨kd, i, ab, bs, cb, al, ls, cl, ak, ks, ck⟩, rfl, ⟨bounds_i64 hw0, bounds_i64 hw1, h2, h2', h3, h4, h4'⟩⟩
set_option maxRecDepth 100000 in
theorem open_actV {r : Reach} {b0 : Nat} {v : Value} {d : DataW H} {p : List MemPlace} (hv : Value.okWide Tryz.prog w r b0 41 v) (h : DataW.Trod enc Tryz.prog w base (fun _ => true) held 41 v d p) :
    ∃ A : ActT, v = .agg A.cells.toArray ∧ ActOk w A := by
  obtain ⟨cs, rfl, hsz⟩ := okWide_struct Tryz.underlying41 hv
  obtain ⟨fuel, hf⟩ := h
  obtain ⟨A, hA, hok⟩ := trod_act hf
  refine ⟨A, ?_, hok⟩
  congr 1
  apply Array.ext'
  exact hA
set_option maxRecDepth 100000 in
theorem open_rowsV {r : Reach} {b0 : Nat} {v : Value} {d : DataW H} {p : List MemPlace} (hv : Value.okWide Tryz.prog w r b0 38 v) (h : DataW.Trod enc Tryz.prog w base (fun _ => true) held 38 v d p) :
    ∃ (a : Option Addr) (xs : List SB) (c : Nat), v = .slice a xs.length c ∧ RoM w a xs := by
  obtain ⟨a, l, c, rfl⟩ := okWide_slice Tryz.underlying38 hv
  obtain ⟨fuel, hf⟩ := h
  exact row_rows hf
end
end Go.Proofs.YtdiemejdbakffaaGreat
namespace Go.Proofs.YtdiemejdbakffaaGreat
open Go.RowKit Go.Deep Go.Shelf
set_option linter.unusedVariables false
set_option linter.unusedSimpArgs false

def fitsL (xs : List SB) : Prop := xs.length ≤ 20 ∧ ∀ x ∈ xs, x.bs.length ≤ 400
instance (xs : List SB) : Decidable (fitsL xs) := by unfold fitsL; infer_instance
/-- an act, by value -/
abbrev actV (kd i : Int) (ab : Option Addr) (lb cb : Nat) (al : Option Addr) (ll cl : Nat) (ak : Option Addr) (lk ck : Nat) : Value := .agg #[.int .i64 kd, .int .i64 i, .slice ab lb cb, .slice al ll cl, .slice ak lk ck]
theorem RoM.at_ {w : World} {a : Option Addr} {xs : List SB} (h : RoM w a xs) {k : Nat} (hk : k < xs.length) : ∃ b off, a = some ⟨b, off, none⟩ ∧ b < w.heap.size ∧ ∀ i (hi : i < xs.length), w.cell? ⟨b, off + i, none⟩ = some (xs[i]).val := by
  obtain ⟨b, off, h1, h2, h3⟩ := h.row.at_ (by intro e; have := congrArg List.length e; simp only [List.length_map, List.length_nil] at this; omega)
  refine ⟨b, off, h1, h2, fun i hi => ?_⟩
  rw [h3 i (by simpa using hi)]
  simp [List.getD, hi]
set_option maxRecDepth 100000 in
theorem fits_any (w : World) (kd i : Int) (ab : Option Addr) (lb cb : Nat) (al : Option Addr) (xs : List SB) (cl : Nat) (ak : Option Addr) (lk ck : Nat) (h : RoM w al xs) :
    Calls Tryz.prog 9 #[actV kd i ab lb cb al xs.length cl ak lk ck] w fun e w' => e = .returned (.bool (decide (fitsL xs ∧ lb ≤ 400))) ∧ Chg [] w w' := by
  obtain ⟨n, HN⟩ : ∃ n, Hid (xs.length = n) := ⟨_, Lib.hid rfl⟩
  have hl := h.len
  obtain ⟨T, HT0⟩ : ∃ T, Hid (decide (fitsL xs ∧ lb ≤ 400) = T) := ⟨_, Lib.hid rfl⟩
  rw [HN.out] at hl ⊢
  rw [HT0.out]
  have HR := Lib.hid h
  clear h
  go_enter Tryz.func9, Tryz.ntmps9
  go_wp2
  go_loop [3] (fun i => ∃ k : Nat, k ≤ n ∧ k ≤ 20 ∧ i = .int .i64 k ∧ Hid (∀ x ∈ xs.take k, x.bs.length ≤ 400)) (fun i => n - (intOf i).toNat)
  case atStart => exact ⟨0, Nat.zero_le _, by omega, rfl, Lib.hid (by simp)⟩
  case round =>
    obtain ⟨k, hk, hk20, rfl, HP⟩ := hrel
    by_cases hlt : k < n
    · have hkx : k < xs.length := by rw [HN.out]; exact hlt
      obtain ⟨b, off, rfl, hb, hc⟩ := HR.out.at_ hkx
      have hcell := hc k hkx
      unfold SB.val at hcell
      have hd : decide (k < n) = true := by simpa using hlt
      have hk1 : (k : Int) < (n : Int) := by omega
      have HX := Lib.hid (show xs[k] ∈ xs from List.getElem_mem hkx)
      have HT := Lib.hid (show xs.take (k + 1) = xs.take k ++ [xs[k]] from take_snoc xs k hkx)
      generalize xs[k] = x at *
      by_cases h20 : k = 20
      · have hn : ¬ (fitsL xs ∧ lb ≤ 400) := fun h => by have := h.1.1; have := HN.out; omega
        have hd2 : decide (k = 20) = true := by simpa using h20
        have HNN := Lib.hid (decide_eq_false hn)
        subst h20
        clear hc hn
        go_wp2
        go_ret
        exact ⟨by rw [← HT0.out, HNN.out]; rfl, (Chg.refl [] w).alloc _⟩
      · have h20' : ¬ ((k : Int) = 20) := by omega
        have hd2 : decide (k = 20) = false := by simpa using h20
        by_cases h4 : 400 < x.bs.length
        · have hn : ¬ (fitsL xs ∧ lb ≤ 400) := fun h => by have := h.1.2 x HX.out; omega
          have HNN := Lib.hid (decide_eq_false hn)
          clear hn
          have hd3 : decide (400 < x.bs.length) = true := by simpa using h4
          have h4' : (400 : Int) < (x.bs.length : Int) := by omega
          clear hc
          go_wp2
          go_ret
          exact ⟨by rw [← HT0.out, HNN.out]; rfl, (Chg.refl [] w).alloc _⟩
        · have hd3 : decide (400 < x.bs.length) = false := by simpa using h4
          have h4' : ¬ ((400 : Int) < (x.bs.length : Int)) := by omega
          have HS := Lib.hid (show x.bs.length ≤ 400 by omega)
          clear hc
          go_wp2
          go_round
          case rel => exact ⟨k + 1, by omega, by omega, by go_num, Lib.hid (by
            rw [HT.out]
            intro y hy
            rcases List.mem_append.1 hy with hy | hy
            · exact HP.out y hy
            · simp at hy; subst hy; exact HS.out)⟩
          case measure => simp [intOf]; omega
    · have hkn : k = n := by omega
      have hf : fitsL xs := ⟨by have := HN.out; omega, by
        have h2 := HP.out
        rw [hkn, ← HN.out, List.take_length] at h2
        exact h2⟩
      have hd : decide (k < n) = false := by simpa using hlt
      have HNN := Lib.hid (show decide (fitsL xs ∧ lb ≤ 400) = decide (lb ≤ 400) from by simp [hf])
      clear hkn hf
      go_wp2
      go_ret
      exact ⟨ret_bool (by rw [← HT0.out, HNN.out]; simp; try omega), (Chg.refl [] w).alloc _⟩
end Go.Proofs.YtdiemejdbakffaaGreat
