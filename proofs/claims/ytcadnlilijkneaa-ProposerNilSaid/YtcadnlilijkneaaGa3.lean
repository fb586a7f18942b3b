/-
  The law package's questions of size; Has and SameChain of the document's answer. No claim of their own.
-/
import Derived.Test.YtcadnlilijkneaaGa2
import Derived.Test.YtcadnlilijkneaaGa1
import Derived.Deep.Grids
import Derived.Deep.Fields
import Derived.Lib.SmallJoins
namespace Go.Proofs.Ytcadnlilijkneaa
open Go.RowKit Go.Deep Go.Shelf
set_option linter.unusedVariables false
set_option linter.unusedSimpArgs false

set_option maxHeartbeats 1000000 in
theorem fitsC_any (L : List ChT) (a : Option Addr) (c B : Nat) (w : World) (hro : Ro w B a (chv L)) (hB : B ≤ w.heap.size) (hl : L.length ≤ 9223372036854775807) :
    Calls Try.prog 22 #[.slice a L.length c] w fun e w' => (∃ t, e = .returned (.bool t)) ∧ Below w.heap.size w w' := by
  have HRO := Lib.hid hro
  have HS := Lib.hid hB
  generalize hN : L.length = n at *
  have HN := Lib.hid hN
  have hn1 : (n : Int) ≤ 9223372036854775807 := by omega
  clear hro hB hN
  go_enter Try.func22, Try.ntmps22
  go_wp2_with fail
  go_loopw [3] (fun i wr => ∃ k : Nat, k ≤ n ∧ k ≤ 10 ∧ i = .int .i64 (k : Int) ∧ Hid (Below w.heap.size w wr)) (fun i _ => n - (Go.RowKit.intOf i).toNat)
  case atStart => exact ⟨0, Nat.zero_le _, Nat.zero_le _, rfl, Lib.hid (Below.refl _ _)⟩
  case round =>
    obtain ⟨k, hk, hk10, rfl, HBk⟩ := hrel
    by_cases hlt : k < n
    · have hkL : k < L.length := by rw [HN.out]; exact hlt
      obtain ⟨b, off, rfl, hb, hc⟩ := (HRO.out.below HBk.out HS.out).ch (show 0 < L.length by omega)
      have e1 := hc k hkL
      clear hc
      have hk0 : (0 : Int) ≤ (k : Int) := by omega
      have hk1 : (k : Int) < (n : Int) := by omega
      have hk2 : (k : Int) ≤ 10 := by omega
      generalize (ct L k).a = x2 at *
      generalize (ct L k).u.length = x3 at *
      generalize (ct L k).c = x4 at *
      by_cases h10 : k = 10
      · subst h10
        go_wp2_with fail
        go_ret
        exact ⟨⟨_, rfl⟩, HBk.out⟩
      · have h10' : ((k : Int) == 10) = false := by rw [beq_eq_false_iff_ne]; omega
        have HK10 := Lib.hid h10
        by_cases h3 : 10 < x3
        · have h3' : decide ((10 : Int) < (x3 : Int)) = true := by simp; omega
          clear h10 h3
          go_wp2_with fail
          go_ret
          exact ⟨⟨_, rfl⟩, HBk.out⟩
        · have h3' : decide ((10 : Int) < (x3 : Int)) = false := by simp; omega
          clear h10 h3
          go_wp2_with fail
          go_roundw
          case rel => exact ⟨k + 1, by omega, by have := HK10.out; omega, by go_num, HBk⟩
          case measure => simp [Go.RowKit.intOf]; omega
    · obtain rfl : k = n := by omega
      go_wp2_with fail
      go_ret
      exact ⟨⟨_, rfl⟩, HBk.out⟩

set_option maxHeartbeats 1000000 in
theorem fitsL_any (A : LyT) (B : Nat) (w : World) (h : LyIn w B A) (hB : B ≤ w.heap.size) (hf : SgFit A.sg) :
    Calls Try.prog 13 #[A.val] w fun e w' => (∃ t, e = .returned (.bool t)) ∧ Below w.heap.size w w' := by
  obtain ⟨W, HWW⟩ : ∃ W, Hid (w.alloc (.cells #[.int .u64 (A.e : Int), .slice A.a A.sg.length A.c, .int .i64 A.q] 38) = W) := ⟨_, Lib.hid rfl⟩
  have hWb : Below w.heap.size w W := by rw [← HWW.out]; exact (Below.refl _ _).alloc (Nat.le_refl _) _
  have o1 : Own W w.heap.size 38 [.int .u64 (A.e : Int), .slice A.a A.sg.length A.c, .int .i64 A.q] := by rw [← HWW.out]; exact Own.new w _ _
  have HIN := Lib.hid h
  have HB := Lib.hid hWb
  have HO := Lib.hid o1
  have HS := Lib.hid hB
  have HF := Lib.hid hf
  have hfl := hf.1
  clear h hWb o1 hB hf
  obtain ⟨ep, sa, c, L, q⟩ := A
  simp only [LyT.val] at *
  generalize hN : L.length = n at *
  have HN := Lib.hid hN
  have hn1 : (n : Int) ≤ 9223372036854775807 := by omega
  clear hN
  go_enter Try.func13, Try.ntmps13
  go_upto_region 1 with fail
  rw [HWW.out]
  go_wp2_with fail
  go_loopw [3] (fun i wr => ∃ k : Nat, k ≤ n ∧ k ≤ 10 ∧ i = .int .i64 (k : Int) ∧ Hid (Below w.heap.size w wr) ∧ Hid (Own wr w.heap.size 38 [.int .u64 (ep : Int), .slice sa n c, .int .i64 q])) (fun i _ => n - (Go.RowKit.intOf i).toNat)
  case atStart => exact ⟨0, Nat.zero_le _, Nat.zero_le _, rfl, HB, HO⟩
  case round =>
    obtain ⟨k, hk, hk10, rfl, HBk, HOk⟩ := hrel
    have d1 := HOk.out.cell 1
    have hz := HOk.out.lt
    simp at d1
    by_cases hlt : k < n
    · have hkL : k < L.length := by rw [HN.out]; exact hlt
      obtain ⟨b, off, rfl, hb, hc⟩ := (HIN.out.1.below HBk.out HS.out).sg (show 0 < L.length by omega)
      obtain ⟨e1, e2⟩ := hc k hkL
      clear hc
      have hk0 : (0 : Int) ≤ (k : Int) := by omega
      have hk1 : (k : Int) < (n : Int) := by omega
      have hk2 : (k : Int) ≤ 10 := by omega
      have HC := Lib.hid (fitsC_any (st L k).ch (st L k).a (st L k).c B wr ((HIN.out.2 _ (st_mem hkL)).1.below HBk.out HS.out) (Nat.le_trans HS.out HBk.out.size) (HF.out.2 _ (st_mem hkL)).1)
      generalize (st L k).f = x1 at *
      generalize (st L k).a = x2 at *
      generalize (st L k).ch.length = x3 at *
      generalize (st L k).c = x4 at *
      go_wp2_with fail
      refine HC.out.mono ?_
      rintro e w1 ⟨⟨t, rfl⟩, hb1⟩
      have HB1 := Lib.hid (HBk.out.trans (hb1.mono HBk.out.size))
      have HO1 := Lib.hid (HOk.out.below hb1 HOk.out.lt)
      clear hb1
      cases t with
      | false =>
        go_wp2_with fail
        go_ret
        exact ⟨⟨_, rfl⟩, HB1.out⟩
      | true =>
        by_cases h10 : k = 10
        · subst h10
          go_wp2_with fail
          go_ret
          exact ⟨⟨_, rfl⟩, HB1.out⟩
        · have h10' : ((k : Int) == 10) = false := by rw [beq_eq_false_iff_ne]; omega
          have HK10 := Lib.hid h10
          clear h10
          go_wp2_with fail
          go_roundw
          case rel => exact ⟨k + 1, by omega, by have := HK10.out; omega, by go_num, HB1, HO1⟩
          case measure => simp [Go.RowKit.intOf]; omega
    · obtain rfl : k = n := by omega
      go_wp2_with fail
      go_ret
      exact ⟨⟨_, rfl⟩, HBk.out⟩

/-- what is asked of a layout, by value -/
abbrev folV (a1 : Option Addr) (n1 c1 : Nat) (a2 : Option Addr) (n2 c2 : Nat) (sq : Int) (f : Nat) (a3 : Option Addr) (n3 c3 : Nat) : Value := .agg #[.slice a1 n1 c1, .slice a2 n2 c2, .int .i64 sq, .int .u64 (f : Int), .slice a3 n3 c3]
end Go.Proofs.Ytcadnlilijkneaa
namespace Go.Proofs.Ytcadnlilijkneaa
open Go.RowKit Go.ChangeShapes Go.WideShapes Go.Deep
set_option linter.unusedVariables false
set_option linter.unusedSimpArgs false

section
variable {H : Type} {enc : TypeId × Value → H} {w : World} {base : Nat} {held : Bool}
theorem row_ints {n : Nat} {v : Value} {y : DataW H × List MemPlace} (h : DataW.trod enc Try.prog w base (fun _ => true) held n 33 [v] = some y) :
    ∃ (a : Option Addr) (L : List Int) (c : Nat), v = .slice a L.length c ∧ Ro w w.heap.size a (i64s L) ∧ L.length ≤ c ∧ c ≤ 9223372036854775807 ∧ (a = none → c = 0) := by
  have hrow : ∃ a l c zs, v = .slice a l c ∧ IsRow .i64 w a l c zs := by
    rcases open_ints Try.underlying33 Try.underlying3 (by kernel_rfl) h with ⟨hc, _⟩ | ⟨a, l, c, zs, hc, _, hl, hm, hz, _, hcell, hwz⟩
    · exact ⟨none, 0, 0, [], by simpa using hc, .inl ⟨rfl, rfl, rfl, rfl⟩⟩
    · exact ⟨some a, l, c, zs, by simpa using hc, .inr ⟨a, rfl, hl, hm, by simpa using hz, hcell, hwz⟩⟩
  obtain ⟨a, l, c, zs, rfl, hr⟩ := hrow
  obtain ⟨bs, h1, h2, h3, h4, _⟩ := hr.i64s
  have := hr.cap_le
  exact ⟨a, bs, c, by rw [h1], h4, by omega, by omega, h3⟩
set_option maxRecDepth 100000 in
theorem row_chs {n : Nat} {v : Value} {y : DataW H × List MemPlace} (h : DataW.trod enc Try.prog w base (fun _ => true) held n 65 [v] = some y) :
    ∃ (a : Option Addr) (M : List ChT) (c : Nat), v = .slice a M.length c ∧ Ro w w.heap.size a (chv M) ∧ ChIn w w.heap.size M ∧ ChFit M := by
  rcases open_slice Try.underlying65 h with ⟨hc, _⟩ | ⟨a, len, cap, m, k, D, Pl, hc, _, hl, hm, hmm, _, hi⟩
  · exact ⟨none, [], 0, by simpa using hc, Ro.nil _ _ _, by intro c hc; simp at hc, by constructor <;> simp⟩
  · have hc1 : Try.prog.cellsOf 33 = 1 := by kernel_rfl
    simp only [if_true] at hmm
    subst hmm
    have hall : ∀ i, i < m → ∃ T : ChT, w.cell? (a.add i) = some T.val ∧ Ro w w.heap.size T.a (i64s T.u) ∧ T.u.length ≤ 9223372036854775807 := by
      intro i him
      obtain ⟨cs, h1, h2⟩ := hi i him
      rw [hc1, Nat.mul_one] at h1
      obtain ⟨hl1, _, h3⟩ := World.cells?_some h1
      have hcs : ∃ v, cs = [v] := by
        match cs, hl1 with
        | [v], _ => exact ⟨v, rfl⟩
      obtain ⟨v, rfl⟩ := hcs
      obtain ⟨b, L, c, rfl, g1, g2, g3, _⟩ := row_ints h2
      refine ⟨⟨b, c, L⟩, ?_, g1, by show L.length ≤ _; omega⟩
      have := h3 0 (by omega)
      simpa [Addr.add, ChT.val] using this
    obtain ⟨A, hA⟩ : ∃ A : Nat → ChT, ∀ i, i < m → w.cell? (a.add i) = some (A i).val ∧ Ro w w.heap.size (A i).a (i64s (A i).u) ∧ (A i).u.length ≤ 9223372036854775807 :=
      ⟨fun i => if hi : i < m then Classical.choose (hall i hi) else ⟨none, 0, []⟩, fun i him => by
        have := Classical.choose_spec (hall i him)
        dsimp only
        rw [dif_pos him]
        exact this⟩
    refine ⟨some a, (List.range len).map A, m, by simpa using hc, ?_, fun c hcm => ?_, ?_, fun c hcm => ?_⟩
    · rcases Nat.eq_zero_or_pos len with h0 | h0
      · subst h0; exact .inl rfl
      · obtain ⟨b, off, spot⟩ := a
        have hc0 := (hA 0 (by omega)).1
        have hspot : spot = none := by simpa [Addr.add] using World.cell?_spot hc0
        subst hspot
        have hb := World.block_lt_of_cell? w _ hc0
        refine .inr ⟨b, off, rfl, by simpa [add_off] using hb, fun i hi => ?_⟩
        rw [chv_length, List.length_map, List.length_range] at hi
        have g1 := (hA i (by omega)).1
        rw [add_off] at g1
        rw [g1]
        simp [chv, List.getD, hi]
    · rw [List.mem_map] at hcm
      obtain ⟨i, hi, rfl⟩ := hcm
      exact (hA i (by have := List.mem_range.1 hi; omega)).2.1
    · simp; unfold maxLen at hm; omega
    · rw [List.mem_map] at hcm
      obtain ⟨i, hi, rfl⟩ := hcm
      exact (hA i (by have := List.mem_range.1 hi; omega)).2.2
set_option maxRecDepth 100000 in
theorem trod_seg {n : Nat} {cs : List Value} {y : DataW H × List MemPlace} (h : DataW.trod enc Try.prog w base (fun _ => true) held n 67 cs = some y) :
    ∃ S : SgT, cs = [.int .u64 (S.f : Int), .slice S.a S.ch.length S.c] ∧ Ro w w.heap.size S.a (chv S.ch) ∧ ChIn w w.heap.size S.ch ∧ ChFit S.ch := by
  obtain ⟨xs, m, _, _, hlen, hxl, hf⟩ := DataW.trod_struct Try.underlying67 h
  have hc2 : cs.length = 2 := hlen.trans (by kernel_rfl)
  match cs, hc2, xs, hxl with
  | [c0, c1], _, [x0, x1], _ =>
    have g0 : DataW.trod enc Try.prog w base (fun _ => true) held m 26 (([c0, c1].drop 0).take (Try.prog.cellsOf 26)) = some x0 := hf 0 _ rfl
    have g1 : DataW.trod enc Try.prog w base (fun _ => true) held m 65 (([c0, c1].drop 1).take (Try.prog.cellsOf 65)) = some x1 := hf 1 _ rfl
    rw [show Try.prog.cellsOf 26 = 1 by kernel_rfl] at g0
    rw [show Try.prog.cellsOf 65 = 1 by kernel_rfl] at g1
    simp only [List.drop_zero, List.drop_succ_cons, List.take_succ_cons, List.take_zero] at g0 g1
    obtain ⟨s, e0, _, hw0⟩ := DataW.trod_int Try.underlying26 g0
    obtain ⟨a, M, c, rfl, k1, k2, k3⟩ := row_chs g1
    simp only [List.cons.injEq, and_true] at e0
    subst e0
    have h1 := bounds_u64 hw0
    refine ⟨⟨s.toNat, a, c, M⟩, ?_, k1, k2, k3⟩
    simp only
    rw [show ((s.toNat : Nat) : Int) = s by omega]
set_option maxRecDepth 100000 in
theorem row_segs {n : Nat} {v : Value} {y : DataW H × List MemPlace} (h : DataW.trod enc Try.prog w base (fun _ => true) held n 36 [v] = some y) :
    ∃ (a : Option Addr) (L : List SgT) (c : Nat), v = .slice a L.length c ∧ Ro w w.heap.size a (sgv L) ∧ SgIn w w.heap.size L ∧ SgFit L := by
  rcases open_slice Try.underlying36 h with ⟨hc, _⟩ | ⟨a, len, cap, m, k, D, Pl, hc, _, hl, hm, hmm, _, hi⟩
  · exact ⟨none, [], 0, by simpa using hc, Ro.nil _ _ _, by intro c hc; simp at hc, by constructor <;> simp⟩
  · have hc2 : Try.prog.cellsOf 67 = 2 := by kernel_rfl
    simp only [if_true] at hmm
    subst hmm
    have hall : ∀ i, i < m → ∃ S : SgT, (Ro w w.heap.size S.a (chv S.ch) ∧ ChIn w w.heap.size S.ch ∧ ChFit S.ch) ∧ w.cell? (a.add (i * 2)) = some (.int .u64 (S.f : Int)) ∧ w.cell? ((a.add (i * 2)).add 1) = some (.slice S.a S.ch.length S.c) := by
      intro i him
      obtain ⟨cs, h1, h2⟩ := hi i him
      rw [hc2] at h1
      obtain ⟨_, _, h3⟩ := World.cells?_some h1
      obtain ⟨S, rfl, hr⟩ := trod_seg h2
      refine ⟨S, hr, ?_, h3 1 (by omega)⟩
      have := h3 0 (by omega)
      simpa [Addr.add] using this
    obtain ⟨A, hA⟩ : ∃ A : Nat → SgT, ∀ i, i < m → (Ro w w.heap.size (A i).a (chv (A i).ch) ∧ ChIn w w.heap.size (A i).ch ∧ ChFit (A i).ch) ∧ w.cell? (a.add (i * 2)) = some (.int .u64 ((A i).f : Int)) ∧ w.cell? ((a.add (i * 2)).add 1) = some (.slice (A i).a (A i).ch.length (A i).c) :=
      ⟨fun i => if hi : i < m then Classical.choose (hall i hi) else ⟨0, none, 0, []⟩, fun i him => by
        have := Classical.choose_spec (hall i him)
        dsimp only
        rw [dif_pos him]
        exact this⟩
    refine ⟨some a, (List.range len).map A, m, by simpa using hc, ?_, fun s hs => ?_, ?_, fun s hs => ?_⟩
    · rcases Nat.eq_zero_or_pos len with h0 | h0
      · subst h0; exact .inl rfl
      · obtain ⟨b, off, spot⟩ := a
        have hc0 := (hA 0 (by omega)).2.1
        have hspot : spot = none := by simpa [Addr.add] using World.cell?_spot hc0
        subst hspot
        have hb := World.block_lt_of_cell? w _ hc0
        refine .inr ⟨b, off, rfl, by simpa [add_off] using hb, fun i hi => ?_⟩
        rw [sgv_length, List.length_map, List.length_range] at hi
        have hi2 : i / 2 < len := by omega
        have hel : ((List.range len).map A)[i / 2]? = some (A (i / 2)) := by simp [hi2]
        obtain ⟨_, g1, g2⟩ := hA (i / 2) (by omega)
        obtain ⟨e1, e2⟩ := sgv_get ((List.range len).map A) (i / 2)
        rw [hel] at e1 e2
        have hp : i % 2 = 0 ∨ i % 2 = 1 := by omega
        rcases hp with hp | hp
        · have ei : i = i / 2 * 2 := by omega
          rw [ei]
          rw [add_off] at g1
          rw [g1]
          simp only [List.getD, e1, Option.map_some, Option.getD_some]
        · have ei : i = i / 2 * 2 + 1 := by omega
          rw [ei]
          rw [add_off, add_off] at g2
          rw [← Nat.add_assoc, g2]
          simp only [List.getD, e2, Option.map_some, Option.getD_some]
    · rw [List.mem_map] at hs
      obtain ⟨i, hi, rfl⟩ := hs
      have := (hA i (by have := List.mem_range.1 hi; omega)).1
      exact ⟨this.1, this.2.1⟩
    · simp; unfold maxLen at hm; omega
    · rw [List.mem_map] at hs
      obtain ⟨i, hi, rfl⟩ := hs
      exact (hA i (by have := List.mem_range.1 hi; omega)).1.2.2
/-- a layout that came in -/
structure LyOk (w : World) (A : LyT) : Prop where
  inn : LyIn w w.heap.size A
  fit : SgFit A.sg
  e : A.e ≤ 18446744073709551615
  q : -9223372036854775808 ≤ A.q ∧ A.q ≤ 9223372036854775807
set_option maxRecDepth 100000 in
theorem open_layoutV {r : Reach} {b0 : Nat} {v : Value} {d : DataW H} {p : List MemPlace} (hv : Value.okWide Try.prog w r b0 38 v) (h : DataW.Trod enc Try.prog w base (fun _ => true) held 38 v d p) :
    ∃ A : LyT, v = A.val ∧ LyOk w A := by
  obtain ⟨cs, rfl, hsz⟩ := okWide_struct Try.underlying38 hv
  obtain ⟨fuel, hf⟩ := h
  obtain ⟨xs, m, _, _, hlen, hxl, hf⟩ := DataW.trod_struct Try.underlying38 hf
  have hc3 : cs.toList.length = 3 := hlen.trans (by kernel_rfl)
  obtain ⟨cl⟩ := cs
  match cl, hc3, xs, hxl with
  | [c0, c1, c2], _, [x0, x1, x2], _ =>
    have g0 : DataW.trod enc Try.prog w base (fun _ => true) held m 26 (([c0, c1, c2].drop 0).take (Try.prog.cellsOf 26)) = some x0 := hf 0 _ rfl
    have g1 : DataW.trod enc Try.prog w base (fun _ => true) held m 36 (([c0, c1, c2].drop 1).take (Try.prog.cellsOf 36)) = some x1 := hf 1 _ rfl
    have g2 : DataW.trod enc Try.prog w base (fun _ => true) held m 3 (([c0, c1, c2].drop 2).take (Try.prog.cellsOf 3)) = some x2 := hf 2 _ rfl
    rw [show Try.prog.cellsOf 26 = 1 by kernel_rfl] at g0
    rw [show Try.prog.cellsOf 36 = 1 by kernel_rfl] at g1
    rw [show Try.prog.cellsOf 3 = 1 by kernel_rfl] at g2
    simp only [List.drop_zero, List.drop_succ_cons, List.take_succ_cons, List.take_zero] at g0 g1 g2
    obtain ⟨s, e0, _, hw0⟩ := DataW.trod_int Try.underlying26 g0
    obtain ⟨a, L, c, rfl, k1, k2, k3⟩ := row_segs g1
    obtain ⟨q, e2, _, hw2⟩ := DataW.trod_int Try.underlying3 g2
    simp only [List.cons.injEq, and_true] at e0 e2
    subst e0 e2
    have h1 := bounds_u64 hw0
    refine ⟨⟨s.toNat, a, c, L, q⟩, ?_, ⟨k1, k2⟩, k3, by show s.toNat ≤ _; omega, bounds_i64 hw2⟩
    unfold LyT.val
    simp only
    rw [show ((s.toNat : Nat) : Int) = s by omega]
/-- what is asked of a layout, that came in -/
structure FoT where
  a1 : Option Addr
  c1 : Nat
  dr : List Int
  a2 : Option Addr
  c2 : Nat
  fr : List Int
  q : Int
  f : Nat
  a3 : Option Addr
  c3 : Nat
  ch : List ChT
def FoT.val (F : FoT) : Value := folV F.a1 F.dr.length F.c1 F.a2 F.fr.length F.c2 F.q F.f F.a3 F.ch.length F.c3
structure FoOk (w : World) (F : FoT) : Prop where
  dr : Ro w w.heap.size F.a1 (i64s F.dr)
  fr : Ro w w.heap.size F.a2 (i64s F.fr)
  fc : F.fr.length ≤ F.c2 ∧ F.c2 ≤ 9223372036854775807 ∧ (F.a2 = none → F.c2 = 0)
  f : F.f ≤ 18446744073709551615
  ch : Ro w w.heap.size F.a3 (chv F.ch)
  chi : ChIn w w.heap.size F.ch
  chf : ChFit F.ch
end
end Go.Proofs.Ytcadnlilijkneaa
namespace Go.Proofs.Ytcadnlilijkneaa
open Go.RowKit
set_option linter.unusedVariables false
set_option linter.unusedSimpArgs false

theorem lowest_eq (v : Int) (n : Nat) (hn : n ≤ 64) :
    bits BinOp.and IntKind.u64 v (IntKind.u64.wrap (IntKind.u64.wrap (2 ^ n) - 1)) = v % 2 ^ n := by
  have h2 : (2 : Nat) ^ n ≤ 2 ^ 64 := Nat.pow_le_pow_right (by omega) hn
  have h3 : 0 < 2 ^ n := Nat.pow_pos (by omega)
  have e2 : ((2 : Int) ^ n) = ((2 ^ n : Nat) : Int) := by simp
  have e : IntKind.u64.wrap (IntKind.u64.wrap (2 ^ n) - 1) = ((2 ^ n - 1 : Nat) : Int) := by
    rw [IntKind.wrap_u64, IntKind.wrap_u64, e2]
    omega
  have hx := and_wrap_left v ((2 ^ n - 1 : Nat) : Int)
  obtain ⟨x, hx0⟩ : ∃ x : Nat, v % 18446744073709551616 = (x : Int) := ⟨(v % 18446744073709551616).toNat, by omega⟩
  rw [e, ← hx, hx0, u64_and_nat x (2 ^ n - 1) (by omega) (by omega), Nat.and_two_pow_sub_one_eq_mod]
  have hd : ((2 : Int) ^ n) ∣ 18446744073709551616 := by
    rw [e2]
    exact Int.natCast_dvd_natCast.2 (Nat.pow_dvd_pow 2 hn : 2 ^ n ∣ 2 ^ 64)
  have h5 := Int.emod_emod_of_dvd v hd
  rw [← h5, hx0]; simp

end Go.Proofs.Ytcadnlilijkneaa
namespace Go.Proofs.Ytcadnlilijkneaa
set_option linter.unusedVariables false
set_option linter.unusedSimpArgs false

def bitB (bs : List UInt8) (i : Nat) : Bool := (bs.getD (i / 8) 0).toNat.testBit (7 - i % 8)
theorem bit_bitB (bs : List UInt8) (i : Nat) : bit bs i = (bitB bs i).toNat := by
  unfold bit bitB
  rw [Nat.toNat_testBit]

def nbP (x V s t : Nat) : Nat := (x &&& (255 - (2 ^ t - 1) * 2 ^ s)) ||| ((V % 256 * 2 ^ s % 256) &&& ((2 ^ t - 1) * 2 ^ s))
theorem mask_lt (s t : Nat) (h : s + t ≤ 8) : (2 ^ t - 1) * 2 ^ s < 256 := by
  have h1 : 0 < 2 ^ t := Nat.pow_pos (by omega)
  have h2 : 0 < 2 ^ s := Nat.pow_pos (by omega)
  have h3 : (2 : Nat) ^ (s + t) ≤ 2 ^ 8 := Nat.pow_le_pow_right (by omega) h
  rw [Nat.pow_add, Nat.mul_comm] at h3
  have h4 : (2 ^ t - 1) * 2 ^ s < 2 ^ t * 2 ^ s := Nat.mul_lt_mul_of_pos_right (by omega) h2
  omega
theorem nbP_lt (x V s t : Nat) (hx : x < 256) (h : s + t ≤ 8) : nbP x V s t < 256 := by
  unfold nbP
  have h1 := mask_lt s t h
  exact Nat.or_lt_two_pow (n := 8) (Nat.lt_of_le_of_lt Nat.and_le_left hx) (Nat.lt_of_le_of_lt Nat.and_le_right h1)
theorem nb_bit (x V s t q : Nat) (h : s + t ≤ 8) (hq : q < 8) : (nbP x V s t).testBit q = if s ≤ q ∧ q < s + t then V.testBit (q - s) else x.testBit q := by
  have h1 := mask_lt s t h
  unfold nbP
  have e : 255 - (2 ^ t - 1) * 2 ^ s = 2 ^ 8 - ((2 ^ t - 1) * 2 ^ s + 1) := by omega
  rw [Nat.testBit_or, Nat.testBit_and, Nat.testBit_and, e, Nat.testBit_two_pow_sub_succ h1, show (256 : Nat) = 2 ^ 8 from rfl]
  simp only [Nat.testBit_mod_two_pow, Nat.testBit_mul_two_pow, Nat.testBit_two_pow_sub_one, decide_eq_true hq]
  by_cases c1 : s ≤ q
  · by_cases c2 : q < s + t
    · rw [if_pos ⟨c1, c2⟩, decide_eq_true c1, decide_eq_true (show q - s < t by omega), decide_eq_true (show q - s < 8 by omega)]; simp
    · rw [if_neg (by omega), decide_eq_true c1, decide_eq_false (show ¬ q - s < t by omega)]; simp
  · rw [if_neg (by omega), decide_eq_false c1]; simp
theorem nb_int (x V s t : Nat) (hx : x < 256) (h : s + t ≤ 8) :
    bits BinOp.or IntKind.u8 (bits BinOp.andNot IntKind.u8 (x : Int) ((2 ^ t - 1) % 256 * 2 ^ s % 256)) (bits BinOp.and IntKind.u8 ((V : Int) % 256 * 2 ^ s % 256) ((2 ^ t - 1) % 256 * 2 ^ s % 256)) = ((nbP x V s t : Nat) : Int) := by
  have h1 := mask_lt s t h
  have h2 : 0 < 2 ^ t := Nat.pow_pos (by omega)
  have h3 : (2 : Nat) ^ t ≤ 2 ^ 8 := Nat.pow_le_pow_right (by omega) (by omega)
  have e0 : ((2 : Int) ^ t - 1) % 256 = ((2 ^ t - 1 : Nat) : Int) := by
    have : ((2 : Int) ^ t) = ((2 ^ t : Nat) : Int) := by simp
    rw [this]; omega
  have e1 : ((2 : Int) ^ t - 1) % 256 * 2 ^ s % 256 = (((2 ^ t - 1) * 2 ^ s : Nat) : Int) := by
    rw [e0]
    have : (((2 ^ t - 1 : Nat) : Int) * 2 ^ s) = (((2 ^ t - 1) * 2 ^ s : Nat) : Int) := by simp
    rw [this]; omega
  have e2 : ((V : Int) % 256 * 2 ^ s % 256) = ((V % 256 * 2 ^ s % 256 : Nat) : Int) := by rw [Int.natCast_emod, Int.natCast_mul, Int.natCast_emod, Int.natCast_pow]; rfl
  have h4 : x &&& (255 - (2 ^ t - 1) * 2 ^ s) ≤ x := Nat.and_le_left
  have h5 : V % 256 * 2 ^ s % 256 &&& ((2 ^ t - 1) * 2 ^ s) ≤ (2 ^ t - 1) * 2 ^ s := Nat.and_le_right
  rw [e1, e2, u8_andNot_nat _ _ hx h1, u8_and_nat _ _ (by omega) h1, u8_or_nat _ _ (by omega) (by omega)]
  rfl
theorem nb_int0 (x V t : Nat) (hx : x < 256) (h : t ≤ 8) :
    bits BinOp.or IntKind.u8 (bits BinOp.andNot IntKind.u8 (x : Int) ((2 ^ t - 1) % 256)) (bits BinOp.and IntKind.u8 ((V : Int) % 256) ((2 ^ t - 1) % 256)) = ((nbP x V 0 t : Nat) : Int) := by
  have := nb_int x V 0 t hx (by omega)
  rw [← this]
  simp

/-- the bytes cs are bs with the lowest n bits of v at k -/
def IsPut (bs cs : List UInt8) (k n v : Nat) : Prop := cs.length = bs.length ∧ ∀ m, m < 8 * bs.length → bitB cs m = if k ≤ m ∧ m < k + n then v.testBit (n - 1 - (m - k)) else bitB bs m
/-- on the way: the first j of them -/
def IsPutTo (bs cs : List UInt8) (k n v j : Nat) : Prop := cs.length = bs.length ∧ ∀ m, m < 8 * bs.length → bitB cs m = if k ≤ m ∧ m < k + j then v.testBit (n - 1 - (m - k)) else bitB bs m
theorem IsPutTo.start (bs : List UInt8) (k n v : Nat) : IsPutTo bs bs k n v 0 := ⟨rfl, fun m _ => by rw [if_neg (by omega)]⟩
theorem IsPutTo.stop {bs cs : List UInt8} {k n v : Nat} (h : IsPutTo bs cs k n v n) : IsPut bs cs k n v := h
theorem set_getD (cs : List UInt8) (i j : Nat) (x : UInt8) (hi : i < cs.length) : (cs.set i x).getD j 0 = if i = j then x else cs.getD j 0 := by
  simp only [List.getD, List.getElem?_set]
  by_cases h : i = j
  · subst h; simp [hi]
  · simp [h]
theorem IsPutTo.step {bs cs : List UInt8} {k n v j : Nat} (h : IsPutTo bs cs k n v j) (t : Nat) (hk : k + n ≤ 8 * bs.length) (hjt : j + t ≤ n) (ht : 0 < t) (hr : (k + j) % 8 + t ≤ 8) (N : Nat)
    (hN : N = nbP (cs.getD ((k + j) / 8) 0).toNat (v / 2 ^ (n - j - t)) (8 - (k + j) % 8 - t) t) : IsPutTo bs (cs.set ((k + j) / 8) (UInt8.ofNat N)) k n v (j + t) := by
  obtain ⟨h1, h2⟩ := h
  have hNlt : N < 256 := by rw [hN]; exact nbP_lt _ _ _ _ (cs.getD ((k + j) / 8) 0).toNat_lt (by omega)
  refine ⟨by simpa using h1, fun m hm => ?_⟩
  have h2 := h2 m hm
  unfold bitB at h2 ⊢
  rw [set_getD _ _ _ _ (by omega)]
  by_cases e : (k + j) / 8 = m / 8
  · rw [if_pos e]
    have eN : (UInt8.ofNat N).toNat = N := by simp; omega
    rw [eN, hN, nb_bit _ _ _ _ _ (by omega) (by omega)]
    by_cases c : k + j ≤ m ∧ m < k + j + t
    · rw [if_pos (by omega), if_pos (by omega), Nat.testBit_div_two_pow]
      congr 1
      omega
    · rw [if_neg (by omega), e, h2]
      by_cases c2 : k ≤ m ∧ m < k + j
      · rw [if_pos c2, if_pos (by omega)]
      · rw [if_neg c2, if_neg (by omega)]
  · rw [if_neg e, h2]
    by_cases c2 : k ≤ m ∧ m < k + j
    · rw [if_pos c2, if_pos (by omega)]
    · rw [if_neg c2, if_neg (by omega)]
theorem u8_of (N : Nat) (h : N < 256) : ((UInt8.ofNat N).toNat : Int) = (N : Int) := by simp; omega
end Go.Proofs.Ytcadnlilijkneaa
namespace Go.Proofs.Ytcadnlilijkneaa
open Go.RowKit Go.Deep
set_option linter.unusedVariables false
set_option linter.unusedSimpArgs false

theorem made_u8s (n : Nat) : madeCells #[.int .u8 0] n = (u8s (List.replicate n 0)).toArray := by
  apply Array.ext
  · simp [size_madeCells, u8s]
  · intro i h1 h2
    simp [madeCells, u8s, Nat.mod_one]
theorem own_made (w : World) (n : Nat) : Own (w.alloc (.cells (madeCells #[.int .u8 0] n) 5)) w.heap.size 5 (u8s (List.replicate n 0)) := by
  rw [made_u8s]
  exact Own.new w 5 _
theorem Try.info_u8 : (Try.prog.info? 5).map (fun i => (i.zero, i.size, i.bytes)) = some (some (.int .u8 0), 1, 1) := by kernel_rfl
theorem Try.size_u8 : (Try.prog.info? 5).map (·.size) = some 1 := by kernel_rfl
theorem u8s_oneCell (bs : List UInt8) : ∀ v ∈ u8s bs, v.oneCell' = true := by
  intro v hv
  simp only [u8s, List.mem_map] at hv
  obtain ⟨x, _, rfl⟩ := hv
  rfl
theorem splice_all (cur cs : List Value) (h : cur.length = cs.length) : splice cur 0 cs = cs := by
  unfold splice
  simp [← h]
theorem Ro.src {w : World} {B : Nat} {a : Option Addr} {vs : List Value} (h : Ro w B a vs) (h0 : 0 < vs.length) : ∃ ad, a = some ad ∧ ∀ j v, vs[j]? = some v → w.cell? (ad.add j) = some v := by
  obtain ⟨b, off, rfl, hb, hc⟩ := h.at_ (by intro e; subst e; simp at h0)
  refine ⟨_, rfl, fun j v hv => ?_⟩
  have hj : j < vs.length := (List.getElem?_eq_some_iff.1 hv).1
  have := hc j hj
  have e : (⟨b, off, none⟩ : Addr).add j = ⟨b, off + j, none⟩ := by unfold Addr.add; split <;> simp_all
  rw [e, this]
  simp [List.getD, hv]

end Go.Proofs.Ytcadnlilijkneaa
namespace Go.Proofs.Ytcadnlilijkneaa
set_option linter.unusedVariables false
set_option linter.unusedSimpArgs false

theorem getD_left {α : Type} (a b : List α) (d : α) (i : Nat) (h : i < a.length) : (a ++ b).getD i d = a.getD i d := by
  simp [List.getD, List.getElem?_append_left h]
theorem getD_right {α : Type} (a b : List α) (d : α) (i : Nat) (h : a.length ≤ i) : (a ++ b).getD i d = b.getD (i - a.length) d := by
  simp [List.getD, List.getElem?_append_right h]
/-- the lowest n bits, the highest first -/
def dig (v n : Nat) : List Bool := (List.range n).map fun i => v.testBit (n - 1 - i)
@[simp] theorem dig_length (v n : Nat) : (dig v n).length = n := by simp [dig]
theorem dig_getD (v n i : Nat) (h : i < n) : (dig v n).getD i false = v.testBit (n - 1 - i) := by
  simp [dig, List.getD, h]
def packB : List Nat → List Nat → List Bool
  | n :: ns, v :: vs => dig v n ++ packB ns vs
  | _, _ => []
theorem packB_length (ns vs : List Nat) (h : ns.length = vs.length) : (packB ns vs).length = ns.sum := by
  induction ns generalizing vs with
  | nil => simp [packB]
  | cons n ns ih =>
    cases vs with
    | nil => simp at h
    | cons v vs => simp [packB, ih vs (by simpa using h)]
theorem packB_take (ns vs : List Nat) (i : Nat) (h1 : i < ns.length) (h2 : i < vs.length) : packB (ns.take (i + 1)) (vs.take (i + 1)) = packB (ns.take i) (vs.take i) ++ dig (vs.getD i 0) (ns.getD i 0) := by
  induction ns generalizing vs i with
  | nil => simp at h1
  | cons n ns ih =>
    cases vs with
    | nil => simp at h2
    | cons v vs =>
      cases i with
      | zero => simp [packB, List.getD]
      | succ i =>
        have := ih vs i (by simpa using h1) (by simpa using h2)
        simp only [List.take_succ_cons, packB, this, List.append_assoc]
        simp [List.getD]
theorem sum_take_nat (l : List Nat) (k : Nat) (hk : k < l.length) : (l.take (k + 1)).sum = (l.take k).sum + l.getD k 0 := by
  have e : l.getD k 0 = l[k] := by simp [hk]
  rw [e, List.take_succ_eq_append_getElem hk, List.sum_append]; simp
theorem sum_take_le (l : List Nat) (k : Nat) : (l.take k).sum ≤ l.sum := by
  conv => rhs; rw [← List.take_append_drop k l]
  rw [List.sum_append]; omega

/-- all bits of bytes -/
def rowB (bs : List UInt8) : List Bool := (List.range (8 * bs.length)).map (bitB bs)
@[simp] theorem rowB_length (bs : List UInt8) : (rowB bs).length = 8 * bs.length := by simp [rowB]
theorem rowB_getD (bs : List UInt8) (i : Nat) : (rowB bs).getD i false = if i < 8 * bs.length then bitB bs i else false := by
  unfold rowB
  by_cases h : i < 8 * bs.length <;> simp [List.getD, h]
theorem byte_ext (x y : UInt8) (h : ∀ q, q < 8 → x.toNat.testBit q = y.toNat.testBit q) : x = y := by
  apply UInt8.toNat_inj.1
  apply Nat.eq_of_testBit_eq
  intro q
  by_cases hq : q < 8
  · exact h q hq
  · have h8 : (2 : Nat) ^ 8 ≤ 2 ^ q := Nat.pow_le_pow_right (by omega) (by omega)
    rw [Nat.testBit_lt_two_pow (Nat.lt_of_lt_of_le x.toNat_lt h8), Nat.testBit_lt_two_pow (Nat.lt_of_lt_of_le y.toNat_lt h8)]
/-- bits tell the bytes -/
theorem bytes_ext (a b : List UInt8) (hl : a.length = b.length) (h : ∀ m, m < 8 * a.length → bitB a m = bitB b m) : a = b := by
  apply List.ext_getElem hl
  intro i h1 h2
  apply byte_ext
  intro q hq
  have := h (8 * i + (7 - q)) (by omega)
  unfold bitB at this
  rw [show (8 * i + (7 - q)) / 8 = i from by omega, show 7 - (8 * i + (7 - q)) % 8 = q from by omega] at this
  simpa [List.getD, h1, h2] using this

/-- the widths as numbers -/
def nat (l : List Int) : List Nat := l.map Int.toNat
@[simp] theorem nat_length (l : List Int) : (nat l).length = l.length := by simp [nat]
theorem nat_getD (l : List Int) (i : Nat) : (nat l).getD i 0 = (l.getD i 0).toNat := by
  unfold nat
  by_cases h : i < l.length <;> simp [List.getD, h]
theorem spanOf_some {l : List Int} {t : Int} (h : spanOf l = some t) : (∀ i, i < l.length → 0 ≤ l.getD i 0 ∧ l.getD i 0 ≤ 64) ∧ t = ((nat l).sum : Int) := by
  unfold spanOf at h
  split at h
  · rename_i ha
    rw [List.all_eq_true] at ha
    refine ⟨fun i hi => ?_, ?_⟩
    · have := ha l[i] (List.getElem_mem hi)
      have e : l.getD i 0 = l[i] := by simp [hi]
      rw [e]; simpa using this
    · injection h with h
      rw [← h]
      clear h
      induction l with
      | nil => simp [nat]
      | cons x r ih =>
        have hx := ha x (by simp)
        simp only [decide_eq_true_eq] at hx
        have := ih (fun y hy => ha y (by simp [hy]))
        simp only [List.sum_cons, nat, List.map_cons] at *
        omega
  · cases h
theorem nat_sum_le (l : List Int) (h : ∀ i, i < l.length → 0 ≤ l.getD i 0 ∧ l.getD i 0 ≤ 64) : (nat l).sum ≤ 64 * l.length := by
  induction l with
  | nil => simp [nat]
  | cons x r ih =>
    have h0 := h 0 (by simp)
    have := ih (fun i hi => by simpa [List.getD] using h (i + 1) (by simp; omega))
    simp only [nat, List.map_cons, List.sum_cons, List.length_cons, List.getD_cons_zero] at *
    omega
/-- what Pack takes -/
def PackOk (l : List Int) (vs : List Nat) : Prop := (spanOf l).isSome ∧ l.length = vs.length ∧ ∀ i, i < l.length → vs.getD i 0 < 2 ^ (l.getD i 0).toNat
/-- what Pack makes -/
def IsPack (l : List Int) (vs : List Nat) (cs : List UInt8) : Prop := cs.length = ((nat l).sum + 7) / 8 ∧ ∀ m, m < 8 * cs.length → bitB cs m = (packB (nat l) vs).getD m false
theorem IsPack.unique {l : List Int} {vs : List Nat} {a b : List UInt8} (ha : IsPack l vs a) (hb : IsPack l vs b) : a = b :=
  bytes_ext a b (ha.1.trans hb.1.symm) fun m hm => by rw [ha.2 m hm, hb.2 m (by have := ha.1; have := hb.1; omega)]
def IsPackTo (l : List Int) (vs : List Nat) (cs : List UInt8) (i : Nat) : Prop := cs.length = ((nat l).sum + 7) / 8 ∧ ∀ m, m < 8 * cs.length → bitB cs m = (packB ((nat l).take i) (vs.take i)).getD m false
theorem zeros_bit (n m : Nat) : bitB (List.replicate n 0) m = false := by
  unfold bitB
  have : (List.replicate n (0 : UInt8)).getD (m / 8) 0 = 0 := by
    by_cases h : m / 8 < n <;> simp [List.getD, h]
  rw [this]; simp
theorem IsPackTo.start (l : List Int) (vs : List Nat) : IsPackTo l vs (List.replicate (((nat l).sum + 7) / 8) 0) 0 := ⟨by simp, fun m _ => by rw [zeros_bit]; simp [packB]⟩
theorem IsPackTo.stop {l : List Int} {vs : List Nat} {cs : List UInt8} (hl : l.length = vs.length) (h : IsPackTo l vs cs l.length) : IsPack l vs cs := by
  refine ⟨h.1, fun m hm => ?_⟩
  rw [h.2 m hm, List.take_of_length_le (by simp), List.take_of_length_le (by omega)]
theorem IsPackTo.step {l : List Int} {vs : List Nat} {cs ds : List UInt8} {i : Nat} (h : IsPackTo l vs cs i) (hl : l.length = vs.length) (hi : i < l.length)
    (hp : IsPut cs ds ((nat l).take i).sum (l.getD i 0).toNat (vs.getD i 0)) : IsPackTo l vs ds (i + 1) := by
  refine ⟨hp.1.trans h.1, fun m hm => ?_⟩
  have hm' : m < 8 * cs.length := by have := hp.1; omega
  rw [hp.2 m hm', packB_take _ _ _ (by simpa using hi) (by omega), nat_getD]
  have hlen : (packB ((nat l).take i) (vs.take i)).length = ((nat l).take i).sum := packB_length _ _ (by simp; omega)
  have h2 := h.2 m hm'
  by_cases c : ((nat l).take i).sum ≤ m ∧ m < ((nat l).take i).sum + (l.getD i 0).toNat
  · rw [if_pos c, getD_right _ _ _ _ (by omega), hlen, dig_getD _ _ _ (by omega)]
  · rw [if_neg c, h2]
    by_cases c2 : m < ((nat l).take i).sum
    · rw [getD_left _ _ _ _ (by omega)]
    · rw [getD_right _ _ _ _ (by omega), hlen]
      generalize (l.getD i 0).toNat = N at *
      simp only [List.getD]
      rw [List.getElem?_eq_none (by omega), List.getElem?_eq_none (by rw [dig_length]; omega)]
end Go.Proofs.Ytcadnlilijkneaa
