/-
  The law package's questions of size; Has and SameChain of the document's answer. No claim of their own.
-/
import Derived.Test.YtcadnlilijkneaaGreatGb3
import Derived.Test.YtcadnlilijkneaaGreatGb1
import Derived.Deep.Grids
import Derived.Deep.Fields
import Derived.Lib.SmallJoins
import Derived.Test.YtcadnlilijkneaaGreatGb2
namespace Go.Proofs.YtcadnlilijkneaaGreat
open Go.RowKit Go.Deep Go.Shelf
set_option linter.unusedVariables false
set_option linter.unusedSimpArgs false

set_option maxHeartbeats 1000000 in
theorem fitsC_any (L : List ChT) (a : Option Addr) (c B : Nat) (w : World) (hro : Ro w B a (chv L)) (hB : B ≤ w.heap.size) (hl : L.length ≤ 9223372036854775807) :
    Calls Tryz.prog 56 #[.slice a L.length c] w fun e w' => (∃ t, e = .returned (.bool t)) ∧ Below w.heap.size w w' := by
  have HRO := Lib.hid hro
  have HS := Lib.hid hB
  generalize hN : L.length = n at *
  have HN := Lib.hid hN
  have hn1 : (n : Int) ≤ 9223372036854775807 := by omega
  clear hro hB hN
  go_enter Tryz.func56, Tryz.ntmps56
  go_wp2_with fail
  go_loopw [3] (fun i wr => ∃ k : Nat, k ≤ n ∧ k ≤ 10 ∧ i = .int .i64 (k : Int) ∧ Hid (Below w.heap.size w wr)) (fun i _ => n - (Go.RowKit.intOf i).toNat)
  case atStart => exact ⟨0, Nat.zero_le _, Nat.zero_le _, rfl, Lib.hid (Below.refl _ _)⟩
  case round =>
    obtain ⟨k, hk, hk10, rfl, HBk⟩ := hrel
    by_cases hlt : k < n
    · have hkL : k < L.length := by rw [HN.out]; exact hlt
      obtain ⟨b, off, rfl, hb, hc⟩ := (HRO.out.below HBk.out HS.out).ch (show 0 < L.length by omega)
      have e1 := hc k hkL
      clear hc
      have hk0 : (0 : Int) ≤ (k : Int) := by omega
      have hk1 : (k : Int) < (n : Int) := by omega
      have hk2 : (k : Int) ≤ 10 := by omega
      generalize (ct L k).a = x2 at *
      generalize (ct L k).u.length = x3 at *
      generalize (ct L k).c = x4 at *
      by_cases h10 : k = 10
      · subst h10
        go_wp2_with fail
        go_ret
        exact ⟨⟨_, rfl⟩, HBk.out⟩
      · have h10' : ((k : Int) == 10) = false := by rw [beq_eq_false_iff_ne]; omega
        have HK10 := Lib.hid h10
        by_cases h3 : 10 < x3
        · have h3' : decide ((10 : Int) < (x3 : Int)) = true := by simp; omega
          clear h10 h3
          go_wp2_with fail
          go_ret
          exact ⟨⟨_, rfl⟩, HBk.out⟩
        · have h3' : decide ((10 : Int) < (x3 : Int)) = false := by simp; omega
          clear h10 h3
          go_wp2_with fail
          go_roundw
          case rel => exact ⟨k + 1, by omega, by have := HK10.out; omega, by go_num, HBk⟩
          case measure => simp [Go.RowKit.intOf]; omega
    · obtain rfl : k = n := by omega
      go_wp2_with fail
      go_ret
      exact ⟨⟨_, rfl⟩, HBk.out⟩

set_option maxHeartbeats 1000000 in
theorem fitsL_any (A : LyT) (B : Nat) (w : World) (h : LyIn w B A) (hB : B ≤ w.heap.size) (hf : SgFit A.sg) :
    Calls Tryz.prog 11 #[A.val] w fun e w' => (∃ t, e = .returned (.bool t)) ∧ Below w.heap.size w w' := by
  obtain ⟨W, HWW⟩ : ∃ W, Hid (w.alloc (.cells #[.int .u64 (A.e : Int), .slice A.a A.sg.length A.c, .int .i64 A.q] 26) = W) := ⟨_, Lib.hid rfl⟩
  have hWb : Below w.heap.size w W := by rw [← HWW.out]; exact (Below.refl _ _).alloc (Nat.le_refl _) _
  have o1 : Own W w.heap.size 26 [.int .u64 (A.e : Int), .slice A.a A.sg.length A.c, .int .i64 A.q] := by rw [← HWW.out]; exact Own.new w _ _
  have HIN := Lib.hid h
  have HB := Lib.hid hWb
  have HO := Lib.hid o1
  have HS := Lib.hid hB
  have HF := Lib.hid hf
  have hfl := hf.1
  clear h hWb o1 hB hf
  obtain ⟨ep, sa, c, L, q⟩ := A
  simp only [LyT.val] at *
  generalize hN : L.length = n at *
  have HN := Lib.hid hN
  have hn1 : (n : Int) ≤ 9223372036854775807 := by omega
  clear hN
  go_enter Tryz.func11, Tryz.ntmps11
  go_upto_region 1 with fail
  rw [HWW.out]
  go_wp2_with fail
  go_loopw [3] (fun i wr => ∃ k : Nat, k ≤ n ∧ k ≤ 10 ∧ i = .int .i64 (k : Int) ∧ Hid (Below w.heap.size w wr) ∧ Hid (Own wr w.heap.size 26 [.int .u64 (ep : Int), .slice sa n c, .int .i64 q])) (fun i _ => n - (Go.RowKit.intOf i).toNat)
  case atStart => exact ⟨0, Nat.zero_le _, Nat.zero_le _, rfl, HB, HO⟩
  case round =>
    obtain ⟨k, hk, hk10, rfl, HBk, HOk⟩ := hrel
    have d1 := HOk.out.cell 1
    have hz := HOk.out.lt
    simp at d1
    by_cases hlt : k < n
    · have hkL : k < L.length := by rw [HN.out]; exact hlt
      obtain ⟨b, off, rfl, hb, hc⟩ := (HIN.out.1.below HBk.out HS.out).sg (show 0 < L.length by omega)
      obtain ⟨e1, e2⟩ := hc k hkL
      clear hc
      have hk0 : (0 : Int) ≤ (k : Int) := by omega
      have hk1 : (k : Int) < (n : Int) := by omega
      have hk2 : (k : Int) ≤ 10 := by omega
      have HC := Lib.hid (fitsC_any (st L k).ch (st L k).a (st L k).c B wr ((HIN.out.2 _ (st_mem hkL)).1.below HBk.out HS.out) (Nat.le_trans HS.out HBk.out.size) (HF.out.2 _ (st_mem hkL)).1)
      generalize (st L k).f = x1 at *
      generalize (st L k).a = x2 at *
      generalize (st L k).ch.length = x3 at *
      generalize (st L k).c = x4 at *
      go_wp2_with fail
      refine HC.out.mono ?_
      rintro e w1 ⟨⟨t, rfl⟩, hb1⟩
      have HB1 := Lib.hid (HBk.out.trans (hb1.mono HBk.out.size))
      have HO1 := Lib.hid (HOk.out.below hb1 HOk.out.lt)
      clear hb1
      cases t with
      | false =>
        go_wp2_with fail
        go_ret
        exact ⟨⟨_, rfl⟩, HB1.out⟩
      | true =>
        by_cases h10 : k = 10
        · subst h10
          go_wp2_with fail
          go_ret
          exact ⟨⟨_, rfl⟩, HB1.out⟩
        · have h10' : ((k : Int) == 10) = false := by rw [beq_eq_false_iff_ne]; omega
          have HK10 := Lib.hid h10
          clear h10
          go_wp2_with fail
          go_roundw
          case rel => exact ⟨k + 1, by omega, by have := HK10.out; omega, by go_num, HB1, HO1⟩
          case measure => simp [Go.RowKit.intOf]; omega
    · obtain rfl : k = n := by omega
      go_wp2_with fail
      go_ret
      exact ⟨⟨_, rfl⟩, HBk.out⟩

abbrev folV (a1 : Option Addr) (n1 c1 : Nat) (a2 : Option Addr) (n2 c2 : Nat) (sq : Int) (f : Nat) (a3 : Option Addr) (n3 c3 : Nat) : Value := .agg #[.slice a1 n1 c1, .slice a2 n2 c2, .int .i64 sq, .int .u64 (f : Int), .slice a3 n3 c3]
end Go.Proofs.YtcadnlilijkneaaGreat
namespace Go.Proofs.YtcadnlilijkneaaGreat
open Go.RowKit Go.ChangeShapes Go.WideShapes Go.Deep
set_option linter.unusedVariables false
set_option linter.unusedSimpArgs false

section
variable {H : Type} {enc : TypeId × Value → H} {w : World} {base : Nat} {held : Bool}
theorem row_ints {n : Nat} {v : Value} {y : DataW H × List MemPlace} (h : DataW.trod enc Tryz.prog w base (fun _ => true) held n 46 [v] = some y) :
    ∃ (a : Option Addr) (L : List Int) (c : Nat), v = .slice a L.length c ∧ Ro w w.heap.size a (i64s L) ∧ L.length ≤ c ∧ c ≤ 9223372036854775807 ∧ (a = none → c = 0) := by
  have hrow : ∃ a l c zs, v = .slice a l c ∧ IsRow .i64 w a l c zs := by
    rcases open_ints Tryz.underlying46 Tryz.underlying3 (by kernel_rfl) h with ⟨hc, _⟩ | ⟨a, l, c, zs, hc, _, hl, hm, hz, _, hcell, hwz⟩
    · exact ⟨none, 0, 0, [], by simpa using hc, .inl ⟨rfl, rfl, rfl, rfl⟩⟩
    · exact ⟨some a, l, c, zs, by simpa using hc, .inr ⟨a, rfl, hl, hm, by simpa using hz, hcell, hwz⟩⟩
  obtain ⟨a, l, c, zs, rfl, hr⟩ := hrow
  obtain ⟨bs, h1, h2, h3, h4, _⟩ := hr.i64s
  have := hr.cap_le
  exact ⟨a, bs, c, by rw [h1], h4, by omega, by omega, h3⟩
set_option maxRecDepth 100000 in
theorem row_chs {n : Nat} {v : Value} {y : DataW H × List MemPlace} (h : DataW.trod enc Tryz.prog w base (fun _ => true) held n 82 [v] = some y) :
    ∃ (a : Option Addr) (M : List ChT) (c : Nat), v = .slice a M.length c ∧ Ro w w.heap.size a (chv M) ∧ ChIn w w.heap.size M ∧ ChFit M := by
  rcases open_slice Tryz.underlying82 h with ⟨hc, _⟩ | ⟨a, len, cap, m, k, D, Pl, hc, _, hl, hm, hmm, _, hi⟩
  · exact ⟨none, [], 0, by simpa using hc, Ro.nil _ _ _, by intro c hc; simp at hc, by constructor <;> simp⟩
  · have hc1 : Tryz.prog.cellsOf 46 = 1 := by kernel_rfl
    simp only [if_true] at hmm
    subst hmm
    have hall : ∀ i, i < m → ∃ T : ChT, w.cell? (a.add i) = some T.val ∧ Ro w w.heap.size T.a (i64s T.u) ∧ T.u.length ≤ 9223372036854775807 := by
      intro i him
      obtain ⟨cs, h1, h2⟩ := hi i him
      rw [hc1, Nat.mul_one] at h1
      obtain ⟨hl1, _, h3⟩ := World.cells?_some h1
      have hcs : ∃ v, cs = [v] := by
        match cs, hl1 with
        | [v], _ => exact ⟨v, rfl⟩
      obtain ⟨v, rfl⟩ := hcs
      obtain ⟨b, L, c, rfl, g1, g2, g3, _⟩ := row_ints h2
      refine ⟨⟨b, c, L⟩, ?_, g1, by show L.length ≤ _; omega⟩
      have := h3 0 (by omega)
      simpa [Addr.add, ChT.val] using this
    obtain ⟨A, hA⟩ : ∃ A : Nat → ChT, ∀ i, i < m → w.cell? (a.add i) = some (A i).val ∧ Ro w w.heap.size (A i).a (i64s (A i).u) ∧ (A i).u.length ≤ 9223372036854775807 :=
      ⟨fun i => if hi : i < m then Classical.choose (hall i hi) else ⟨none, 0, []⟩, fun i him => by
        have := Classical.choose_spec (hall i him)
        dsimp only
        rw [dif_pos him]
        exact this⟩
    refine ⟨some a, (List.range len).map A, m, by simpa using hc, ?_, fun c hcm => ?_, ?_, fun c hcm => ?_⟩
    · rcases Nat.eq_zero_or_pos len with h0 | h0
      · subst h0; exact .inl rfl
      · obtain ⟨b, off, spot⟩ := a
        have hc0 := (hA 0 (by omega)).1
        have hspot : spot = none := by simpa [Addr.add] using World.cell?_spot hc0
        subst hspot
        have hb := World.block_lt_of_cell? w _ hc0
        refine .inr ⟨b, off, rfl, by simpa [add_off] using hb, fun i hi => ?_⟩
        rw [chv_length, List.length_map, List.length_range] at hi
        have g1 := (hA i (by omega)).1
        rw [add_off] at g1
        rw [g1]
        simp [chv, List.getD, hi]
    · rw [List.mem_map] at hcm
      obtain ⟨i, hi, rfl⟩ := hcm
      exact (hA i (by have := List.mem_range.1 hi; omega)).2.1
    · simp; unfold maxLen at hm; omega
    · rw [List.mem_map] at hcm
      obtain ⟨i, hi, rfl⟩ := hcm
      exact (hA i (by have := List.mem_range.1 hi; omega)).2.2
set_option maxRecDepth 100000 in
theorem trod_seg {n : Nat} {cs : List Value} {y : DataW H × List MemPlace} (h : DataW.trod enc Tryz.prog w base (fun _ => true) held n 84 cs = some y) :
    ∃ S : SgT, cs = [.int .u64 (S.f : Int), .slice S.a S.ch.length S.c] ∧ Ro w w.heap.size S.a (chv S.ch) ∧ ChIn w w.heap.size S.ch ∧ ChFit S.ch := by
  obtain ⟨xs, m, _, _, hlen, hxl, hf⟩ := DataW.trod_struct Tryz.underlying84 h
  have hc2 : cs.length = 2 := hlen.trans (by kernel_rfl)
  match cs, hc2, xs, hxl with
  | [c0, c1], _, [x0, x1], _ =>
    have g0 : DataW.trod enc Tryz.prog w base (fun _ => true) held m 23 (([c0, c1].drop 0).take (Tryz.prog.cellsOf 23)) = some x0 := hf 0 _ rfl
    have g1 : DataW.trod enc Tryz.prog w base (fun _ => true) held m 82 (([c0, c1].drop 1).take (Tryz.prog.cellsOf 82)) = some x1 := hf 1 _ rfl
    rw [show Tryz.prog.cellsOf 23 = 1 by kernel_rfl] at g0
    rw [show Tryz.prog.cellsOf 82 = 1 by kernel_rfl] at g1
    simp only [List.drop_zero, List.drop_succ_cons, List.take_succ_cons, List.take_zero] at g0 g1
    obtain ⟨s, e0, _, hw0⟩ := DataW.trod_int Tryz.underlying23 g0
    obtain ⟨a, M, c, rfl, k1, k2, k3⟩ := row_chs g1
    simp only [List.cons.injEq, and_true] at e0
    subst e0
    have h1 := bounds_u64 hw0
    refine ⟨⟨s.toNat, a, c, M⟩, ?_, k1, k2, k3⟩
    simp only
    rw [show ((s.toNat : Nat) : Int) = s by omega]
set_option maxRecDepth 100000 in
theorem row_segs {n : Nat} {v : Value} {y : DataW H × List MemPlace} (h : DataW.trod enc Tryz.prog w base (fun _ => true) held n 24 [v] = some y) :
    ∃ (a : Option Addr) (L : List SgT) (c : Nat), v = .slice a L.length c ∧ Ro w w.heap.size a (sgv L) ∧ SgIn w w.heap.size L ∧ SgFit L := by
  rcases open_slice Tryz.underlying24 h with ⟨hc, _⟩ | ⟨a, len, cap, m, k, D, Pl, hc, _, hl, hm, hmm, _, hi⟩
  · exact ⟨none, [], 0, by simpa using hc, Ro.nil _ _ _, by intro c hc; simp at hc, by constructor <;> simp⟩
  · have hc2 : Tryz.prog.cellsOf 84 = 2 := by kernel_rfl
    simp only [if_true] at hmm
    subst hmm
    have hall : ∀ i, i < m → ∃ S : SgT, (Ro w w.heap.size S.a (chv S.ch) ∧ ChIn w w.heap.size S.ch ∧ ChFit S.ch) ∧ w.cell? (a.add (i * 2)) = some (.int .u64 (S.f : Int)) ∧ w.cell? ((a.add (i * 2)).add 1) = some (.slice S.a S.ch.length S.c) := by
      intro i him
      obtain ⟨cs, h1, h2⟩ := hi i him
      rw [hc2] at h1
      obtain ⟨_, _, h3⟩ := World.cells?_some h1
      obtain ⟨S, rfl, hr⟩ := trod_seg h2
      refine ⟨S, hr, ?_, h3 1 (by omega)⟩
      have := h3 0 (by omega)
      simpa [Addr.add] using this
    obtain ⟨A, hA⟩ : ∃ A : Nat → SgT, ∀ i, i < m → (Ro w w.heap.size (A i).a (chv (A i).ch) ∧ ChIn w w.heap.size (A i).ch ∧ ChFit (A i).ch) ∧ w.cell? (a.add (i * 2)) = some (.int .u64 ((A i).f : Int)) ∧ w.cell? ((a.add (i * 2)).add 1) = some (.slice (A i).a (A i).ch.length (A i).c) :=
      ⟨fun i => if hi : i < m then Classical.choose (hall i hi) else ⟨0, none, 0, []⟩, fun i him => by
        have := Classical.choose_spec (hall i him)
        dsimp only
        rw [dif_pos him]
        exact this⟩
    refine ⟨some a, (List.range len).map A, m, by simpa using hc, ?_, fun s hs => ?_, ?_, fun s hs => ?_⟩
    · rcases Nat.eq_zero_or_pos len with h0 | h0
      · subst h0; exact .inl rfl
      · obtain ⟨b, off, spot⟩ := a
        have hc0 := (hA 0 (by omega)).2.1
        have hspot : spot = none := by simpa [Addr.add] using World.cell?_spot hc0
        subst hspot
        have hb := World.block_lt_of_cell? w _ hc0
        refine .inr ⟨b, off, rfl, by simpa [add_off] using hb, fun i hi => ?_⟩
        rw [sgv_length, List.length_map, List.length_range] at hi
        have hi2 : i / 2 < len := by omega
        have hel : ((List.range len).map A)[i / 2]? = some (A (i / 2)) := by simp [hi2]
        obtain ⟨_, g1, g2⟩ := hA (i / 2) (by omega)
        obtain ⟨e1, e2⟩ := sgv_get ((List.range len).map A) (i / 2)
        rw [hel] at e1 e2
        have hp : i % 2 = 0 ∨ i % 2 = 1 := by omega
        rcases hp with hp | hp
        · have ei : i = i / 2 * 2 := by omega
          rw [ei]
          rw [add_off] at g1
          rw [g1]
          simp only [List.getD, e1, Option.map_some, Option.getD_some]
        · have ei : i = i / 2 * 2 + 1 := by omega
          rw [ei]
          rw [add_off, add_off] at g2
          rw [← Nat.add_assoc, g2]
          simp only [List.getD, e2, Option.map_some, Option.getD_some]
    · rw [List.mem_map] at hs
      obtain ⟨i, hi, rfl⟩ := hs
      have := (hA i (by have := List.mem_range.1 hi; omega)).1
      exact ⟨this.1, this.2.1⟩
    · simp; unfold maxLen at hm; omega
    · rw [List.mem_map] at hs
      obtain ⟨i, hi, rfl⟩ := hs
      exact (hA i (by have := List.mem_range.1 hi; omega)).1.2.2
structure LyOk (w : World) (A : LyT) : Prop where
  inn : LyIn w w.heap.size A
  fit : SgFit A.sg
  e : A.e ≤ 18446744073709551615
  q : -9223372036854775808 ≤ A.q ∧ A.q ≤ 9223372036854775807
structure FoT where
  a1 : Option Addr
  c1 : Nat
  dr : List Int
  a2 : Option Addr
  c2 : Nat
  fr : List Int
  q : Int
  f : Nat
  a3 : Option Addr
  c3 : Nat
  ch : List ChT
def FoT.val (F : FoT) : Value := folV F.a1 F.dr.length F.c1 F.a2 F.fr.length F.c2 F.q F.f F.a3 F.ch.length F.c3
end
end Go.Proofs.YtcadnlilijkneaaGreat
namespace Go.Proofs.YtcadnlilijkneaaGreat
open Go.RowKit Go.ChangeShapes Go.WideShapes Go.Deep
set_option linter.unusedVariables false
set_option linter.unusedSimpArgs false

section
variable {H : Type} {enc : TypeId × Value → H} {w : World} {base : Nat} {held : Bool}
theorem row_u8 {n : Nat} {v : Value} {y : DataW H × List MemPlace} (h : DataW.trod enc Tryz.prog w base (fun _ => true) held n 42 [v] = some y) :
    ∃ (a : Option Addr) (bs : List UInt8) (c : Nat), v = .slice a bs.length c ∧ Ro w w.heap.size a (u8s bs) ∧ bs.length ≤ c ∧ c ≤ 9223372036854775807 := by
  have hrow : ∃ a l c zs, v = .slice a l c ∧ IsRow .u8 w a l c zs := by
    rcases open_ints Tryz.underlying42 Tryz.underlying5 (by kernel_rfl) h with ⟨hc, _⟩ | ⟨a, l, c, zs, hc, _, hl, hm, hz, _, hcell, hwz⟩
    · exact ⟨none, 0, 0, [], by simpa using hc, .inl ⟨rfl, rfl, rfl, rfl⟩⟩
    · exact ⟨some a, l, c, zs, by simpa using hc, .inr ⟨a, rfl, hl, hm, by simpa using hz, hcell, hwz⟩⟩
  obtain ⟨a, l, c, zs, rfl, hr⟩ := hrow
  obtain ⟨bs, h1, h2, h3, h4⟩ := hr.u8s
  have := hr.cap_le
  exact ⟨a, bs, c, by rw [h1], h4, by omega, by omega⟩
structure CeT where
  x : Ce
  a : Option Addr
  c : Nat
  a2 : Option Addr
  c2 : Nat
def CeT.val (A : CeT) : Value := cev A.x.k A.a A.x.d.length A.c A.a2 A.x.b.length A.c2
end
end Go.Proofs.YtcadnlilijkneaaGreat
