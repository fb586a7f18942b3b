/-
  The law package's questions of size; Has and SameChain of the document's answer. No claim of their own.
-/
import Derived.Test.YtihbinphmlgjoaaGreatGa2
import Derived.Test.YtihbinphmlgjoaaGreatGa1
import Derived.Deep.Grids
import Derived.Deep.Fields
import Derived.Lib.SmallJoins
import Derived.Deep.MidRow
import Derived.Maps.RangeWalk
import Derived.Maps.OwnSet
import Derived.Maps.Ext
import Derived.Lib.SlKeysI
import Derived.Carry
import Derived.Laws.MakeOwn
import Derived.Laws.StructEq
namespace Go.Proofs.YtihbinphmlgjoaaGreat
open Go.RowKit Go.Deep Go.Shelf
set_option linter.unusedVariables false
set_option linter.unusedSimpArgs false

set_option maxHeartbeats 1000000 in
theorem has_any (L : List Int) (x : Int) (a : Option Addr) (c B : Nat) (w : World) (hro : Ro w B a (i64s L)) (hB : B ≤ w.heap.size) (hl : L.length ≤ 1000000) :
    Calls Tryz.prog 160 #[.slice a L.length c, .int .i64 x] w fun e w' => e = .returned (.bool (decide (x ∈ L))) ∧ Below w.heap.size w w' := by
  have HRO := Lib.hid hro
  have HS := Lib.hid hB
  generalize hN : L.length = n at *
  have HN := Lib.hid hN
  have hn1 : (n : Int) ≤ 1000000 := by omega
  obtain ⟨t, HT⟩ : ∃ t, Hid (decide (x ∈ L) = t) := ⟨_, Lib.hid rfl⟩
  rw [HT.out]
  clear hro hB hN
  go_enter Tryz.func160, Tryz.ntmps160
  go_wp2_with fail
  go_loopw [5] (fun i wr => ∃ k : Nat, k ≤ n ∧ i = .int .i64 (k : Int) ∧ Hid (∀ j, j < k → L.getD j 0 ≠ x) ∧ Hid (Below w.heap.size w wr)) (fun i _ => n - (Go.RowKit.intOf i).toNat)
  case atStart => exact ⟨0, Nat.zero_le _, rfl, Lib.hid (by omega), Lib.hid (Below.refl _ _)⟩
  case round =>
    obtain ⟨k, hk, rfl, HM, HBk⟩ := hrel
    by_cases hlt : k < n
    · have hkL : k < L.length := by rw [HN.out]; exact hlt
      obtain ⟨b, off, rfl, hb, hc⟩ := (HRO.out.below HBk.out HS.out).i64 (show 0 < L.length by omega)
      have e1 := hc k hkL
      clear hc
      have hk0 : (0 : Int) ≤ (k : Int) := by omega
      have hk1 : (k : Int) < (n : Int) := by omega
      have HMEM : Hid (L.getD k 0 ∈ L) := Lib.hid (by simp [List.getD, hkL])
      obtain ⟨y, hy⟩ : ∃ y, L.getD k 0 = y := ⟨_, rfl⟩
      rw [hy] at e1
      have HY := Lib.hid hy
      clear hy
      by_cases hx : y = x
      · subst hx
        obtain rfl : t = true := by rw [← HT.out]; simp only [decide_eq_true_eq]; rw [← HY.out]; exact HMEM.out
        go_wp2_with fail
        go_ret
        exact ⟨rfl, HBk.out⟩
      · have hx' : (y == x) = false := by rw [beq_eq_false_iff_ne]; exact hx
        have HX := Lib.hid hx
        clear hx
        go_wp2_with fail
        go_roundw
        case rel =>
          refine ⟨k + 1, by omega, by go_num, Lib.hid fun j hj => ?_, HBk⟩
          by_cases e : j = k
          · subst e; rw [HY.out]; exact HX.out
          · exact HM.out j (by omega)
        case measure => simp [Go.RowKit.intOf]; omega
    · obtain rfl : k = n := by omega
      obtain rfl : t = false := by
        rw [← HT.out]
        simp only [decide_eq_false_iff_not]
        intro hm
        obtain ⟨j, hj, e⟩ := List.getElem_of_mem hm
        exact HM.out j (by rw [HN.out] at hj; exact hj) (by simp [List.getD, hj, e])
      go_wp2_with fail
      go_ret
      exact ⟨rfl, HBk.out⟩

set_option maxHeartbeats 1000000 in
theorem sameChain_any (L M : List Int) (a a2 : Option Addr) (c c2 B : Nat) (w : World) (hro : Ro w B a (i64s L)) (hro2 : Ro w B a2 (i64s M)) (hB : B ≤ w.heap.size) (hl : L.length ≤ 1000000) (hl2 : M.length ≤ 1000000) :
    Calls Tryz.prog 104 #[.slice a L.length c, .slice a2 M.length c2] w fun e w' => e = .returned (.bool (decide (L = M))) ∧ Below w.heap.size w w' := by
  by_cases hlm : L.length = M.length
  · have HRO := Lib.hid hro
    have HRO2 := Lib.hid hro2
    have HS := Lib.hid hB
    have HN2 := Lib.hid hlm
    rw [← hlm] at hl2 ⊢
    generalize hN : L.length = n at *
    have HN := Lib.hid hN
    have hn1 : (n : Int) ≤ 1000000 := by omega
    obtain ⟨t, HT⟩ : ∃ t, Hid (decide (L = M) = t) := ⟨_, Lib.hid rfl⟩
    rw [HT.out]
    clear hro hro2 hB hN hlm hl2
    go_enter Tryz.func104, Tryz.ntmps104
    go_wp2_with fail
    go_loopw [5] (fun i wr => ∃ k : Nat, k ≤ n ∧ i = .int .i64 (k : Int) ∧ Hid (∀ j, j < k → L.getD j 0 = M.getD j 0) ∧ Hid (Below w.heap.size w wr)) (fun i _ => n - (Go.RowKit.intOf i).toNat)
    case atStart => exact ⟨0, Nat.zero_le _, rfl, Lib.hid (by omega), Lib.hid (Below.refl _ _)⟩
    case round =>
      obtain ⟨k, hk, rfl, HM, HBk⟩ := hrel
      by_cases hlt : k < n
      · have hkL : k < L.length := by rw [HN.out]; exact hlt
        have hkM : k < M.length := by rw [← HN2.out]; exact hlt
        obtain ⟨b, off, rfl, hb, hc⟩ := (HRO.out.below HBk.out HS.out).i64 (show 0 < L.length by omega)
        obtain ⟨b2, off2, rfl, hb2, hc2⟩ := (HRO2.out.below HBk.out HS.out).i64 (show 0 < M.length by omega)
        have e1 := hc k hkL
        have e2 := hc2 k hkM
        clear hc hc2
        have hk0 : (0 : Int) ≤ (k : Int) := by omega
        have hk1 : (k : Int) < (n : Int) := by omega
        obtain ⟨y, hy⟩ : ∃ y, L.getD k 0 = y := ⟨_, rfl⟩
        obtain ⟨z, hz⟩ : ∃ z, M.getD k 0 = z := ⟨_, rfl⟩
        rw [hy] at e1
        rw [hz] at e2
        have HY := Lib.hid hy
        have HZ := Lib.hid hz
        clear hy hz
        by_cases hx : y = z
        · have hx' : (y != z) = false := by rw [bne_eq_false_iff_eq]; exact hx
          have HX := Lib.hid hx
          clear hx
          go_wp2_with fail
          go_region
          go_wp2_with fail
          go_roundw
          case rel =>
            refine ⟨k + 1, by omega, by go_num, Lib.hid fun j hj => ?_, Lib.hid HBk.out.drew⟩
            by_cases e : j = k
            · subst e; rw [HY.out, HZ.out]; exact HX.out
            · exact HM.out j (by omega)
          case measure => simp [Go.RowKit.intOf]; omega
        · have hx' : (y != z) = true := by rw [bne_iff_ne]; exact hx
          obtain rfl : t = false := by
            rw [← HT.out]
            simp only [decide_eq_false_iff_not]
            rintro rfl
            exact hx (HY.out.symm.trans HZ.out)
          clear hx
          go_wp2_with fail
          go_region
          go_wp2_with fail
          go_ret
          exact ⟨rfl, HBk.out.drew⟩
      · obtain rfl : k = n := by omega
        obtain rfl : t = true := by
          rw [← HT.out]
          simp only [decide_eq_true_eq]
          apply List.ext_getElem (by rw [HN.out]; exact HN2.out)
          intro i h1 h2
          have := HM.out i (by rw [HN.out] at h1; exact h1)
          simpa [List.getD, h1, h2] using this
        go_wp2_with fail
        go_ret
        exact ⟨rfl, HBk.out⟩
  · have e : decide (L = M) = false := by simp only [decide_eq_false_iff_not]; rintro rfl; exact hlm rfl
    rw [e]
    generalize L.length = n at *
    generalize M.length = m at *
    have hne : ((n : Int) != (m : Int)) = true := by rw [bne_iff_ne]; omega
    clear hlm e hro hro2
    go_enter Tryz.func104, Tryz.ntmps104
    go_wp2_with fail
    go_ret
    exact ⟨rfl, Below.refl _ _⟩

set_option maxHeartbeats 1000000 in
theorem fitsC_any (L : List ChT) (a : Option Addr) (c B : Nat) (w : World) (hro : Ro w B a (chv L)) (hB : B ≤ w.heap.size) (hl : L.length ≤ 9223372036854775807) :
    Calls Tryz.prog 81 #[.slice a L.length c] w fun e w' => (∃ t, e = .returned (.bool t)) ∧ Below w.heap.size w w' := by
  have HRO := Lib.hid hro
  have HS := Lib.hid hB
  generalize hN : L.length = n at *
  have HN := Lib.hid hN
  have hn1 : (n : Int) ≤ 9223372036854775807 := by omega
  clear hro hB hN
  go_enter Tryz.func81, Tryz.ntmps81
  go_wp2_with fail
  go_loopw [3] (fun i wr => ∃ k : Nat, k ≤ n ∧ k ≤ 10 ∧ i = .int .i64 (k : Int) ∧ Hid (Below w.heap.size w wr)) (fun i _ => n - (Go.RowKit.intOf i).toNat)
  case atStart => exact ⟨0, Nat.zero_le _, Nat.zero_le _, rfl, Lib.hid (Below.refl _ _)⟩
  case round =>
    obtain ⟨k, hk, hk10, rfl, HBk⟩ := hrel
    by_cases hlt : k < n
    · have hkL : k < L.length := by rw [HN.out]; exact hlt
      obtain ⟨b, off, rfl, hb, hc⟩ := (HRO.out.below HBk.out HS.out).ch (show 0 < L.length by omega)
      have e1 := hc k hkL
      clear hc
      have hk0 : (0 : Int) ≤ (k : Int) := by omega
      have hk1 : (k : Int) < (n : Int) := by omega
      have hk2 : (k : Int) ≤ 10 := by omega
      generalize (ct L k).a = x2 at *
      generalize (ct L k).u.length = x3 at *
      generalize (ct L k).c = x4 at *
      by_cases h10 : k = 10
      · subst h10
        go_wp2_with fail
        go_ret
        exact ⟨⟨_, rfl⟩, HBk.out⟩
      · have h10' : ((k : Int) == 10) = false := by rw [beq_eq_false_iff_ne]; omega
        have HK10 := Lib.hid h10
        by_cases h3 : 10 < x3
        · have h3' : decide ((10 : Int) < (x3 : Int)) = true := by simp; omega
          clear h10 h3
          go_wp2_with fail
          go_ret
          exact ⟨⟨_, rfl⟩, HBk.out⟩
        · have h3' : decide ((10 : Int) < (x3 : Int)) = false := by simp; omega
          clear h10 h3
          go_wp2_with fail
          go_roundw
          case rel => exact ⟨k + 1, by omega, by have := HK10.out; omega, by go_num, HBk⟩
          case measure => simp [Go.RowKit.intOf]; omega
    · obtain rfl : k = n := by omega
      go_wp2_with fail
      go_ret
      exact ⟨⟨_, rfl⟩, HBk.out⟩

set_option maxHeartbeats 1000000 in
theorem fitsL_any (A : LyT) (B : Nat) (w : World) (h : LyIn w B A) (hB : B ≤ w.heap.size) (hf : SgFit A.sg) :
    Calls Tryz.prog 40 #[A.val] w fun e w' => (∃ t, e = .returned (.bool t)) ∧ Below w.heap.size w w' := by
  obtain ⟨W, HWW⟩ : ∃ W, Hid (w.alloc (.cells #[.int .u64 (A.e : Int), .slice A.a A.sg.length A.c, .int .i64 A.q] 42) = W) := ⟨_, Lib.hid rfl⟩
  have hWb : Below w.heap.size w W := by rw [← HWW.out]; exact (Below.refl _ _).alloc (Nat.le_refl _) _
  have o1 : Own W w.heap.size 42 [.int .u64 (A.e : Int), .slice A.a A.sg.length A.c, .int .i64 A.q] := by rw [← HWW.out]; exact Own.new w _ _
  have HIN := Lib.hid h
  have HB := Lib.hid hWb
  have HO := Lib.hid o1
  have HS := Lib.hid hB
  have HF := Lib.hid hf
  have hfl := hf.1
  clear h hWb o1 hB hf
  obtain ⟨ep, sa, c, L, q⟩ := A
  simp only [LyT.val] at *
  generalize hN : L.length = n at *
  have HN := Lib.hid hN
  have hn1 : (n : Int) ≤ 9223372036854775807 := by omega
  clear hN
  go_enter Tryz.func40, Tryz.ntmps40
  go_upto_region 1 with fail
  rw [HWW.out]
  go_wp2_with fail
  go_loopw [3] (fun i wr => ∃ k : Nat, k ≤ n ∧ k ≤ 10 ∧ i = .int .i64 (k : Int) ∧ Hid (Below w.heap.size w wr) ∧ Hid (Own wr w.heap.size 42 [.int .u64 (ep : Int), .slice sa n c, .int .i64 q])) (fun i _ => n - (Go.RowKit.intOf i).toNat)
  case atStart => exact ⟨0, Nat.zero_le _, Nat.zero_le _, rfl, HB, HO⟩
  case round =>
    obtain ⟨k, hk, hk10, rfl, HBk, HOk⟩ := hrel
    have d1 := HOk.out.cell 1
    have hz := HOk.out.lt
    simp at d1
    by_cases hlt : k < n
    · have hkL : k < L.length := by rw [HN.out]; exact hlt
      obtain ⟨b, off, rfl, hb, hc⟩ := (HIN.out.1.below HBk.out HS.out).sg (show 0 < L.length by omega)
      obtain ⟨e1, e2⟩ := hc k hkL
      clear hc
      have hk0 : (0 : Int) ≤ (k : Int) := by omega
      have hk1 : (k : Int) < (n : Int) := by omega
      have hk2 : (k : Int) ≤ 10 := by omega
      have HC := Lib.hid (fitsC_any (st L k).ch (st L k).a (st L k).c B wr ((HIN.out.2 _ (st_mem hkL)).1.below HBk.out HS.out) (Nat.le_trans HS.out HBk.out.size) (HF.out.2 _ (st_mem hkL)).1)
      generalize (st L k).f = x1 at *
      generalize (st L k).a = x2 at *
      generalize (st L k).ch.length = x3 at *
      generalize (st L k).c = x4 at *
      go_wp2_with fail
      refine HC.out.mono ?_
      rintro e w1 ⟨⟨t, rfl⟩, hb1⟩
      have HB1 := Lib.hid (HBk.out.trans (hb1.mono HBk.out.size))
      have HO1 := Lib.hid (HOk.out.below hb1 HOk.out.lt)
      clear hb1
      cases t with
      | false =>
        go_wp2_with fail
        go_ret
        exact ⟨⟨_, rfl⟩, HB1.out⟩
      | true =>
        by_cases h10 : k = 10
        · subst h10
          go_wp2_with fail
          go_ret
          exact ⟨⟨_, rfl⟩, HB1.out⟩
        · have h10' : ((k : Int) == 10) = false := by rw [beq_eq_false_iff_ne]; omega
          have HK10 := Lib.hid h10
          clear h10
          go_wp2_with fail
          go_roundw
          case rel => exact ⟨k + 1, by omega, by have := HK10.out; omega, by go_num, HB1, HO1⟩
          case measure => simp [Go.RowKit.intOf]; omega
    · obtain rfl : k = n := by omega
      go_wp2_with fail
      go_ret
      exact ⟨⟨_, rfl⟩, HBk.out⟩

/-- what is asked of a layout, by value -/
abbrev folV (a1 : Option Addr) (n1 c1 : Nat) (a2 : Option Addr) (n2 c2 : Nat) (sq : Int) (f : Nat) (a3 : Option Addr) (n3 c3 : Nat) : Value := .agg #[.slice a1 n1 c1, .slice a2 n2 c2, .int .i64 sq, .int .u64 (f : Int), .slice a3 n3 c3]
end Go.Proofs.YtihbinphmlgjoaaGreat
namespace Go.Proofs.YtihbinphmlgjoaaGreat
open Go.RowKit Go.ChangeShapes Go.WideShapes Go.Deep
set_option linter.unusedVariables false
set_option linter.unusedSimpArgs false

section
variable {H : Type} {enc : TypeId × Value → H} {w : World} {base : Nat} {held : Bool}
theorem row_ints {n : Nat} {v : Value} {y : DataW H × List MemPlace} (h : DataW.trod enc Tryz.prog w base (fun _ => true) held n 77 [v] = some y) :
    ∃ (a : Option Addr) (L : List Int) (c : Nat), v = .slice a L.length c ∧ Ro w w.heap.size a (i64s L) ∧ L.length ≤ c ∧ c ≤ 9223372036854775807 ∧ (a = none → c = 0) := by
  have hrow : ∃ a l c zs, v = .slice a l c ∧ IsRow .i64 w a l c zs := by
    rcases open_ints Tryz.underlying77 Tryz.underlying3 (by kernel_rfl) h with ⟨hc, _⟩ | ⟨a, l, c, zs, hc, _, hl, hm, hz, _, hcell, hwz⟩
    · exact ⟨none, 0, 0, [], by simpa using hc, .inl ⟨rfl, rfl, rfl, rfl⟩⟩
    · exact ⟨some a, l, c, zs, by simpa using hc, .inr ⟨a, rfl, hl, hm, by simpa using hz, hcell, hwz⟩⟩
  obtain ⟨a, l, c, zs, rfl, hr⟩ := hrow
  obtain ⟨bs, h1, h2, h3, h4, _⟩ := hr.i64s
  have := hr.cap_le
  exact ⟨a, bs, c, by rw [h1], h4, by omega, by omega, h3⟩
set_option maxRecDepth 100000 in
theorem row_chs {n : Nat} {v : Value} {y : DataW H × List MemPlace} (h : DataW.trod enc Tryz.prog w base (fun _ => true) held n 78 [v] = some y) :
    ∃ (a : Option Addr) (M : List ChT) (c : Nat), v = .slice a M.length c ∧ Ro w w.heap.size a (chv M) ∧ ChIn w w.heap.size M ∧ ChFit M := by
  rcases open_slice Tryz.underlying78 h with ⟨hc, _⟩ | ⟨a, len, cap, m, k, D, Pl, hc, _, hl, hm, hmm, _, hi⟩
  · exact ⟨none, [], 0, by simpa using hc, Ro.nil _ _ _, by intro c hc; simp at hc, by constructor <;> simp⟩
  · have hc1 : Tryz.prog.cellsOf 77 = 1 := by kernel_rfl
    simp only [if_true] at hmm
    subst hmm
    have hall : ∀ i, i < m → ∃ T : ChT, w.cell? (a.add i) = some T.val ∧ Ro w w.heap.size T.a (i64s T.u) ∧ T.u.length ≤ 9223372036854775807 := by
      intro i him
      obtain ⟨cs, h1, h2⟩ := hi i him
      rw [hc1, Nat.mul_one] at h1
      obtain ⟨hl1, _, h3⟩ := World.cells?_some h1
      have hcs : ∃ v, cs = [v] := by
        match cs, hl1 with
        | [v], _ => exact ⟨v, rfl⟩
      obtain ⟨v, rfl⟩ := hcs
      obtain ⟨b, L, c, rfl, g1, g2, g3, _⟩ := row_ints h2
      refine ⟨⟨b, c, L⟩, ?_, g1, by show L.length ≤ _; omega⟩
      have := h3 0 (by omega)
      simpa [Addr.add, ChT.val] using this
    obtain ⟨A, hA⟩ : ∃ A : Nat → ChT, ∀ i, i < m → w.cell? (a.add i) = some (A i).val ∧ Ro w w.heap.size (A i).a (i64s (A i).u) ∧ (A i).u.length ≤ 9223372036854775807 :=
      ⟨fun i => if hi : i < m then Classical.choose (hall i hi) else ⟨none, 0, []⟩, fun i him => by
        have := Classical.choose_spec (hall i him)
        dsimp only
        rw [dif_pos him]
        exact this⟩
    refine ⟨some a, (List.range len).map A, m, by simpa using hc, ?_, fun c hcm => ?_, ?_, fun c hcm => ?_⟩
    · rcases Nat.eq_zero_or_pos len with h0 | h0
      · subst h0; exact .inl rfl
      · obtain ⟨b, off, spot⟩ := a
        have hc0 := (hA 0 (by omega)).1
        have hspot : spot = none := by simpa [Addr.add] using World.cell?_spot hc0
        subst hspot
        have hb := World.block_lt_of_cell? w _ hc0
        refine .inr ⟨b, off, rfl, by simpa [add_off] using hb, fun i hi => ?_⟩
        rw [chv_length, List.length_map, List.length_range] at hi
        have g1 := (hA i (by omega)).1
        rw [add_off] at g1
        rw [g1]
        simp [chv, List.getD, hi]
    · rw [List.mem_map] at hcm
      obtain ⟨i, hi, rfl⟩ := hcm
      exact (hA i (by have := List.mem_range.1 hi; omega)).2.1
    · simp; unfold maxLen at hm; omega
    · rw [List.mem_map] at hcm
      obtain ⟨i, hi, rfl⟩ := hcm
      exact (hA i (by have := List.mem_range.1 hi; omega)).2.2
set_option maxRecDepth 100000 in
theorem trod_seg {n : Nat} {cs : List Value} {y : DataW H × List MemPlace} (h : DataW.trod enc Tryz.prog w base (fun _ => true) held n 80 cs = some y) :
    ∃ S : SgT, cs = [.int .u64 (S.f : Int), .slice S.a S.ch.length S.c] ∧ Ro w w.heap.size S.a (chv S.ch) ∧ ChIn w w.heap.size S.ch ∧ ChFit S.ch := by
  obtain ⟨xs, m, _, _, hlen, hxl, hf⟩ := DataW.trod_struct Tryz.underlying80 h
  have hc2 : cs.length = 2 := hlen.trans (by kernel_rfl)
  match cs, hc2, xs, hxl with
  | [c0, c1], _, [x0, x1], _ =>
    have g0 : DataW.trod enc Tryz.prog w base (fun _ => true) held m 37 (([c0, c1].drop 0).take (Tryz.prog.cellsOf 37)) = some x0 := hf 0 _ rfl
    have g1 : DataW.trod enc Tryz.prog w base (fun _ => true) held m 78 (([c0, c1].drop 1).take (Tryz.prog.cellsOf 78)) = some x1 := hf 1 _ rfl
    rw [show Tryz.prog.cellsOf 37 = 1 by kernel_rfl] at g0
    rw [show Tryz.prog.cellsOf 78 = 1 by kernel_rfl] at g1
    simp only [List.drop_zero, List.drop_succ_cons, List.take_succ_cons, List.take_zero] at g0 g1
    obtain ⟨s, e0, _, hw0⟩ := DataW.trod_int Tryz.underlying37 g0
    obtain ⟨a, M, c, rfl, k1, k2, k3⟩ := row_chs g1
    simp only [List.cons.injEq, and_true] at e0
    subst e0
    have h1 := bounds_u64 hw0
    refine ⟨⟨s.toNat, a, c, M⟩, ?_, k1, k2, k3⟩
    simp only
    rw [show ((s.toNat : Nat) : Int) = s by omega]
set_option maxRecDepth 100000 in
theorem row_segs {n : Nat} {v : Value} {y : DataW H × List MemPlace} (h : DataW.trod enc Tryz.prog w base (fun _ => true) held n 40 [v] = some y) :
    ∃ (a : Option Addr) (L : List SgT) (c : Nat), v = .slice a L.length c ∧ Ro w w.heap.size a (sgv L) ∧ SgIn w w.heap.size L ∧ SgFit L := by
  rcases open_slice Tryz.underlying40 h with ⟨hc, _⟩ | ⟨a, len, cap, m, k, D, Pl, hc, _, hl, hm, hmm, _, hi⟩
  · exact ⟨none, [], 0, by simpa using hc, Ro.nil _ _ _, by intro c hc; simp at hc, by constructor <;> simp⟩
  · have hc2 : Tryz.prog.cellsOf 80 = 2 := by kernel_rfl
    simp only [if_true] at hmm
    subst hmm
    have hall : ∀ i, i < m → ∃ S : SgT, (Ro w w.heap.size S.a (chv S.ch) ∧ ChIn w w.heap.size S.ch ∧ ChFit S.ch) ∧ w.cell? (a.add (i * 2)) = some (.int .u64 (S.f : Int)) ∧ w.cell? ((a.add (i * 2)).add 1) = some (.slice S.a S.ch.length S.c) := by
      intro i him
      obtain ⟨cs, h1, h2⟩ := hi i him
      rw [hc2] at h1
      obtain ⟨_, _, h3⟩ := World.cells?_some h1
      obtain ⟨S, rfl, hr⟩ := trod_seg h2
      refine ⟨S, hr, ?_, h3 1 (by omega)⟩
      have := h3 0 (by omega)
      simpa [Addr.add] using this
    obtain ⟨A, hA⟩ : ∃ A : Nat → SgT, ∀ i, i < m → (Ro w w.heap.size (A i).a (chv (A i).ch) ∧ ChIn w w.heap.size (A i).ch ∧ ChFit (A i).ch) ∧ w.cell? (a.add (i * 2)) = some (.int .u64 ((A i).f : Int)) ∧ w.cell? ((a.add (i * 2)).add 1) = some (.slice (A i).a (A i).ch.length (A i).c) :=
      ⟨fun i => if hi : i < m then Classical.choose (hall i hi) else ⟨0, none, 0, []⟩, fun i him => by
        have := Classical.choose_spec (hall i him)
        dsimp only
        rw [dif_pos him]
        exact this⟩
    refine ⟨some a, (List.range len).map A, m, by simpa using hc, ?_, fun s hs => ?_, ?_, fun s hs => ?_⟩
    · rcases Nat.eq_zero_or_pos len with h0 | h0
      · subst h0; exact .inl rfl
      · obtain ⟨b, off, spot⟩ := a
        have hc0 := (hA 0 (by omega)).2.1
        have hspot : spot = none := by simpa [Addr.add] using World.cell?_spot hc0
        subst hspot
        have hb := World.block_lt_of_cell? w _ hc0
        refine .inr ⟨b, off, rfl, by simpa [add_off] using hb, fun i hi => ?_⟩
        rw [sgv_length, List.length_map, List.length_range] at hi
        have hi2 : i / 2 < len := by omega
        have hel : ((List.range len).map A)[i / 2]? = some (A (i / 2)) := by simp [hi2]
        obtain ⟨_, g1, g2⟩ := hA (i / 2) (by omega)
        obtain ⟨e1, e2⟩ := sgv_get ((List.range len).map A) (i / 2)
        rw [hel] at e1 e2
        have hp : i % 2 = 0 ∨ i % 2 = 1 := by omega
        rcases hp with hp | hp
        · have ei : i = i / 2 * 2 := by omega
          rw [ei]
          rw [add_off] at g1
          rw [g1]
          simp only [List.getD, e1, Option.map_some, Option.getD_some]
        · have ei : i = i / 2 * 2 + 1 := by omega
          rw [ei]
          rw [add_off, add_off] at g2
          rw [← Nat.add_assoc, g2]
          simp only [List.getD, e2, Option.map_some, Option.getD_some]
    · rw [List.mem_map] at hs
      obtain ⟨i, hi, rfl⟩ := hs
      have := (hA i (by have := List.mem_range.1 hi; omega)).1
      exact ⟨this.1, this.2.1⟩
    · simp; unfold maxLen at hm; omega
    · rw [List.mem_map] at hs
      obtain ⟨i, hi, rfl⟩ := hs
      exact (hA i (by have := List.mem_range.1 hi; omega)).1.2.2
/-- a layout that came in -/
structure LyOk (w : World) (A : LyT) : Prop where
  inn : LyIn w w.heap.size A
  fit : SgFit A.sg
  e : A.e ≤ 18446744073709551615
  q : -9223372036854775808 ≤ A.q ∧ A.q ≤ 9223372036854775807
set_option maxRecDepth 100000 in
theorem open_layoutV {r : Reach} {b0 : Nat} {v : Value} {d : DataW H} {p : List MemPlace} (hv : Value.okWide Tryz.prog w r b0 42 v) (h : DataW.Trod enc Tryz.prog w base (fun _ => true) held 42 v d p) :
    ∃ A : LyT, v = A.val ∧ LyOk w A := by
  obtain ⟨cs, rfl, hsz⟩ := okWide_struct Tryz.underlying42 hv
  obtain ⟨fuel, hf⟩ := h
  obtain ⟨xs, m, _, _, hlen, hxl, hf⟩ := DataW.trod_struct Tryz.underlying42 hf
  have hc3 : cs.toList.length = 3 := hlen.trans (by kernel_rfl)
  obtain ⟨cl⟩ := cs
  match cl, hc3, xs, hxl with
  | [c0, c1, c2], _, [x0, x1, x2], _ =>
    have g0 : DataW.trod enc Tryz.prog w base (fun _ => true) held m 37 (([c0, c1, c2].drop 0).take (Tryz.prog.cellsOf 37)) = some x0 := hf 0 _ rfl
    have g1 : DataW.trod enc Tryz.prog w base (fun _ => true) held m 40 (([c0, c1, c2].drop 1).take (Tryz.prog.cellsOf 40)) = some x1 := hf 1 _ rfl
    have g2 : DataW.trod enc Tryz.prog w base (fun _ => true) held m 3 (([c0, c1, c2].drop 2).take (Tryz.prog.cellsOf 3)) = some x2 := hf 2 _ rfl
    rw [show Tryz.prog.cellsOf 37 = 1 by kernel_rfl] at g0
    rw [show Tryz.prog.cellsOf 40 = 1 by kernel_rfl] at g1
    rw [show Tryz.prog.cellsOf 3 = 1 by kernel_rfl] at g2
    simp only [List.drop_zero, List.drop_succ_cons, List.take_succ_cons, List.take_zero] at g0 g1 g2
    obtain ⟨s, e0, _, hw0⟩ := DataW.trod_int Tryz.underlying37 g0
    obtain ⟨a, L, c, rfl, k1, k2, k3⟩ := row_segs g1
    obtain ⟨q, e2, _, hw2⟩ := DataW.trod_int Tryz.underlying3 g2
    simp only [List.cons.injEq, and_true] at e0 e2
    subst e0 e2
    have h1 := bounds_u64 hw0
    refine ⟨⟨s.toNat, a, c, L, q⟩, ?_, ⟨k1, k2⟩, k3, by show s.toNat ≤ _; omega, bounds_i64 hw2⟩
    unfold LyT.val
    simp only
    rw [show ((s.toNat : Nat) : Int) = s by omega]
/-- what is asked of a layout, that came in -/
structure FoT where
  a1 : Option Addr
  c1 : Nat
  dr : List Int
  a2 : Option Addr
  c2 : Nat
  fr : List Int
  q : Int
  f : Nat
  a3 : Option Addr
  c3 : Nat
  ch : List ChT
def FoT.val (F : FoT) : Value := folV F.a1 F.dr.length F.c1 F.a2 F.fr.length F.c2 F.q F.f F.a3 F.ch.length F.c3
structure FoOk (w : World) (F : FoT) : Prop where
  dr : Ro w w.heap.size F.a1 (i64s F.dr)
  fr : Ro w w.heap.size F.a2 (i64s F.fr)
  fc : F.fr.length ≤ F.c2 ∧ F.c2 ≤ 9223372036854775807 ∧ (F.a2 = none → F.c2 = 0)
  f : F.f ≤ 18446744073709551615
  ch : Ro w w.heap.size F.a3 (chv F.ch)
  chi : ChIn w w.heap.size F.ch
  chf : ChFit F.ch
end
end Go.Proofs.YtihbinphmlgjoaaGreat
namespace Go.Proofs.YtihbinphmlgjoaaGreat
open Go.RowKit Go.ChangeShapes Go.WideShapes Go.Deep
set_option linter.unusedVariables false
set_option linter.unusedSimpArgs false

section
variable {H : Type} {enc : TypeId × Value → H} {w : World} {base : Nat} {held : Bool}
theorem row_u8 {n : Nat} {v : Value} {y : DataW H × List MemPlace} (h : DataW.trod enc Tryz.prog w base (fun _ => true) held n 44 [v] = some y) :
    ∃ (a : Option Addr) (bs : List UInt8) (c : Nat), v = .slice a bs.length c ∧ Ro w w.heap.size a (u8s bs) ∧ bs.length ≤ c ∧ c ≤ 9223372036854775807 := by
  have hrow : ∃ a l c zs, v = .slice a l c ∧ IsRow .u8 w a l c zs := by
    rcases open_ints Tryz.underlying44 Tryz.underlying5 (by kernel_rfl) h with ⟨hc, _⟩ | ⟨a, l, c, zs, hc, _, hl, hm, hz, _, hcell, hwz⟩
    · exact ⟨none, 0, 0, [], by simpa using hc, .inl ⟨rfl, rfl, rfl, rfl⟩⟩
    · exact ⟨some a, l, c, zs, by simpa using hc, .inr ⟨a, rfl, hl, hm, by simpa using hz, hcell, hwz⟩⟩
  obtain ⟨a, l, c, zs, rfl, hr⟩ := hrow
  obtain ⟨bs, h1, h2, h3, h4⟩ := hr.u8s
  have := hr.cap_le
  exact ⟨a, bs, c, by rw [h1], h4, by omega, by omega⟩
/-- a cell that came in: where its parts lie -/
structure CeT where
  x : Ce
  a : Option Addr
  c : Nat
  a2 : Option Addr
  c2 : Nat
/-- its ranges, and its rows -/
structure CeOk (w : World) (A : CeT) : Prop where
  k : -9223372036854775808 ≤ A.x.k ∧ A.x.k ≤ 9223372036854775807
  d : Ro w w.heap.size A.a (u8s A.x.d)
  dl : A.x.d.length ≤ 9223372036854775807
  b : Ro w w.heap.size A.a2 (bcs A.x.b)
  bl : A.x.b.length ≤ 9223372036854775807
  fit : ∀ b ∈ A.x.b, FitB b
def CeT.val (A : CeT) : Value := cev A.x.k A.a A.x.d.length A.c A.a2 A.x.b.length A.c2
end
end Go.Proofs.YtihbinphmlgjoaaGreat
namespace Go.Proofs.YtihbinphmlgjoaaGreat
set_option linter.unusedVariables false
set_option linter.unusedSimpArgs false
open Go.RowKit Go.Maps

abbrev Sec := List UInt8
def zsec : Sec := List.replicate 64 0
theorem zsec_len : zsec.length = 64 := by simp [zsec]
/-- a sector as a value -/
abbrev sv (S : Sec) : Value := .agg (u8s S).toArray
theorem u8s_one (S : Sec) : ∀ v ∈ u8s S, v.oneCell' = true := by
  intro v hv
  simp only [u8s, List.mem_map] at hv
  obtain ⟨x, _, rfl⟩ := hv
  rfl
theorem u8s_inj {S T : Sec} (h : u8s S = u8s T) : S = T := by
  unfold u8s at h
  refine List.map_inj_right (fun x y e => ?_) |>.1 h
  simp only [Value.int.injEq, true_and] at e
  exact UInt8.toNat_inj.1 (by omega)
theorem sv_inj {S T : Sec} (h : sv S = sv T) : S = T := by
  unfold sv at h
  simp only [Value.agg.injEq] at h
  exact u8s_inj (by simpa using h)

/-- how a sector's value reads -/
def secD (S : Sec) : DataW Unit := .agg (S.map fun x => .lit (.int .u8 (x.toNat : Int)))
theorem secD_inj {S T : Sec} (h : secD S = secD T) : S = T := by
  unfold secD at h
  simp only [DataW.agg.injEq] at h
  refine List.map_inj_right (fun x y e => ?_) |>.1 h
  simp only [DataW.lit.injEq, Lit.int.injEq, true_and] at e
  exact UInt8.toNat_inj.1 (by omega)
open Classical in
noncomputable def secR (v : Value) : Option (DataW Unit × List MemPlace) :=
  if h : ∃ S : Sec, S.length = 64 ∧ v = sv S then some (secD (Classical.choose h), []) else none
theorem secR_sv {S : Sec} (h : S.length = 64) : secR (sv S) = some (secD S, []) := by
  unfold secR
  have hx : ∃ T : Sec, T.length = 64 ∧ sv S = sv T := ⟨S, h, rfl⟩
  rw [dif_pos hx]
  have := Classical.choose_spec hx
  rw [← sv_inj this.2]
theorem secR_inv {v : Value} {z : DataW Unit × List MemPlace} (h : secR v = some z) : ∃ S : Sec, S.length = 64 ∧ v = sv S ∧ z = (secD S, []) := by
  unfold secR at h
  split at h
  · rename_i hx
    cases h
    have := Classical.choose_spec hx
    exact ⟨_, this.1, this.2, rfl⟩
  · cases h

/-- the literal of key i -/
def ik (i : Nat) : Lit := .int .i64 (i : Int)
theorem ik_inj {i j : Nat} (h : ik i = ik j) : i = j := by
  simp only [ik, Lit.int.injEq, true_and] at h
  omega
theorem ik_isKey (i : Nat) : WideAt.IsKeyLit (ik i) := by simp [ik, WideAt.IsKeyLit]
/-- the datum of the map m -/
structure MapOf (m : Nat → Option Sec) (D : DataW Unit) : Prop where
  some_ : ∀ i S, m i = some S → has D (ik i) = true ∧ ∀ z, D.atKey (ik i) z = secD S
  none_ : ∀ i, m i = none → has D (ik i) = false
  keys : ∀ kl, has D kl = true → ∃ i, kl = ik i

def upd (m : Nat → Option Sec) (i : Nat) (S : Sec) : Nat → Option Sec := fun j => if j = i then some S else m j
def updF (F : Nat → Sec) (i : Nat) (S : Sec) : Nat → Sec := fun j => if j = i then S else F j
/-- what is read -/
def now (F : Nat → Sec) (m : Nat → Option Sec) (i : Nat) : Sec := (m i).getD (F i)

theorem MapOf.empty : MapOf (fun _ => none) (.map []) := ⟨fun _ _ h => (by cases h), fun _ _ => rfl, fun kl h => by simp [has] at h⟩
theorem MapOf.put {m : Nat → Option Sec} {D : DataW Unit} (h : MapOf m D) (hD : IsMap D) (i : Nat) (S : Sec) : MapOf (upd m i S) (D.put (ik i) (secD S)) := by
  have hne : ∀ j, j ≠ i → ik j ≠ ik i := fun j hj e => hj (ik_inj e)
  refine ⟨fun j T hj => ?_, fun j hj => ?_, fun kl hkl => ?_⟩
  · by_cases e : j = i
    · subst e
      simp only [upd, if_true, Option.some.injEq] at hj
      subst hj
      exact ⟨has_put_same hD (ik_isKey j) _, fun z => atKey_put_same hD (ik_isKey j) _ z⟩
    · simp only [upd, if_neg e] at hj
      obtain ⟨h1, h2⟩ := h.some_ j T hj
      exact ⟨by rw [has_put_other (hne j e)]; exact h1, fun z => by rw [atKey_put_other (hne j e)]; exact h2 z⟩
  · by_cases e : j = i
    · subst e
      simp [upd] at hj
    · simp only [upd, if_neg e] at hj
      rw [has_put_other (hne j e)]
      exact h.none_ j hj
  · by_cases e : kl = ik i
    · exact ⟨i, e⟩
    · rw [has_put_other e] at hkl
      exact h.keys kl hkl

/-- the dirty sectors in increasing order -/
def dirtyL (n : Nat) (m : Nat → Option Sec) : List Nat := (List.range n).filter fun i => (m i).isSome
theorem dirtyL_le (n : Nat) (m : Nat → Option Sec) : (dirtyL n m).length ≤ n := by
  have := List.length_filter_le (fun i => (m i).isSome) (List.range n)
  simpa [dirtyL] using this
theorem dirtyL_nodup (n : Nat) (m : Nat → Option Sec) : (dirtyL n m).Nodup := List.nodup_range.filter _
theorem mem_dirtyL {n : Nat} {m : Nat → Option Sec} {i : Nat} : i ∈ dirtyL n m ↔ i < n ∧ (m i).isSome = true := by simp [dirtyL]
def dirtyZ (n : Nat) (m : Nat → Option Sec) : List Int := (dirtyL n m).map fun (i : Nat) => (i : Int)
theorem keys_perm {m : Nat → Option Sec} {D : DataW Unit} {n : Nat} (h : MapOf m D) (hm : ∀ i S, m i = some S → i < n) (hT : ∃ es, D = .map es ∧ es.Pairwise (fun p q => p.1 ≠ q.1) ∧ ∀ p ∈ es, WideAt.IsKeyLit p.1) : (dirtyZ n m).Perm (intKeys D) := by
  obtain ⟨es, rfl, hpw, hk⟩ := hT
  refine perm_intKeys hpw (fun p hp => ?_) ?_ (fun x => ?_)
  · obtain ⟨i, hi⟩ := h.keys p.1 (List.any_eq_true.2 ⟨p, hp, WideAt.sameKey_self (hk p hp)⟩)
    exact ⟨i, hi⟩
  · exact List.Pairwise.map _ (fun a b (hab : a ≠ b) e => hab (by omega)) (dirtyL_nodup n m)
  · simp only [dirtyZ, List.mem_map]
    constructor
    · rintro ⟨i, hi, rfl⟩
      obtain ⟨_, h2⟩ := mem_dirtyL.1 hi
      obtain ⟨S, hS⟩ := Option.isSome_iff_exists.1 h2
      exact (h.some_ i S hS).1
    · intro hx
      obtain ⟨i, hi⟩ := h.keys _ hx
      have e : x = (i : Int) := by simpa [ik] using hi
      subst e
      refine ⟨i, mem_dirtyL.2 ?_, rfl⟩
      cases hS : m i with
      | none => have := h.none_ i hS; rw [ik] at this; rw [this] at hx; cases hx
      | some S => exact ⟨hm i S hS, rfl⟩
theorem dirtyZ_sorted (n : Nat) (m : Nat → Option Sec) : (dirtyZ n m).Pairwise (fun a b => leI a b = true) := by
  refine List.Pairwise.map _ (fun a b (hab : a < b) => ?_) (List.Pairwise.filter _ List.pairwise_lt_range)
  simp only [leI, decide_eq_true_eq]
  omega
theorem keys_sorted {m : Nat → Option Sec} {D : DataW Unit} {n : Nat} {ss : List Int} (hp : (dirtyZ n m).Perm (intKeys D)) (hs : ss.Perm (intKeys D)) : ss.mergeSort (fun x y => decide (x ≤ y)) = dirtyZ n m := by
  have e := mergeSort_of_perm_i (hs.trans hp.symm)
  have e2 : (dirtyZ n m).mergeSort leI = dirtyZ n m := List.mergeSort_of_pairwise (dirtyZ_sorted n m)
  exact e.trans e2
theorem size_intKeys {H : Type} (D : DataW H) : (intKeys D).length = size D := by cases D <;> simp [intKeys, size]

/-- a disk: its struct in block p, its row in block g, its map in block b; n sectors, F what was flushed, m what is dirty -/
structure Dsk (w : World) (p g b n : Nat) (F : Nat → Sec) (m : Nat → Option Sec) : Prop where
  flu : ∃ c, w.cell? ⟨p, 0, none⟩ = some (.slice (some ⟨g, 0, none⟩) n c)
  dir : w.cell? ⟨p, 1, none⟩ = some (.map (some b))
  one : 1 ≤ n
  top : n ≤ 1024
  lenF : ∀ i, (F i).length = 64
  lenM : ∀ i S, m i = some S → S.length = 64 ∧ i < n
  rng : ∀ i, i < n → w.rangeAt g (i * 64) (u8s (F i))
  the : w.there g 0 (n * 64)
  own : ∃ D, w.ownsMap Tryz.prog 3 secR b n D ∧ MapOf m D
  pg : p ≠ g
  pb : p ≠ b
  gb : g ≠ b
theorem Dsk.lenN {w : World} {p g b n : Nat} {F : Nat → Sec} {m : Nat → Option Sec} (h : Dsk w p g b n F m) (i : Nat) : (now F m i).length = 64 := by
  unfold now
  cases hm : m i with
  | none => simpa using h.lenF i
  | some S => simpa using (h.lenM i S hm).1
theorem Dsk.ltp {w : World} {p g b n : Nat} {F : Nat → Sec} {m : Nat → Option Sec} (h : Dsk w p g b n F m) : p < w.heap.size := World.block_lt_of_cell? w _ h.dir
theorem Dsk.ltb {w : World} {p g b n : Nat} {F : Nat → Sec} {m : Nat → Option Sec} (h : Dsk w p g b n F m) : b < w.heap.size := by obtain ⟨D, h1, _⟩ := h.own; exact h1.lt
theorem Dsk.ltg {w : World} {p g b n : Nat} {F : Nat → Sec} {m : Nat → Option Sec} (h : Dsk w p g b n F m) : g < w.heap.size := by
  have h1 := (h.the 0 (by have := h.one; omega)).1
  obtain ⟨u, hu⟩ := Option.isSome_iff_exists.1 h1
  exact World.block_lt_of_cell? w _ hu
/-- a disk is kept while other blocks turn -/
theorem Dsk.keep {w w' : World} {p g b n : Nat} {F : Nat → Sec} {m : Nat → Option Sec} (h : Dsk w p g b n F m) {l : List Nat} (hc : Chg l w w') (hp : p ∉ l) (hg : g ∉ l) (hb : b ∉ l) : Dsk w' p g b n F m := by
  obtain ⟨c, hf⟩ := h.flu
  obtain ⟨D, ho, hm⟩ := h.own
  have hlt := h.ltb
  refine ⟨⟨c, hc.cell hf hp⟩, hc.cell h.dir hp, h.one, h.top, h.lenF, h.lenM, fun i hi => hc.range (h.rng i hi) hg, hc.there h.the hg, ⟨D, ?_, hm⟩, h.pg, h.pb, h.gb⟩
  obtain ⟨es, clock, hes, hrest⟩ := ho
  exact ⟨es, clock, (hc.block b hlt hb).trans hes, hrest⟩
theorem Dsk.kept {w w' : World} {p g b n : Nat} {F : Nat → Sec} {m : Nat → Option Sec} (h : Dsk w p g b n F m) (hc : Chg [] w w') : Dsk w' p g b n F m := h.keep hc (by simp) (by simp) (by simp)
theorem Dsk.low {w w' : World} {p g b n : Nat} {F : Nat → Sec} {m : Nat → Option Sec} (h : Dsk w p g b n F m) (hb : Below w.heap.size w w') : Dsk w' p g b n F m := h.kept ((Chg.refl [] w).of_below hb)
end Go.Proofs.YtihbinphmlgjoaaGreat
namespace Go.Proofs.YtihbinphmlgjoaaGreat
open Go.RowKit Go.Maps
set_option linter.unusedVariables false
set_option linter.unusedSimpArgs false

def nilp : Value := .pointer none
/-- a new disk's struct and map -/
def cleanW (w : World) (v : Value) : World := (w.alloc (.map #[] 0)).alloc (.cells #[v, .map (some w.heap.size)] 122)
theorem clean_any (w : World) (a : Option Addr) (n c : Nat) :
    Calls Tryz.prog 29 #[.slice a n c] w fun e w' => e = .returned (.pointer (some ⟨w.heap.size + 1, 0, none⟩)) ∧ w' = cleanW w (.slice a n c) := by
  have hmm := @run_makeMap Tryz.prog
  go_enter Tryz.func29, Tryz.ntmps29
  go_wp2
  go_ret
  exact ⟨rfl, rfl⟩
theorem check_nil (w : World) (i : Int) :
    Calls Tryz.prog 50 #[.pointer none, .int .i64 i] w fun e w' => e = .returned (.int .i64 1) ∧ w = w' := by
  go_enter Tryz.func50, Tryz.ntmps50
  go_wp2
  go_ret
  exact ⟨rfl, rfl⟩
theorem check_ok (w : World) {p g b n : Nat} {F : Nat → Sec} {m : Nat → Option Sec} (hd : Dsk w p g b n F m) (i : Int) (h0 : 0 ≤ i) (h1 : i < n) :
    Calls Tryz.prog 50 #[.pointer (some ⟨p, 0, none⟩), .int .i64 i] w fun e w' => e = .returned (.int .i64 0) ∧ w = w' := by
  obtain ⟨c, hf⟩ := hd.flu
  have ht := hd.top
  have e1 : decide (i < 0) = false := by simp; omega
  have e2 : decide ((n : Int) ≤ i) = false := by simp; omega
  have H1 : (i < 0) = False := by simp; omega
  have H2 : ((n : Int) ≤ i) = False := by simp; omega
  clear hd
  go_enter Tryz.func50, Tryz.ntmps50
  go_wp2
  go_ret
  exact ⟨rfl, rfl⟩
theorem check_no (w : World) {p g b n : Nat} {F : Nat → Sec} {m : Nat → Option Sec} (hd : Dsk w p g b n F m) (i : Int) (h : i < 0 ∨ (n : Int) ≤ i) :
    Calls Tryz.prog 50 #[.pointer (some ⟨p, 0, none⟩), .int .i64 i] w fun e w' => e = .returned (.int .i64 41) ∧ w = w' := by
  obtain ⟨c, hf⟩ := hd.flu
  have ht := hd.top
  clear hd
  by_cases h0 : i < 0
  · have e1 : decide (i < 0) = true := by simp; omega
    go_enter Tryz.func50, Tryz.ntmps50
    go_wp2
    go_ret
    exact ⟨rfl, rfl⟩
  · have e1 : decide (i < 0) = false := by simp; omega
    have H1 : (i < 0) = False := by simp; omega
    have hge : (n : Int) ≤ i := by omega
    have e2 : decide ((n : Int) ≤ i) = true := by simp; omega
    clear h
    go_enter Tryz.func50, Tryz.ntmps50
    go_wp2
    go_ret
    exact ⟨rfl, rfl⟩
theorem len_nil (w : World) :
    Calls Tryz.prog 59 #[.pointer none] w fun e w' => e = .returned (.int .i64 0) ∧ w = w' := by
  go_enter Tryz.func59, Tryz.ntmps59
  go_wp2
  go_ret
  exact ⟨rfl, rfl⟩
theorem len_ok (w : World) {p g b n : Nat} {F : Nat → Sec} {m : Nat → Option Sec} (hd : Dsk w p g b n F m) :
    Calls Tryz.prog 59 #[.pointer (some ⟨p, 0, none⟩)] w fun e w' => e = .returned (.int .i64 n) ∧ w = w' := by
  obtain ⟨c, hf⟩ := hd.flu
  have ht := hd.top
  clear hd
  go_enter Tryz.func59, Tryz.ntmps59
  go_wp2
  go_ret
  exact ⟨rfl, rfl⟩
theorem new_no (w : World) (n : Int) (h : n < 1 ∨ 1024 < n) :
    Calls Tryz.prog 9 #[.int .i64 n] w fun e w' => e = .returned (.tuple #[.pointer none, .int .i64 1]) ∧ w = w' := by
  by_cases h0 : n < 1
  · have e1 : decide (n < 1) = true := by simp; omega
    go_enter Tryz.func9, Tryz.ntmps9
    go_wp2
    go_ret2
    exact ⟨rfl, rfl⟩
  · have e1 : decide (n < 1) = false := by simp; omega
    have e2 : decide (1024 < n) = true := by simp; omega
    go_enter Tryz.func9, Tryz.ntmps9
    go_wp2
    go_ret2
    exact ⟨rfl, rfl⟩
end Go.Proofs.YtihbinphmlgjoaaGreat
namespace Go.Proofs.YtihbinphmlgjoaaGreat
set_option linter.unusedVariables false
set_option linter.unusedSimpArgs false
open Go.RowKit Go.Maps Go.WideAt Go.ChangeMaps Go.MapKept Go.WideElems

theorem run_eq_cells {P : Program} (d : Nat) (e : TypeId) {k : IntKind} (he : P.underlying e = some (.int k)) (S T : Sec) :
   ∀ (l : List Nat) (w : World), (∀ i ∈ l, i < S.length ∧ i < T.length) →
    Sem.run P (forIn l ((none : Option Bool), ()) fun i _ => do
      let a ← part e (u8s S).toArray (i * 1)
      let b ← part e (u8s T).toArray (i * 1)
      let q ← Op.equalIn (d + 1) e a b
      if (!q) = true then pure (.done (some false, ())) else pure (.yield (none, ()))) w = .ok (if l.all (fun i => S.getD i 0 == T.getD i 0) then (none, ()) else (some false, ())) w
  | [], w, _ => by simp
  | i :: l, w, h => by
    obtain ⟨h1, h2⟩ := h i (by simp)
    have hx : ∀ (U : Sec), i < U.length → (u8s U).toArray[i * 1]? = some (.int .u8 ((U.getD i 0).toNat : Nat)) := by
      intro U hU
      simp [u8s, hU, List.getD]
    rw [List.forIn_cons]
    simp only [Sem.run_bind, run_part_cell he (hx S h1), run_part_cell he (hx T h2), Result.andThen_ok, run_equalIn_int w d e .u8 k _ _ he]
    have ih := run_eq_cells d e he S T l w (fun j hj => h j (by simp [hj]))
    by_cases e1 : S.getD i 0 = T.getD i 0
    · rw [e1]
      simp only [beq_self_eq_true, Bool.not_true, Bool.false_eq_true, if_false, Sem.run_pure, Result.andThen_ok]
      simp only [List.all_cons, e1, beq_self_eq_true, Bool.true_and]
      exact ih
    · have e2 : ((((S.getD i 0).toNat : Nat) : Int) == (((T.getD i 0).toNat : Nat) : Int)) = false := by
        rw [beq_eq_false_iff_ne]
        intro e3
        exact e1 (UInt8.toNat_inj.1 (by omega))
      have e4 : (S.getD i 0 == T.getD i 0) = false := by simpa using e1
      rw [e2]
      simp only [List.all_cons, e4, Bool.false_and, Bool.not_false, if_true, Sem.run_pure, Result.andThen_ok, Bool.false_eq_true, if_false]
theorem all_eq {S T : Sec} (hS : S.length = 64) (hT : T.length = 64) : ((List.range' 0 64).all fun i => S.getD i 0 == T.getD i 0) = decide (S = T) := by
  rw [Bool.eq_iff_iff, List.all_eq_true, decide_eq_true_eq]
  constructor
  · intro h
    refine List.ext_getElem (by rw [hS, hT]) (fun i h1 h2 => ?_)
    have := h i (by simp [List.mem_range'_1]; omega)
    simpa [List.getD, h1, h2] using this
  · rintro rfl i _
    simp
theorem run_equal_sec {P : Program} (w : World) (d : Nat) (t e : TypeId) {k : IntKind} (ht : P.underlying t = some (.array 64 e)) (he : P.underlying e = some (.int k)) (hz : (Go.sizeOf e).run P w = .ok 1 w) (S T : Sec) (hS : S.length = 64) (hT : T.length = 64) :
   (Op.equalIn (d + 2) t (sv S) (sv T)).run P w = .ok (decide (S = T)) w := by
  unfold sv
  rw [Op.equalIn]
  simp only [Sem.run_bind, run_underlying ht, Result.andThen_ok, hz, Std.Legacy.Range.forIn_eq_forIn_range']
  have h := run_eq_cells d e he S T (List.range' 0 64) w (fun i hi => by simp [List.mem_range'_1] at hi; omega)
  rw [show (List.range' 0 [:64].size) = List.range' 0 64 from rfl, h, all_eq hS hT]
  by_cases e1 : S = T
  · simp [e1]
  · simp [e1]
/-- sectors compared -/
theorem run_eql_sec (t : TypeId) (ht : Tryz.prog.underlying t = some (.array 64 5)) (S T : Sec) (hS : S.length = 64) (hT : T.length = 64) (w : World) : (binOp .eql t (sv S) (sv T)).run Tryz.prog w = .ok (.bool (decide (S = T))) w := by
  have h : (Op.equal t (sv S) (sv T)).run Tryz.prog w = .ok (decide (S = T)) w := run_equal_sec w 9998 t 5 ht Tryz.underlying5 (Tryz.sizeOf5 w) S T hS hT
  show Sem.run Tryz.prog (do pure (Value.bool (← Op.equal t (sv S) (sv T))) : Sem Value) w = _
  rw [Sem.run_bind, h]
  rfl
theorem run_neq_sec (t : TypeId) (ht : Tryz.prog.underlying t = some (.array 64 5)) (S T : Sec) (hS : S.length = 64) (hT : T.length = 64) (w : World) : (binOp .neq t (sv S) (sv T)).run Tryz.prog w = .ok (.bool (!decide (S = T))) w := by
  have h : (Op.equal t (sv S) (sv T)).run Tryz.prog w = .ok (decide (S = T)) w := run_equal_sec w 9998 t 5 ht Tryz.underlying5 (Tryz.sizeOf5 w) S T hS hT
  show Sem.run Tryz.prog (do pure (Value.bool (!(← Op.equal t (sv S) (sv T)))) : Sem Value) w = _
  rw [Sem.run_bind, h]
  rfl
theorem run_guard_sec (op : BinOp) (t : TypeId) (hm : Tryz.prog.eqGuardType Tryz.prog.depth t = false) (x y : Operand) (S T : Sec) (w : World) : (eqGuard op t x y (sv S) (sv T)).run Tryz.prog w = .ok () w := by
  unfold eqGuard sv
  cases op <;> simp [hm]

section
variable {P : Program} {w : World} {ops : Array Oper} {rest : List Oper} {o : Oper} {a : Act} {Q : Exit → Act → World → Prop}
/-- 'var s Sector' -/
theorem wpList_alloc_sec (hgd : o.guard = none) (t : TypeId) (ho : o.op = .alloc t) (S : Sec) (hz : (zeroValue t).run P w = .ok (sv S) w)
    (h : wpList P ops Q rest (a.put o.dst (.pointer (some ⟨w.heap.size, 0, none⟩))) (w.alloc (.cells (u8s S).toArray t))) : wpList P ops Q (o :: rest) a w :=
  wpList_plain hgd fun _ hK => by
    unfold Oper.wp execOp
    simp only [ho, Sem.run_bind]
    simp [Instr.alloc, hz, newVar, newRow, sv, Value.cells]
    exact hK _ _ h
end

theorem info37 : (Tryz.prog.info? 53).map (·.size) = some 64 := by kernel_rfl
theorem zero37 (w : World) : (zeroValue 53).run Tryz.prog w = .ok (sv zsec) w := by kernel_rfl
theorem grd37 : Tryz.prog.eqGuardType Tryz.prog.depth 53 = false := by kernel_rfl
section
variable {w : World} {ops : Array Oper} {rest : List Oper} {o : Oper} {a : Act} {Q : Exit → Act → World → Prop}
theorem wpList_alloc37 (hgd : o.guard = none) (ho : o.op = .alloc 53)
    (h : wpList Tryz.prog ops Q rest (a.put o.dst (.pointer (some ⟨w.heap.size, 0, none⟩))) (w.alloc (.cells (u8s zsec).toArray 53))) : wpList Tryz.prog ops Q (o :: rest) a w :=
  wpList_alloc_sec hgd _ ho zsec (zero37 w) h
theorem wpList_load37 (hgd : o.guard = none) (x : Operand) (ho : o.op = .load 53 x) (b off : Nat) (hx : a.eval x = .pointer (some ⟨b, off, none⟩)) (S : Sec) (hr : w.rangeAt b off (u8s S)) (hS : S.length = 64)
    (h : wpList Tryz.prog ops Q rest (a.put o.dst (sv S)) w) : wpList Tryz.prog ops Q (o :: rest) a w :=
  wpList_load_mid hgd _ x ho b off hx (u8s S) _ hr Tryz.underlying53 rfl (by rw [u8s_length, hS]; exact info37) h
theorem wpList_store37 (hgd : o.guard = none) (x y : Operand) (ho : o.op = .store 53 x y) (b off : Nat) (S : Sec) (hx : a.eval x = .pointer (some ⟨b, off, none⟩)) (hy : a.eval y = sv S) (ht : w.there b off 64) (hS : S.length = 64)
    (h : wpList Tryz.prog ops Q rest (a.put o.dst undef) (w.setCells b off (u8s S))) : wpList Tryz.prog ops Q (o :: rest) a w :=
  wpList_store_mid hgd _ x y ho b off (u8s S).toArray hx hy (by simpa [hS] using ht) (by simpa [hS] using info37) (all_oneCell_toArray (u8s_one S)) (by simpa using h)
/-- a sector by value is boxed -/
theorem wpList_box37 (hgd : o.guard = none) (x : Operand) (ho : o.op = .box 53 x) (S : Sec) (hx : a.eval x = sv S)
    (h : wpList Tryz.prog ops Q rest (a.put o.dst (.pointer (some ⟨w.heap.size, 0, none⟩))) (w.alloc (.cells (u8s S).toArray 53))) : wpList Tryz.prog ops Q (o :: rest) a w :=
  wpList_plain hgd fun _ hK => by
    unfold Oper.wp execOp
    simp only [ho, Sem.run_bind]
    simp [hx, Instr.box, newVar, newRow, sv, Value.cells]
    exact hK _ _ h
end
theorem range_box (w : World) (S : Sec) (t : TypeId) : (w.alloc (.cells (u8s S).toArray t)).rangeAt w.heap.size 0 (u8s S) := fun j v hv => by
  rw [cell_of_row _ w.heap.size (0 + j) _ t (0, 0) (heap_alloc_new w _)]
  simpa using hv
theorem there_box (w : World) (S : Sec) (t : TypeId) (hS : S.length = 64) : (w.alloc (.cells (u8s S).toArray t)).there w.heap.size 0 64 := fun j hj => by
  refine ⟨?_, ?_⟩
  · rw [(range_box w S t) j _ (List.getElem?_eq_getElem (by simp [hS]; exact hj))]; rfl
  · rw [Nat.zero_add]
    exact Own.frozen (t := t) (cs := u8s S) (heap_alloc_new w _) j
/-- the map cleared -/
theorem owns_clear {H : Type} {P : Program} {k e : TypeId} {R : Value → Option (DataW H × List MemPlace)} {w : World} {b n : Nat} {D : DataW H} (t : TypeId) (ht : P.underlying t = some (.map k e)) (h : w.ownsMap P k R b n D) (ty : TypeId) :
    ∃ w', (Builtin.clear_ #[t] ty #[.map (some b)]).run P w = .ok (.tuple #[]) w' ∧ w'.ownsMap P k R b 0 (.map []) ∧ Chg [b] w w' := by
  obtain ⟨es, clock, hb, F, hs, hD⟩ := h
  have hlt : b < w.heap.size := (Array.getElem?_eq_some_iff.1 hb).1
  refine ⟨setBlock w b (.map #[] clock), ?_, ⟨#[], clock, heap_setBlock_same hb _, ⟨by simp, stamped_empty clock, by simp⟩, Nat.le_refl _, rfl⟩, ?_⟩
  · simp [Builtin.clear_, run_underlying ht, MapKept.run_getObj_map hb, MapKept.run_setObj_map _ hb, Result.andThen, noResult, setBlock]
  · exact ⟨rfl, rfl, rfl, by simp [setBlock], fun k' hk hn => by simp only [List.mem_singleton] at hn; simp [setBlock, Array.getElem?_setIfInBounds, Ne.symm hn]⟩
end Go.Proofs.YtihbinphmlgjoaaGreat
