/-
  Sorting of uint64: the row, the comparison, insertion sort, sifting and heap sort, against the library's plain twin of the sort. No claim of their own.
-/
import Derived.Test.YtcadnlilijkneaaGreatGb2
import Derived.Sort.AssemblyPlain
import Derived.Sort.WalkC4
import Derived.Sort.WalkA6
import Derived.Sort.WalkB3
import Derived.Sort.WalkD1
import Derived.Sort.Walk7
import Derived.Sort.Walk13
import Derived.BigGuard
import Derived.BigCall
namespace Go.Proofs.YtcadnlilijkneaaGreat
open Go.RowKit Go.Sort
set_option linter.unusedVariables false
set_option linter.unusedSimpArgs false

def us (d : Array Int) : List Value := d.toList.map (Value.int .u64)
@[simp] theorem us_len (d : Array Int) : (us d).length = d.size := by simp [us]
def Uw (w : World) (g : Nat) (d : Array Int) (z : List Value) : Prop := Own w g 23 (us d ++ z)
theorem us_get (d : Array Int) (z : List Value) (i : Nat) (h : i < d.size) : (us d ++ z)[i]? = some (.int .u64 d[i]!) := by
  rw [List.getElem?_append_left (by simpa using h)]
  simp [us, h]
theorem Uw.cell {w : World} {g : Nat} {d : Array Int} {z : List Value} (h : Uw w g d z) (i : Nat) (hi : i < d.size) : w.cell? ⟨g, i, none⟩ = some (.int .u64 d[i]!) := by
  rw [Own.cell h i, us_get d z i hi]
theorem us_set (d : Array Int) (i : Nat) (x : Int) : us (d.setIfInBounds i x) = (us d).set i (.int .u64 x) := by
  simp [us, List.map_set]
theorem Uw.set {w : World} {g : Nat} {d : Array Int} {z : List Value} (h : Uw w g d z) (i : Nat) (hi : i < d.size) (x : Int) : Uw (w.setCell ⟨g, i, none⟩ (.int .u64 x)) g (d.setIfInBounds i x) z := by
  have h1 := Own.set h i (.int .u64 x)
  unfold Uw
  rw [us_set, ← List.set_append_left _ _ (by simpa using hi)]
  exact h1
theorem Uw.swap {w : World} {g : Nat} {d : Array Int} {z : List Value} (h : Uw w g d z) (i j : Nat) (hi : i < d.size) (hj : j < d.size) : Uw ((w.setCell ⟨g, i, none⟩ (.int .u64 d[j]!)).setCell ⟨g, j, none⟩ (.int .u64 d[i]!)) g (swp d i j) z :=
  (h.set i hi _).set j (by simpa using hj) _
theorem Uw.qt {w w' : World} {g : Nat} {d : Array Int} {z : List Value} (h : Uw w g d z) (k : Qt w w') : Uw w' g d z := Own.qt h k
def Sd (w : World) (g : Nat) (d : Array Int) (z : List Value) (w' : World) : Prop := Uw w' g d z ∧ Chg [g] w w'
theorem Sd.refl {w : World} {g : Nat} {d : Array Int} {z : List Value} (h : Uw w g d z) : Sd w g d z w := ⟨h, Chg.refl _ _⟩
theorem Sd.qt {w w' w'' : World} {g : Nat} {d : Array Int} {z : List Value} (h : Sd w g d z w') (k : Qt w' w'') : Sd w g d z w'' := ⟨h.1.qt k, h.2.qt k⟩
theorem Sd.drewN {w w' : World} {g : Nat} {d : Array Int} {z : List Value} (h : Sd w g d z w') (n : Nat) : Sd w g d z (w'.drewN n) := h.qt ⟨n, rfl⟩
theorem Sd.drew {w w' : World} {g : Nat} {d : Array Int} {z : List Value} (h : Sd w g d z w') : Sd w g d z w'.drew := h.qt ⟨1, rfl⟩
theorem Sd.then {w w' w'' : World} {g : Nat} {d d' : Array Int} {z : List Value} (h : Sd w g d z w') (k : Sd w' g d' z w'') : Sd w g d' z w'' := ⟨k.1, h.2.trans k.2⟩
theorem Sd.swap {w w' : World} {g : Nat} {d : Array Int} {z : List Value} (h : Sd w g d z w') (i j : Nat) (hi : i < d.size) (hj : j < d.size) {x y : Int} (hx : d[i]! = x) (hy : d[j]! = y) :
    Sd w g (swp d i j) z ((w'.setCell ⟨g, i, none⟩ (.int .u64 y)).setCell ⟨g, j, none⟩ (.int .u64 x)) := by
  subst hx hy
  exact ⟨h.1.swap i j hi hj, (h.2.setCell (.inl (by simp)) _).setCell (.inl (by simp)) _⟩

theorem isNaN_any (x : Int) (w : World) : Calls Tryz.prog 301 #[.int .u64 x] w fun e w' => e = .returned (.bool false) ∧ w' = w := by
  go_enter Tryz.func301, Tryz.ntmps301
  go_wp2
  go_ret
  exact ⟨by simp, rfl⟩
theorem Less_any (x y : Int) (w : World) : Calls Tryz.prog 283 #[.int .u64 x, .int .u64 y] w fun e w' => e = .returned (.bool (ltInt x y)) ∧ w' = w := by
  go_enter Tryz.func283, Tryz.ntmps283
  go_wp2_with (first | (go_at_call 301; refine (isNaN_any _ _).mono ?_; rintro e w' ⟨rfl, rfl⟩) | fail)
  all_goals (go_ret; exact ⟨by simp [ltInt], rfl⟩)
end Go.Proofs.YtcadnlilijkneaaGreat
namespace Go.Proofs.YtcadnlilijkneaaGreat
open Go.RowKit Go.Sort
set_option linter.unusedVariables false
set_option linter.unusedSimpArgs false

theorem size_swp2 (d : Array Int) (i j : Nat) : (swp d i j).size = d.size := by simp [swp]
set_option maxHeartbeats 2000000 in
set_option maxRecDepth 100000 in
theorem insertion_any (w : World) (g N c a b : Nat) (d : Array Int) (z : List Value) (h : Uw w g d z) (hN : d.size = N) (hab : a ≤ b) (hb : b ≤ N) (hsz : N < 1000000000) :
    Calls Tryz.prog 277 #[.slice (some ⟨g, 0, none⟩) N c, .int .i64 (a : Int), .int .i64 (b : Int)] w fun e w' => e = .returned (.tuple #[]) ∧ Hid (Sd w g (insertionSort ltInt d a b) z w') := by
  have HS0 := Lib.hid (Sd.refl h)
  clear h
  go_enter Tryz.func277, Tryz.ntmps277
  go_wp2_with fail
  go_loopw [6] (fun vi wr => ∃ (i : Nat) (dk : Array Int), vi = .int .i64 i ∧ a < i ∧ i ≤ b + 1 ∧ dk.size = N ∧ Hid (Sd w g dk z wr) ∧ Hid (insOuter ltInt a b i dk = insOuter ltInt a b (a + 1) d)) (fun vi _ => b + 1 - (intOf vi).toNat)
  case atStart => exact ⟨a + 1, d, by go_num, by omega, by omega, hN, HS0, Lib.hid rfl⟩
  case round =>
    obtain ⟨i, dk, rfl, hai, hib, hsk, HS, HO⟩ := hrel
    by_cases hlt : i < b
    · have hd1 : decide (i < b) = true := by simpa using hlt
      go_wp2_with fail
      go_loopw [7] (fun vj wr2 => ∃ (j : Nat) (dj : Array Int), vj = .int .i64 j ∧ a ≤ j ∧ j ≤ i ∧ dj.size = N ∧ Hid (Sd w g dj z wr2) ∧ Hid (insInner ltInt a j dj = insInner ltInt a i dk)) (fun vj _ => (intOf vj).toNat)
      case atStart => exact ⟨i, dk, rfl, by omega, Nat.le_refl _, hsk, HS, Lib.hid rfl⟩
      case round =>
        obtain ⟨j, dj, rfl, haj, hji, hsj, HSj, HI⟩ := hrel
        have OUT := Lib.hid (show (j ≤ a ∨ ltInt dj[j]! dj[j - 1]! = false) → insOuter ltInt a b (i + 1) dj = insOuter ltInt a b (a + 1) d from fun hs => by
          rw [← HO.out, insOuter_go _ _ _ _ _ hlt, ← HI.out, insInner_stop _ _ _ _ hs])
        by_cases hja : a < j
        · obtain ⟨k, hk⟩ : ∃ k, j = k + 1 := ⟨j - 1, by omega⟩
          have hk1 : j - 1 = k := by omega
          have GO := Lib.hid (insInner_go ltInt a j dj hja)
          rw [hk1] at GO OUT
          have q1 := HSj.out.1.cell j (by omega)
          have q2 := HSj.out.1.cell k (by omega)
          have f1 := Own.frozen HSj.out.1 j
          have f2 := Own.frozen HSj.out.1 k
          have hgl := Own.lt HSj.out.1
          obtain ⟨x, hx⟩ : ∃ x, Hid (dj[j]! = x) := ⟨_, Lib.hid rfl⟩
          obtain ⟨y, hy⟩ : ∃ y, Hid (dj[k]! = y) := ⟨_, Lib.hid rfl⟩
          rw [hx.out] at q1 GO OUT
          rw [hy.out] at q2 GO OUT
          have hw3 : IntKind.i64.wrap ((j : Int) - 1) = (k : Int) := by rw [IntKind.wrap_i64]; omega
          have hj0 : (0 : Int) ≤ (j : Int) := by omega
          have hk0 : (0 : Int) ≤ (k : Int) := by omega
          have hjN : (j : Int) < (N : Int) := by omega
          have hkN : (k : Int) < (N : Int) := by omega
          have hd2 : decide (a < j) = true := by simpa using hja
          have hiS : (i : Int) < 1000000000 := by omega
          have hne : j ≠ k := by omega
          have hne2 : k ≠ j := by omega
          have HX := Lib.hid (And.intro hk (And.intro hja (And.intro hji (And.intro hai hlt))))
          clear hk hk1 hji hsz hlt hib hai hab hb hd1 haj hja
          cases hl : ltInt x y with
          | true =>
            go_wp2_with fail
            go_quiet ((go_at_call 283; exact Calls.quiet_of_same (Less_any _ _ _)))
            go_wp2_with fail
            go_region
            go_wp2_with fail
            go_roundw
            case rel =>
              refine ⟨k, swp dj j k, rfl, by have := HX.out; omega, by have := HX.out; omega, by rw [size_swp2]; exact hsj, Lib.hid ?_, Lib.hid (by rw [← GO.out hl]; exact HI.out)⟩
              exact (HSj.out.qt ⟨_, rfl⟩).swap j k (by omega) (by omega) hx.out hy.out
            case measure => have := HX.out; simp [intOf]; omega
          | false =>
            have HR := Lib.hid (OUT.out (.inr hl))
            go_wp2_with fail
            go_quiet ((go_at_call 283; exact Calls.quiet_of_same (Less_any _ _ _)))
            go_wp2_with fail
            go_roundw
            case rel => exact ⟨i + 1, dj, by go_num, by have := HX.out; omega, by have := HX.out; omega, hsj, Lib.hid (HSj.out.qt ⟨_, rfl⟩), HR⟩
            case measure => have := HX.out; simp [intOf]; omega
        · have hd2 : decide (a < j) = false := by simpa using hja
          have HR := Lib.hid (OUT.out (.inl (by omega)))
          go_wp2_with fail
          go_quiet ((go_at_call 283; exact Calls.quiet_of_same (Less_any _ _ _)))
          go_wp2_with fail
          go_roundw
          case rel => exact ⟨i + 1, dj, by go_num, by omega, by omega, hsj, Lib.hid (HSj.out.qt ⟨_, rfl⟩), HR⟩
          case measure => simp [intOf]; omega
    · have hd1 : decide (i < b) = false := by simpa using hlt
      go_wp2_with fail
      go_end0
      refine ⟨rfl, Lib.hid ?_⟩
      have := HO.out
      rw [insOuter_stop _ _ _ _ _ hlt] at this
      rw [insertionSort, ← this]
      exact HS.out
end Go.Proofs.YtcadnlilijkneaaGreat
namespace Go.Proofs.YtcadnlilijkneaaGreat
open Go.RowKit Go.Sort
set_option linter.unusedVariables false
set_option linter.unusedSimpArgs false

theorem wrapN {x : Int} {n : Nat} (h : x = (n : Int)) (hn : n < 9223372036854775808) : IntKind.i64.wrap x = (n : Int) := by rw [IntKind.wrap_i64]; omega
set_option maxHeartbeats 4000000 in
set_option maxRecDepth 100000 in
theorem siftDown_any (w : World) (g N c lo hi F : Nat) (d : Array Int) (z : List Value) (h : Uw w g d z) (hN : d.size = N) (hlo : lo ≤ N) (hF : F + hi ≤ N) (hsz : N < 1000000000) :
    Calls Tryz.prog 298 #[.slice (some ⟨g, 0, none⟩) N c, .int .i64 (lo : Int), .int .i64 (hi : Int), .int .i64 (F : Int)] w fun e w' => e = .returned (.tuple #[]) ∧ Hid (Sd w g (siftDown ltInt hi F lo d) z w') := by
  have HS0 := Lib.hid (Sd.refl h)
  clear h
  go_enter Tryz.func298, Tryz.ntmps298
  go_wp2_with fail
  go_loopw [8, 9] (fun vi _ wr => ∃ (r : Nat) (dk : Array Int), vi = .int .i64 r ∧ r ≤ N ∧ dk.size = N ∧ Hid (Sd w g dk z wr) ∧ Hid (siftDown ltInt hi F r dk = siftDown ltInt hi F lo d)) (fun vi _ _ => hi - (intOf vi).toNat)
  case atStart => exact ⟨lo, d, rfl, hlo, hN, HS0, Lib.hid rfl⟩
  case round =>
    obtain ⟨r, dk, rfl, hrN, hsk, HS, HO⟩ := hrel
    obtain ⟨m2, hm2⟩ : ∃ m, m = 2 * r := ⟨_, rfl⟩
    obtain ⟨ch, hch⟩ : ∃ m, m = m2 + 1 := ⟨_, rfl⟩
    obtain ⟨c2, hc2⟩ : ∃ m, m = ch + 1 := ⟨_, rfl⟩
    obtain ⟨p0, hp0⟩ : ∃ m, m = F + r := ⟨_, rfl⟩
    obtain ⟨p1, hp1⟩ : ∃ m, m = F + ch := ⟨_, rfl⟩
    obtain ⟨p2, hp2⟩ : ∃ m, m = F + c2 := ⟨_, rfl⟩
    have e1 : IntKind.i64.wrap (2 * (r : Int)) = (m2 : Int) := wrapN (by omega) (by omega)
    have e2 : IntKind.i64.wrap ((m2 : Int) + 1) = (ch : Int) := wrapN (by omega) (by omega)
    have e3 : IntKind.i64.wrap ((ch : Int) + 1) = (c2 : Int) := wrapN (by omega) (by omega)
    by_cases hlt : ch < hi
    · have hge : decide (hi ≤ ch) = false := by simp; omega
      have e4 : IntKind.i64.wrap ((F : Int) + (r : Int)) = (p0 : Int) := wrapN (by omega) (by omega)
      have e5 : IntKind.i64.wrap ((F : Int) + (ch : Int)) = (p1 : Int) := wrapN (by omega) (by omega)
      have e6 : IntKind.i64.wrap ((F : Int) + (c2 : Int)) = (p2 : Int) := wrapN (by omega) (by omega)
      have e7 : IntKind.i64.wrap ((p1 : Int) + 1) = (p2 : Int) := wrapN (by omega) (by omega)
      have q0 := HS.out.1.cell p0 (by omega)
      have q1 := HS.out.1.cell p1 (by omega)
      have f0 := Own.frozen HS.out.1 p0
      have f1 := Own.frozen HS.out.1 p1
      have f2 := Own.frozen HS.out.1 p2
      have hgl := Own.lt HS.out.1
      have SRS := Lib.hid (@sd_right_stop Int _ ltInt hi F r dk)
      have SRG := Lib.hid (@sd_right_go Int _ ltInt hi F r dk)
      have SLS := Lib.hid (@sd_left_stop Int _ ltInt hi F r dk)
      have SLG := Lib.hid (@sd_left_go Int _ ltInt hi F r dk)
      rw [show 2 * r + 1 = ch by omega, show 2 * r + 2 = c2 by omega, ← hp0, ← hp1, ← hp2] at SRS SRG
      rw [show 2 * r + 1 = ch by omega, show 2 * r + 2 = c2 by omega, ← hp0, ← hp1, ← hp2] at SLS SLG
      have n0 : (0 : Int) ≤ (p0 : Int) := by omega
      have n1 : (0 : Int) ≤ (p1 : Int) := by omega
      have n2 : (0 : Int) ≤ (p2 : Int) := by omega
      have b0 : (p0 : Int) < (N : Int) := by omega
      have b1 : (p1 : Int) < (N : Int) := by omega
      have hne1 : p0 ≠ p1 := by omega
      have hne1' : p1 ≠ p0 := by omega
      have hne2 : p0 ≠ p2 := by omega
      have hne2' : p2 ≠ p0 := by omega
      have HB := Lib.hid (show m2 = 2 * r ∧ ch = m2 + 1 ∧ c2 = ch + 1 ∧ ch < hi ∧ F + hi ≤ N ∧ dk.size = N ∧ p1 < N ∧ p0 < N from ⟨hm2, hch, hc2, hlt, hF, hsk, by omega, by omega⟩)
      obtain ⟨x0, hx0⟩ : ∃ x, Hid (dk[p0]! = x) := ⟨_, Lib.hid rfl⟩
      obtain ⟨x1, hx1⟩ : ∃ x, Hid (dk[p1]! = x) := ⟨_, Lib.hid rfl⟩
      obtain ⟨x2, hx2⟩ : ∃ x, Hid (dk[p2]! = x) := ⟨_, Lib.hid rfl⟩
      rw [hx0.out] at q0 SRS SRG SLS SLG
      rw [hx1.out] at q1 SRS SRG SLS SLG
      rw [hx2.out] at SRS SRG SLS SLG
      by_cases h2 : c2 < hi
      · have hd2 : decide (c2 < hi) = true := by simpa using h2
        have q2 := HS.out.1.cell p2 (by omega)
        rw [hx2.out] at q2
        have b2 : (p2 : Int) < (N : Int) := by omega
        cases hl1 : ltInt x1 x2 with
        | true =>
          clear hm2 hch hc2 hp0 hp1 hp2 hF hlo hsz hrN hN
          cases hl2 : ltInt x0 x2 with
          | false =>
            have HR := Lib.hid ((SRS.out h2 hl1 hl2).symm.trans HO.out)
            go_wp2_with fail
            go_quiet ((go_at_call 283; exact Calls.quiet_of_same (Less_any _ _ _)))
            have r0 : (wr.drewN nq).cell? ⟨g, p0, none⟩ = _ := q0
            have rx : (wr.drewN nq).cell? ⟨g, p2, none⟩ = _ := q2
            have s0 : (wr.drewN nq).frozen? ⟨g, p0, none⟩ = false := f0
            have sx : (wr.drewN nq).frozen? ⟨g, p2, none⟩ = false := f2
            have HSq := Lib.hid (HS.out.drewN nq)
            clear q0 q1 f0 f1 f2 hgl HS q2
            generalize wr.drewN nq = wq at *
            go_wp2_with fail
            go_quiet ((go_at_call 283; exact Calls.quiet_of_same (Less_any _ _ _)))
            go_wp2_with fail
            (try simp only [Exit.inBlock, Exit.then])
            refine bodyPost_ret (results_none rfl _ _ _) rfl ?_
            refine ⟨rfl, Lib.hid ?_⟩
            rw [← HR.out]
            exact HSq.out.qt ⟨_, rfl⟩
          | true =>
            have HR := Lib.hid ((SRG.out h2 hl1 hl2).symm.trans HO.out)
            go_wp2_with fail
            go_quiet ((go_at_call 283; exact Calls.quiet_of_same (Less_any _ _ _)))
            have r0 : (wr.drewN nq).cell? ⟨g, p0, none⟩ = _ := q0
            have rx : (wr.drewN nq).cell? ⟨g, p2, none⟩ = _ := q2
            have s0 : (wr.drewN nq).frozen? ⟨g, p0, none⟩ = false := f0
            have sx : (wr.drewN nq).frozen? ⟨g, p2, none⟩ = false := f2
            have HSq := Lib.hid (HS.out.drewN nq)
            clear q0 q1 f0 f1 f2 hgl HS q2
            generalize wr.drewN nq = wq at *
            go_wp2_with fail
            go_quiet ((go_at_call 283; exact Calls.quiet_of_same (Less_any _ _ _)))
            go_wp2_with fail
            go_region
            go_wp2_with fail
            go_roundw
            case rel => exact ⟨c2, swp dk p0 p2, rfl, by have := HB.out; omega, by rw [size_swp2]; exact hsk, Lib.hid ((HSq.out.qt ⟨_, rfl⟩).swap p0 p2 (by omega) (by omega) hx0.out hx2.out), HR⟩
            case measure => have := HB.out; simp [intOf]; omega
        | false =>
          clear hm2 hch hc2 hp0 hp1 hp2 hF hlo hsz hrN hN
          cases hl2 : ltInt x0 x1 with
          | false =>
            have HR := Lib.hid ((SLS.out hlt (fun _ => hl1) hl2).symm.trans HO.out)
            go_wp2_with fail
            go_quiet ((go_at_call 283; exact Calls.quiet_of_same (Less_any _ _ _)))
            have r0 : (wr.drewN nq).cell? ⟨g, p0, none⟩ = _ := q0
            have rx : (wr.drewN nq).cell? ⟨g, p1, none⟩ = _ := q1
            have s0 : (wr.drewN nq).frozen? ⟨g, p0, none⟩ = false := f0
            have sx : (wr.drewN nq).frozen? ⟨g, p1, none⟩ = false := f1
            have HSq := Lib.hid (HS.out.drewN nq)
            clear q0 q1 f0 f1 f2 hgl HS q2
            generalize wr.drewN nq = wq at *
            go_wp2_with fail
            go_quiet ((go_at_call 283; exact Calls.quiet_of_same (Less_any _ _ _)))
            go_wp2_with fail
            (try simp only [Exit.inBlock, Exit.then])
            refine bodyPost_ret (results_none rfl _ _ _) rfl ?_
            refine ⟨rfl, Lib.hid ?_⟩
            rw [← HR.out]
            exact HSq.out.qt ⟨_, rfl⟩
          | true =>
            have HR := Lib.hid ((SLG.out hlt (fun _ => hl1) hl2).symm.trans HO.out)
            go_wp2_with fail
            go_quiet ((go_at_call 283; exact Calls.quiet_of_same (Less_any _ _ _)))
            have r0 : (wr.drewN nq).cell? ⟨g, p0, none⟩ = _ := q0
            have rx : (wr.drewN nq).cell? ⟨g, p1, none⟩ = _ := q1
            have s0 : (wr.drewN nq).frozen? ⟨g, p0, none⟩ = false := f0
            have sx : (wr.drewN nq).frozen? ⟨g, p1, none⟩ = false := f1
            have HSq := Lib.hid (HS.out.drewN nq)
            clear q0 q1 f0 f1 f2 hgl HS q2
            generalize wr.drewN nq = wq at *
            go_wp2_with fail
            go_quiet ((go_at_call 283; exact Calls.quiet_of_same (Less_any _ _ _)))
            go_wp2_with fail
            go_region
            go_wp2_with fail
            go_roundw
            case rel => exact ⟨ch, swp dk p0 p1, rfl, by have := HB.out; omega, by rw [size_swp2]; exact hsk, Lib.hid ((HSq.out.qt ⟨_, rfl⟩).swap p0 p1 (by omega) (by omega) hx0.out hx1.out), HR⟩
            case measure => have := HB.out; simp [intOf]; omega
      · have hd2 : decide (c2 < hi) = false := by simpa using h2
        clear hm2 hch hc2 hp0 hp1 hp2 hF hlo hsz hrN hN
        cases hl2 : ltInt x0 x1 with
        | false =>
          have HR := Lib.hid ((SLS.out hlt (fun k => absurd k h2) hl2).symm.trans HO.out)
          go_wp2_with fail
          go_quiet ((go_at_call 283; exact Calls.quiet_of_same (Less_any _ _ _)))
          have r0 : (wr.drewN nq).cell? ⟨g, p0, none⟩ = _ := q0
          have rx : (wr.drewN nq).cell? ⟨g, p1, none⟩ = _ := q1
          have s0 : (wr.drewN nq).frozen? ⟨g, p0, none⟩ = false := f0
          have sx : (wr.drewN nq).frozen? ⟨g, p1, none⟩ = false := f1
          have HSq := Lib.hid (HS.out.drewN nq)
          clear q0 q1 f0 f1 f2 hgl HS 
          generalize wr.drewN nq = wq at *
          go_wp2_with fail
          go_quiet ((go_at_call 283; exact Calls.quiet_of_same (Less_any _ _ _)))
          go_wp2_with fail
          (try simp only [Exit.inBlock, Exit.then])
          refine bodyPost_ret (results_none rfl _ _ _) rfl ?_
          refine ⟨rfl, Lib.hid ?_⟩
          rw [← HR.out]
          exact HSq.out.qt ⟨_, rfl⟩
        | true =>
          have HR := Lib.hid ((SLG.out hlt (fun k => absurd k h2) hl2).symm.trans HO.out)
          go_wp2_with fail
          go_quiet ((go_at_call 283; exact Calls.quiet_of_same (Less_any _ _ _)))
          have r0 : (wr.drewN nq).cell? ⟨g, p0, none⟩ = _ := q0
          have rx : (wr.drewN nq).cell? ⟨g, p1, none⟩ = _ := q1
          have s0 : (wr.drewN nq).frozen? ⟨g, p0, none⟩ = false := f0
          have sx : (wr.drewN nq).frozen? ⟨g, p1, none⟩ = false := f1
          have HSq := Lib.hid (HS.out.drewN nq)
          clear q0 q1 f0 f1 f2 hgl HS 
          generalize wr.drewN nq = wq at *
          go_wp2_with fail
          go_quiet ((go_at_call 283; exact Calls.quiet_of_same (Less_any _ _ _)))
          go_wp2_with fail
          go_region
          go_wp2_with fail
          go_roundw
          case rel => exact ⟨ch, swp dk p0 p1, rfl, by have := HB.out; omega, by rw [size_swp2]; exact hsk, Lib.hid ((HSq.out.qt ⟨_, rfl⟩).swap p0 p1 (by omega) (by omega) hx0.out hx1.out), HR⟩
          case measure => have := HB.out; simp [intOf]; omega
    · have hge : decide (hi ≤ ch) = true := by simp; omega
      have HR := Lib.hid (sd_end (lt := ltInt) (hi := hi) (F := F) (root := r) dk (by omega))
      clear hm2 hch hc2 hp0 hp1 hp2
      go_wp2_with fail
      go_end0
      refine ⟨rfl, Lib.hid ?_⟩
      rw [← HO.out, HR.out]
      exact HS.out

theorem Sd.after {w w' w'' : World} {g : Nat} {d d' : Array Int} {z : List Value} (k : Sd w' g d' z w'') (h : Sd w g d z w') : Sd w g d' z w'' := h.then k
theorem size_sift (hi F r : Nat) (d : Array Int) : (siftDown ltInt hi F r d).size = d.size := size_siftDown ltInt hi F _ r d (Nat.le_refl _)
set_option maxHeartbeats 2000000 in
set_option maxRecDepth 100000 in
theorem heapSort_any (w : World) (g N c a b : Nat) (d : Array Int) (z : List Value) (h : Uw w g d z) (hN : d.size = N) (hab : a < b) (hb : b ≤ N) (hsz : N < 1000000000) :
    Calls Tryz.prog 278 #[.slice (some ⟨g, 0, none⟩) N c, .int .i64 (a : Int), .int .i64 (b : Int)] w fun e w' => e = .returned (.tuple #[]) ∧ Hid (Sd w g (heapSort ltInt d a b) z w') := by
  have HS0 := Lib.hid (Sd.refl h)
  clear h
  obtain ⟨hi, hhi⟩ : ∃ m, m = b - a := ⟨_, rfl⟩
  obtain ⟨m, hm⟩ : ∃ m, hi = m + 1 := ⟨hi - 1, by omega⟩
  obtain ⟨q, hq⟩ : ∃ q, q = m / 2 := ⟨_, rfl⟩
  have e1 : IntKind.i64.wrap ((b : Int) - (a : Int)) = (hi : Int) := wrapN (by omega) (by omega)
  have e2 : IntKind.i64.wrap ((hi : Int) - 1) = (m : Int) := wrapN (by omega) (by omega)
  have e3 : (m : Int) / 2 = (q : Int) := by omega
  have e4 : Int.tdiv (m : Int) 2 = (q : Int) := by rw [Int.tdiv_eq_ediv_of_nonneg (by omega)]; omega
  have e5 : IntKind.i64.wrap (q : Int) = (q : Int) := wrapN (by omega) (by omega)
  have HT := Lib.hid (show heapSort ltInt d a b = heapPop ltInt a hi (heapBuild ltInt hi a (q + 1) d) by rw [heapSort, ← hhi, show hi - 1 = m by omega, hq])
  rw [HT.out]
  have HH := Lib.hid (show hi = m + 1 ∧ q = m / 2 ∧ a + hi ≤ N ∧ b = a + hi by omega)
  clear HT hhi hm hq hab hb
  go_enter Tryz.func278, Tryz.ntmps278
  go_wp2_with fail
  go_loopw [9] (fun v wr => ∃ (k : Nat) (dk : Array Int), v = .int .i64 ((k : Int) - 1) ∧ k ≤ q + 1 ∧ dk.size = N ∧ Hid (Sd w g dk z wr) ∧ Hid (heapBuild ltInt hi a k dk = heapBuild ltInt hi a (q + 1) d)) (fun v _ => (intOf v + 1).toNat)
  case atStart => exact ⟨q + 1, d, by go_num, Nat.le_refl _, hN, HS0, Lib.hid rfl⟩
  case round =>
    obtain ⟨k, dk, rfl, hk, hsk, HS, HO⟩ := hrel
    cases k with
    | zero =>
      rw [show ((0 : Nat) : Int) - 1 = -1 from rfl]
      have HB := Lib.hid (show dk = heapBuild ltInt hi a (q + 1) d from HO.out)
      clear HO
      go_wp2_with fail
      go_loopw [10] (fun v wr2 => ∃ (k : Nat) (dj : Array Int), v = .int .i64 ((k : Int) - 1) ∧ k ≤ hi ∧ dj.size = N ∧ Hid (Sd w g dj z wr2) ∧ Hid (heapPop ltInt a k dj = heapPop ltInt a hi dk)) (fun v _ => (intOf v + 1).toNat)
      case atStart => exact ⟨hi, dk, by have := HH.out; go_num, Nat.le_refl _, hsk, HS, Lib.hid rfl⟩
      case round =>
        obtain ⟨k, dj, rfl, hk, hsj, HSj, HP⟩ := hrel
        cases k with
        | zero =>
          rw [show ((0 : Nat) : Int) - 1 = -1 from rfl]
          go_wp2_with fail
          go_end0
          refine ⟨rfl, Lib.hid ?_⟩
          rw [← HB.out, ← HP.out]
          exact HSj.out
        | succ j =>
          rw [show ((j + 1 : Nat) : Int) - 1 = (j : Int) by omega]
          obtain ⟨p, hp⟩ : ∃ p, p = a + j := ⟨_, rfl⟩
          have hHH := HH.out
          have hjN : a + j ≤ N := by omega
          have g1 : IntKind.i64.wrap ((a : Int) + (j : Int)) = (p : Int) := wrapN (by omega) (by omega)
          have q0 := HSj.out.1.cell a (by omega)
          have q1 := HSj.out.1.cell p (by omega)
          have f0 := Own.frozen HSj.out.1 a
          have f1 := Own.frozen HSj.out.1 p
          have hgl := Own.lt HSj.out.1
          obtain ⟨x0, hx0⟩ : ∃ x, Hid (dj[a]! = x) := ⟨_, Lib.hid rfl⟩
          obtain ⟨x1, hx1⟩ : ∃ x, Hid (dj[p]! = x) := ⟨_, Lib.hid rfl⟩
          rw [hx0.out] at q0
          rw [hx1.out] at q1
          have n0 : (0 : Int) ≤ (a : Int) := by omega
          have n1 : (0 : Int) ≤ (p : Int) := by omega
          have b0 : (a : Int) < (N : Int) := by omega
          have b1 : (p : Int) < (N : Int) := by omega
          have hjs : (j : Int) < 1000000000 := by omega
          have HL := Lib.hid (show p = a + j ∧ a < N ∧ p < N ∧ j < hi from ⟨hp, by omega, by omega, by omega⟩)
          have HP2 := Lib.hid (show heapPop ltInt a j (siftDown ltInt j a 0 (swp dj a p)) = heapPop ltInt a hi dk by rw [hp]; exact HP.out)
          have hd0 : decide ((0 : Int) ≤ (j : Int)) = true := by simp
          clear hp hHH hk
          by_cases hj0 : j = 0
          · have hpa : p = a := by have := HL.out; omega
            clear hj0
            subst hpa
            go_wp2_with fail
            go_region
            have HS2 := Lib.hid (HSj.out.swap p p (by omega) (by omega) hx1.out hx1.out).drew
            go_wp2_with (first | (go_at_call 298; refine (siftDown_any _ g N c 0 j p (swp dj p p) z HS2.out.1 (by rw [size_swp2]; exact hsj) (by omega) hjN hsz).mono ?_; rintro e w2 ⟨rfl, HS3⟩) | fail)
            go_roundw
            case rel => exact ⟨j, siftDown ltInt j p 0 (swp dj p p), by go_num, by have := HL.out; omega, by rw [size_sift, size_swp2]; exact hsj, Lib.hid (HS2.out.then HS3.out), HP2⟩
            case measure => simp [intOf]
          · have hne : a ≠ p := by have := HL.out; omega
            have hne' : p ≠ a := by have := HL.out; omega
            go_wp2_with fail
            go_region
            have HS2 := Lib.hid (HSj.out.swap a p (by omega) (by omega) hx0.out hx1.out).drew
            go_wp2_with (first | (go_at_call 298; refine (siftDown_any _ g N c 0 j a (swp dj a p) z HS2.out.1 (by rw [size_swp2]; exact hsj) (by omega) hjN hsz).mono ?_; rintro e w2 ⟨rfl, HS3⟩) | fail)
            go_roundw
            case rel => exact ⟨j, siftDown ltInt j a 0 (swp dj a p), by go_num, by have := HL.out; omega, by rw [size_sift, size_swp2]; exact hsj, Lib.hid (HS2.out.then HS3.out), HP2⟩
            case measure => simp [intOf]
    | succ j =>
      rw [show ((j + 1 : Nat) : Int) - 1 = (j : Int) by omega]
      have hd0 : decide ((0 : Int) ≤ (j : Int)) = true := by simp
      have hjs : (j : Int) < 1000000000 := by have := HH.out; omega
      have hj1 : j ≤ N := by have := HH.out; omega
      have hj2 : a + hi ≤ N := by have := HH.out; omega
      go_wp2_with (first | (go_at_call 298; refine (siftDown_any _ g N c j hi a dk z HS.out.1 hsk hj1 hj2 hsz).mono ?_; rintro e w2 ⟨rfl, HS3⟩) | fail)
      go_roundw
      case rel => exact ⟨j, siftDown ltInt hi a j dk, by go_num, by omega, by rw [size_sift]; exact hsk, Lib.hid (HS.out.then HS3.out), Lib.hid HO.out⟩
      case measure => simp [intOf]

set_option maxHeartbeats 1000000 in
set_option maxRecDepth 100000 in
theorem reverse_any (w : World) (g N c a b : Nat) (d : Array Int) (z : List Value) (h : Uw w g d z) (hN : d.size = N) (hab : a < b) (hb : b ≤ N) (hsz : N < 1000000000) :
    Calls Tryz.prog 281 #[.slice (some ⟨g, 0, none⟩) N c, .int .i64 (a : Int), .int .i64 (b : Int)] w fun e w' => e = .returned (.tuple #[]) ∧ Hid (Sd w g (reverseRange d a b) z w') := by
  have HS0 := Lib.hid (Sd.refl h)
  clear h
  obtain ⟨m, hm⟩ : ∃ m, b = m + 1 := ⟨b - 1, by omega⟩
  have e2 : IntKind.i64.wrap ((b : Int) - 1) = (m : Int) := wrapN (by omega) (by omega)
  have HT := Lib.hid (show reverseRange d a b = reverseLoop a m d by rw [reverseRange, show b - 1 = m by omega])
  rw [HT.out]
  have hmN : m < N := by omega
  have haN : a ≤ N := by omega
  have HH := Lib.hid hm
  clear HT hm hab hb
  go_enter Tryz.func281, Tryz.ntmps281
  go_wp2_with fail
  go_loopw [6, 7] (fun v u wr => ∃ (i j : Nat) (dk : Array Int), v = .int .i64 i ∧ u = .int .i64 j ∧ i ≤ N ∧ j < N ∧ dk.size = N ∧ Hid (Sd w g dk z wr) ∧ Hid (reverseLoop i j dk = reverseLoop a m d)) (fun v u _ => (intOf u).toNat + 1 - (intOf v).toNat)
  case atStart => exact ⟨a, m, d, rfl, rfl, haN, hmN, hN, HS0, Lib.hid rfl⟩
  case round =>
    obtain ⟨i, j, dk, rfl, rfl, hi, hj, hsk, HS, HO⟩ := hrel
    by_cases hlt : i < j
    · have hd : decide (i < j) = true := by simpa using hlt
      have HR := Lib.hid (show reverseLoop (i + 1) (j - 1) (swp dk i j) = reverseLoop a m d by rw [← HO.out]; conv => rhs; rw [reverseLoop, if_pos hlt])
      obtain ⟨k, hk⟩ : ∃ k, j = k + 1 := ⟨j - 1, by omega⟩
      rw [show j - 1 = k by omega] at HR
      have e3 : IntKind.i64.wrap ((j : Int) - 1) = (k : Int) := wrapN (by omega) (by omega)
      have q0 := HS.out.1.cell i (by omega)
      have q1 := HS.out.1.cell j (by omega)
      have f0 := Own.frozen HS.out.1 i
      have f1 := Own.frozen HS.out.1 j
      have hgl := Own.lt HS.out.1
      obtain ⟨x0, hx0⟩ : ∃ x, Hid (dk[i]! = x) := ⟨_, Lib.hid rfl⟩
      obtain ⟨x1, hx1⟩ : ∃ x, Hid (dk[j]! = x) := ⟨_, Lib.hid rfl⟩
      rw [hx0.out] at q0
      rw [hx1.out] at q1
      have n0 : (0 : Int) ≤ (i : Int) := by omega
      have n1 : (0 : Int) ≤ (j : Int) := by omega
      have b0 : (i : Int) < (N : Int) := by omega
      have b1 : (j : Int) < (N : Int) := by omega
      have hne : i ≠ j := by omega
      have hne' : j ≠ i := by omega
      have his : (i : Int) < 1000000000 := by omega
      have HK := Lib.hid (And.intro hk hlt)
      clear hk hlt
      go_wp2_with fail
      go_region
      go_wp2_with fail
      go_roundw
      case rel => exact ⟨i + 1, k, swp dk i j, by go_num, rfl, by omega, by have := HK.out; omega, by rw [size_swp2]; exact hsk, Lib.hid ((HS.out.qt ⟨_, rfl⟩).swap i j (by omega) (by omega) hx0.out hx1.out), HR⟩
      case measure => have := HK.out; simp [intOf]; omega
    · have hd : decide (i < j) = false := by simpa using hlt
      have HR := Lib.hid (show dk = reverseLoop a m d by rw [← HO.out, reverseLoop, if_neg hlt])
      go_wp2_with fail
      go_end0
      exact ⟨rfl, Lib.hid (by rw [← HR.out]; exact HS.out)⟩
end Go.Proofs.YtcadnlilijkneaaGreat
