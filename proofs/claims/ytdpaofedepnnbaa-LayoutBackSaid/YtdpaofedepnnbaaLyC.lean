/-
  Segment of package layout, by its contract. No claim of its own.
-/
import Derived.Test.YtdpaofedepnnbaaLyB
namespace Go.Proofs.Ytdpaofedepnnbaa
open Go.RowKit Go.Deep Go.Shelf
set_option linter.unusedVariables false
set_option linter.unusedSimpArgs false

/-- the last one below n whose From is at most a, or 0 -/
def lastLe (L : List Sg) (a : Nat) : Nat → Nat
  | 0 => 0
  | n + 1 => if (sx L n).1 ≤ a then n else lastLe L a n
def segN (x : Ly) (a : Nat) : Nat := lastLe x.s a x.s.length
def segI (x : Ly) (a : Nat) : Int := if lright x = true ∧ a < 1048576 then (segN x a : Int) else -1
theorem lastLe_lt (L : List Sg) (a n : Nat) (h : 0 < n) : lastLe L a n < n := by
  induction n with
  | zero => omega
  | succ n ih =>
    simp only [lastLe]
    split
    · omega
    · rcases Nat.eq_zero_or_pos n with rfl | h0
      · simp [lastLe]
      · have := ih h0; omega
theorem lastLe_is (L : List Sg) (a n : Nat) (hn : 0 < n) (h0 : (sx L 0).1 ≤ a) : (sx L (lastLe L a n)).1 ≤ a ∧ ∀ j, lastLe L a n < j → j < n → a < (sx L j).1 := by
  induction n with
  | zero => omega
  | succ n ih =>
    simp only [lastLe]
    split
    · exact ⟨by assumption, by omega⟩
    · rename_i hc
      rcases Nat.eq_zero_or_pos n with rfl | hp
      · exact absurd h0 hc
      · obtain ⟨g1, g2⟩ := ih hp
        refine ⟨g1, fun j h1 h2 => ?_⟩
        by_cases e : j = n
        · subst e; omega
        · exact g2 j h1 (by omega)
theorem sg_mono {L : List Sg} (h : sgOk L = true) {i j : Nat} (hij : i < j) (hj : j < L.length) : (sx L i).1 < (sx L j).1 := by
  have hs := (sgOk_iff.1 h).2.2.2
  induction j with
  | zero => omega
  | succ j ih =>
    have := hs j hj
    by_cases e : i = j
    · subst e; exact this
    · have := ih (by omega) (by omega); omega
/-- the index is the only one of its kind -/
theorem segN_eq {x : Ly} (h : lright x = true) {a i : Nat} (hi : i < x.s.length) (h1 : (sx x.s i).1 ≤ a) (h2 : ∀ j, i < j → j < x.s.length → a < (sx x.s j).1) : segN x a = i := by
  have hs := (lright_iff.1 h).2.2
  have h0 := (sgOk_iff.1 hs).2.1
  obtain ⟨g1, g2⟩ := lastLe_is x.s a x.s.length (by omega) (by omega)
  have hlt := lastLe_lt x.s a x.s.length (by omega)
  unfold segN
  rcases Nat.lt_trichotomy (lastLe x.s a x.s.length) i with hc | hc | hc
  · have := g2 i hc hi; omega
  · exact hc
  · have := h2 _ hc hlt; omega
theorem segN_is {x : Ly} (h : lright x = true) (a : Nat) : segN x a < x.s.length ∧ (sx x.s (segN x a)).1 ≤ a ∧ ∀ j, segN x a < j → j < x.s.length → a < (sx x.s j).1 := by
  have hs := (lright_iff.1 h).2.2
  have h0 := sgOk_iff.1 hs
  obtain ⟨g1, g2⟩ := lastLe_is x.s a x.s.length (by omega) (by omega)
  exact ⟨lastLe_lt _ _ _ (by omega), g1, g2⟩

set_option maxHeartbeats 1000000 in
set_option maxRecDepth 100000 in
theorem segment_any (A : LyT) (B : Nat) (a : Nat) (w : World) (h : LyIn w B A) (hB : B ≤ w.heap.size) (hf : SgFit A.sg) :
    Calls Try.prog 23 #[A.val, .int .u64 (a : Int)] w fun e w' => e = .returned (.int .i64 (segI A.x a)) ∧ Below w.heap.size w w' := by
  obtain ⟨W, HWW⟩ : ∃ W, Hid (w.alloc (.cells #[.int .u64 (A.e : Int), .slice A.a A.sg.length A.c, .int .i64 A.q] 25) = W) := ⟨_, Lib.hid rfl⟩
  have hWb : Below w.heap.size w W := by rw [← HWW.out]; exact (Below.refl _ _).alloc (Nat.le_refl _) _
  have hws : W.heap.size = w.heap.size + 1 := by rw [← HWW.out]; simp
  have hR := lright_any A B W (h.below hWb hB) (by omega) hf
  have o1 : Own W w.heap.size 25 [.int .u64 (A.e : Int), .slice A.a A.sg.length A.c, .int .i64 A.q] := by rw [← HWW.out]; exact Own.new w _ _
  unfold segI
  obtain ⟨r, HR0⟩ : ∃ r, Hid (lright A.x = r) := ⟨_, Lib.hid rfl⟩
  rw [HR0.out] at hR ⊢
  have HI := Lib.hid h
  have HR := Lib.hid hR
  have HB := Lib.hid hWb
  have HO := Lib.hid o1
  have HS := Lib.hid hB
  have HF := Lib.hid hf
  have HZ := Lib.hid hws
  have hz := o1.lt
  have c0 := o1.cell 0
  have c1 := o1.cell 1
  have c2 := o1.cell 2
  simp at c0 c1 c2
  clear hR hWb o1 h hB hf hws
  cases r with
  | false =>
    rw [if_neg (by simp)]
    obtain ⟨ep, sa, c, L, q⟩ := A
    simp only [LyT.val] at *
    generalize L.length = n at *
    go_enter Try.func23, Try.ntmps23
    go_upto_region 1 with fail
    rw [HWW.out]
    go_wp2_with fail
    refine HR.out.mono ?_
    rintro e w' ⟨rfl, hb⟩
    have H2 := Lib.hid (HB.out.trans (hb.mono HB.out.size))
    clear hb
    go_wp2_with fail
    go_ret
    exact ⟨rfl, H2.out⟩
  | true =>
    by_cases ha : a < 1048576
    · rw [if_pos ⟨rfl, ha⟩]
      have ha1 : decide ((1048576 : Int) ≤ (a : Int)) = false := by simp; omega
      have HN2 : Hid (segN A.x a = lastLe (sgx A.sg) a A.sg.length) := Lib.hid (by unfold segN; simp [LyT.x])
      have hn4 : 1 ≤ A.sg.length ∧ A.sg.length ≤ 4 := by
        have := (sgOk_iff.1 (lright_iff.1 HR0.out).2.2).1
        simpa [LyT.x] using this
      obtain ⟨hn4, hn5⟩ := hn4
      rw [HN2.out]
      clear HN2 HR0 ha
      obtain ⟨ep, sa, c, L, q⟩ := A
      simp only [LyT.val] at *
      generalize hN : L.length = n at *
      have HN := Lib.hid hN
      have hn6 : (n : Int) ≤ 4 := by omega
      clear hN hn4 hn5
      go_enter Try.func23, Try.ntmps23
      go_upto_region 1 with fail
      rw [HWW.out]
      go_wp2_with fail
      refine HR.out.mono ?_
      rintro e w1 ⟨rfl, hb⟩
      have HB2 := Lib.hid (HB.out.trans (hb.mono HB.out.size))
      have HO2 := Lib.hid (HO.out.below hb HO.out.lt)
      have d0 := HO2.out.cell 0
      have d1 := HO2.out.cell 1
      have d2 := HO2.out.cell 2
      have hz1 := HO2.out.lt
      simp at d0 d1 d2
      clear hb c0 c1 c2
      go_wp2_with fail
      go_loopw [5, 18] (fun x i wr => ∃ k : Nat, k ≤ n ∧ i = .int .i64 (k : Int) ∧ x = .int .i64 (lastLe (sgx L) a k : Nat) ∧ Hid (Below w.heap.size w wr)) (fun _ i _ => n - (intOf i).toNat)
      case atStart => exact ⟨0, Nat.zero_le _, rfl, rfl, HB2⟩
      case round =>
        obtain ⟨k, hk, rfl, rfl, HBk⟩ := hrel
        by_cases hlt : k < n
        · have hkL : k < L.length := by rw [HN.out]; exact hlt
          obtain ⟨b, off, rfl, hb, hc⟩ := (HI.out.1.below HBk.out HS.out).sg (show 0 < L.length by omega)
          obtain ⟨e1, e2⟩ := hc k hkL
          clear hc
          have hk0 : (0 : Int) ≤ (k : Int) := by omega
          have hk1 : (k : Int) < (n : Int) := by omega
          obtain ⟨f, hf⟩ : ∃ f, (st L k).f = f := ⟨_, rfl⟩
          have HL : Hid (lastLe (sgx L) a (k + 1) = if f ≤ a then k else lastLe (sgx L) a k) := Lib.hid (by have e : (sx (sgx L) k).1 = f := (by rw [sx_sgx]; exact hf); simp only [lastLe, e])
          rw [hf] at e1
          generalize (st L k).a = x2 at *
          generalize (st L k).ch.length = x3 at *
          generalize (st L k).c = x4 at *
          by_cases hfa : f ≤ a
          · have hfa' : (f : Int) ≤ (a : Int) := by omega
            have HL2 := Lib.hid (HL.out.trans (if_pos hfa))
            clear hfa HL hf
            go_wp2_with fail
            go_roundw
            case rel => exact ⟨k + 1, by omega, by go_num, by rw [HL2.out], Lib.hid (HBk.out.alloc (HBk.out.size) _)⟩
            case measure => simp [intOf]; omega
          · have hfa' : ¬ (f : Int) ≤ (a : Int) := by omega
            have HL2 := Lib.hid (HL.out.trans (if_neg hfa))
            clear hfa HL hf
            go_wp2_with fail
            go_roundw
            case rel => exact ⟨k + 1, by omega, by go_num, by rw [HL2.out], Lib.hid (HBk.out.alloc (HBk.out.size) _)⟩
            case measure => simp [intOf]; omega
        · obtain rfl : k = n := by omega
          go_wp2_with fail
          go_ret
          exact ⟨rfl, HBk.out⟩
    · rw [if_neg (by omega)]
      have ha1 : (1048576 : Int) ≤ (a : Int) := by omega
      clear ha
      obtain ⟨ep, sa, c, L, q⟩ := A
      simp only [LyT.val] at *
      generalize L.length = n at *
      go_enter Try.func23, Try.ntmps23
      go_upto_region 1 with fail
      rw [HWW.out]
      go_wp2_with fail
      refine HR.out.mono ?_
      rintro e w' ⟨rfl, hb⟩
      have H2 := Lib.hid (HB.out.trans (hb.mono HB.out.size))
      clear hb
      go_wp2_with fail
      go_ret
      exact ⟨rfl, H2.out⟩
end Go.Proofs.Ytdpaofedepnnbaa
