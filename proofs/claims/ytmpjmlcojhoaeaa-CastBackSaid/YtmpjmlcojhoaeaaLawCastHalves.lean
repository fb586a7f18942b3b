/-
  The statement CastHalves: the walk of its Go text, by the contracts of what it calls.
-/
import Derived.Test.YtmpjmlcojhoaeaaCastC
namespace Go.Proofs.Ytmpjmlcojhoaeaa
open Go.RowKit

/-- one halving: of a distance below Q * 2, each half's is below Q -/
theorem logN_step (D k : Nat) (h : D < 2 ^ (k + 1)) : D / 2 < 2 ^ k := by rw [Nat.pow_succ] at h; omega

set_option maxRecDepth 100000 in
set_option maxHeartbeats 1000000 in
theorem castHalves_walk (f t v : Int) (w : World) (hf0 : -9223372036854775808 ≤ f) (hf1 : f ≤ 9223372036854775807) (ht0 : -9223372036854775808 ≤ t) (ht1 : t ≤ 9223372036854775807) :
    Calls Try.prog 9 #[.int .i64 f, .int .i64 t, .int .i64 v] w fun e w' => e = .returned (.bool true) ∧ w = w' := by
  obtain ⟨A, hA⟩ : ∃ A, A = min f t := ⟨_, rfl⟩
  obtain ⟨B, hB⟩ : ∃ B, B = max f t := ⟨_, rfl⟩
  obtain ⟨D, hD⟩ : ∃ D : Nat, (D : Int) = B - A := ⟨(B - A).toNat, by omega⟩
  have hDl : D < 18446744073709551616 := by omega
  have hdw : IntKind.u64.wrap (IntKind.u64.wrap (max f t) - IntKind.u64.wrap (min f t)) = (D : Int) := by
    rw [← hA, ← hB]
    simp only [IntKind.wrap_u64]; omega
  have c1 := between_is v (min f t) (max f t) w
  have hx : A ≤ btw v (min f t) (max f t) ∧ btw v (min f t) (max f t) ≤ B := by unfold btw; omega
  generalize btw v (min f t) (max f t) = x at *
  have c2 := log_is D w hDl
  have hlog : ∃ L : Nat, logV D = (L : Int) ∧ L ≤ 63 ∧ D < 2 ^ (L + 1) := by
    by_cases h : D = 0
    · subst h
      exact ⟨0, rfl, by omega, by decide⟩
    · obtain ⟨a, b, c, _⟩ := logN_bounds D (by omega) hDl
      exact ⟨logN D, by unfold logV; rw [if_neg h], c, b⟩
  have hsome : logB D = (f != t) := by
    unfold logB
    rw [Bool.eq_iff_iff]
    simp; omega
  have HH := Lib.hid (fun a b h1 h2 h3 h4 => half_any a b w h1 h2 h3 h4)
  have c0 := alive_any w
  obtain ⟨L, hL, hL2, hL3⟩ := hlog
  rw [hL, hsome] at c2
  have C0 := Lib.hid c0
  have C1 := Lib.hid c1
  have C2 := Lib.hid c2
  have HDW := Lib.hid hdw
  have HL3 := Lib.hid hL3
  clear c0 c1 c2 hsome hL hL3
  have HA := Lib.hid hA
  have HB := Lib.hid hB
  have HD := Lib.hid hD
  clear hdw
  obtain ⟨r1, r2, r3, r4⟩ : -9223372036854775808 ≤ A ∧ B ≤ 9223372036854775807 ∧ A ≤ B ∧ (D : Int) = B - A := by omega
  clear hA hB hD
  go_enter Try.func9, Try.ntmps9
  go_wp2_with fail
  refine C1.out.mono ?_
  rintro e w' ⟨rfl, rfl⟩
  go_wp2_with fail
  rw [HDW.out]
  refine C2.out.mono ?_
  rintro e w' ⟨rfl, rfl⟩
  go_wp2_with fail
  rw [← HA.out, ← HB.out]
  go_loop [7, 8, 12] (fun p q s => ∃ (a b : Int) (j d : Nat), A ≤ a ∧ a ≤ x ∧ x ≤ b ∧ b ≤ B ∧ (d : Int) = b - a ∧ j ≤ L + 1 ∧ d < 2 ^ (L + 1 - j) ∧ p = .int .i64 a ∧ q = .int .i64 b ∧ s = .int .i64 (j : Int)) (fun p q _ => (intOf q - intOf p).toNat)
  case atStart => exact ⟨A, B, 0, D, by omega, hx.1, hx.2, by omega, r4, by omega, by have := HL3.out; simpa using this, rfl, rfl, rfl⟩
  case round =>
    obtain ⟨a, b, j, d, g1, g2, g3, g4, g5, g6, g7, rfl, rfl, rfl⟩ := hrel
    have G7 := Lib.hid g7
    clear g7
    by_cases hlt : a < b
    · have hj : j ≤ L := by
        have g7 := G7.out
        by_cases e : j = L + 1
        · rw [e, Nat.sub_self, Nat.pow_zero] at g7; omega
        · omega
      have hnext : d / 2 < 2 ^ (L + 1 - (j + 1)) := by
        have g7 := G7.out
        rw [show L + 1 - j = (L + 1 - (j + 1)) + 1 by omega, Nat.pow_succ] at g7; omega
      have HN := Lib.hid hnext
      clear hnext
      have hh := HH.out a b (by omega) (by omega) (by omega) (by omega)
      obtain ⟨h, hhe⟩ : ∃ h, h = (a + b) / 2 := ⟨_, rfl⟩
      rw [← hhe] at hh
      have b1 : a ≤ h := by omega
      have b2 : h < b := by omega
      have b3 : h - a = ((d / 2 : Nat) : Int) := by omega
      have b4 : b - (h + 1) ≤ ((d / 2 : Nat) : Int) ∧ 0 ≤ b - (h + 1) ∨ b - (h + 1) = -1 := by omega
      have B3 := Lib.hid b3
      have B4 := Lib.hid b4
      have HC := Lib.hid hh
      have e1 : decide (h < a) = false := decide_eq_false (by omega)
      have e2 : decide (b ≤ h) = false := decide_eq_false (by omega)
      clear hhe b3 b4 hh
      by_cases hxh : x ≤ h
      · go_wp2_with fail
        refine HC.out.mono ?_
        rintro e w' ⟨rfl, rfl⟩
        go_wp2_with fail
        go_round
        case rel => exact ⟨a, h, j + 1, d / 2, by omega, by omega, by omega, by omega, by have := B3.out; omega, by omega, HN.out, by go_num, by go_num, by go_num⟩
        case measure => simp [intOf]; omega
      · go_wp2_with fail
        refine HC.out.mono ?_
        rintro e w' ⟨rfl, rfl⟩
        go_wp2_with fail
        go_round
        case rel => exact ⟨h + 1, b, j + 1, (b - (h + 1)).toNat, by omega, by omega, by omega, by omega, by omega, by omega, by have := HN.out; have := B4.out; omega, by go_num, by go_num, by go_num⟩
        case measure => simp [intOf]; omega
    · obtain rfl : a = b := by omega
      obtain rfl : x = a := by omega
      go_wp2_with fail
      refine C0.out.mono ?_
      rintro e w' ⟨rfl, rfl⟩
      go_wp2_with fail
      go_ret
      exact ⟨rfl, rfl⟩
end Go.Proofs.Ytmpjmlcojhoaeaa
