/-
  The statement CastOrder: the walk of its Go text, by the contracts of what it calls.
-/
import Derived.Test.YtmpjmlcojhoaeaaCastC
namespace Go.Proofs.Ytmpjmlcojhoaeaa
open Go.RowKit

theorem clampN_mono (x y : Int) (m : Nat) (h : x ≤ y) : clampN x m ≤ clampN y m := by
  have := hp_pos m
  unfold clampN; omega
/-- the four ways in which two aligned numbers can stand to each other -/
theorem align_cases (X Y : Nat) (n : Int) : alB X n = false ∨ (alB X n = true ∧ alB Y n = false) ∨
    (alB X n = true ∧ alB Y n = true ∧ ∃ c : Bool, decide (X ≤ Y) = c ∧ decide (alV X n ≤ alV Y n) = c) ∨
    (alB X n = true ∧ alB Y n = true ∧ decide (X ≤ Y) = false ∧ decide (alV X n ≤ alV Y n) = true ∧ alV X n = alV Y n) := by
  unfold alB alV
  by_cases h1 : upN X (an n) < 18446744073709551616
  · by_cases h2 : upN Y (an n) < 18446744073709551616
    · rw [if_pos h1, if_pos h2, decide_eq_true h1, decide_eq_true h2]
      refine .inr (.inr ?_)
      by_cases h3 : X ≤ Y
      · exact .inl ⟨rfl, rfl, true, decide_eq_true h3, decide_eq_true (upN_mono X Y _ h3)⟩
      · have h4 := upN_mono Y X (an n) (by omega)
        by_cases h5 : upN X (an n) ≤ upN Y (an n)
        · exact .inr ⟨rfl, rfl, decide_eq_false h3, decide_eq_true h5, by omega⟩
        · exact .inl ⟨rfl, rfl, false, decide_eq_false h3, decide_eq_false h5⟩
    · exact .inr (.inl ⟨decide_eq_true h1, decide_eq_false h2⟩)
  · exact .inl (decide_eq_false h1)

set_option maxRecDepth 100000 in
set_option maxHeartbeats 1000000 in
theorem castOrder_pos (a b n : Int) (w : World) (ha0 : -9223372036854775808 ≤ a) (ha1 : a ≤ 9223372036854775807) (hb0 : -9223372036854775808 ≤ b) (hb1 : b ≤ 9223372036854775807) (h : 0 ≤ min a b) :
    Calls Try.prog 5 #[.int .i64 a, .int .i64 b, .int .i64 n] w fun e w' => e = .returned (.bool true) ∧ w = w' := by
  obtain ⟨X, hX, hXl, _⟩ := u64_of (min a b)
  obtain ⟨Y, hY, hYl, _⟩ := u64_of (max a b)
  have c0 := alive_any w
  have c1 := half_any a b w ha0 ha1 hb0 hb1
  have c2 := half_any b a w hb0 hb1 ha0 ha1
  rw [Int.add_comm b a] at c2
  have c3 := clamp_any (min a b) n w
  have c4 := clamp_any (max a b) n w
  have c5 := align_is X n w hXl
  have c6 := align_is Y n w hYl
  have c7 := zig_any (min a b) w (by omega) (by omega)
  have c8 := zig_any (max a b) w (by omega) (by omega)
  have d1 : decide (clampN (max a b) (wn n) < clampN (min a b) (wn n)) = false := decide_eq_false (by have := clampN_mono (min a b) (max a b) (wn n) (by omega); omega)
  have d2 : decide ((a + b) / 2 < min a b) = false := decide_eq_false (by omega)
  have d3 : decide (max a b < (a + b) / 2) = false := decide_eq_false (by omega)
  have d4 : decide (min a b ≤ max a b) = true := decide_eq_true (by omega)
  have hal := align_cases X Y n
  have t1 : decide (0 ≤ min a b) = true := decide_eq_true h
  have t2 : decide (max a b < 0) = false := decide_eq_false (by omega)
  have t3 : decide (min a b < 0) = false := decide_eq_false (by omega)
  have t4 : decide (zigN (min a b) ≤ zigN (max a b)) = true := decide_eq_true (by unfold zigN; rw [if_pos (by omega), if_pos (by omega)]; omega)
  have t5 : decide (-9223372036854775808 < min a b) = true := decide_eq_true (by omega)
  generalize clampN (min a b) (wn n) = k1 at *
  generalize clampN (max a b) (wn n) = k2 at *
  generalize (a + b) / 2 = h at *
  generalize alV X n = p at *
  generalize alB X n = q at *
  generalize alV Y n = r at *
  generalize alB Y n = s at *
  generalize zigN (min a b) = zx at *
  generalize zigN (max a b) = zy at *
  have C0 := Lib.hid c0
  have C1 := Lib.hid c1
  have C2 := Lib.hid c2
  have C3 := Lib.hid c3
  have C4 := Lib.hid c4
  have C5 := Lib.hid c5
  have C6 := Lib.hid c6
  have C7 := Lib.hid c7
  have C8 := Lib.hid c8

  clear c0 c1 c2 c3 c4 c5 c6 c7 c8
  rcases hal with rfl | ⟨rfl, rfl⟩ | ⟨rfl, rfl, c, q1, q2⟩ | ⟨rfl, rfl, q1, q2, rfl⟩
  all_goals
    go_enter Try.func5, Try.ntmps5
    go_wp2_with fail
    refine C1.out.mono ?_
    rintro e w' ⟨rfl, rfl⟩
    go_wp2_with fail
    refine C3.out.mono ?_
    rintro e w' ⟨rfl, rfl⟩
    go_wp2_with fail
    refine C4.out.mono ?_
    rintro e w' ⟨rfl, rfl⟩
    go_wp2_with fail
    refine C2.out.mono ?_
    rintro e w' ⟨rfl, rfl⟩
    go_wp2_with fail
    refine C5.out.mono ?_
    rintro e w' ⟨rfl, rfl⟩
    go_wp2_with fail
    refine C6.out.mono ?_
    rintro e w' ⟨rfl, rfl⟩
    go_wp2_with fail
    refine C7.out.mono ?_
    rintro e w' ⟨rfl, rfl⟩
    go_wp2_with fail
    refine C8.out.mono ?_
    rintro e w' ⟨rfl, rfl⟩
    go_wp2_with fail
    refine C0.out.mono ?_
    rintro e w' ⟨rfl, rfl⟩
    go_wp2_with fail
    go_ret
    exact ⟨rfl, rfl⟩

set_option maxRecDepth 100000 in
set_option maxHeartbeats 1000000 in
theorem castOrder_negnn (a b n : Int) (w : World) (ha0 : -9223372036854775808 ≤ a) (ha1 : a ≤ 9223372036854775807) (hb0 : -9223372036854775808 ≤ b) (hb1 : b ≤ 9223372036854775807) (h : max a b < 0) (h2 : -9223372036854775808 < min a b) :
    Calls Try.prog 5 #[.int .i64 a, .int .i64 b, .int .i64 n] w fun e w' => e = .returned (.bool true) ∧ w = w' := by
  obtain ⟨X, hX, hXl, _⟩ := u64_of (min a b)
  obtain ⟨Y, hY, hYl, _⟩ := u64_of (max a b)
  have c0 := alive_any w
  have c1 := half_any a b w ha0 ha1 hb0 hb1
  have c2 := half_any b a w hb0 hb1 ha0 ha1
  rw [Int.add_comm b a] at c2
  have c3 := clamp_any (min a b) n w
  have c4 := clamp_any (max a b) n w
  have c5 := align_is X n w hXl
  have c6 := align_is Y n w hYl
  have c7 := zig_any (min a b) w (by omega) (by omega)
  have c8 := zig_any (max a b) w (by omega) (by omega)
  have c9 := zig_any (-(min a b)) w (by omega) (by omega)
  have hzn : zigN (min a b) + 1 = zigN (-(min a b)) := by unfold zigN; rw [if_neg (by omega), if_pos (by omega)]; omega
  have hz0 := zigN_range (min a b) (by omega) (by omega)
  have hz9 := zigN_range (-(min a b)) (by omega) (by omega)
  have d1 : decide (clampN (max a b) (wn n) < clampN (min a b) (wn n)) = false := decide_eq_false (by have := clampN_mono (min a b) (max a b) (wn n) (by omega); omega)
  have d2 : decide ((a + b) / 2 < min a b) = false := decide_eq_false (by omega)
  have d3 : decide (max a b < (a + b) / 2) = false := decide_eq_false (by omega)
  have d4 : decide (min a b ≤ max a b) = true := decide_eq_true (by omega)
  have hal := align_cases X Y n
  have t6 : decide (max a b < 0) = true := decide_eq_true (by omega)
  have t7 : decide (zigN (max a b) ≤ zigN (min a b)) = true := decide_eq_true (by unfold zigN; rw [if_neg (by omega), if_neg (by omega)]; omega)
  have t1 : decide (-9223372036854775808 < min a b) = true := decide_eq_true (by omega)
  have t2 : decide (min a b < 0) = true := decide_eq_true (by omega)
  have t3 : decide (0 ≤ min a b) = false := decide_eq_false (by omega)
  have t4 : decide (zigN (-(min a b)) ≤ zigN (min a b)) = false := decide_eq_false (by omega)
  generalize zigN (-(min a b)) = zn at *
  generalize clampN (min a b) (wn n) = k1 at *
  generalize clampN (max a b) (wn n) = k2 at *
  generalize (a + b) / 2 = h at *
  generalize alV X n = p at *
  generalize alB X n = q at *
  generalize alV Y n = r at *
  generalize alB Y n = s at *
  generalize zigN (min a b) = zx at *
  generalize zigN (max a b) = zy at *
  have C0 := Lib.hid c0
  have C1 := Lib.hid c1
  have C2 := Lib.hid c2
  have C3 := Lib.hid c3
  have C4 := Lib.hid c4
  have C5 := Lib.hid c5
  have C6 := Lib.hid c6
  have C7 := Lib.hid c7
  have C8 := Lib.hid c8
  have C9 := Lib.hid c9
  clear c9
  clear c0 c1 c2 c3 c4 c5 c6 c7 c8
  rcases hal with rfl | ⟨rfl, rfl⟩ | ⟨rfl, rfl, c, q1, q2⟩ | ⟨rfl, rfl, q1, q2, rfl⟩
  all_goals
    go_enter Try.func5, Try.ntmps5
    go_wp2_with fail
    refine C1.out.mono ?_
    rintro e w' ⟨rfl, rfl⟩
    go_wp2_with fail
    refine C3.out.mono ?_
    rintro e w' ⟨rfl, rfl⟩
    go_wp2_with fail
    refine C4.out.mono ?_
    rintro e w' ⟨rfl, rfl⟩
    go_wp2_with fail
    refine C2.out.mono ?_
    rintro e w' ⟨rfl, rfl⟩
    go_wp2_with fail
    refine C5.out.mono ?_
    rintro e w' ⟨rfl, rfl⟩
    go_wp2_with fail
    refine C6.out.mono ?_
    rintro e w' ⟨rfl, rfl⟩
    go_wp2_with fail
    refine C7.out.mono ?_
    rintro e w' ⟨rfl, rfl⟩
    go_wp2_with fail
    refine C8.out.mono ?_
    rintro e w' ⟨rfl, rfl⟩
    go_wp2_with fail
    refine C7.out.mono ?_
    rintro e w' ⟨rfl, rfl⟩
    go_wp2_with fail
    refine C9.out.mono ?_
    rintro e w' ⟨rfl, rfl⟩
    go_wp2_with fail
    refine C7.out.mono ?_
    rintro e w' ⟨rfl, rfl⟩
    go_wp2_with fail
    refine C9.out.mono ?_
    rintro e w' ⟨rfl, rfl⟩
    go_wp2_with fail
    refine C0.out.mono ?_
    rintro e w' ⟨rfl, rfl⟩
    go_wp2_with fail
    go_ret
    exact ⟨rfl, rfl⟩

set_option maxRecDepth 100000 in
set_option maxHeartbeats 1000000 in
theorem castOrder_negnm (a b n : Int) (w : World) (ha0 : -9223372036854775808 ≤ a) (ha1 : a ≤ 9223372036854775807) (hb0 : -9223372036854775808 ≤ b) (hb1 : b ≤ 9223372036854775807) (h : max a b < 0) (h2 : min a b = -9223372036854775808) :
    Calls Try.prog 5 #[.int .i64 a, .int .i64 b, .int .i64 n] w fun e w' => e = .returned (.bool true) ∧ w = w' := by
  obtain ⟨X, hX, hXl, _⟩ := u64_of (min a b)
  obtain ⟨Y, hY, hYl, _⟩ := u64_of (max a b)
  have c0 := alive_any w
  have c1 := half_any a b w ha0 ha1 hb0 hb1
  have c2 := half_any b a w hb0 hb1 ha0 ha1
  rw [Int.add_comm b a] at c2
  have c3 := clamp_any (min a b) n w
  have c4 := clamp_any (max a b) n w
  have c5 := align_is X n w hXl
  have c6 := align_is Y n w hYl
  have c7 := zig_any (min a b) w (by omega) (by omega)
  have c8 := zig_any (max a b) w (by omega) (by omega)
  have d1 : decide (clampN (max a b) (wn n) < clampN (min a b) (wn n)) = false := decide_eq_false (by have := clampN_mono (min a b) (max a b) (wn n) (by omega); omega)
  have d2 : decide ((a + b) / 2 < min a b) = false := decide_eq_false (by omega)
  have d3 : decide (max a b < (a + b) / 2) = false := decide_eq_false (by omega)
  have d4 : decide (min a b ≤ max a b) = true := decide_eq_true (by omega)
  have hal := align_cases X Y n
  have t1 : decide (-9223372036854775808 < min a b) = false := decide_eq_false (by omega)
  have t3 : decide (0 ≤ min a b) = false := decide_eq_false (by omega)
  have t6 : decide (max a b < 0) = true := decide_eq_true (by omega)
  have t7 : decide (zigN (max a b) ≤ zigN (min a b)) = true := decide_eq_true (by unfold zigN; rw [if_neg (by omega), if_neg (by omega)]; omega)
  generalize clampN (min a b) (wn n) = k1 at *
  generalize clampN (max a b) (wn n) = k2 at *
  generalize (a + b) / 2 = h at *
  generalize alV X n = p at *
  generalize alB X n = q at *
  generalize alV Y n = r at *
  generalize alB Y n = s at *
  generalize zigN (min a b) = zx at *
  generalize zigN (max a b) = zy at *
  have C0 := Lib.hid c0
  have C1 := Lib.hid c1
  have C2 := Lib.hid c2
  have C3 := Lib.hid c3
  have C4 := Lib.hid c4
  have C5 := Lib.hid c5
  have C6 := Lib.hid c6
  have C7 := Lib.hid c7
  have C8 := Lib.hid c8
  clear h2
  clear c0 c1 c2 c3 c4 c5 c6 c7 c8
  rcases hal with rfl | ⟨rfl, rfl⟩ | ⟨rfl, rfl, c, q1, q2⟩ | ⟨rfl, rfl, q1, q2, rfl⟩
  all_goals
    go_enter Try.func5, Try.ntmps5
    go_wp2_with fail
    refine C1.out.mono ?_
    rintro e w' ⟨rfl, rfl⟩
    go_wp2_with fail
    refine C3.out.mono ?_
    rintro e w' ⟨rfl, rfl⟩
    go_wp2_with fail
    refine C4.out.mono ?_
    rintro e w' ⟨rfl, rfl⟩
    go_wp2_with fail
    refine C2.out.mono ?_
    rintro e w' ⟨rfl, rfl⟩
    go_wp2_with fail
    refine C5.out.mono ?_
    rintro e w' ⟨rfl, rfl⟩
    go_wp2_with fail
    refine C6.out.mono ?_
    rintro e w' ⟨rfl, rfl⟩
    go_wp2_with fail
    refine C7.out.mono ?_
    rintro e w' ⟨rfl, rfl⟩
    go_wp2_with fail
    refine C8.out.mono ?_
    rintro e w' ⟨rfl, rfl⟩
    go_wp2_with fail
    refine C0.out.mono ?_
    rintro e w' ⟨rfl, rfl⟩
    go_wp2_with fail
    go_ret
    exact ⟨rfl, rfl⟩

set_option maxRecDepth 100000 in
set_option maxHeartbeats 1000000 in
theorem castOrder_mixn (a b n : Int) (w : World) (ha0 : -9223372036854775808 ≤ a) (ha1 : a ≤ 9223372036854775807) (hb0 : -9223372036854775808 ≤ b) (hb1 : b ≤ 9223372036854775807) (h : min a b < 0) (h3 : 0 ≤ max a b) (h2 : -9223372036854775808 < min a b) :
    Calls Try.prog 5 #[.int .i64 a, .int .i64 b, .int .i64 n] w fun e w' => e = .returned (.bool true) ∧ w = w' := by
  obtain ⟨X, hX, hXl, _⟩ := u64_of (min a b)
  obtain ⟨Y, hY, hYl, _⟩ := u64_of (max a b)
  have c0 := alive_any w
  have c1 := half_any a b w ha0 ha1 hb0 hb1
  have c2 := half_any b a w hb0 hb1 ha0 ha1
  rw [Int.add_comm b a] at c2
  have c3 := clamp_any (min a b) n w
  have c4 := clamp_any (max a b) n w
  have c5 := align_is X n w hXl
  have c6 := align_is Y n w hYl
  have c7 := zig_any (min a b) w (by omega) (by omega)
  have c8 := zig_any (max a b) w (by omega) (by omega)
  have c9 := zig_any (-(min a b)) w (by omega) (by omega)
  have hzn : zigN (min a b) + 1 = zigN (-(min a b)) := by unfold zigN; rw [if_neg (by omega), if_pos (by omega)]; omega
  have hz0 := zigN_range (min a b) (by omega) (by omega)
  have hz9 := zigN_range (-(min a b)) (by omega) (by omega)
  have d1 : decide (clampN (max a b) (wn n) < clampN (min a b) (wn n)) = false := decide_eq_false (by have := clampN_mono (min a b) (max a b) (wn n) (by omega); omega)
  have d2 : decide ((a + b) / 2 < min a b) = false := decide_eq_false (by omega)
  have d3 : decide (max a b < (a + b) / 2) = false := decide_eq_false (by omega)
  have d4 : decide (min a b ≤ max a b) = true := decide_eq_true (by omega)
  have hal := align_cases X Y n
  have t6 : decide (max a b < 0) = false := decide_eq_false (by omega)
  have t1 : decide (-9223372036854775808 < min a b) = true := decide_eq_true (by omega)
  have t2 : decide (min a b < 0) = true := decide_eq_true (by omega)
  have t3 : decide (0 ≤ min a b) = false := decide_eq_false (by omega)
  have t4 : decide (zigN (-(min a b)) ≤ zigN (min a b)) = false := decide_eq_false (by omega)
  generalize zigN (-(min a b)) = zn at *
  generalize clampN (min a b) (wn n) = k1 at *
  generalize clampN (max a b) (wn n) = k2 at *
  generalize (a + b) / 2 = h at *
  generalize alV X n = p at *
  generalize alB X n = q at *
  generalize alV Y n = r at *
  generalize alB Y n = s at *
  generalize zigN (min a b) = zx at *
  generalize zigN (max a b) = zy at *
  have C0 := Lib.hid c0
  have C1 := Lib.hid c1
  have C2 := Lib.hid c2
  have C3 := Lib.hid c3
  have C4 := Lib.hid c4
  have C5 := Lib.hid c5
  have C6 := Lib.hid c6
  have C7 := Lib.hid c7
  have C8 := Lib.hid c8
  have C9 := Lib.hid c9
  clear c9
  clear c0 c1 c2 c3 c4 c5 c6 c7 c8
  rcases hal with rfl | ⟨rfl, rfl⟩ | ⟨rfl, rfl, c, q1, q2⟩ | ⟨rfl, rfl, q1, q2, rfl⟩
  all_goals
    go_enter Try.func5, Try.ntmps5
    go_wp2_with fail
    refine C1.out.mono ?_
    rintro e w' ⟨rfl, rfl⟩
    go_wp2_with fail
    refine C3.out.mono ?_
    rintro e w' ⟨rfl, rfl⟩
    go_wp2_with fail
    refine C4.out.mono ?_
    rintro e w' ⟨rfl, rfl⟩
    go_wp2_with fail
    refine C2.out.mono ?_
    rintro e w' ⟨rfl, rfl⟩
    go_wp2_with fail
    refine C5.out.mono ?_
    rintro e w' ⟨rfl, rfl⟩
    go_wp2_with fail
    refine C6.out.mono ?_
    rintro e w' ⟨rfl, rfl⟩
    go_wp2_with fail
    refine C7.out.mono ?_
    rintro e w' ⟨rfl, rfl⟩
    go_wp2_with fail
    refine C9.out.mono ?_
    rintro e w' ⟨rfl, rfl⟩
    go_wp2_with fail
    refine C7.out.mono ?_
    rintro e w' ⟨rfl, rfl⟩
    go_wp2_with fail
    refine C9.out.mono ?_
    rintro e w' ⟨rfl, rfl⟩
    go_wp2_with fail
    refine C0.out.mono ?_
    rintro e w' ⟨rfl, rfl⟩
    go_wp2_with fail
    go_ret
    exact ⟨rfl, rfl⟩

set_option maxRecDepth 100000 in
set_option maxHeartbeats 1000000 in
theorem castOrder_mixm (a b n : Int) (w : World) (ha0 : -9223372036854775808 ≤ a) (ha1 : a ≤ 9223372036854775807) (hb0 : -9223372036854775808 ≤ b) (hb1 : b ≤ 9223372036854775807) (h3 : 0 ≤ max a b) (h2 : min a b = -9223372036854775808) :
    Calls Try.prog 5 #[.int .i64 a, .int .i64 b, .int .i64 n] w fun e w' => e = .returned (.bool true) ∧ w = w' := by
  obtain ⟨X, hX, hXl, _⟩ := u64_of (min a b)
  obtain ⟨Y, hY, hYl, _⟩ := u64_of (max a b)
  have c0 := alive_any w
  have c1 := half_any a b w ha0 ha1 hb0 hb1
  have c2 := half_any b a w hb0 hb1 ha0 ha1
  rw [Int.add_comm b a] at c2
  have c3 := clamp_any (min a b) n w
  have c4 := clamp_any (max a b) n w
  have c5 := align_is X n w hXl
  have c6 := align_is Y n w hYl
  have c7 := zig_any (min a b) w (by omega) (by omega)
  have c8 := zig_any (max a b) w (by omega) (by omega)
  have d1 : decide (clampN (max a b) (wn n) < clampN (min a b) (wn n)) = false := decide_eq_false (by have := clampN_mono (min a b) (max a b) (wn n) (by omega); omega)
  have d2 : decide ((a + b) / 2 < min a b) = false := decide_eq_false (by omega)
  have d3 : decide (max a b < (a + b) / 2) = false := decide_eq_false (by omega)
  have d4 : decide (min a b ≤ max a b) = true := decide_eq_true (by omega)
  have hal := align_cases X Y n
  have t1 : decide (-9223372036854775808 < min a b) = false := decide_eq_false (by omega)
  have t3 : decide (0 ≤ min a b) = false := decide_eq_false (by omega)
  have t6 : decide (max a b < 0) = false := decide_eq_false (by omega)
  generalize clampN (min a b) (wn n) = k1 at *
  generalize clampN (max a b) (wn n) = k2 at *
  generalize (a + b) / 2 = h at *
  generalize alV X n = p at *
  generalize alB X n = q at *
  generalize alV Y n = r at *
  generalize alB Y n = s at *
  generalize zigN (min a b) = zx at *
  generalize zigN (max a b) = zy at *
  have C0 := Lib.hid c0
  have C1 := Lib.hid c1
  have C2 := Lib.hid c2
  have C3 := Lib.hid c3
  have C4 := Lib.hid c4
  have C5 := Lib.hid c5
  have C6 := Lib.hid c6
  have C7 := Lib.hid c7
  have C8 := Lib.hid c8
  clear h2
  clear c0 c1 c2 c3 c4 c5 c6 c7 c8
  rcases hal with rfl | ⟨rfl, rfl⟩ | ⟨rfl, rfl, c, q1, q2⟩ | ⟨rfl, rfl, q1, q2, rfl⟩
  all_goals
    go_enter Try.func5, Try.ntmps5
    go_wp2_with fail
    refine C1.out.mono ?_
    rintro e w' ⟨rfl, rfl⟩
    go_wp2_with fail
    refine C3.out.mono ?_
    rintro e w' ⟨rfl, rfl⟩
    go_wp2_with fail
    refine C4.out.mono ?_
    rintro e w' ⟨rfl, rfl⟩
    go_wp2_with fail
    refine C2.out.mono ?_
    rintro e w' ⟨rfl, rfl⟩
    go_wp2_with fail
    refine C5.out.mono ?_
    rintro e w' ⟨rfl, rfl⟩
    go_wp2_with fail
    refine C6.out.mono ?_
    rintro e w' ⟨rfl, rfl⟩
    go_wp2_with fail
    refine C0.out.mono ?_
    rintro e w' ⟨rfl, rfl⟩
    go_wp2_with fail
    go_ret
    exact ⟨rfl, rfl⟩

theorem castOrder_walk (a b n : Int) (w : World) (ha0 : -9223372036854775808 ≤ a) (ha1 : a ≤ 9223372036854775807) (hb0 : -9223372036854775808 ≤ b) (hb1 : b ≤ 9223372036854775807) :
    Calls Try.prog 5 #[.int .i64 a, .int .i64 b, .int .i64 n] w fun e w' => e = .returned (.bool true) ∧ w = w' := by
  by_cases h1 : 0 ≤ min a b
  · exact castOrder_pos a b n w ha0 ha1 hb0 hb1 h1
  by_cases h2 : -9223372036854775808 < min a b
  · by_cases h3 : max a b < 0
    · exact castOrder_negnn a b n w ha0 ha1 hb0 hb1 h3 h2
    · exact castOrder_mixn a b n w ha0 ha1 hb0 hb1 (by omega) (by omega) h2
  · by_cases h3 : max a b < 0
    · exact castOrder_negnm a b n w ha0 ha1 hb0 hb1 h3 (by omega)
    · exact castOrder_mixm a b n w ha0 ha1 hb0 hb1 (by omega) (by omega)
end Go.Proofs.Ytmpjmlcojhoaeaa
