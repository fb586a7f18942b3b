/-
  alive (a live question), and the contracts in one form for both answers.
-/
import Derived.Test.YtmpjmlcojhoaeaaCastRW
namespace Go.Proofs.Ytmpjmlcojhoaeaa
open Go.RowKit

def logV (v : Nat) : Int := if v = 0 then 0 else (logN v : Int)
def logB (v : Nat) : Bool := decide (0 < v)
def alV (v : Nat) (n : Int) : Nat := if upN v (an n) < 18446744073709551616 then upN v (an n) else 0
def alB (v : Nat) (n : Int) : Bool := decide (upN v (an n) < 18446744073709551616)
def sgV (v : Nat) : Int := if (v : Int) < 9223372036854775808 then (v : Int) else 0
def sgB (v : Nat) : Bool := decide ((v : Int) < 9223372036854775808)
def nwV (v : Nat) (n : Int) : Nat := v % 2 ^ wn n
def nwB (v : Nat) (n : Int) : Bool := decide (nwV v n = v)
def btw (v a b : Int) : Int := min (max v (min a b)) (max a b)

theorem log_is (v : Nat) (w : World) (h1 : v < 18446744073709551616) :
    Calls Try.prog 20 #[.int .u64 v] w fun e w' => e = .returned (.tuple #[.int .i64 (logV v), .bool (logB v)]) ∧ w = w' := by
  unfold logV logB
  by_cases h : v = 0
  · subst h; exact log_no w
  · rw [if_neg h, decide_eq_true (by omega)]; exact log_yes v w (by omega) h1
theorem rlog_is (v : Nat) (w : World) (h1 : v < 18446744073709551616) :
    Calls Try.prog 21 #[.int .u64 v] w fun e w' => e = .returned (.tuple #[.int .i64 (logV v), .bool (logB v)]) ∧ w = w' := by
  unfold logV logB
  by_cases h : v = 0
  · subst h; exact rlog_no w
  · rw [if_neg h, decide_eq_true (by omega)]; exact rlog_yes v w (by omega) h1
theorem align_is (v : Nat) (n : Int) (w : World) (h1 : v < 18446744073709551616) :
    Calls Try.prog 22 #[.int .u64 v, .int .i64 n] w fun e w' => e = .returned (.tuple #[.int .u64 (alV v n : Nat), .bool (alB v n)]) ∧ w = w' := by
  unfold alV alB
  by_cases h : upN v (an n) < 18446744073709551616
  · rw [if_pos h, decide_eq_true h]; exact align_yes v n w h1 h
  · rw [if_neg h, decide_eq_false h]; exact align_no v n w h1 h
theorem ralign_is (v : Nat) (n : Int) (w : World) (h1 : v < 18446744073709551616) :
    Calls Try.prog 23 #[.int .u64 v, .int .i64 n] w fun e w' => e = .returned (.tuple #[.int .u64 (alV v n : Nat), .bool (alB v n)]) ∧ w = w' := by
  unfold alV alB
  by_cases h : upN v (an n) < 18446744073709551616
  · rw [if_pos h, decide_eq_true h]; exact ralign_yes v n w h1 h
  · rw [if_neg h, decide_eq_false h]; exact ralign_no v n w h1 h
theorem signed_is (v : Nat) (w : World) (h1 : v < 18446744073709551616) :
    Calls Try.prog 12 #[.int .u64 v] w fun e w' => e = .returned (.tuple #[.int .i64 (sgV v), .bool (sgB v)]) ∧ w = w' := signed_any v w (by omega) (by omega)
theorem rsigned_is (v : Nat) (w : World) (h1 : v < 18446744073709551616) :
    Calls Try.prog 13 #[.int .u64 v] w fun e w' => e = .returned (.tuple #[.int .i64 (sgV v), .bool (sgB v)]) ∧ w = w' := rsigned_any v w (by omega) (by omega)
theorem narrow_is (v : Nat) (n : Int) (w : World) (h1 : v < 18446744073709551616) :
    Calls Try.prog 10 #[.int .u64 v, .int .i64 n] w fun e w' => e = .returned (.tuple #[.int .u64 (nwV v n : Nat), .bool (nwB v n)]) ∧ w = w' := narrow_any v n w h1
theorem rnarrow_is (v : Nat) (n : Int) (w : World) (h1 : v < 18446744073709551616) :
    Calls Try.prog 11 #[.int .u64 v, .int .i64 n] w fun e w' => e = .returned (.tuple #[.int .u64 (nwV v n : Nat), .bool (nwB v n)]) ∧ w = w' := rnarrow_any v n w h1
theorem between_is (v a b : Int) (w : World) :
    Calls Try.prog 31 #[.int .i64 v, .int .i64 a, .int .i64 b] w fun e w' => e = .returned (.int .i64 (btw v a b)) ∧ w = w' := between_any v a b w
theorem rbetween_is (v a b : Int) (w : World) :
    Calls Try.prog 32 #[.int .i64 v, .int .i64 a, .int .i64 b] w fun e w' => e = .returned (.int .i64 (btw v a b)) ∧ w = w' := rbetween_any v a b w

/-- any number, made unsigned -/
theorem u64_of (v : Int) : ∃ U : Nat, IntKind.u64.wrap v = (U : Int) ∧ U < 18446744073709551616 ∧ (U : Int) % 18446744073709551616 = v % 18446744073709551616 := by
  refine ⟨(IntKind.u64.wrap v).toNat, ?_, ?_, ?_⟩ <;> rw [IntKind.wrap_u64] <;> omega

set_option maxHeartbeats 400000 in
theorem alive_any (w : World) : Calls Try.prog 24 #[] w fun e w' => e = .returned (.bool true) ∧ w = w' := by
  have h1 := align_is 13 3 w (by omega)
  rw [show alV 13 3 = 16 by decide, show alB 13 3 = true by decide] at h1
  have h2 := wrap_any 200 8 w
  rw [show wrapN 200 (wn 8) = -56 by decide] at h2
  have h3 := zig_any (-3) w (by omega) (by omega)
  rw [show zigN (-3) = 5 by decide] at h3
  have h4 := half_any (-3) 0 w (by omega) (by omega) (by omega) (by omega)
  rw [show ((-3 : Int) + 0) / 2 = -2 by decide] at h4
  have H1 := Lib.hid h1
  have H2 := Lib.hid h2
  have H3 := Lib.hid h3
  have H4 := Lib.hid h4
  clear h1 h2 h3 h4
  go_enter Try.func24, Try.ntmps24
  go_wp2_with fail
  refine H1.out.mono ?_
  rintro e w' ⟨rfl, rfl⟩
  go_wp2_with fail
  refine H2.out.mono ?_
  rintro e w' ⟨rfl, rfl⟩
  go_wp2_with fail
  refine H3.out.mono ?_
  rintro e w' ⟨rfl, rfl⟩
  go_wp2_with fail
  refine H4.out.mono ?_
  rintro e w' ⟨rfl, rfl⟩
  go_wp2_with fail
  go_ret
  exact ⟨rfl, rfl⟩
end Go.Proofs.Ytmpjmlcojhoaeaa
