/-
  Small functions of package cell, by their contracts: joined, split, noLast. No claim of their own.
-/
import Derived.Test.YtdpaofedepnnbaaCe
import Derived.Test.YtdpaofedepnnbaaBitsE
import Derived.Test.YtdpaofedepnnbaaBitsD
import Derived.Deep.RegionHeld3
namespace Go.Proofs.Ytdpaofedepnnbaa
open Go.RowKit Go.Deep
set_option linter.unusedVariables false
set_option linter.unusedSimpArgs false

theorem join_int (h l n : Nat) (hn : n ≤ 64) (hh : h * 2 ^ n < 18446744073709551616) (hl : l < 2 ^ n) :
    bits BinOp.or IntKind.u64 (IntKind.u64.wrap ((h : Int) * 2 ^ n)) (l : Int) = ((h * 2 ^ n + l : Nat) : Int) := by
  have e : ((h : Int) * 2 ^ n) = ((h * 2 ^ n : Nat) : Int) := by simp
  have h3 := pow_le_64 hn
  rw [e, wrap_u64_nat _ hh, u64_or_nat _ _ hh (by omega), nat_join n _ _ (Nat.mul_mod_left _ _) hl]

set_option maxHeartbeats 400000 in
theorem joined_any (h l n : Nat) (w : World) (hn : n ≤ 64) (hh : h * 2 ^ n < 18446744073709551616) (hl : l < 2 ^ n) :
    Calls Try.prog 114 #[.int .u64 (h : Int), .int .u64 (l : Int), .int .i64 (n : Int)] w fun e w' => e = .returned (.int .u64 ((h * 2 ^ n + l : Nat) : Int)) ∧ w = w' := by
  have HJ := Lib.hid (join_int h l n hn hh hl)
  clear hh hl
  go_enter Try.func114, Try.ntmps114
  go_wp2
  go_ret
  exact ⟨ret_int HJ.out, rfl⟩

/-- what the encoding of data says ahead of the Backs, as one number -/
def headN (nb nd : Nat) : Nat := (1 * 2 ^ 3 + nb) * 2 ^ 7 + nd
/-- a Back as one number -/
def fieldN (b : Bk) : Nat := (b.1.toNat * 2 ^ 21 + min b.2.1 1048576) * 2 ^ 21 + min b.2.2 1048576
/-- an address out of its bits -/
def lst (a : Nat) : Nat := if a = 1048576 then 18446744073709551615 else a
/-- a Back out of its number -/
def backN (f : Nat) : Bk := (((f / 2 ^ 21 / 2 ^ 21 : Nat) : Int), lst (f / 2 ^ 21 % 2 ^ 21), lst (f % 2 ^ 21))

set_option maxHeartbeats 400000 in
theorem headOf_any (k : Int) (a : Option Addr) (n c : Nat) (a2 : Option Addr) (n2 c2 : Nat) (w : World) (h1 : n < 128) (h2 : n2 < 8) :
    Calls Try.prog 81 #[cev k a n c a2 n2 c2] w fun e w' => e = .returned (.int .u64 (headN n2 n : Nat)) ∧ Below w.heap.size w w' := by
  have HJ1 := Lib.hid (fun W => joined_any 1 n2 3 W (by omega) (by omega) (by omega))
  have HJ2 := Lib.hid (fun W => joined_any (1 * 2 ^ 3 + n2) n 7 W (by omega) (by omega) (by omega))
  have e1 : IntKind.u64.wrap (n2 : Int) = (n2 : Int) := wrap_u64_nat _ (by omega)
  have e2 : IntKind.u64.wrap (n : Int) = (n : Int) := wrap_u64_nat _ (by omega)
  go_enter Try.func81, Try.ntmps81
  go_wp2_with fail
  refine (HJ1.out _).mono ?_
  rintro e w1 ⟨rfl, rfl⟩
  go_wp2_with fail
  refine (HJ2.out _).mono ?_
  rintro e w1 ⟨rfl, rfl⟩
  go_wp2_with fail
  go_ret
  exact ⟨rfl, (Below.refl _ _).alloc (Nat.le_refl _) _⟩

theorem ix0 (x y : Value) (W : World) : Sem.run Try.prog (Instr.index 109 (.agg #[x, y]) (.int .i64 0)) W = .ok x W := by
  simp [Instr.index, go_sem]
theorem ix1 (x y : Value) (W : World) : Sem.run Try.prog (Instr.index 109 (.agg #[x, y]) (.int .i64 1)) W = .ok y W := by
  simp [Instr.index, go_sem]
theorem joined_z (h l : Int) (n : Nat) (r : Int) (w : World) (hn : n ≤ 64) (h0 : 0 ≤ h) (hh : h * 2 ^ n < 18446744073709551616) (l0 : 0 ≤ l) (hl : l < 2 ^ n) (hr : r = h * 2 ^ n + l) :
    Calls Try.prog 114 #[.int .u64 h, .int .u64 l, .int .i64 (n : Int)] w fun e w' => e = .returned (.int .u64 r) ∧ w = w' := by
  obtain ⟨h, rfl⟩ := Int.eq_ofNat_of_zero_le h0
  obtain ⟨l, rfl⟩ := Int.eq_ofNat_of_zero_le l0
  subst hr
  have e : ((h : Int) * 2 ^ n) = ((h * 2 ^ n : Nat) : Int) := by simp
  have e2 : ((2 : Int) ^ n) = ((2 ^ n : Nat) : Int) := by simp
  refine (joined_any h l n w hn (by omega) (by omega)).mono ?_
  rintro e w' ⟨rfl, rfl⟩
  exact ⟨ret_int (by simp), rfl⟩
theorem joined_21 (h l : Int) (w : World) (h0 : 0 ≤ h) (hh : h < 8796093022208) (l0 : 0 ≤ l) (hl : l < 2097152) :
    Calls Try.prog 114 #[.int .u64 h, .int .u64 l, .int .i64 21] w fun e w' => e = .returned (.int .u64 (h * 2097152 + l)) ∧ w = w' :=
  joined_z h l 21 _ w (by omega) h0 (by omega) l0 (by omega) (by omega)
set_option maxHeartbeats 400000 in
theorem fieldOf_any (b : Bk) (w : World) (h0 : 0 ≤ b.1) (h1 : b.1 < 16) (h2 : b.2.1 ≤ 18446744073709551615) (h3 : b.2.2 ≤ 18446744073709551615) :
    Calls Try.prog 82 #[bkv b] w fun e w' => e = .returned (.int .u64 (fieldN b : Nat)) ∧ Below w.heap.size w w' := by
  obtain ⟨s, p, q⟩ := b
  simp only at h0 h1 h2 h3
  have e1 : IntKind.u64.wrap s = s := by rw [IntKind.wrap_u64]; omega
  have hi0 := ix0
  have hi1 := ix1
  have HP : (p : Int) ≤ 1048576 ∨ 1048576 < (p : Int) := by omega
  have HQ : (q : Int) ≤ 1048576 ∨ 1048576 < (q : Int) := by omega
  rcases HP with hp | hp
  all_goals rcases HQ with hq | hq
  all_goals
    go_enter Try.func82, Try.ntmps82
    go_wp2_with fail
    refine wp_loop_rounds 3 ?_
    rw [rounds_succ]
    go_wp2_with fail
    refine (joined_21 _ _ _ (by omega) (by omega) (by omega) (by omega)).mono ?_
    rintro e w1 ⟨rfl, rfl⟩
    go_wp2_with fail
    rw [rounds_succ]
    go_wp2_with fail
    refine (joined_21 _ _ _ (by omega) (by omega) (by omega) (by omega)).mono ?_
    rintro e w1 ⟨rfl, rfl⟩
    go_wp2_with fail
    rw [rounds_succ]
    go_wp2_with fail
    go_ret
    exact ⟨ret_int (by simp only [fieldN]; omega), (Below.refl _ _).alloc (Nat.le_refl _) _⟩

end Go.Proofs.Ytdpaofedepnnbaa
