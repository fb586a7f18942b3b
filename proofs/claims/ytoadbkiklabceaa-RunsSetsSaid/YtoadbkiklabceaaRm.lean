/-
  Contracts of the methods of a run (package runs). No claim of its own.
-/
import Derived.Test.YtoadbkiklabceaaSg
namespace Go.Proofs.Ytoadbkiklabceaa
open Go.RowKit
set_option linter.unusedVariables false
set_option linter.unusedSimpArgs false

abbrev rv (r : Rn) : Value := .agg #[.int .u64 (r.1 : Int), .int .u64 (r.2 : Int)]
/-- the block of a run that is handed over by value -/
abbrev rb (r : Rn) (t : TypeId) : Obj := .cells #[.int .u64 (r.1 : Int), .int .u64 (r.2 : Int)] t
/-- the numbers of a run fit -/
def Fit (r : Rn) : Prop := r.1 < 18446744073709551616 ∧ r.2 < 18446744073709551616

theorem empty_any (r : Rn) (w : World) : Calls Try.prog 35 #[rv r] w fun e w' => e = .returned (.bool (decide (r.2 ≤ r.1))) ∧ w' = w.alloc (rb r 28) := by
  go_enter Try.func35, Try.ntmps35
  go_wp2
  go_ret
  exact ⟨rfl, rfl⟩
theorem endsFrom_any (r : Rn) (n : Nat) (w : World) : Calls Try.prog 43 #[rv r, .int .u64 n] w fun e w' => e = .returned (.bool (decide (n ≤ r.2))) ∧ w' = w.alloc (rb r 28) := by
  go_enter Try.func43, Try.ntmps43
  go_wp2
  go_ret
  exact ⟨rfl, rfl⟩
theorem endsAbove_any (r : Rn) (n : Nat) (w : World) : Calls Try.prog 38 #[rv r, .int .u64 n] w fun e w' => e = .returned (.bool (decide (n < r.2))) ∧ w' = w.alloc (rb r 28) := by
  go_enter Try.func38, Try.ntmps38
  go_wp2
  go_ret
  exact ⟨rfl, rfl⟩
theorem beginsFrom_any (r : Rn) (n : Nat) (w : World) : Calls Try.prog 39 #[rv r, .int .u64 n] w fun e w' => e = .returned (.bool (decide (n ≤ r.1))) ∧ w' = w.alloc (rb r 28) := by
  go_enter Try.func39, Try.ntmps39
  go_wp2
  go_ret
  exact ⟨rfl, rfl⟩
theorem beginsAbove_any (r : Rn) (n : Nat) (w : World) : Calls Try.prog 44 #[rv r, .int .u64 n] w fun e w' => e = .returned (.bool (decide (n < r.1))) ∧ w' = w.alloc (rb r 28) := by
  go_enter Try.func44, Try.ntmps44
  go_wp2
  go_ret
  exact ⟨rfl, rfl⟩
theorem whole_any (w : World) : Calls Try.prog 47 #[] w fun e w' => e = .returned (.agg #[.int .u64 0, .int .u64 18446744073709551615]) ∧ Below w.heap.size w w' := by
  go_enter Try.func47, Try.ntmps47
  go_wp2
  exact bodyPost_ret (v := .agg #[.int .u64 0, .int .u64 18446744073709551615]) (by simp [results, Try.results47, go_sem]) rfl ⟨rfl, (Below.refl _ _).alloc (Nat.le_refl _) _⟩
theorem length_any (r : Rn) (hr : Fit r) (hle : r.1 ≤ r.2) (w : World) : Calls Try.prog 42 #[rv r] w fun e w' => e = .returned (.int .u64 ((r.2 - r.1 : Nat) : Int)) ∧ Below w.heap.size w w' := by
  obtain ⟨h1, h2⟩ := hr
  have hw : IntKind.u64.wrap ((r.2 : Int) - (r.1 : Int)) = ((r.2 - r.1 : Nat) : Int) := by rw [IntKind.wrap_u64]; omega
  have HW := Lib.hid hw
  clear hw
  go_enter Try.func42, Try.ntmps42
  go_wp2
  go_ret
  exact ⟨ret_int (by first | exact HW.out | omega), (Below.refl _ _).alloc (Nat.le_refl _) _⟩
theorem ret_rv {a b : Nat} {r : Rn} (h1 : a = r.1) (h2 : b = r.2) : Ending.returned (rv (a, b)) = .returned (rv r) := by rw [h1, h2]
theorem below3 (w : World) (a b c : Obj) : Below w.heap.size w (((w.alloc a).alloc b).alloc c) := (((Below.refl _ _).alloc (Nat.le_refl _) _).alloc (by simp) _).alloc (by simp; omega) _
set_option maxHeartbeats 1000000 in
theorem met_any (x r : Rn) (w : World) : Calls Try.prog 59 #[rv x, rv r] w fun e w' => e = .returned (rv (met x r)) ∧ Below w.heap.size w w' := by
  go_enter Try.func59, Try.ntmps59
  go_wp2
  · exact bodyPost_ret (v := rv (r.1, r.2)) (by simp [results, Try.results59, go_sem]) rfl ⟨ret_rv (by simp only [met]; omega) (by simp only [met]; omega), below3 _ _ _ _⟩
  · exact bodyPost_ret (v := rv (r.1, x.2)) (by simp [results, Try.results59, go_sem]) rfl ⟨ret_rv (by simp only [met]; omega) (by simp only [met]; omega), below3 _ _ _ _⟩
  · exact bodyPost_ret (v := rv (x.1, r.2)) (by simp [results, Try.results59, go_sem]) rfl ⟨ret_rv (by simp only [met]; omega) (by simp only [met]; omega), below3 _ _ _ _⟩
  · exact bodyPost_ret (v := rv (x.1, x.2)) (by simp [results, Try.results59, go_sem]) rfl ⟨ret_rv (by simp only [met]; omega) (by simp only [met]; omega), below3 _ _ _ _⟩
set_option maxHeartbeats 1000000 in
theorem joined_any (x r : Rn) (w : World) : Calls Try.prog 45 #[rv x, rv r] w fun e w' => e = .returned (rv (joinR x r)) ∧ Below w.heap.size w w' := by
  go_enter Try.func45, Try.ntmps45
  go_wp2
  · exact bodyPost_ret (v := rv (r.1, r.2)) (by simp [results, Try.results45, go_sem]) rfl ⟨ret_rv (by simp only [joinR]; omega) (by simp only [joinR]; omega), below3 _ _ _ _⟩
  · exact bodyPost_ret (v := rv (r.1, x.2)) (by simp [results, Try.results45, go_sem]) rfl ⟨ret_rv (by simp only [joinR]; omega) (by simp only [joinR]; omega), below3 _ _ _ _⟩
  · exact bodyPost_ret (v := rv (x.1, r.2)) (by simp [results, Try.results45, go_sem]) rfl ⟨ret_rv (by simp only [joinR]; omega) (by simp only [joinR]; omega), below3 _ _ _ _⟩
  · exact bodyPost_ret (v := rv (x.1, x.2)) (by simp [results, Try.results45, go_sem]) rfl ⟨ret_rv (by simp only [joinR]; omega) (by simp only [joinR]; omega), below3 _ _ _ _⟩
set_option maxHeartbeats 1000000 in
theorem without_any (x r : Rn) (w : World) : Calls Try.prog 40 #[rv x, rv r] w fun e w' => e = .returned (.agg #[.int .u64 (x.1 : Int), .int .u64 (r.1 : Int), .int .u64 (r.2 : Int), .int .u64 (x.2 : Int)]) ∧ Below w.heap.size w w' := by
  go_enter Try.func40, Try.ntmps40
  go_wp2
  exact bodyPost_ret (v := .agg #[.int .u64 (x.1 : Int), .int .u64 (r.1 : Int), .int .u64 (r.2 : Int), .int .u64 (x.2 : Int)]) (by simp [results, Try.results40, go_sem]) rfl ⟨rfl, below3 _ _ _ _⟩
/-- by where they begin -/
def cmpR (x y : Rn) : Int := if x.1 < y.1 then -1 else if y.1 < x.1 then 1 else 0
theorem isNaN_any (x : Nat) (w : World) : Calls Try.prog 75 #[.int .u64 x] w fun e w' => e = .returned (.bool false) ∧ w = w' := by
  go_enter Try.func75, Try.ntmps75
  go_wp2
  go_ret
  exact ⟨rfl, rfl⟩
theorem cmp_any (x y : Rn) (w : World) : Calls Try.prog 63 #[.int .u64 x.1, .int .u64 y.1] w fun e w' => e = .returned (.int .i64 (cmpR x y)) ∧ w = w' := by
  rcases Nat.lt_trichotomy x.1 y.1 with h | h | h
  · have e : cmpR x y = -1 := by simp [cmpR, h]
    have h1 : decide (x.1 < y.1) = true := by simpa using h
    rw [e]
    go_enter Try.func63, Try.ntmps63
    go_wp2_with (go_at_call 75; refine (isNaN_any _ _).mono ?_; rintro e w' ⟨rfl, rfl⟩)
    go_ret
    exact ⟨rfl, rfl⟩
  · have e : cmpR x y = 0 := by simp [cmpR, h]
    have h1 : decide (x.1 < y.1) = false := by simp; omega
    have h2 : decide (y.1 < x.1) = false := by simp; omega
    rw [e]
    clear h e
    go_enter Try.func63, Try.ntmps63
    go_wp2_with (go_at_call 75; refine (isNaN_any _ _).mono ?_; rintro e w' ⟨rfl, rfl⟩)
    go_ret
    exact ⟨rfl, rfl⟩
  · have e : cmpR x y = 1 := by simp [cmpR, h]; omega
    have h1 : decide (x.1 < y.1) = false := by simp; omega
    have h2 : decide (y.1 < x.1) = true := by simpa using h
    rw [e]
    go_enter Try.func63, Try.ntmps63
    go_wp2_with (go_at_call 75; refine (isNaN_any _ _).mono ?_; rintro e w' ⟨rfl, rfl⟩)
    go_ret
    exact ⟨rfl, rfl⟩
theorem compare_any (x r : Rn) (w : World) : Calls Try.prog 51 #[rv x, rv r] w fun e w' => e = .returned (.int .i64 (cmpR x r)) ∧ w' = (w.alloc (rb x 28)).alloc (rb r 28) := by
  go_enter Try.func51, Try.ntmps51
  go_wp2_with (go_at_call 63; refine (cmp_any x r _).mono ?_; rintro e w' ⟨rfl, rfl⟩)
  go_ret
  exact ⟨rfl, rfl⟩
end Go.Proofs.Ytoadbkiklabceaa
