/-
  Small functions of package cell, by their contracts: joined, split, noLast. No claim of their own.
-/
import Derived.Test.YtdpaofedepnnbaaGreatCe
import Derived.Test.YtdpaofedepnnbaaGreatBitsE
import Derived.Test.YtdpaofedepnnbaaGreatBitsD
import Derived.Deep.RegionHeld3
namespace Go.Proofs.YtdpaofedepnnbaaGreat
open Go.RowKit Go.Deep
set_option linter.unusedVariables false
set_option linter.unusedSimpArgs false

theorem join_int (h l n : Nat) (hn : n ≤ 64) (hh : h * 2 ^ n < 18446744073709551616) (hl : l < 2 ^ n) :
    bits BinOp.or IntKind.u64 (IntKind.u64.wrap ((h : Int) * 2 ^ n)) (l : Int) = ((h * 2 ^ n + l : Nat) : Int) := by
  have e : ((h : Int) * 2 ^ n) = ((h * 2 ^ n : Nat) : Int) := by simp
  have h3 := pow_le_64 hn
  rw [e, wrap_u64_nat _ hh, u64_or_nat _ _ hh (by omega), nat_join n _ _ (Nat.mul_mod_left _ _) hl]

set_option maxHeartbeats 400000 in
theorem joined_any (h l n : Nat) (w : World) (hn : n ≤ 64) (hh : h * 2 ^ n < 18446744073709551616) (hl : l < 2 ^ n) :
    Calls Tryz.prog 103 #[.int .u64 (h : Int), .int .u64 (l : Int), .int .i64 (n : Int)] w fun e w' => e = .returned (.int .u64 ((h * 2 ^ n + l : Nat) : Int)) ∧ w = w' := by
  have HJ := Lib.hid (join_int h l n hn hh hl)
  clear hh hl
  go_enter Tryz.func103, Tryz.ntmps103
  go_wp2
  go_ret
  exact ⟨ret_int HJ.out, rfl⟩

set_option maxHeartbeats 400000 in
theorem split_any (v n : Nat) (w : World) (hn : n ≤ 64) (hv : v < 18446744073709551616) :
    Calls Tryz.prog 129 #[.int .u64 (v : Int), .int .i64 (n : Int)] w fun e w' => e = .returned (.tuple #[.int .u64 ((v / 2 ^ n : Nat) : Int), .int .u64 ((v % 2 ^ n : Nat) : Int)]) ∧ w' = w.drew := by
  have HJ := Lib.hid (lowest_eq (v : Int) n hn)
  go_enter Tryz.func129, Tryz.ntmps129
  go_wp2
  go_region
  go_wp2
  go_ret2
  refine ⟨?_, rfl⟩
  show Ending.returned (.tuple #[.int .u64 ((v : Int) / 2 ^ n), .int .u64 (bits BinOp.and IntKind.u64 (v : Int) (IntKind.u64.wrap (IntKind.u64.wrap (2 ^ n) - 1)))]) = _
  rw [HJ.out]
  simp
theorem split_z (v : Int) (n : Nat) (q r : Int) (w : World) (hn : n ≤ 64) (h0 : 0 ≤ v) (hv : v < 18446744073709551616) (hq : q = v / 2 ^ n) (hr : r = v % 2 ^ n) :
    Calls Tryz.prog 129 #[.int .u64 v, .int .i64 (n : Int)] w fun e w' => e = .returned (.tuple #[.int .u64 q, .int .u64 r]) ∧ w' = w.drew := by
  obtain ⟨v, rfl⟩ := Int.eq_ofNat_of_zero_le h0
  subst hq hr
  have e := split_any v n w hn (by omega)
  simpa using e
theorem split_21 (v : Int) (w : World) (h0 : 0 ≤ v) (hv : v < 18446744073709551616) :
    Calls Tryz.prog 129 #[.int .u64 v, .int .i64 21] w fun e w' => e = .returned (.tuple #[.int .u64 (v / 2097152), .int .u64 (v % 2097152)]) ∧ w' = w.drew :=
  split_z v 21 _ _ w (by omega) h0 hv (by omega) (by omega)
theorem split_7 (v : Int) (w : World) (h0 : 0 ≤ v) (hv : v < 18446744073709551616) :
    Calls Tryz.prog 129 #[.int .u64 v, .int .i64 7] w fun e w' => e = .returned (.tuple #[.int .u64 (v / 128), .int .u64 (v % 128)]) ∧ w' = w.drew :=
  split_z v 7 _ _ w (by omega) h0 hv (by omega) (by omega)
theorem split_3 (v : Int) (w : World) (h0 : 0 ≤ v) (hv : v < 18446744073709551616) :
    Calls Tryz.prog 129 #[.int .u64 v, .int .i64 3] w fun e w' => e = .returned (.tuple #[.int .u64 (v / 8), .int .u64 (v % 8)]) ∧ w' = w.drew :=
  split_z v 3 _ _ w (by omega) h0 hv (by omega) (by omega)

set_option maxHeartbeats 400000 in
theorem noLast_any (w : World) :
    Calls Tryz.prog 147 #[] w fun e w' => e = .returned (.agg #[.int .u64 18446744073709551615, .int .u64 18446744073709551615]) ∧ Below w.heap.size w w' := by
  go_enter Tryz.func147, Tryz.ntmps147
  go_wp2
  refine wp_loop_rounds 3 ?_
  rw [rounds_succ]; go_wp2
  rw [rounds_succ]; go_wp2
  rw [rounds_succ]; go_wp2
  exact bodyPost_ret (v := .agg #[.int .u64 18446744073709551615, .int .u64 18446744073709551615]) (by simp [results, Tryz.results147, go_sem]) rfl ⟨rfl, ((Below.refl _ _).alloc (Nat.le_refl _) _).alloc (by simp) _⟩

/-- what the encoding of data says ahead of the Backs, as one number -/
def headN (nb nd : Nat) : Nat := (1 * 2 ^ 3 + nb) * 2 ^ 7 + nd
/-- a Back as one number -/
def fieldN (b : Bk) : Nat := (b.1.toNat * 2 ^ 21 + min b.2.1 1048576) * 2 ^ 21 + min b.2.2 1048576
/-- an address out of its bits -/
def lst (a : Nat) : Nat := if a = 1048576 then 18446744073709551615 else a
/-- a Back out of its number -/
def backN (f : Nat) : Bk := (((f / 2 ^ 21 / 2 ^ 21 : Nat) : Int), lst (f / 2 ^ 21 % 2 ^ 21), lst (f % 2 ^ 21))

set_option maxHeartbeats 400000 in
theorem headOf_any (k : Int) (a : Option Addr) (n c : Nat) (a2 : Option Addr) (n2 c2 : Nat) (w : World) (h1 : n < 128) (h2 : n2 < 8) :
    Calls Tryz.prog 69 #[cev k a n c a2 n2 c2] w fun e w' => e = .returned (.int .u64 (headN n2 n : Nat)) ∧ Below w.heap.size w w' := by
  have HJ1 := Lib.hid (fun W => joined_any 1 n2 3 W (by omega) (by omega) (by omega))
  have HJ2 := Lib.hid (fun W => joined_any (1 * 2 ^ 3 + n2) n 7 W (by omega) (by omega) (by omega))
  have e1 : IntKind.u64.wrap (n2 : Int) = (n2 : Int) := wrap_u64_nat _ (by omega)
  have e2 : IntKind.u64.wrap (n : Int) = (n : Int) := wrap_u64_nat _ (by omega)
  go_enter Tryz.func69, Tryz.ntmps69
  go_wp2_with fail
  refine (HJ1.out _).mono ?_
  rintro e w1 ⟨rfl, rfl⟩
  go_wp2_with fail
  refine (HJ2.out _).mono ?_
  rintro e w1 ⟨rfl, rfl⟩
  go_wp2_with fail
  go_ret
  exact ⟨rfl, (Below.refl _ _).alloc (Nat.le_refl _) _⟩

theorem ix0 (x y : Value) (W : World) : Sem.run Tryz.prog (Instr.index 68 (.agg #[x, y]) (.int .i64 0)) W = .ok x W := by
  simp [Instr.index, go_sem]
theorem ix1 (x y : Value) (W : World) : Sem.run Tryz.prog (Instr.index 68 (.agg #[x, y]) (.int .i64 1)) W = .ok y W := by
  simp [Instr.index, go_sem]
theorem joined_z (h l : Int) (n : Nat) (r : Int) (w : World) (hn : n ≤ 64) (h0 : 0 ≤ h) (hh : h * 2 ^ n < 18446744073709551616) (l0 : 0 ≤ l) (hl : l < 2 ^ n) (hr : r = h * 2 ^ n + l) :
    Calls Tryz.prog 103 #[.int .u64 h, .int .u64 l, .int .i64 (n : Int)] w fun e w' => e = .returned (.int .u64 r) ∧ w = w' := by
  obtain ⟨h, rfl⟩ := Int.eq_ofNat_of_zero_le h0
  obtain ⟨l, rfl⟩ := Int.eq_ofNat_of_zero_le l0
  subst hr
  have e : ((h : Int) * 2 ^ n) = ((h * 2 ^ n : Nat) : Int) := by simp
  have e2 : ((2 : Int) ^ n) = ((2 ^ n : Nat) : Int) := by simp
  refine (joined_any h l n w hn (by omega) (by omega)).mono ?_
  rintro e w' ⟨rfl, rfl⟩
  exact ⟨ret_int (by simp), rfl⟩
theorem joined_21 (h l : Int) (w : World) (h0 : 0 ≤ h) (hh : h < 8796093022208) (l0 : 0 ≤ l) (hl : l < 2097152) :
    Calls Tryz.prog 103 #[.int .u64 h, .int .u64 l, .int .i64 21] w fun e w' => e = .returned (.int .u64 (h * 2097152 + l)) ∧ w = w' :=
  joined_z h l 21 _ w (by omega) h0 (by omega) l0 (by omega) (by omega)
set_option maxHeartbeats 400000 in
theorem fieldOf_any (b : Bk) (w : World) (h0 : 0 ≤ b.1) (h1 : b.1 < 16) (h2 : b.2.1 ≤ 18446744073709551615) (h3 : b.2.2 ≤ 18446744073709551615) :
    Calls Tryz.prog 70 #[bkv b] w fun e w' => e = .returned (.int .u64 (fieldN b : Nat)) ∧ Below w.heap.size w w' := by
  obtain ⟨s, p, q⟩ := b
  simp only at h0 h1 h2 h3
  have e1 : IntKind.u64.wrap s = s := by rw [IntKind.wrap_u64]; omega
  have hi0 := ix0
  have hi1 := ix1
  have HP : (p : Int) ≤ 1048576 ∨ 1048576 < (p : Int) := by omega
  have HQ : (q : Int) ≤ 1048576 ∨ 1048576 < (q : Int) := by omega
  rcases HP with hp | hp
  all_goals rcases HQ with hq | hq
  all_goals
    go_enter Tryz.func70, Tryz.ntmps70
    go_wp2_with fail
    refine wp_loop_rounds 3 ?_
    rw [rounds_succ]
    go_wp2_with fail
    refine (joined_21 _ _ _ (by omega) (by omega) (by omega) (by omega)).mono ?_
    rintro e w1 ⟨rfl, rfl⟩
    go_wp2_with fail
    rw [rounds_succ]
    go_wp2_with fail
    refine (joined_21 _ _ _ (by omega) (by omega) (by omega) (by omega)).mono ?_
    rintro e w1 ⟨rfl, rfl⟩
    go_wp2_with fail
    rw [rounds_succ]
    go_wp2_with fail
    go_ret
    exact ⟨ret_int (by simp only [fieldN]; omega), (Below.refl _ _).alloc (Nat.le_refl _) _⟩

set_option maxHeartbeats 1000000 in
theorem backOf_any (f : Nat) (w : World) (hf : f < 2 ^ 46) :
    Calls Tryz.prog 132 #[.int .u64 (f : Int)] w fun e w' => e = .returned (bkv (backN f)) ∧ Below w.heap.size w w' := by
  have HP : (((f : Int) % 2097152 != 1048576) = true ∧ f % 2 ^ 21 ≠ 1048576) ∨ (((f : Int) % 2097152 != 1048576) = false ∧ f % 2 ^ 21 = 1048576) := by
    by_cases e : f % 2 ^ 21 = 1048576
    · exact .inr ⟨by rw [bne_eq_false_iff_eq]; omega, e⟩
    · exact .inl ⟨by rw [bne_iff_ne]; omega, e⟩
  have HQ : (((f : Int) / 2097152 % 2097152 != 1048576) = true ∧ f / 2 ^ 21 % 2 ^ 21 ≠ 1048576) ∨ (((f : Int) / 2097152 % 2097152 != 1048576) = false ∧ f / 2 ^ 21 % 2 ^ 21 = 1048576) := by
    by_cases e : f / 2 ^ 21 % 2 ^ 21 = 1048576
    · exact .inr ⟨by rw [bne_eq_false_iff_eq]; omega, e⟩
    · exact .inl ⟨by rw [bne_iff_ne]; omega, e⟩
  have e1 : wrap64 ((f : Int) / 2097152 / 2097152) = (f : Int) / 2097152 / 2097152 := by unfold wrap64; omega
  have HL := Lib.hid (noLast_any w.drew)
  rcases HP with ⟨hp, hp'⟩ | ⟨hp, hp'⟩
  all_goals rcases HQ with ⟨hq, hq'⟩ | ⟨hq, hq'⟩
  all_goals
    have HP := Lib.hid hp'
    have HQ := Lib.hid hq'
    clear hp' hq'
    go_enter Tryz.func132, Tryz.ntmps132
    go_wp2_with fail
    refine (noLast_any _).mono ?_
    rintro e w1 ⟨rfl, hb⟩
    have HB := Lib.hid hb
    have hO : Own w1 w.heap.size 70 [.int .i64 0, .int .u64 0, .int .u64 0] := (Own.new w 70 [.int .i64 0, .int .u64 0, .int .u64 0]).below hb (by simp)
    have hc0 := hO.cell 0
    have hc1 := hO.cell 1
    have hc2 := hO.cell 2
    have hf0 := hO.frozen 0
    have hf1 := hO.frozen 1
    have hf2 := hO.frozen 2
    have hz := hO.lt
    simp at hc0 hc1 hc2
    clear hb hO
    go_wp2_with fail
    refine wp_loop_rounds 3 ?_
    rw [rounds_succ]
    go_wp2_with fail
    refine (split_21 _ _ (by omega) (by omega)).mono ?_
    rintro e w2 ⟨rfl, rfl⟩
    go_wp2_with fail
    rw [rounds_succ]
    go_wp2_with fail
    refine (split_21 _ _ (by omega) (by omega)).mono ?_
    rintro e w2 ⟨rfl, rfl⟩
    go_wp2_with fail
    rw [rounds_succ]
    go_wp2_with fail
    refine bodyPost_ret (v := bkv (backN f)) (by simp [results, Tryz.results132, go_sem, hc0, hc1, hc2, hz, backN, lst, HP.out, HQ.out]) rfl ⟨rfl, ?_⟩
    exact (((((((Below.refl w.heap.size w).alloc (Nat.le_refl _) _).trans (HB.out.mono (by simp))).setCell (Nat.le_refl _) _).setCell (Nat.le_refl _) _).setCell (Nat.le_refl _) _).alloc (by simp; omega) _).drew.drew
end Go.Proofs.YtdpaofedepnnbaaGreat
