/-
  The functions of package cast by their contracts. No condition but the ranges that each theorem names.
-/
import Derived.Test.YtmpjmlcojhoaeaaBase
import Derived.Test.YtmpjmlcojhoaeaaCastMath
namespace Go.Proofs.Ytmpjmlcojhoaeaa
open Go.RowKit

set_option maxHeartbeats 400000 in
theorem betweenInt_any (v a b : Int) (w : World) :
    Calls Try.prog 41 #[.int .i64 v, .int .i64 a, .int .i64 b] w fun e w' => e = .returned (.int .i64 (min (max v (min a b)) (max a b))) ∧ w = w' := by
  go_enter Try.func41, Try.ntmps41
  go_wp2
  all_goals go_ret
  all_goals exact ⟨ret_int (by omega), rfl⟩

set_option maxHeartbeats 400000 in
theorem betweenI64_any (v a b : Int) (w : World) :
    Calls Try.prog 39 #[.int .i64 v, .int .i64 a, .int .i64 b] w fun e w' => e = .returned (.int .i64 (min (max v (min a b)) (max a b))) ∧ w = w' := by
  go_enter Try.func39, Try.ntmps39
  go_wp2
  all_goals go_ret
  all_goals exact ⟨ret_int (by omega), rfl⟩

set_option maxHeartbeats 400000 in
theorem between_any (v a b : Int) (w : World) :
    Calls Try.prog 31 #[.int .i64 v, .int .i64 a, .int .i64 b] w fun e w' => e = .returned (.int .i64 (min (max v (min a b)) (max a b))) ∧ w = w' := by
  go_enter Try.func31, Try.ntmps31
  go_wp2_with fail
  refine (betweenI64_any v a b w).mono ?_
  rintro e w' ⟨rfl, rfl⟩
  go_wp2_with fail
  go_ret
  exact ⟨rfl, rfl⟩

set_option maxHeartbeats 400000 in
theorem width_any (n : Int) (w : World) :
    Calls Try.prog 34 #[.int .i64 n] w fun e w' => e = .returned (.int .i64 (wn n : Nat)) ∧ w = w' := by
  go_enter Try.func34, Try.ntmps34
  go_wp2_with fail
  refine (betweenInt_any n 1 64 w).mono ?_
  rintro e w' ⟨rfl, rfl⟩
  go_wp2_with fail
  go_ret
  exact ⟨ret_int (by rw [wn_int]; omega), rfl⟩

set_option maxHeartbeats 400000 in
theorem lowest_any (m : Nat) (w : World) (hm : m ≤ 64) :
    Calls Try.prog 33 #[.int .i64 m] w fun e w' => e = .returned (.int .u64 ((2 ^ m - 1 : Nat) : Int)) ∧ w = w' := by
  go_enter Try.func33, Try.ntmps33
  go_wp2
  go_ret
  exact ⟨ret_int (low_bits m hm), rfl⟩

set_option maxHeartbeats 400000 in
theorem wrap_any (v n : Int) (w : World) :
    Calls Try.prog 16 #[.int .i64 v, .int .i64 n] w fun e w' => e = .returned (.int .i64 (wrapN v (wn n))) ∧ w = w' := by
  have h1 := wn_pos n
  have h2 := wn_le n
  have hw := width_any n w
  generalize wn n = m at *
  have HW := Lib.hid hw
  clear hw
  go_enter Try.func16, Try.ntmps16
  go_wp2_with fail
  refine HW.out.mono ?_
  rintro e w' ⟨rfl, rfl⟩
  go_wp2_with fail
  go_ret
  exact ⟨ret_int (wrap_bits v m h1 h2), rfl⟩

set_option maxHeartbeats 400000 in
theorem fits_any (v n : Int) (w : World) :
    Calls Try.prog 14 #[.int .i64 v, .int .i64 n] w fun e w' => e = .returned (.bool (fitsN v (wn n))) ∧ w = w' := by
  have HF := Lib.hid (fits_wrap v (wn n) (wn_pos n))
  go_enter Try.func14, Try.ntmps14
  go_wp2_with fail
  refine (wrap_any v n w).mono ?_
  rintro e w' ⟨rfl, rfl⟩
  go_wp2_with fail
  go_ret
  exact ⟨ret_bool (by rw [← HF.out]; rw [Bool.eq_iff_iff]; simp), rfl⟩

set_option maxHeartbeats 400000 in
theorem clamp_any (v n : Int) (w : World) :
    Calls Try.prog 18 #[.int .i64 v, .int .i64 n] w fun e w' => e = .returned (.int .i64 (clampN v (wn n))) ∧ w = w' := by
  have h1 := wn_pos n
  have h2 := wn_le n
  have hw := width_any n w
  have hl := lowest_any 63 w (by omega)
  generalize wn n = m at *
  have hts := top_shift m h1 h2
  generalize (2 ^ 63 - 1 : Nat) = T at *
  have hH1 := hp_pos m
  have hH2 := hp_le m h2
  unfold clampN
  generalize hp m = H at *
  have hxr : bits BinOp.xor IntKind.i64 (-1) (H - 1) = -H := by rw [i64_ones_xor _ (by omega) (by omega)]; omega
  have hsg : IntKind.i64.signed = true := rfl
  have HW := Lib.hid hw
  have HL := Lib.hid hl
  clear hw hl
  go_enter Try.func18, Try.ntmps18
  go_wp2_with fail
  refine HL.out.mono ?_
  rintro e w' ⟨rfl, rfl⟩
  go_wp2_with fail
  refine HW.out.mono ?_
  rintro e w' ⟨rfl, rfl⟩
  go_wp2_with fail
  refine (betweenI64_any v (-H) (H - 1) w).mono ?_
  rintro e w' ⟨rfl, rfl⟩
  go_wp2_with fail
  go_ret
  exact ⟨ret_int (by omega), rfl⟩

set_option maxHeartbeats 400000 in
theorem narrow_any (v : Nat) (n : Int) (w : World) (hv : v < 18446744073709551616) :
    Calls Try.prog 10 #[.int .u64 v, .int .i64 n] w fun e w' => e = .returned (.tuple #[.int .u64 (v % 2 ^ wn n : Nat), .bool (decide (v % 2 ^ wn n = v))]) ∧ w = w' := by
  have h1 := wn_pos n
  have h2 := wn_le n
  have hw := width_any n w
  generalize wn n = m at *
  have hl := lowest_any m w h2
  have hb := u64_and_low v m hv h2
  generalize (2 ^ m - 1 : Nat) = T at *
  generalize v % 2 ^ m = r at *
  have HW := Lib.hid hw
  have HL := Lib.hid hl
  clear hw hl
  go_enter Try.func10, Try.ntmps10
  go_wp2_with fail
  refine HW.out.mono ?_
  rintro e w' ⟨rfl, rfl⟩
  go_wp2_with fail
  refine HL.out.mono ?_
  rintro e w' ⟨rfl, rfl⟩
  go_wp2_with fail
  go_ret2
  refine ⟨?_, rfl⟩
  show Ending.returned (.tuple #[.int .u64 r, .bool ((r : Int) == (v : Int))]) = _
  rw [int_beq_nat]

set_option maxHeartbeats 400000 in
theorem signed_any (v : Int) (w : World) (h0 : 0 ≤ v) (h1 : v < 18446744073709551616) :
    Calls Try.prog 12 #[.int .u64 v] w fun e w' => e = .returned (.tuple #[.int .i64 (if v < 9223372036854775808 then v else 0), .bool (decide (v < 9223372036854775808))]) ∧ w = w' := by
  by_cases h : v < 9223372036854775808
  · rw [if_pos h, decide_eq_true h]
    go_enter Try.func12, Try.ntmps12
    go_wp2
    go_ret2
    exact ⟨rfl, rfl⟩
  · rw [if_neg h, decide_eq_false h]
    have hw : wrap64 v = v - 18446744073709551616 := by unfold wrap64; omega
    go_enter Try.func12, Try.ntmps12
    go_wp2
    go_ret2
    exact ⟨rfl, rfl⟩

set_option maxHeartbeats 400000 in
theorem zig_any (v : Int) (w : World) (h0 : -9223372036854775808 ≤ v) (h1 : v ≤ 9223372036854775807) :
    Calls Try.prog 25 #[.int .i64 v] w fun e w' => e = .returned (.int .u64 (zigN v)) ∧ w = w' := by
  go_enter Try.func25, Try.ntmps25
  go_wp2
  go_ret
  exact ⟨ret_int (zig_bits v h0 h1), rfl⟩
set_option maxHeartbeats 400000 in
theorem zag_any (v : Int) (w : World) (h0 : 0 ≤ v) (h1 : v < 18446744073709551616) :
    Calls Try.prog 27 #[.int .u64 v] w fun e w' => e = .returned (.int .i64 (zagN v)) ∧ w = w' := by
  go_enter Try.func27, Try.ntmps27
  go_wp2
  go_ret
  exact ⟨ret_int (zag_bits v h0 h1), rfl⟩
set_option maxHeartbeats 400000 in
theorem half_any (a b : Int) (w : World) (ha0 : -9223372036854775808 ≤ a) (ha1 : a ≤ 9223372036854775807) (hb0 : -9223372036854775808 ≤ b) (hb1 : b ≤ 9223372036854775807) :
    Calls Try.prog 29 #[.int .i64 a, .int .i64 b] w fun e w' => e = .returned (.int .i64 ((a + b) / 2)) ∧ w = w' := by
  go_enter Try.func29, Try.ntmps29
  go_wp2
  go_ret
  exact ⟨ret_int (half_bits a b ha0 ha1 hb0 hb1), rfl⟩

/-- how many bits n counts as in Align -/
def an (n : Int) : Nat := (min (max n 0) 63).toNat
theorem an_le (n : Int) : an n ≤ 63 := by unfold an; omega
theorem an_int (n : Int) : (an n : Int) = min (max n 0) 63 := by unfold an; omega

set_option maxHeartbeats 400000 in
theorem align_yes (v : Nat) (n : Int) (w : World) (hv : v < 18446744073709551616) (h : upN v (an n) < 18446744073709551616) :
    Calls Try.prog 22 #[.int .u64 v, .int .i64 n] w fun e w' => e = .returned (.tuple #[.int .u64 (upN v (an n) : Nat), .bool true]) ∧ w = w' := by
  have h2 := an_le n
  have ha : Calls Try.prog 41 #[.int .i64 n, .int .i64 0, .int .i64 63] w fun e w' => e = .returned (.int .i64 (an n : Nat)) ∧ w = w' := by
    refine (betweenInt_any n 0 63 w).mono ?_
    rintro e w' ⟨rfl, rfl⟩
    exact ⟨ret_int (by rw [an_int]; omega), rfl⟩
  generalize an n = k at *
  have hl := lowest_any k w (by omega)
  have hf := (upN_fits v k (by omega)).1 h
  have hP : 0 < 2 ^ k := Nat.pow_pos (by omega)
  have hup : upN v k = (v + (2 ^ k - 1)) / 2 ^ k * 2 ^ k := rfl
  have hupi : ((v : Int) + ((2 ^ k - 1 : Nat) : Int)) / 2 ^ k * 2 ^ k = ((upN v k : Nat) : Int) := by rw [hup]; simp
  have hupw : IntKind.u64.wrap (((v : Int) + ((2 ^ k - 1 : Nat) : Int)) / 2 ^ k * 2 ^ k) = ((upN v k : Nat) : Int) := by rw [hupi, wrap_u64_nat _ h]
  clear hup hupi
  generalize upN v k = u at *
  have h1 : ((2 ^ k - 1 : Nat) : Int) ≥ 0 := by omega
  generalize (2 ^ k - 1 : Nat) = T at *
  have HA := Lib.hid ha
  have HL := Lib.hid hl
  have HU := Lib.hid hupw
  clear ha hl hupw hP
  go_enter Try.func22, Try.ntmps22
  go_wp2_with fail
  refine HA.out.mono ?_
  rintro e w' ⟨rfl, rfl⟩
  go_wp2_with fail
  refine HL.out.mono ?_
  rintro e w' ⟨rfl, rfl⟩
  go_wp2_with fail
  go_ret2
  refine ⟨?_, rfl⟩
  show Ending.returned (.tuple #[.int .u64 (IntKind.u64.wrap (((v : Int) + (T : Int)) / 2 ^ k * 2 ^ k)), .bool true]) = _
  rw [HU.out]
set_option maxHeartbeats 400000 in
theorem align_no (v : Nat) (n : Int) (w : World) (hv : v < 18446744073709551616) (h : ¬ upN v (an n) < 18446744073709551616) :
    Calls Try.prog 22 #[.int .u64 v, .int .i64 n] w fun e w' => e = .returned (.tuple #[.int .u64 0, .bool false]) ∧ w = w' := by
  have h2 := an_le n
  have ha : Calls Try.prog 41 #[.int .i64 n, .int .i64 0, .int .i64 63] w fun e w' => e = .returned (.int .i64 (an n : Nat)) ∧ w = w' := by
    refine (betweenInt_any n 0 63 w).mono ?_
    rintro e w' ⟨rfl, rfl⟩
    exact ⟨ret_int (by rw [an_int]; omega), rfl⟩
  generalize an n = k at *
  have hl := lowest_any k w (by omega)
  have hf := fun x => h ((upN_fits v k (by omega)).2 x)
  have hf1 : ¬ v + (2 ^ k - 1) < 18446744073709551616 := hf
  have hP : 0 < 2 ^ k := Nat.pow_pos (by omega)
  have hP2 := Nat.pow_le_pow_right (n := 2) (by omega) (show k ≤ 63 by omega)
  have h1 : 2 ^ k - 1 < 9223372036854775808 := by omega
  generalize (2 ^ k - 1 : Nat) = T at *
  have HA := Lib.hid ha
  have HL := Lib.hid hl
  clear ha hl hP hP2 hf h
  have hw : IntKind.u64.wrap ((v : Int) + (T : Int)) = (v : Int) + (T : Int) - 18446744073709551616 := by rw [IntKind.wrap_u64]; omega
  go_enter Try.func22, Try.ntmps22
  go_wp2_with fail
  refine HA.out.mono ?_
  rintro e w' ⟨rfl, rfl⟩
  go_wp2_with fail
  refine HL.out.mono ?_
  rintro e w' ⟨rfl, rfl⟩
  go_wp2_with fail
  go_ret2
  exact ⟨rfl, rfl⟩
end Go.Proofs.Ytmpjmlcojhoaeaa
