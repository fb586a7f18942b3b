/-
  The statement CastSums: the walk of its Go text, by the contracts of what it calls.
-/
import Derived.Test.YtmpjmlcojhoaeaaLawCastBack
namespace Go.Proofs.Ytmpjmlcojhoaeaa
open Go.RowKit

theorem wrapN_64 (v : Int) (m : Nat) (h : m ≤ 64) : wrapN (wrap64 v) m = wrapN v m := by
  unfold wrapN
  rw [wrap64_bmod]
  have := @Int.bmod_bmod_of_dvd v (2 ^ m) (2 ^ 64) (Nat.pow_dvd_pow 2 h)
  simpa using this
theorem wrapN_add (a b : Int) (m : Nat) (h : m ≤ 64) : wrapN (wrap64 (wrapN a m + wrapN b m)) m = wrapN (wrap64 (a + b)) m := by
  rw [wrapN_64 _ m h, wrapN_64 _ m h]
  unfold wrapN
  rw [Int.bmod_add_bmod, Int.add_bmod_bmod]
theorem wrapN_sub (a b : Int) (m : Nat) (h : m ≤ 64) : wrapN (wrap64 (wrapN a m - wrapN b m)) m = wrapN (wrap64 (a - b)) m := by
  rw [wrapN_64 _ m h, wrapN_64 _ m h]
  unfold wrapN
  rw [Int.bmod_sub_bmod, Int.sub_bmod_bmod]
theorem wrapN_mul (a b : Int) (m : Nat) (h : m ≤ 64) : wrapN (wrap64 (wrapN a m * wrapN b m)) m = wrapN (wrap64 (a * b)) m := by
  rw [wrapN_64 _ m h, wrapN_64 _ m h]
  unfold wrapN
  rw [Int.bmod_mul_bmod, Int.mul_bmod_bmod]
theorem narrow_wrap (a : Int) (n : Int) (U V : Nat) (hU : (U : Int) % 18446744073709551616 = a % 18446744073709551616) (hV : (V : Int) % 18446744073709551616 = wrapN a (wn n) % 18446744073709551616) : nwV V n = nwV U n := by
  unfold nwV
  have hm := wn_le n
  generalize wn n = m at *
  have hd : ((2 : Int) ^ m) ∣ 18446744073709551616 := by
    have e2 : ((2 : Int) ^ m) = ((2 ^ m : Nat) : Int) := by simp
    rw [e2]
    exact Int.natCast_dvd_natCast.2 (Nat.pow_dvd_pow 2 hm : 2 ^ m ∣ 2 ^ 64)
  have e1 : (U : Int) % 2 ^ m = a % 2 ^ m := by rw [← Int.emod_emod_of_dvd _ hd, hU, Int.emod_emod_of_dvd _ hd]
  have e2 : (V : Int) % 2 ^ m = wrapN a m % 2 ^ m := by rw [← Int.emod_emod_of_dvd _ hd, hV, Int.emod_emod_of_dvd _ hd]
  have e3 : wrapN a m % 2 ^ m = a % 2 ^ m := by
    have := @Int.bmod_emod a (2 ^ m)
    unfold wrapN
    simpa using this
  have e4 : (V : Int) % ((2 ^ m : Nat) : Int) = (U : Int) % ((2 ^ m : Nat) : Int) := by
    have e5 : ((2 ^ m : Nat) : Int) = 2 ^ m := by simp
    rw [e5, e2, e3, e1]
  have e6 : ((V % 2 ^ m : Nat) : Int) = ((U % 2 ^ m : Nat) : Int) := by rw [Int.natCast_emod, Int.natCast_emod]; exact e4
  omega

set_option maxRecDepth 100000 in
set_option maxHeartbeats 4000000 in
theorem castSums_walk (a b n : Int) (w : World) :
    Calls Try.prog 8 #[.int .i64 a, .int .i64 b, .int .i64 n] w fun e w' => e = .returned (.bool true) ∧ w = w' := by
  have m2 := wn_le n
  obtain ⟨U, hU, hUl, hUm⟩ := u64_of a
  obtain ⟨V, hV, hVl, hVm⟩ := u64_of (wrapN a (wn n))
  have c1 := wrap_any a n w
  have c2 := wrap_any b n w
  have c3 := narrow_is U n w hUl
  have c4 := narrow_is V n w hVl
  rw [narrow_wrap a n U V hUm hVm] at c4
  have c5 := wrap_any (wrap64 (wrapN a (wn n) + wrapN b (wn n))) n w
  have c6 := wrap_any (wrap64 (a + b)) n w
  have c7 := wrap_any (wrap64 (wrapN a (wn n) - wrapN b (wn n))) n w
  have c8 := wrap_any (wrap64 (a - b)) n w
  have c9 := wrap_any (wrap64 (wrapN a (wn n) * wrapN b (wn n))) n w
  have c10 := wrap_any (wrap64 (a * b)) n w
  rw [wrapN_add _ _ _ m2] at c5
  rw [wrapN_sub _ _ _ m2] at c7
  rw [wrapN_mul _ _ _ m2] at c9
  have c0 := alive_any w
  generalize wrapN (wrap64 (a + b)) (wn n) = S1 at *
  generalize wrapN (wrap64 (a - b)) (wn n) = S2 at *
  generalize wrapN (wrap64 (a * b)) (wn n) = S3 at *
  generalize wrapN a (wn n) = X at *
  generalize wrapN b (wn n) = Y at *
  generalize nwV U n = N at *
  generalize nwB U n = N1 at *
  generalize nwB V n = N2 at *
  have C0 := Lib.hid c0
  have C1 := Lib.hid c1
  have C2 := Lib.hid c2
  have C3 := Lib.hid c3
  have C4 := Lib.hid c4
  have C5 := Lib.hid c5
  have C6 := Lib.hid c6
  have C7 := Lib.hid c7
  have C8 := Lib.hid c8
  have C9 := Lib.hid c9
  have C10 := Lib.hid c10
  clear c0 c1 c2 c3 c4 c5 c6 c7 c8 c9 c10
  go_enter Try.func8, Try.ntmps8
  go_wp2_with fail
  refine C1.out.mono ?_
  rintro e w' ⟨rfl, rfl⟩
  go_wp2_with fail
  refine C2.out.mono ?_
  rintro e w' ⟨rfl, rfl⟩
  go_wp2_with fail
  refine C3.out.mono ?_
  rintro e w' ⟨rfl, rfl⟩
  go_wp2_with fail
  refine C4.out.mono ?_
  rintro e w' ⟨rfl, rfl⟩
  go_wp2_with fail
  refine C0.out.mono ?_
  rintro e w' ⟨rfl, rfl⟩
  go_wp2_with fail
  refine C5.out.mono ?_
  rintro e w' ⟨rfl, rfl⟩
  go_wp2_with fail
  refine C6.out.mono ?_
  rintro e w' ⟨rfl, rfl⟩
  go_wp2_with fail
  refine C7.out.mono ?_
  rintro e w' ⟨rfl, rfl⟩
  go_wp2_with fail
  refine C8.out.mono ?_
  rintro e w' ⟨rfl, rfl⟩
  go_wp2_with fail
  refine C9.out.mono ?_
  rintro e w' ⟨rfl, rfl⟩
  go_wp2_with fail
  refine C10.out.mono ?_
  rintro e w' ⟨rfl, rfl⟩
  go_wp2_with fail
  go_ret
  exact ⟨rfl, rfl⟩
end Go.Proofs.Ytmpjmlcojhoaeaa
