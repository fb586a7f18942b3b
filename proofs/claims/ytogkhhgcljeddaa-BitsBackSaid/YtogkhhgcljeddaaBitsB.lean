/-
  Extend, Reverse, Count of package bits, and what they call, by their contracts.
-/
import Derived.Test.YtogkhhgcljeddaaBitsA
import Derived.Test.YtogkhhgcljeddaaRev
import Derived.Lib.BitFns
namespace Go.Proofs.Ytogkhhgcljeddaa
open Go.RowKit

set_option maxHeartbeats 400000 in
theorem extend_any (v : Nat) (n : Int) (w : World) (hv : v < 18446744073709551616) :
    Calls Try.prog 14 #[.int .u64 v, .int .i64 n] w fun e w' => e = .returned (.int .i64 (wrap64 (IntKind.u64.wrap (v * 2 ^ (64 - min (max n 0) 64).toNat)) / 2 ^ (64 - min (max n 0) 64).toNat)) ∧ w = w' := by
  have hl := Int.min_le_right (max n 0) 64
  have hl2 : 0 ≤ min (max n 0) 64 := by omega
  go_enter Try.func14, Try.ntmps14
  go_wp2_with (go_at_call 33; refine (limit_any _ _).mono ?_; rintro e w' ⟨rfl, rfl⟩)
  go_ret
  exact ⟨rfl, rfl⟩

set_option maxRecDepth 100000 in
set_option maxHeartbeats 1000000 in
theorem reverse64_any (v : Nat) (w : World) (hv : v < 18446744073709551616) :
    Calls Try.prog 35 #[.int .u64 v] w fun e w' => e = .returned (.int .u64 (rev64 v : Nat)) ∧ w = w' := by
  go_enter Try.func35, Try.ntmps35
  go_wp2
  go_ret
  refine ⟨ret_int ?_, rfl⟩
  exact st_all v hv

theorem ones_tab : ∀ n : Fin 256, (Lib.pop8tab.data.getD n.val 0).toNat = Lib.onesCount n.val := by decide +kernel
theorem ones_at (v : Nat) (h : v < Lib.pop8tab.size) (hv : v < 256) : wrap64 ((Lib.pop8tab[v]'h).toNat : Int) = (Lib.onesCount v : Nat) := by
  have e := ones_tab ⟨v, hv⟩
  have e2 : Lib.pop8tab.data.getD v 0 = Lib.pop8tab[v]'h := by
    have h' : v < Lib.pop8tab.data.size := h
    simp only [Array.getD, h', dite_true]
    rfl
  simp only [e2] at e
  have l := Lib.onesCount_le8 ⟨v, hv⟩
  simp only at l
  rw [e]
  unfold wrap64
  omega

set_option maxRecDepth 100000 in
set_option maxHeartbeats 400000 in
theorem ones_any (v : Nat) (w : World) (hv : v < 256) :
    Calls Try.prog 36 #[.int .u8 v] w fun e w' => e = .returned (.int .i64 (Lib.onesCount v : Nat)) ∧ w = w' := by
  go_enter Try.func36, Try.ntmps36
  go_wp2
  go_ret
  exact ⟨ret_int (ones_at v _ hv), rfl⟩

/-- how many bits are 1 -/
def ones (bs : List UInt8) : Nat := (bs.map fun x => Lib.onesCount x.toNat).sum
theorem ones_take (bs : List UInt8) (k : Nat) (hk : k < bs.length) : ones (bs.take (k + 1)) = ones (bs.take k) + Lib.onesCount (bs.getD k 0).toNat := by
  have e : bs.getD k 0 = bs[k] := by simp [hk]
  unfold ones
  rw [e, List.take_succ_eq_append_getElem hk, List.map_append, List.sum_append]; simp
theorem ones_le (bs : List UInt8) : ones bs ≤ 8 * bs.length := by
  induction bs with
  | nil => simp [ones]
  | cons x r ih =>
    have l := Lib.onesCount_le8 ⟨x.toNat, x.toNat_lt⟩
    simp only at l
    simp only [ones, List.map_cons, List.sum_cons, List.length_cons] at *
    omega
theorem ones_append (a b : List UInt8) : ones (a ++ b) = ones a + ones b := by simp [ones]

set_option maxHeartbeats 400000 in
theorem count_any (bs : List UInt8) (a : Option Addr) (c B : Nat) (w : World) (h : Ro w B a (u8s bs)) (hl : bs.length ≤ 1000000) :
    Calls Try.prog 18 #[.slice a bs.length c] w fun e w' => e = .returned (.int .i64 (ones bs : Nat)) ∧ w = w' := by
  go_enter Try.func18, Try.ntmps18
  go_wp2
  go_loop [3, 8] (fun t i => ∃ k : Nat, k ≤ bs.length ∧ i = .int .i64 (k : Int) ∧ t = .int .i64 (ones (bs.take k) : Nat)) (fun _ i => bs.length - (intOf i).toNat)
  case atStart => exact ⟨0, by omega, by simp, by simp [ones]⟩
  case round =>
    obtain ⟨k, hk, rfl, rfl⟩ := hrel
    by_cases hlt : k < bs.length
    · obtain ⟨b, off, rfl, hb, hc⟩ := h.u8 (by omega)
      have hcell := hc k hlt
      clear hc
      have hsum := ones_take bs k hlt
      obtain ⟨x, hx⟩ : ∃ x, x = bs.getD k 0 := ⟨_, rfl⟩
      rw [← hx] at hcell hsum
      clear hx
      have HS := Lib.hid hsum; clear hsum
      have hle := ones_le (bs.take k)
      have hle2 : (bs.take k).length ≤ k := List.length_take_le _ _
      have l := Lib.onesCount_le8 ⟨x.toNat, x.toNat_lt⟩
      simp only at l
      have hx := x.toNat_lt
      go_wp2_with (go_at_call 36; refine (ones_any _ _ hx).mono ?_; rintro e w' ⟨rfl, rfl⟩)
      go_round
      case rel => exact ⟨k + 1, by omega, by go_num, by rw [HS.out]; go_num⟩
      case measure => simp [intOf]; omega
    · obtain rfl : k = bs.length := by omega
      go_wp2
      go_ret
      exact ⟨rfl, rfl⟩

theorem reverse_any (v : Nat) (n : Int) (w : World) (hv : v < 18446744073709551616) :
    Calls Try.prog 16 #[.int .u64 v, .int .i64 n] w fun e w' => e = .returned (.int .u64 (revn v (min (max n 0) 64).toNat : Nat)) ∧ w = w' := by
  have hl := Int.min_le_right (max n 0) 64
  have hl2 : 0 ≤ min (max n 0) 64 := by omega
  obtain ⟨m, hm⟩ := Int.eq_ofNat_of_zero_le hl2
  have e1 := limit_any n w
  rw [hm] at e1 hl ⊢
  clear hm hl2
  rw [Int.toNat_natCast]
  go_enter Try.func16, Try.ntmps16
  go_wp2_with fail
  refine (reverse64_any v w hv).mono ?_
  rintro e w' ⟨rfl, rfl⟩
  go_wp2_with fail
  refine e1.mono ?_
  rintro e w' ⟨rfl, rfl⟩
  go_wp2_with fail
  go_ret
  refine ⟨ret_int ?_, rfl⟩
  have e2 : (64 - (m : Int)).toNat = 64 - m := by omega
  first | rw [e2] | skip
  unfold revn
  simp
end Go.Proofs.Ytogkhhgcljeddaa
