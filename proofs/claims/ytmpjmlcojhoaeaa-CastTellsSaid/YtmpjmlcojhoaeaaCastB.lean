/-
  Log of package cast by its contract, with math/bits.Len64. No condition but the ranges that each theorem names.
-/
import Derived.Test.YtmpjmlcojhoaeaaCastA
import Derived.Lib.BitFns
import Derived.Lib.ItoaNum
import Derived.Lib.Strings
import Derived.Lib.Slices
import Derived.Lib.Small
import Derived.Lib.Walk
namespace Go.Proofs.Ytmpjmlcojhoaeaa
open Go.RowKit


theorem tab_size : Lib.len8tab.size = 256 := by decide +kernel
theorem tab_at (i : Nat) (h : i < Lib.len8tab.size) : (Lib.len8tab[i]'h).toNat = Lib.bitLen i := by
  have hs := tab_size
  have e := Lib.len8_of (i : Int) (by omega) (by omega)
  unfold Lib.len8 at e
  rw [Int.toNat_natCast, getElem?_pos Lib.len8tab i h, Option.getD_some] at e
  omega
theorem len_close (X k S : Nat) (t : Nat) (ht : t = Lib.bitLen (X / S)) (hS : S = 2 ^ k) (hk : S ≤ X) (hs : X / S < 256) (hX : X < 18446744073709551616) (hkk : k ≤ 64) : wrap64 ((k : Int) + wrap64 (t : Int)) = (Lib.bitLen X : Int) := by
  have e := Lib.bitLen_shift k X (by omega) hX
  rw [← hS] at e
  generalize X / S = q at *
  have l := Lib.bitLen_le8' (q : Int) (by omega) (by omega)
  rw [Int.toNat_natCast] at l
  rw [e, ht]
  unfold wrap64
  omega
theorem len_close0 (X : Nat) (t : Nat) (ht : t = Lib.bitLen X) (hX : X < 256) : wrap64 (wrap64 (t : Int)) = (Lib.bitLen X : Int) := by
  have l := Lib.bitLen_le8' (X : Int) (by omega) (by omega)
  rw [Int.toNat_natCast] at l
  rw [ht]
  unfold wrap64
  omega
theorem tab_of (i j : Nat) (h : i < Lib.len8tab.size) (e : i = j) : (Lib.len8tab[i]'h).toNat = Lib.bitLen j := by rw [tab_at, e]

set_option maxHeartbeats 4000000 in
set_option maxRecDepth 100000 in
theorem len_any (x : Int) (w : World) (h0 : 0 < x) (h1 : x < 18446744073709551616) :
    Calls Try.prog 40 #[.int .u64 x] w fun e w' => e = .returned (.int .i64 (Lib.bitLen x.toNat : Nat)) ∧ w = w' := by
  have hs := tab_size
  go_enter Try.func40, Try.ntmps40
  go_wp2
  all_goals go_ret
  all_goals refine ⟨ret_int ?_, rfl⟩
  · exact len_close x.toNat 56 72057594037927936 _ (tab_of _ _ _ (by omega)) (by decide) (by omega) (by omega) (by omega) (by omega)
  · exact len_close x.toNat 48 281474976710656 _ (tab_of _ _ _ (by omega)) (by decide) (by omega) (by omega) (by omega) (by omega)
  · exact len_close x.toNat 40 1099511627776 _ (tab_of _ _ _ (by omega)) (by decide) (by omega) (by omega) (by omega) (by omega)
  · exact len_close x.toNat 32 4294967296 _ (tab_of _ _ _ (by omega)) (by decide) (by omega) (by omega) (by omega) (by omega)
  · exact len_close x.toNat 24 16777216 _ (tab_of _ _ _ (by omega)) (by decide) (by omega) (by omega) (by omega) (by omega)
  · exact len_close x.toNat 16 65536 _ (tab_of _ _ _ (by omega)) (by decide) (by omega) (by omega) (by omega) (by omega)
  · exact len_close x.toNat 8 256 _ (tab_of _ _ _ (by omega)) (by decide) (by omega) (by omega) (by omega) (by omega)
  · exact len_close0 x.toNat _ (tab_of _ _ _ (by omega)) (by omega)

/-- the greatest k of which 2 to k is at most v -/
def logN (v : Nat) : Nat := Lib.bitLen v - 1
theorem logN_bounds (v : Nat) (h0 : 0 < v) (h1 : v < 18446744073709551616) : 2 ^ logN v ≤ v ∧ v < 2 ^ (logN v + 1) ∧ logN v ≤ 63 ∧ Lib.bitLen v = logN v + 1 := by
  obtain ⟨a, b, c⟩ := Lib.bitLenAux_bounds 64 v h1 (by omega)
  have l := Lib.bitLenAux_le 64 v 64 h1
  unfold logN Lib.bitLen
  refine ⟨b, ?_, by omega, by omega⟩
  rwa [show Lib.bitLenAux 64 v - 1 + 1 = Lib.bitLenAux 64 v by omega]
theorem logN_eq (v k : Nat) (h1 : v < 18446744073709551616) (h2 : 2 ^ k ≤ v) (h3 : v < 2 ^ (k + 1)) : logN v = k := by
  have hP : 0 < 2 ^ k := Nat.pow_pos (by omega)
  obtain ⟨a, b, _, _⟩ := logN_bounds v (by omega) h1
  have c : logN v < k + 1 := (Nat.pow_lt_pow_iff_right (a := 2) (by omega)).1 (by omega)
  have d : k < logN v + 1 := (Nat.pow_lt_pow_iff_right (a := 2) (by omega)).1 (by omega)
  omega

set_option maxHeartbeats 400000 in
theorem log_yes (v : Nat) (w : World) (h0 : 0 < v) (h1 : v < 18446744073709551616) :
    Calls Try.prog 20 #[.int .u64 v] w fun e w' => e = .returned (.tuple #[.int .i64 (logN v : Nat), .bool true]) ∧ w = w' := by
  obtain ⟨_, _, h3, h4⟩ := logN_bounds v h0 h1
  have hl := len_any (v : Int) w (by omega) (by omega)
  rw [Int.toNat_natCast, h4] at hl
  generalize logN v = L at *
  have HL := Lib.hid hl
  clear hl h4
  go_enter Try.func20, Try.ntmps20
  go_wp2_with fail
  refine HL.out.mono ?_
  rintro e w' ⟨rfl, rfl⟩
  go_wp2_with fail
  go_ret2
  exact ⟨rfl, rfl⟩
set_option maxHeartbeats 400000 in
theorem log_no (w : World) :
    Calls Try.prog 20 #[.int .u64 0] w fun e w' => e = .returned (.tuple #[.int .i64 0, .bool false]) ∧ w = w' := by
  go_enter Try.func20, Try.ntmps20
  go_wp2_with fail
  go_ret2
  exact ⟨rfl, rfl⟩
end Go.Proofs.Ytmpjmlcojhoaeaa
