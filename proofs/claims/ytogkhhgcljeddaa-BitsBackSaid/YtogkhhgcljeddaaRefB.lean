/-
  The document's answers on bits, by their contracts: Get, Put, Extend, Reverse, Count.
-/
import Derived.Test.YtogkhhgcljeddaaRefA
namespace Go.Proofs.Ytogkhhgcljeddaa
open Go.RowKit Go.Deep

theorem refWithin_yes (a : Option Addr) (len c : Nat) (k n : Int) (w : World) (hl : len ≤ 1000000) (hn0 : 0 ≤ n) (hn : n ≤ 64) (hk0 : 0 ≤ k) (hk : k + n ≤ 8 * len) :
    Calls Try.prog 27 #[.slice a len c, .int .i64 k, .int .i64 n] w fun e w' => e = .returned (.bool true) ∧ w = w' := by
  have h := refWithin_any a len c k n w hl (by omega) (by omega) (by omega) (by omega)
  rw [decide_eq_true (by omega)] at h
  exact h
theorem refWithin_no (a : Option Addr) (len c : Nat) (k n : Int) (w : World) (hl : len ≤ 1000000) (hk0 : -9223372036854775808 ≤ k) (hk : k ≤ 9223372036854775807) (hn0 : -9223372036854775808 ≤ n) (hn : n ≤ 9223372036854775807) (h : ¬ (0 ≤ n ∧ n ≤ 64 ∧ 0 ≤ k ∧ k + n ≤ 8 * len)) :
    Calls Try.prog 27 #[.slice a len c, .int .i64 k, .int .i64 n] w fun e w' => e = .returned (.bool false) ∧ w = w' := by
  have h2 := refWithin_any a len c k n w hl (by omega) (by omega) (by omega) (by omega)
  rw [decide_eq_false h] at h2
  exact h2

set_option maxHeartbeats 400000 in
theorem refGet_yes (bs : List UInt8) (a : Option Addr) (c B : Nat) (k n : Int) (w : World) (h : Ro w B a (u8s bs)) (hl : bs.length ≤ 1000000) (hn0 : 0 ≤ n) (hn : n ≤ 64) (hk0 : 0 ≤ k) (hk : k + n ≤ 8 * bs.length) :
    Calls Try.prog 11 #[.slice a bs.length c, .int .i64 k, .int .i64 n] w fun e w' => e = .returned (.tuple #[.int .u64 (num bs k.toNat n.toNat : Nat), .bool true]) ∧ w = w' := by
  have hw := refWithin_yes a bs.length c k n w hl hn0 hn hk0 hk
  obtain ⟨k, rfl⟩ := Int.eq_ofNat_of_zero_le hk0
  obtain ⟨n, rfl⟩ := Int.eq_ofNat_of_zero_le hn0
  rw [Int.toNat_natCast, Int.toNat_natCast, num_nm]
  go_enter Try.func11, Try.ntmps11
  go_wp2_with fail
  refine hw.mono ?_
  rintro e w' ⟨rfl, rfl⟩
  clear hw
  go_wp2_with fail
  go_loop [9, 10] (fun v i => ∃ j : Nat, j ≤ n ∧ i = .int .i64 ((k + j : Nat) : Int) ∧ v = .int .u64 (nm (fun j => bitB bs (k + j)) j : Nat)) (fun _ i => k + n - (intOf i).toNat)
  case atStart => exact ⟨0, by omega, by simp, by simp [nm]⟩
  case round =>
    obtain ⟨j, hj, rfl, rfl⟩ := hrel
    have hk' : k + n ≤ 8 * bs.length := by omega
    by_cases hlt : j < n
    · have hbit := refBit_any bs a c B (k + j) w h (by omega) hl
      have hnext : nm (fun j => bitB bs (k + j)) (j + 1) = 2 * nm (fun j => bitB bs (k + j)) j + (bitB bs (k + j)).toNat := rfl
      have hlt1 := nm_lt (fun j => bitB bs (k + j)) j
      have hp := Nat.pow_le_pow_right (n := 2) (by omega) (show j ≤ 63 by omega)
      have hbr := bi_range (bitB bs (k + j))
      rw [bi_toNat] at hbit hbr
      generalize (bitB bs (k + j)).toNat = y at *
      generalize nm (fun j => bitB bs (k + j)) j = z at *
      have hz : z < 9223372036854775808 := by omega
      have HN := Lib.hid hnext
      have HB := Lib.hid hbit
      clear hnext hp hlt1 hbit
      go_wp2_with fail
      refine HB.out.mono ?_
      rintro e w' ⟨rfl, rfl⟩
      go_wp2_with fail
      go_round
      case rel => exact ⟨j + 1, by omega, by go_num, by rw [HN.out]; go_num⟩
      case measure => simp [intOf]; omega
    · obtain rfl : j = n := by omega
      go_wp2_with fail
      go_ret2
      exact ⟨rfl, rfl⟩
theorem refGet_no (a : Option Addr) (len c : Nat) (k n : Int) (w : World) (hl : len ≤ 1000000) (hk0 : -9223372036854775808 ≤ k) (hk : k ≤ 9223372036854775807) (hn0 : -9223372036854775808 ≤ n) (hn : n ≤ 9223372036854775807) (h : ¬ (0 ≤ n ∧ n ≤ 64 ∧ 0 ≤ k ∧ k + n ≤ 8 * len)) :
    Calls Try.prog 11 #[.slice a len c, .int .i64 k, .int .i64 n] w fun e w' => e = .returned (.tuple #[.int .u64 0, .bool false]) ∧ w = w' := by
  go_enter Try.func11, Try.ntmps11
  go_wp2_with fail
  refine (refWithin_no a len c k n w hl hk0 hk hn0 hn h).mono ?_
  rintro e w' ⟨rfl, rfl⟩
  go_wp2_with fail
  go_ret2
  exact ⟨rfl, rfl⟩

set_option maxHeartbeats 400000 in
theorem refCount_any (bs : List UInt8) (a : Option Addr) (c B : Nat) (w : World) (h : Ro w B a (u8s bs)) (hB : B ≤ w.heap.size) (hl : bs.length ≤ 1000000) :
    Calls Try.prog 19 #[.slice a bs.length c] w fun e w' => e = .returned (.int .i64 (bn (rowB bs)).sum) ∧ Below w.heap.size w w' := by
  go_enter Try.func19, Try.ntmps19
  go_wp2_with fail
  refine (refRow_any bs a c B w h hB hl).mono ?_
  rintro e w1 ⟨v, rfl, hown, hbel⟩
  obtain ⟨a1, c1, hve, hro, _, _⟩ := hown.form
  rw [show (i64s (bn (rowB bs))).length = 8 * bs.length by simp] at hve
  subst hve
  go_wp2_with fail
  go_loop [4, 5] (fun n i => ∃ j : Nat, j ≤ 8 * bs.length ∧ i = .int .i64 (j : Int) ∧ n = .int .i64 ((bn (rowB bs)).take j).sum ∧ 0 ≤ ((bn (rowB bs)).take j).sum ∧ ((bn (rowB bs)).take j).sum ≤ j) (fun _ i => 8 * bs.length - (intOf i).toNat)
  case atStart => exact ⟨0, by omega, by simp, by simp, by simp, by simp⟩
  case round =>
    obtain ⟨j, hj, rfl, rfl, h0, h1⟩ := hrel
    by_cases hlt : j < 8 * bs.length
    · obtain ⟨b, off, rfl, hb, hc⟩ := hro.i64 (by simp; omega)
      have hcell := hc j (by simpa using hlt)
      have hst := sum_take (bn (rowB bs)) j (by simpa using hlt)
      have hbr := bi_range ((rowB bs).getD j false)
      rw [← bn_getD] at hbr
      generalize (bn (rowB bs)).getD j 0 = y at *
      clear hc
      obtain ⟨t, ht⟩ : ∃ t, t = ((bn (rowB bs)).take j).sum := ⟨_, rfl⟩
      rw [← ht] at h0 h1 hst ⊢
      have HST := Lib.hid hst
      clear ht hst
      go_wp2_with fail
      go_round
      case rel => exact ⟨j + 1, by omega, by go_num, by rw [HST.out], by rw [HST.out]; omega, by rw [HST.out]; omega⟩
      case measure => simp [intOf]; omega
    · have e : (bn (rowB bs)).take j = bn (rowB bs) := List.take_of_length_le (by simp; omega)
      rw [e] at h0 h1 ⊢
      clear e
      go_wp2_with fail
      go_ret
      exact ⟨rfl, hbel⟩

set_option maxHeartbeats 400000 in
theorem refPut_yes (bs : List UInt8) (a : Option Addr) (c B : Nat) (k n : Int) (v : Nat) (w : World) (h : Ro w B a (u8s bs)) (hB : B ≤ w.heap.size) (hl : bs.length ≤ 1000) (hn0 : 0 ≤ n) (hn : n ≤ 64) (hk0 : 0 ≤ k) (hk : k + n ≤ 8 * bs.length) (hv : v < 18446744073709551616) :
    Calls Try.prog 13 #[.slice a bs.length c, .int .i64 k, .int .i64 n, .int .u64 v] w fun e w' => ∃ x cs, e = .returned (.tuple #[x, .bool true]) ∧ IsPut bs cs k.toNat n.toNat v ∧ Lst w' w.heap.size 5 x (u8s cs) ∧ Below w.heap.size w w' := by
  have hw := refWithin_yes a bs.length c k n w (by omega) hn0 hn hk0 hk
  obtain ⟨k, rfl⟩ := Int.eq_ofNat_of_zero_le hk0
  obtain ⟨n, rfl⟩ := Int.eq_ofNat_of_zero_le hn0
  rw [Int.toNat_natCast, Int.toNat_natCast]
  have hkn : k + n ≤ 8 * bs.length := by omega
  go_enter Try.func13, Try.ntmps13
  go_wp2_with fail
  refine hw.mono ?_
  rintro e w' ⟨rfl, rfl⟩
  clear hw
  go_wp2_with fail
  refine (refRow_any bs a c B w h hB (by omega)).mono ?_
  rintro e w1 ⟨l, rfl, hown, hbel⟩
  obtain ⟨a1, c1, hve, hro, hc1, _⟩ := hown.form
  rw [show (i64s (bn (rowB bs))).length = 8 * bs.length by simp] at hve hc1
  subst hve
  have ht1 : Ro w1 w1.heap.size a1 (i64s (bn ((rowB bs).take k))) := by
    have := hro.take k
    rwa [i64s, ← List.map_take, bn, ← List.map_take] at this
  have hd1 : Ro w1 w1.heap.size (if c1 = k + n then a1 else a1.map fun x => x.add (k + n)) (i64s (bn ((rowB bs).drop (k + n)))) := by
    have := hro.drop (k + n) c1 (by simp; omega)
    rwa [i64s, ← List.map_drop, bn, ← List.map_drop] at this
  have hlit := Lst.lit w1 w1.heap.size 3 #[] (Nat.le_refl _) (by simp)
  clear hown hro
  go_wp2_with (at_builtin; refine wpList_appB rfl (.tmp 21) (.tmp 24) 34 rfl w1.heap.size 3 (.int .i64 0) 8 Try.underlying34 Try.info_i64 rfl _ [] rfl hlit a1 w1.heap.size k c1 (i64s (bn ((rowB bs).take k))) rfl ?b0 ?b1 (i64s_oneCell _) ?b2 ?b3 w1.heap.size w1 ?b4 (Nat.le_refl _) ?b5 ?_)
  case b0 => simp; omega
  case b1 => exact ht1.keep fun p hp => World.cell?_alloc_lt w1 _ p hp
  case b2 => simp; omega
  case b3 => simp; omega
  case b4 => exact (Below.refl _ _).alloc (Nat.le_refl _) _
  case b5 => simp
  intro v2 w2 hown2 hbel2 hsz2
  have HB := Lib.hid hbel
  have HD := Lib.hid hd1
  clear ht1 hlit hd1 hbel
  go_wp2_with fail
  refine (refDigits_any v n w2 hv (by omega)).mono ?_
  rintro e w3 ⟨d, rfl, hown3, hbel3⟩
  obtain ⟨a3, c3, hde, hro3, _, _⟩ := hown3.form
  rw [show (i64s (bn (dig v n))).length = n by simp] at hde
  subst hde
  have hown2' := hown2.out.below hbel3 (Nat.le_refl _)
  have hbel3' : Below w1.heap.size w1 w3 := hbel2.trans (hbel3.mono hbel2.size)
  clear hown3 hown2
  go_wp2_with (at_builtin; refine wpList_appB rfl (.tmp 26) (.tmp 29) 34 rfl w1.heap.size 3 (.int .i64 0) 8 Try.underlying34 Try.info_i64 rfl v2 (i64s (bn ((rowB bs).take k))) rfl hown2' a3 w3.heap.size n c3 (i64s (bn (dig v n))) rfl ?b0 hro3 (i64s_oneCell _) ?b2 ?b3 w1.heap.size w1 hbel3' (Nat.le_refl _) hbel3'.size ?_)
  case b0 => simp
  case b2 => simp; omega
  case b3 => simp; omega
  intro v4 w4 hown4 hbel4 hsz4
  have hd4 := HD.out.below hbel4 (Nat.le_refl _)
  clear hro3 hown2' hbel3' hbel3 hbel2
  go_wp2_with (at_builtin; refine wpList_appB rfl (.tmp 31) (.tmp 36) 34 rfl w1.heap.size 3 (.int .i64 0) 8 Try.underlying34 Try.info_i64 rfl v4 _ rfl hown4.out (if c1 = k + n then a1 else a1.map fun x => x.add (k + n)) w1.heap.size (8 * bs.length - (k + n)) (c1 - (k + n)) (i64s (bn ((rowB bs).drop (k + n)))) ?b5 ?b0 hd4 (i64s_oneCell _) ?b2 ?b3 w1.heap.size w1 hbel4 (Nat.le_refl _) hbel4.size ?_)
  case b0 => simp
  case b2 => simp; omega
  case b3 => simp; omega
  all_goals
    intro v5 w5 hown5 hbel5 hsz5
    have e5 : i64s (bn ((rowB bs).take k)) ++ (i64s (bn (dig v n)) ++ i64s (bn ((rowB bs).drop (k + n)))) = i64s (bn ((rowB bs).take k ++ dig v n ++ (rowB bs).drop (k + n))) := by simp [i64s, bn]
    have hown6 := hown5.out
    rw [e5] at hown6
    obtain ⟨a6, c6, h6e, hro6, _, _⟩ := hown6.form
    have hl6 : ((rowB bs).take k ++ dig v n ++ (rowB bs).drop (k + n)).length = 8 * bs.length := by
      simp only [List.length_append, List.length_take, List.length_drop, rowB_length, dig_length]; omega
    rw [show (i64s (bn ((rowB bs).take k ++ dig v n ++ (rowB bs).drop (k + n)))).length = 8 * bs.length by rw [i64s_length, bn_length, hl6]] at h6e
    subst h6e
    have HL6 := Lib.hid hl6
    clear hown6 hown5 hl6 e5 hd4 hown4
    go_wp2_with fail
    refine (refBytes_len _ (8 * bs.length) a6 c6 w5.heap.size w5 HL6.out hro6 (Nat.le_refl _) (by omega)).mono ?_
    rintro e w7 ⟨x, cs, rfl, hby, hown7, hbel7⟩
    have hbel8 : Below w.heap.size w w7 := (HB.out.trans (hbel5.mono HB.out.size)).trans (hbel7.mono (by have := HB.out.size; have := hbel5.size; omega))
    go_wp2_with fail
    go_ret2
    exact ⟨x, cs, rfl, isPut_of_bytes hkn hby, hown7.base (by have := HB.out.size; have := hbel5.size; omega), hbel8⟩

set_option maxHeartbeats 400000 in
theorem refPut_no (a : Option Addr) (len c : Nat) (k n : Int) (v : Nat) (w : World) (hl : len ≤ 1000000) (hk0 : -9223372036854775808 ≤ k) (hk : k ≤ 9223372036854775807) (hn0 : -9223372036854775808 ≤ n) (hn : n ≤ 9223372036854775807) (h : ¬ (0 ≤ n ∧ n ≤ 64 ∧ 0 ≤ k ∧ k + n ≤ 8 * len)) :
    Calls Try.prog 13 #[.slice a len c, .int .i64 k, .int .i64 n, .int .u64 v] w fun e w' => e = .returned (.tuple #[.slice none 0 0, .bool false]) ∧ w = w' := by
  go_enter Try.func13, Try.ntmps13
  go_wp2_with fail
  refine (refWithin_no a len c k n w hl hk0 hk hn0 hn h).mono ?_
  rintro e w' ⟨rfl, rfl⟩
  go_wp2_with fail
  go_ret2
  exact ⟨rfl, rfl⟩
end Go.Proofs.Ytogkhhgcljeddaa
