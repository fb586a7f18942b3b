/-
  The small functions of package bits: bytesFor, lowest, limit, Extend, Reverse by their contracts. No condition but the ranges that each theorem names.
-/
import Derived.Test.YtkdgoopldaoihaaGb1
import Derived.Test.YtkdgoopldaoihaaGb3
import Derived.Deep.RegionHeld3
import Derived.Deep.AppendLies
import Derived.Deep.DrawnRows
namespace Go.Proofs.Ytkdgoopldaoihaa
set_option linter.unusedVariables false
set_option linter.unusedSimpArgs false
open Go.RowKit

set_option maxHeartbeats 400000 in
theorem bytesFor_any (n : Int) (w : World) (h0 : 0 ≤ n) (h1 : n ≤ 1000000) :
    Calls Try.prog 48 #[.int .i64 n] w fun e w' => e = .returned (.int .i64 ((n + 7) / 8)) ∧ w = w' := by
  go_enter Try.func48, Try.ntmps48
  go_wp2
  go_ret
  exact ⟨ret_int (by omega), rfl⟩

theorem lowest_eq (v : Int) (n : Nat) (hn : n ≤ 64) :
    bits BinOp.and IntKind.u64 v (IntKind.u64.wrap (IntKind.u64.wrap (2 ^ n) - 1)) = v % 2 ^ n := by
  have h2 : (2 : Nat) ^ n ≤ 2 ^ 64 := Nat.pow_le_pow_right (by omega) hn
  have h3 : 0 < 2 ^ n := Nat.pow_pos (by omega)
  have e2 : ((2 : Int) ^ n) = ((2 ^ n : Nat) : Int) := by simp
  have e : IntKind.u64.wrap (IntKind.u64.wrap (2 ^ n) - 1) = ((2 ^ n - 1 : Nat) : Int) := by
    rw [IntKind.wrap_u64, IntKind.wrap_u64, e2]
    omega
  have hx := and_wrap_left v ((2 ^ n - 1 : Nat) : Int)
  obtain ⟨x, hx0⟩ : ∃ x : Nat, v % 18446744073709551616 = (x : Int) := ⟨(v % 18446744073709551616).toNat, by omega⟩
  rw [e, ← hx, hx0, u64_and_nat x (2 ^ n - 1) (by omega) (by omega), Nat.and_two_pow_sub_one_eq_mod]
  have hd : ((2 : Int) ^ n) ∣ 18446744073709551616 := by
    rw [e2]
    exact Int.natCast_dvd_natCast.2 (Nat.pow_dvd_pow 2 hn : 2 ^ n ∣ 2 ^ 64)
  have h5 := Int.emod_emod_of_dvd v hd
  rw [← h5, hx0]; simp

set_option maxHeartbeats 400000 in
theorem lowest_any (v n : Int) (w : World) (h0 : 0 ≤ n) (hn : n ≤ 64) :
    Calls Try.prog 47 #[.int .u64 v, .int .i64 n] w fun e w' => e = .returned (.int .u64 (v % 2 ^ n.toNat)) ∧ w = w' := by
  obtain ⟨m, rfl⟩ := Int.eq_ofNat_of_zero_le h0
  go_enter Try.func47, Try.ntmps47
  go_wp2
  go_ret
  exact ⟨ret_int (lowest_eq v m (by omega)), rfl⟩

set_option maxHeartbeats 400000 in
theorem load_any (bs : List UInt8) (a : Option Addr) (c B k n : Nat) (w : World) (h : Ro w B a (u8s bs)) (hn : n ≤ 64) (hk : k + n ≤ 8 * bs.length) (hl : bs.length ≤ 1000000) :
    Calls Try.prog 94 #[.slice a bs.length c, .int .i64 k, .int .i64 n] w fun e w' => e = .returned (.int .u64 (num bs k n : Nat)) ∧ w = w' := by
  go_enter Try.func94, Try.ntmps94
  go_wp2
  go_loop [1, 2, 7] (fun x y v => ∃ j : Nat, j ≤ n ∧ x = .int .i64 ((k + j : Nat) : Int) ∧ y = .int .i64 ((n - j : Nat) : Int) ∧ v = .int .u64 (num bs k j : Nat)) (fun _ y _ => (intOf y).toNat)
  case atStart => exact ⟨0, by omega, by simp, by simp, by simp [num]⟩
  case round =>
    obtain ⟨j, hj, rfl, rfl, rfl⟩ := hrel
    by_cases hlt : j < n
    · obtain ⟨b, off, rfl, hb, hc⟩ := h.u8 (by omega)
      have hcell := hc ((k + j) / 8) (by omega)
      have hp : 0 < n - j := by omega
      have b1 : 0 ≤ 8 - ((k : Int) + (j : Int)) % 8 := by omega
      by_cases hm : 8 - (k + j) % 8 ≤ n - j
      · have hm' : 8 - ((k : Int) + (j : Int)) % 8 ≤ ((n - j : Nat) : Int) := by omega
        go_wp2_with (go_at_call 47; refine (lowest_any _ _ _ (by omega) (by omega)).mono ?_; rintro e w' ⟨rfl, rfl⟩)
        go_round
        case rel => exact ⟨j + (8 - (k + j) % 8), by omega, by go_num, by go_num, congrArg _ (load_end1 bs k j (by omega))⟩
        case measure => simp [intOf]; omega
      · have hm' : ¬ 8 - ((k : Int) + (j : Int)) % 8 ≤ ((n - j : Nat) : Int) := by omega
        go_wp2_with (go_at_call 47; refine (lowest_any _ _ _ (by omega) (by omega)).mono ?_; rintro e w' ⟨rfl, rfl⟩)
        go_round
        case rel => exact ⟨j + (n - j), by omega, by go_num, by go_num, congrArg _ (load_end bs k j (n - j) (by omega) (by omega))⟩
        case measure => simp [intOf]; omega
    · obtain rfl : j = n := by omega
      go_wp2
      go_ret
      exact ⟨rfl, rfl⟩

set_option maxHeartbeats 400000 in
theorem span_any (l : List Int) (a : Option Addr) (c B : Nat) (w : World) (h : Ro w B a (i64s l)) (hl : l.length ≤ 1000000) :
    Calls Try.prog 46 #[.slice a l.length c] w fun e w' => e = .returned (.tuple #[.int .i64 ((spanOf l).getD 0), .bool (spanOf l).isSome]) ∧ w = w' := by
  go_enter Try.func46, Try.ntmps46
  go_wp2
  go_loop [4, 9] (fun t i => ∃ k : Nat, k ≤ l.length ∧ i = .int .i64 (k : Int) ∧ t = .int .i64 (l.take k).sum ∧ 0 ≤ (l.take k).sum ∧ (l.take k).sum ≤ 64 * k ∧ ∀ i, i < k → 0 ≤ l.getD i 0 ∧ l.getD i 0 ≤ 64) (fun _ i => l.length - (intOf i).toNat)
  case atStart => exact ⟨0, by omega, by simp, by simp, by simp, by simp, by omega⟩
  case round =>
    obtain ⟨k, hk, rfl, rfl, hs0, hs1, hall⟩ := hrel
    by_cases hlt : k < l.length
    · obtain ⟨b, off, rfl, hb, hc⟩ := h.i64 (by omega)
      have hcell := hc k hlt
      have hsum := sum_take l k hlt
      have hbad := spanOf_bad l k hlt
      clear hc
      obtain ⟨x, hx⟩ : ∃ x, x = l.getD k 0 := ⟨_, rfl⟩
      rw [← hx] at hcell hsum hbad
      have HS := Lib.hid hsum; clear hsum
      have HX := Lib.hid hx; clear hx
      obtain ⟨t, ht⟩ : ∃ t, t = (l.take k).sum := ⟨_, rfl⟩
      rw [← ht] at hs0 hs1
      by_cases h0 : x < 0
      · have HB := Lib.hid (hbad (by omega)); clear hbad
        clear ht
        go_wp2
        go_ret2
        rw [HB.out]
        exact ⟨rfl, rfl⟩
      by_cases h64 : 64 < x
      · have HB := Lib.hid (hbad (by omega)); clear hbad
        clear ht
        go_wp2
        go_ret2
        rw [HB.out]
        exact ⟨rfl, rfl⟩
      clear hbad
      rw [← ht]
      have HT := Lib.hid ht; clear ht
      go_wp2
      go_round
      case rel =>
        have hT := HT.out
        have hS := HS.out
        refine ⟨k + 1, by omega, by go_num, by rw [hS, ← hT], by omega, by omega, fun i hi => ?_⟩
        by_cases e : i = k
        · subst e; rw [← HX.out]; omega
        · exact hall i (by omega)
      case measure => simp [intOf]; omega
    · obtain rfl : k = l.length := by omega
      have HB := Lib.hid (spanOf_ok l hall)
      go_wp2
      go_ret2
      rw [HB.out]
      exact ⟨rfl, rfl⟩

theorem span1 (n : Int) (b c : Nat) (w : World) (hc : w.cell? ⟨b, 0, none⟩ = some (.int .i64 n)) :
    Calls Try.prog 46 #[.slice (some ⟨b, 0, none⟩) 1 c] w fun e w' => e = .returned (.tuple #[.int .i64 ((spanOf [n]).getD 0), .bool (spanOf [n]).isSome]) ∧ w = w' :=
  span_any [n] (some ⟨b, 0, none⟩) c (b + 1) w (.inr ⟨b, 0, rfl, by omega, fun i hi => by
    obtain rfl : i = 0 := by simpa [i64s] using hi
    simpa [i64s] using hc⟩) (by simp)
theorem span1_ok (n : Int) (h0 : 0 ≤ n) (h1 : n ≤ 64) (b c : Nat) (w : World) (hc : w.cell? ⟨b, 0, none⟩ = some (.int .i64 n)) :
    Calls Try.prog 46 #[.slice (some ⟨b, 0, none⟩) 1 c] w fun e w' => e = .returned (.tuple #[.int .i64 n, .bool true]) ∧ w = w' := by
  have e : spanOf [n] = some n := by simp [spanOf, h0, h1]
  have := span1 n b c w hc
  rw [e] at this
  exact this
theorem span1_bad (n : Int) (h0 : n < 0 ∨ 64 < n) (b c : Nat) (w : World) (hc : w.cell? ⟨b, 0, none⟩ = some (.int .i64 n)) :
    Calls Try.prog 46 #[.slice (some ⟨b, 0, none⟩) 1 c] w fun e w' => e = .returned (.tuple #[.int .i64 0, .bool false]) ∧ w = w' := by
  have e : spanOf [n] = none := spanOf_bad [n] 0 (by simp) (by simp; omega)
  have := span1 n b c w hc
  rw [e] at this
  exact this

set_option maxHeartbeats 400000 in
theorem inside_any (a : Option Addr) (len c : Nat) (k n : Int) (w : World) (hl : len ≤ 1000000) (hk0 : -9223372036854775808 ≤ k) (hk : k ≤ 9223372036854775807) :
    Calls Try.prog 93 #[.slice a len c, .int .i64 k, .int .i64 n] w fun e w' => e = .returned (.bool (decide (0 ≤ n ∧ n ≤ 64 ∧ 0 ≤ k ∧ k + n ≤ 8 * len))) ∧ Below w.heap.size w w' := by
  by_cases hn : 0 ≤ n ∧ n ≤ 64
  · obtain ⟨h0, h1⟩ := hn
    by_cases hk1 : 0 ≤ k
    · go_enter Try.func93, Try.ntmps93
      go_wp2_with (go_at_call 46; refine (span1_ok n h0 h1 _ _ _ (cell_one_new _ _ _ 0 _ rfl)).mono ?_; rintro e w' ⟨rfl, rfl⟩)
      go_ret
      exact ⟨ret_bool (by rw [decide_eq_decide]; omega), (Below.refl _ _).alloc (Nat.le_refl _) _⟩
    · go_enter Try.func93, Try.ntmps93
      go_wp2_with (go_at_call 46; refine (span1_ok n h0 h1 _ _ _ (cell_one_new _ _ _ 0 _ rfl)).mono ?_; rintro e w' ⟨rfl, rfl⟩)
      go_ret
      exact ⟨ret_bool (by simp; omega), (Below.refl _ _).alloc (Nat.le_refl _) _⟩
  · go_enter Try.func93, Try.ntmps93
    go_wp2_with (go_at_call 46; refine (span1_bad n (by omega) _ _ _ (cell_one_new _ _ _ 0 _ rfl)).mono ?_; rintro e w' ⟨rfl, rfl⟩)
    go_ret
    exact ⟨ret_bool (by simp; omega), (Below.refl _ _).alloc (Nat.le_refl _) _⟩

theorem inside_yes (a : Option Addr) (len c : Nat) (k n : Int) (w : World) (hl : len ≤ 1000000) (hn0 : 0 ≤ n) (hn : n ≤ 64) (hk0 : 0 ≤ k) (hk : k + n ≤ 8 * len) :
    Calls Try.prog 93 #[.slice a len c, .int .i64 k, .int .i64 n] w fun e w' => e = .returned (.bool true) ∧ Below w.heap.size w w' := by
  have h := inside_any a len c k n w hl (by omega) (by omega)
  rw [decide_eq_true (by omega)] at h
  exact h
theorem inside_no (a : Option Addr) (len c : Nat) (k n : Int) (w : World) (hl : len ≤ 1000000) (hk0 : -9223372036854775808 ≤ k) (hk : k ≤ 9223372036854775807) (h : ¬ (0 ≤ n ∧ n ≤ 64 ∧ 0 ≤ k ∧ k + n ≤ 8 * len)) :
    Calls Try.prog 93 #[.slice a len c, .int .i64 k, .int .i64 n] w fun e w' => e = .returned (.bool false) ∧ Below w.heap.size w w' := by
  have h2 := inside_any a len c k n w hl (by omega) (by omega)
  rw [decide_eq_false h] at h2
  exact h2

/-- Get: the number, or nothing -/
theorem get_yes (bs : List UInt8) (a : Option Addr) (c B : Nat) (k n : Int) (w : World) (h : Ro w B a (u8s bs)) (hB : B ≤ w.heap.size) (hl : bs.length ≤ 1000000) (hn0 : 0 ≤ n) (hn : n ≤ 64) (hk0 : 0 ≤ k) (hk : k + n ≤ 8 * bs.length) :
    Calls Try.prog 66 #[.slice a bs.length c, .int .i64 k, .int .i64 n] w fun e w' => e = .returned (.tuple #[.int .u64 (num bs k.toNat n.toNat : Nat), .bool true]) ∧ Below w.heap.size w w' := by
  obtain ⟨k, rfl⟩ := Int.eq_ofNat_of_zero_le hk0
  obtain ⟨n, rfl⟩ := Int.eq_ofNat_of_zero_le hn0
  go_enter Try.func66, Try.ntmps66
  go_wp2_with fail
  refine (inside_yes _ _ _ _ _ _ hl hn0 hn hk0 hk).mono ?_
  rintro e w' ⟨rfl, hb⟩
  go_wp2_with fail
  refine (load_any bs a c B k n w' (h.below hb hB) (by omega) (by omega) hl).mono ?_
  rintro e w'' ⟨rfl, rfl⟩
  go_wp2_with fail
  go_ret2
  exact ⟨rfl, hb⟩
theorem get_no (a : Option Addr) (len c : Nat) (k n : Int) (w : World) (hl : len ≤ 1000000) (hk0 : -9223372036854775808 ≤ k) (hk : k ≤ 9223372036854775807) (h : ¬ (0 ≤ n ∧ n ≤ 64 ∧ 0 ≤ k ∧ k + n ≤ 8 * len)) :
    Calls Try.prog 66 #[.slice a len c, .int .i64 k, .int .i64 n] w fun e w' => e = .returned (.tuple #[.int .u64 0, .bool false]) ∧ Below w.heap.size w w' := by
  go_enter Try.func66, Try.ntmps66
  go_wp2_with fail
  refine (inside_no _ _ _ _ _ _ hl hk0 hk h).mono ?_
  rintro e w' ⟨rfl, hb⟩
  go_wp2_with fail
  go_ret2
  exact ⟨rfl, hb⟩
end Go.Proofs.Ytkdgoopldaoihaa
namespace Go.Proofs.Ytkdgoopldaoihaa
set_option linter.unusedVariables false
set_option linter.unusedSimpArgs false
open Go.RowKit Go.Deep

set_option maxHeartbeats 400000 in
theorem store_any (bs : List UInt8) (g c k n v : Nat) (w : World) (h : Own w g 5 (u8s bs)) (hn : n ≤ 64) (hk : k + n ≤ 8 * bs.length) (hl : bs.length ≤ 1000000) :
    Calls Try.prog 49 #[.slice (some ⟨g, 0, none⟩) bs.length c, .int .i64 k, .int .i64 n, .int .u64 v] w fun e w' => e = .returned (.tuple #[]) ∧ ∃ cs : List UInt8, IsPut bs cs k n v ∧ Own w' g 5 (u8s cs) ∧ w.grownBy w' (some g) ∧ w'.heap.size = w.heap.size := by
  go_enter Try.func49, Try.ntmps49
  go_wp2
  go_loopw [1, 2] (fun x y wr => ∃ (j : Nat) (cs : List UInt8), j ≤ n ∧ x = .int .i64 ((k + j : Nat) : Int) ∧ y = .int .i64 ((n - j : Nat) : Int) ∧ Own wr g 5 (u8s cs) ∧ IsPutTo bs cs k n v j ∧ w.grownBy wr (some g) ∧ wr.heap.size = w.heap.size) (fun _ y _ => (intOf y).toNat)
  case atStart => exact ⟨0, bs, by omega, by simp, by simp, h, IsPutTo.start _ _ _ _, only_refl _ _, rfl⟩
  case round =>
    obtain ⟨j, cs, hj, rfl, rfl, ho, hput, hg, hsz⟩ := hrel
    have hcs := hput.1
    by_cases hlt : j < n
    · have hc := ho.cell ((k + j) / 8)
      have hf := ho.frozen ((k + j) / 8)
      have hp : 0 < n - j := by omega
      have b1 : 0 ≤ 8 - ((k : Int) + (j : Int)) % 8 := by omega
      have hcell : wr.cell? ⟨g, (k + j) / 8, none⟩ = some (.int .u8 ((cs.getD ((k + j) / 8) 0).toNat : Nat)) := by
        rw [hc]; simp [u8s, List.getD, show (k + j) / 8 < cs.length from by omega]
      clear hc
      obtain ⟨x, hx⟩ : ∃ x, x = cs.getD ((k + j) / 8) 0 := ⟨_, rfl⟩
      rw [← hx] at hcell
      have HX := Lib.hid hx; clear hx
      have HZ := Lib.hid hsz; clear hsz
      have HC := Lib.hid hcs; clear hcs
      by_cases hm : 8 - (k + j) % 8 ≤ n - j
      · have hm' : 8 - ((k : Int) + (j : Int)) % 8 ≤ ((n - j : Nat) : Int) := by omega
        go_wp2
        go_roundw
        case measure => simp [intOf]; omega
        case rel =>
          have hN := nb_int0 x.toNat (v / 2 ^ (n - j - (8 - (k + j) % 8))) (8 - (k + j) % 8) x.toNat_lt (by omega)
          have hlt8 := nb_lt x.toNat (v / 2 ^ (n - j - (8 - (k + j) % 8))) 0 (8 - (k + j) % 8) x.toNat_lt (by omega)
          have hstep := hput.step (8 - (k + j) % 8) hk (by omega) (by omega) (by omega) _ rfl
          rw [← HX.out, Nat.sub_self] at hstep
          rw [Int.natCast_ediv, Int.natCast_pow] at hN
          refine ⟨j + (8 - (k + j) % 8), cs.set ((k + j) / 8) (UInt8.ofNat (nb x.toNat (v / 2 ^ (n - j - (8 - (k + j) % 8))) 0 (8 - (k + j) % 8))), by omega, by go_num, by go_num, ?_, hstep, only_set hg _ _, (set_size _ _ _).trans HZ.out⟩
          refine (congrArg (fun z => Own (wr.setCell ⟨g, (k + j) / 8, none⟩ (.int .u8 z)) g 5 _) hN).mpr ?_
          have := ho.set ((k + j) / 8) (.int .u8 (nb x.toNat (v / 2 ^ (n - j - (8 - (k + j) % 8))) 0 (8 - (k + j) % 8) : Nat))
          unfold u8s at this ⊢
          rw [List.map_set, u8_of _ hlt8]
          exact this
      · have hm' : ((n - j : Nat) : Int) < 8 - ((k : Int) + (j : Int)) % 8 := by omega
        go_wp2
        go_roundw
        case measure => simp [intOf]; omega
        case rel =>
          have hN := nb_int x.toNat v (8 - (k + j) % 8 - (n - j)) (n - j) x.toNat_lt (by omega)
          have hlt8 := nb_lt x.toNat v (8 - (k + j) % 8 - (n - j)) (n - j) x.toNat_lt (by omega)
          have hstep := hput.step (n - j) hk (by omega) (by omega) (by omega) _ rfl
          rw [← HX.out, Nat.sub_self, Nat.pow_zero, Nat.div_one] at hstep
          refine ⟨j + (n - j), cs.set ((k + j) / 8) (UInt8.ofNat (nb x.toNat v (8 - (k + j) % 8 - (n - j)) (n - j))), by omega, by go_num, by go_num, ?_, hstep, only_set hg _ _, (set_size _ _ _).trans HZ.out⟩
          refine (congrArg (fun z => Own (wr.setCell ⟨g, (k + j) / 8, none⟩ (.int .u8 z)) g 5 _) hN).mpr ?_
          have := ho.set ((k + j) / 8) (.int .u8 (nb x.toNat v (8 - (k + j) % 8 - (n - j)) (n - j) : Nat))
          unfold u8s at this ⊢
          rw [List.map_set, u8_of _ hlt8]
          exact this
    · obtain rfl : j = n := by omega
      go_wp2
      go_end0
      exact ⟨rfl, cs, hput.stop, ho, hg, hsz⟩

theorem store_len (bs : List UInt8) (len g c k n v : Nat) (w : World) (hlen : bs.length = len) (h : Own w g 5 (u8s bs)) (hn : n ≤ 64) (hk : k + n ≤ 8 * len) (hl : len ≤ 1000000) :
    Calls Try.prog 49 #[.slice (some ⟨g, 0, none⟩) len c, .int .i64 k, .int .i64 n, .int .u64 v] w fun e w' => e = .returned (.tuple #[]) ∧ ∃ cs : List UInt8, IsPut bs cs k n v ∧ Own w' g 5 (u8s cs) ∧ w.grownBy w' (some g) ∧ w'.heap.size = w.heap.size := by
  subst hlen
  exact store_any bs g c k n v w h hn hk hl
theorem made_u8s (n : Nat) : madeCells #[.int .u8 0] n = (u8s (List.replicate n 0)).toArray := by
  apply Array.ext
  · simp [size_madeCells, u8s]
  · intro i h1 h2
    simp [madeCells, u8s, Nat.mod_one]
theorem own_made (w : World) (n : Nat) : Own (w.alloc (.cells (madeCells #[.int .u8 0] n) 5)) w.heap.size 5 (u8s (List.replicate n 0)) := by
  rw [made_u8s]
  exact Own.new w 5 _
theorem Try.info_u8 : (Try.prog.info? 5).map (fun i => (i.zero, i.size, i.bytes)) = some (some (.int .u8 0), 1, 1) := by kernel_rfl
theorem Try.size_u8 : (Try.prog.info? 5).map (·.size) = some 1 := by kernel_rfl
theorem u8s_oneCell (bs : List UInt8) : ∀ v ∈ u8s bs, v.oneCell' = true := by
  intro v hv
  simp only [u8s, List.mem_map] at hv
  obtain ⟨x, _, rfl⟩ := hv
  rfl
theorem splice_all (cur cs : List Value) (h : cur.length = cs.length) : splice cur 0 cs = cs := by
  unfold splice
  simp [← h]
theorem Ro.src {w : World} {B : Nat} {a : Option Addr} {vs : List Value} (h : Ro w B a vs) (h0 : 0 < vs.length) : ∃ ad, a = some ad ∧ ∀ j v, vs[j]? = some v → w.cell? (ad.add j) = some v := by
  obtain ⟨b, off, rfl, hb, hc⟩ := h.at_ (by intro e; subst e; simp at h0)
  refine ⟨_, rfl, fun j v hv => ?_⟩
  have hj : j < vs.length := (List.getElem?_eq_some_iff.1 hv).1
  have := hc j hj
  have e : (⟨b, off, none⟩ : Addr).add j = ⟨b, off + j, none⟩ := by unfold Addr.add; split <;> simp_all
  rw [e, this]
  simp [List.getD, hv]

end Go.Proofs.Ytkdgoopldaoihaa
namespace Go.Proofs.Ytkdgoopldaoihaa
set_option linter.unusedVariables false
set_option linter.unusedSimpArgs false
open Go.RowKit Go.Deep

theorem lowest_fit (v n : Int) (w : World) (h0 : 0 ≤ n) (hn : n ≤ 64) (hv0 : 0 ≤ v) (hv : v < 2 ^ n.toNat) :
    Calls Try.prog 47 #[.int .u64 v, .int .i64 n] w fun e w' => e = .returned (.int .u64 v) ∧ w' = w := by
  refine (lowest_any v n w h0 hn).mono ?_
  rintro e w' ⟨rfl, rfl⟩
  exact ⟨ret_int (Int.emod_eq_of_lt hv0 hv), rfl⟩
theorem lowest_over (v n r : Int) (w : World) (h0 : 0 ≤ n) (hn : n ≤ 64) (hr : r = v % 2 ^ n.toNat) :
    Calls Try.prog 47 #[.int .u64 v, .int .i64 n] w fun e w' => e = .returned (.int .u64 r) ∧ w' = w := by
  refine (lowest_any v n w h0 hn).mono ?_
  rintro e w' ⟨rfl, rfl⟩
  exact ⟨ret_int hr.symm, rfl⟩

set_option maxHeartbeats 1000000 in
theorem pack_yes (l : List Int) (vs : List Nat) (a a2 : Option Addr) (c c2 B : Nat) (w : World) (h : Ro w B a (i64s l)) (h2 : Ro w B a2 (u64s vs)) (hB : B ≤ w.heap.size) (hl : l.length ≤ 1000) (hok : PackOk l vs) :
    Calls Try.prog 30 #[.slice a l.length c, .slice a2 vs.length c2] w fun e w' => ∃ (g : Nat) (cs : List UInt8), e = .returned (.tuple #[.slice (some ⟨g, 0, none⟩) cs.length cs.length, .bool true]) ∧ w.heap.size ≤ g ∧ IsPack l vs cs ∧ Own w' g 5 (u8s cs) ∧ Below w.heap.size w w' := by
  obtain ⟨hsome, hlen, hfit⟩ := hok
  obtain ⟨t, ht⟩ := Option.isSome_iff_exists.1 hsome
  obtain ⟨hw, rfl⟩ := spanOf_some ht
  have hspan := span_any l a c B w h (by omega)
  rw [ht] at hspan
  simp only [Option.getD_some, Option.isSome_some] at hspan
  have hsum := nat_sum_le l hw
  have HT := Lib.hid ht; clear ht hsome
  have HLEN := Lib.hid hlen
  obtain ⟨L, hL⟩ : ∃ L, L = ((nat l).sum + 7) / 8 := ⟨_, rfl⟩
  have hbf : ∀ W : World, Calls Try.prog 48 #[.int .i64 ((nat l).sum : Nat)] W fun e w' => e = .returned (.int .i64 (L : Nat)) ∧ W = w' := fun W => by
    refine (bytesFor_any ((nat l).sum : Nat) W (by omega) (by omega)).mono ?_
    rintro e w' ⟨rfl, rfl⟩
    exact ⟨ret_int (by omega), rfl⟩
  have hmk := fun W => run_make_row' (P := Try.prog) 26 5 (.int .u8 0) 1 Try.underlying26 Try.info_u8 rfl .i64 .i64 L (by omega) (by omega) W
  have hLle : L ≤ 100000 := by omega
  have HL := Lib.hid hL
  clear hL
  obtain ⟨S, hS⟩ : ∃ S, S = (nat l).sum := ⟨_, rfl⟩
  rw [← hS] at hspan hbf hsum
  have HS := Lib.hid hS
  clear hS
  rw [← hlen]
  clear hlen
  go_enter Try.func30, Try.ntmps30
  go_wp2_with fail
  refine hspan.mono ?_
  rintro e w' ⟨rfl, rfl⟩
  clear hspan
  go_wp2_with fail
  go_loopw [30] (fun i wr => ∃ k : Nat, k ≤ l.length ∧ i = .int .i64 (k : Int) ∧ Qt w wr) (fun i _ => l.length - (intOf i).toNat)
  case atStart => exact ⟨0, by omega, by simp, Qt.refl _⟩
  case round =>
    obtain ⟨k, hk, rfl, hq⟩ := hrel
    have h0 := h
    have h20 := h2
    replace h := h.qt hq
    replace h2 := h2.qt hq
    by_cases hlt : k < l.length
    · obtain ⟨b, off, rfl, hb, hc⟩ := h.i64 (by omega)
      obtain ⟨b2, off2, rfl, hb2, hc2⟩ := h2.u64 (by have := HLEN.out; omega)
      have hcell := hc k hlt
      have hcell2 := hc2 k (by have := HLEN.out; omega)
      have hv := hfit k hlt
      have hn := hw k hlt
      clear hc hc2
      generalize l.getD k 0 = n at *
      generalize vs.getD k 0 = v at *
      obtain ⟨hn0, hn1⟩ := hn
      have hvi : (v : Int) < 2 ^ n.toNat := by
        have : ((v : Nat) : Int) < ((2 ^ n.toNat : Nat) : Int) := by omega
        simpa using this
      go_wp2_with fail
      go_quiet ((go_at_call 47; exact Calls.quiet_of_same (lowest_fit _ _ _ hn0 hn1 (by omega) hvi)))
      go_wp2_with fail
      go_roundw
      case rel => exact ⟨k + 1, by omega, by go_num, hq.add _⟩
      case measure => simp [intOf]; omega
    · rename World => w1
      have hb1 : Below w.heap.size w w1 := hq.below (Below.refl _ _)
      have hz1 := hq.size
      have HZ1 := Lib.hid hz1; clear hz1
      go_wp2_with (go_at_call 48; refine (hbf _).mono ?_; rintro e w' ⟨rfl, rfl⟩)
      go_loopw [11, 52] (fun x y wz => ∃ (j : Nat) (cs : List UInt8), j ≤ l.length ∧ y = .int .i64 (j : Int) ∧ x = .int .i64 (((nat l).take j).sum : Nat) ∧ Own wz w1.heap.size 5 (u8s cs) ∧ IsPackTo l vs cs j ∧ Below w.heap.size w wz) (fun _ y _ => l.length - (intOf y).toNat)
      case atStart => exact ⟨0, List.replicate L 0, by omega, by simp, by simp, own_made _ _, by rw [HL.out]; exact IsPackTo.start l vs, hb1.alloc hb1.size _⟩
      case round =>
        obtain ⟨j, cs, hj, rfl, rfl, hown, hto, hbz⟩ := hrel
        by_cases hlt2 : j < l.length
        · obtain ⟨b, off, rfl, hb, hc⟩ := (h0.below hbz hB).i64 (by omega)
          obtain ⟨b2, off2, rfl, hb2, hc2⟩ := (h20.below hbz hB).u64 (by have := HLEN.out; omega)
          have hcell := hc j hlt2
          have hcell2 := hc2 j (by have := HLEN.out; omega)
          have hn := hw j hlt2
          have hst := sum_take_nat (nat l) j (by simpa using hlt2)
          have hle := sum_take_le (nat l) (j + 1)
          have hstep := fun ds => hto.step (ds := ds) HLEN.out hlt2
          rw [nat_getD] at hst
          rw [← HS.out] at hle
          have hcl : cs.length = L := by rw [HL.out]; exact hto.1
          have hL' := HL.out
          rw [← HS.out] at hL'
          clear hc hc2
          generalize l.getD j 0 = n at *
          generalize vs.getD j 0 = v at *
          obtain ⟨hn0, hn1⟩ := hn
          obtain ⟨m, rfl⟩ := Int.eq_ofNat_of_zero_le hn0
          rw [Int.toNat_natCast] at hst hstep
          generalize ((nat l).take j).sum = x at *
          have hkn : x + m ≤ 8 * L := by omega
          clear hL'
          have HSTEP := Lib.hid hstep
          clear hstep hfit hw
          have HST := Lib.hid hst
          have HCL := Lib.hid hcl
          clear hst hle hcl
          go_wp2_with fail
          refine (store_len cs L w1.heap.size L x m v _ HCL.out hown (by omega) hkn (by omega)).mono ?_
          rintro e w3 ⟨rfl, ds, hput, hown3, hgr, hsz3⟩
          have HSZ := Lib.hid hsz3
          clear hsz3
          go_wp2_with fail
          go_roundw
          case rel => exact ⟨j + 1, ds, by omega, by go_num, by rw [HST.out]; go_num, hown3, HSTEP.out ds hput, below_only hbz hgr (by have := HZ1.out; omega) hbz.size⟩
          case measure => simp [intOf]; omega
        · have hjl : j = l.length := by omega
          have HJ := Lib.hid hjl
          clear hjl
          go_wp2_with fail
          go_ret2
          have hto' := hto
          rw [HJ.out] at hto'
          have hcl : cs.length = L := by rw [HL.out]; exact hto.1
          exact ⟨w1.heap.size, cs, by rw [hcl]; rfl, by have := HZ1.out; omega, hto'.stop HLEN.out, hown, hbz⟩

set_option maxHeartbeats 1000000 in
theorem pack_no (l : List Int) (vs : List Nat) (a a2 : Option Addr) (c c2 B : Nat) (w : World) (h : Ro w B a (i64s l)) (h2 : Ro w B a2 (u64s vs)) (hl : l.length ≤ 1000) (hno : ¬ PackOk l vs) :
    Calls Try.prog 30 #[.slice a l.length c, .slice a2 vs.length c2] w fun e w' => e = .returned (.tuple #[.slice none 0 0, .bool false]) ∧ Below w.heap.size w w' := by
  have hspan := span_any l a c B w h (by omega)
  rcases ht : spanOf l with _ | t
  · rw [ht] at hspan
    simp only [Option.getD_none, Option.isSome_none] at hspan
    clear ht
    go_enter Try.func30, Try.ntmps30
    go_wp2_with fail
    refine hspan.mono ?_
    rintro e w' ⟨rfl, rfl⟩
    clear hspan
    go_wp2_with fail
    go_ret2
    exact ⟨rfl, Below.refl _ _⟩
  rw [ht] at hspan
  simp only [Option.getD_some, Option.isSome_some] at hspan
  obtain ⟨hw, _⟩ := spanOf_some ht
  by_cases hlen : l.length = vs.length
  · have hno2 : ¬ ∀ i, i < l.length → vs.getD i 0 < 2 ^ (l.getD i 0).toNat := fun hh => hno ⟨by rw [ht]; rfl, hlen, hh⟩
    clear ht
    have HLEN := Lib.hid hlen
    rw [← hlen]
    clear hlen
    go_enter Try.func30, Try.ntmps30
    go_wp2_with fail
    refine hspan.mono ?_
    rintro e w' ⟨rfl, rfl⟩
    clear hspan
    go_wp2_with fail
    go_loopw [30] (fun i wr => ∃ k : Nat, k ≤ l.length ∧ i = .int .i64 (k : Int) ∧ Qt w wr ∧ ∀ i, i < k → vs.getD i 0 < 2 ^ (l.getD i 0).toNat) (fun i _ => l.length - (intOf i).toNat)
    case atStart => exact ⟨0, by omega, by simp, Qt.refl _, by omega⟩
    case round =>
      obtain ⟨k, hk, rfl, hq, hfit⟩ := hrel
      by_cases hlt : k < l.length
      · obtain ⟨b, off, rfl, hb, hc⟩ := (h.qt hq).i64 (by omega)
        obtain ⟨b2, off2, rfl, hb2, hc2⟩ := (h2.qt hq).u64 (by have := HLEN.out; omega)
        have hcell := hc k hlt
        have hcell2 := hc2 k (by have := HLEN.out; omega)
        have hn := hw k hlt
        have hnext : vs.getD k 0 < 2 ^ (l.getD k 0).toNat → ∀ i, i < k + 1 → vs.getD i 0 < 2 ^ (l.getD i 0).toNat := fun hx i hi => by
          by_cases e : i = k
          · rw [e]; exact hx
          · exact hfit i (by omega)
        have HN := Lib.hid hnext
        clear hc hc2 hnext hfit
        generalize l.getD k 0 = n at *
        generalize vs.getD k 0 = v at *
        obtain ⟨hn0, hn1⟩ := hn
        by_cases hv : v < 2 ^ n.toNat
        · have hvi : (v : Int) < 2 ^ n.toNat := by
            have : ((v : Nat) : Int) < ((2 ^ n.toNat : Nat) : Int) := by omega
            simpa using this
          have HV := Lib.hid (HN.out hv)
          go_wp2_with fail
          go_quiet ((go_at_call 47; exact Calls.quiet_of_same (lowest_fit _ _ _ hn0 hn1 (by omega) hvi)))
          go_wp2_with fail
          go_roundw
          case rel => exact ⟨k + 1, by omega, by go_num, hq.add _, HV.out⟩
          case measure => simp [intOf]; omega
        · obtain ⟨r, hr⟩ : ∃ r, r = (v : Int) % 2 ^ n.toNat := ⟨_, rfl⟩
          have hne : ((v : Int) != r) = true := by
            have h0 : 0 < 2 ^ n.toNat := Nat.pow_pos (by omega)
            have h1 : v % 2 ^ n.toNat < 2 ^ n.toNat := Nat.mod_lt _ h0
            have h3 : r = ((v % 2 ^ n.toNat : Nat) : Int) := by rw [hr]; simp
            rw [bne_iff_ne, h3]
            omega
          have HR := Lib.hid hr
          clear hr
          go_wp2_with fail
          go_quiet ((go_at_call 47; exact Calls.quiet_of_same (lowest_over _ _ r _ hn0 hn1 HR.out)))
          go_wp2_with fail
          go_ret2
          exact ⟨rfl, (hq.add _).below (Below.refl _ _)⟩
      · exact absurd (fun i hi => hfit i (by omega)) hno2
  · have hne : ((l.length : Int) != (vs.length : Int)) = true := by rw [bne_iff_ne]; omega
    clear ht
    go_enter Try.func30, Try.ntmps30
    go_wp2_with fail
    refine hspan.mono ?_
    rintro e w' ⟨rfl, rfl⟩
    clear hspan
    go_wp2_with fail
    go_ret2
    exact ⟨rfl, Below.refl _ _⟩
end Go.Proofs.Ytkdgoopldaoihaa
namespace Go.Proofs.Ytkdgoopldaoihaa
set_option linter.unusedVariables false
set_option linter.unusedSimpArgs false

/-- what Unpack takes -/
def UnpOk (l : List Int) (bs : List UInt8) : Prop := (spanOf l).isSome ∧ bs.length = ((nat l).sum + 7) / 8 ∧ num bs (nat l).sum (8 * bs.length - (nat l).sum) = 0
/-- what it gives, the first i of them -/
def IsUnpTo (l : List Int) (bs : List UInt8) (vs : List Nat) (i : Nat) : Prop := vs.length = l.length ∧ ∀ j, j < i → vs.getD j 0 = num bs ((nat l).take j).sum (l.getD j 0).toNat
def IsUnp (l : List Int) (bs : List UInt8) (vs : List Nat) : Prop := IsUnpTo l bs vs l.length
theorem setN_getD (vs : List Nat) (i j x : Nat) (hi : i < vs.length) : (vs.set i x).getD j 0 = if i = j then x else vs.getD j 0 := by
  simp only [List.getD, List.getElem?_set]
  by_cases h : i = j
  · subst h; simp [hi]
  · simp [h]
theorem IsUnpTo.step {l : List Int} {bs : List UInt8} {vs : List Nat} {i : Nat} (h : IsUnpTo l bs vs i) (hi : i < l.length) : IsUnpTo l bs (vs.set i (num bs ((nat l).take i).sum (l.getD i 0).toNat)) (i + 1) := by
  refine ⟨by simpa using h.1, fun j hj => ?_⟩
  rw [setN_getD _ _ _ _ (by rw [h.1]; exact hi)]
  by_cases e : i = j
  · rw [if_pos e, e]
  · rw [if_neg e]; exact h.2 j (by omega)
theorem IsUnp.unique {l : List Int} {bs : List UInt8} {a b : List Nat} (ha : IsUnp l bs a) (hb : IsUnp l bs b) : a = b := by
  apply List.ext_getElem (ha.1.trans hb.1.symm)
  intro i h1 h2
  have e1 := ha.2 i (by rw [← ha.1]; exact h1)
  have e2 := hb.2 i (by rw [← ha.1]; exact h1)
  rw [← e2] at e1
  simpa [List.getD, h1, h2] using e1

/-- the first i of them, as a list of its own -/
def unpL (l : List Int) (bs : List UInt8) (i : Nat) : List Nat := (List.range i).map fun j => num bs ((nat l).take j).sum (l.getD j 0).toNat
@[simp] theorem unpL_length (l : List Int) (bs : List UInt8) (i : Nat) : (unpL l bs i).length = i := by simp [unpL]
theorem unpL_succ (l : List Int) (bs : List UInt8) (i : Nat) : unpL l bs (i + 1) = unpL l bs i ++ [num bs ((nat l).take i).sum (l.getD i 0).toNat] := by simp [unpL, List.range_succ]
theorem unpL_is (l : List Int) (bs : List UInt8) : IsUnp l bs (unpL l bs l.length) := by
  refine ⟨by simp, fun j hj => ?_⟩
  simp [unpL, List.getD, hj]
theorem unpL_lt (l : List Int) (bs : List UInt8) (n i : Nat) (h : ∀ i, i < n → 0 ≤ l.getD i 0 ∧ l.getD i 0 ≤ 64) : (unpL l bs n).getD i 0 < 18446744073709551616 := by
  by_cases hi : i < n
  · have e : (unpL l bs n).getD i 0 = num bs ((nat l).take i).sum (l.getD i 0).toNat := by simp [unpL, List.getD, hi]
    rw [e]
    have h1 := num_lt bs ((nat l).take i).sum (l.getD i 0).toNat
    have h2 := pow_le_64 (n := (l.getD i 0).toNat) (by have := h i hi; omega)
    omega
  · have e : (unpL l bs n).getD i 0 = 0 := by simp [List.getD]; rw [List.getElem?_eq_none (by simp; omega)]; rfl
    rw [e]; omega
theorem dig_nm (f : Nat → Bool) (n : Nat) : dig (nm f n) n = (List.range n).map f := by
  unfold dig
  apply List.map_congr_left
  intro i hi
  rw [List.mem_range] at hi
  rw [nm_bit, decide_eq_true (by omega), Bool.true_and]
  congr 1
  omega
theorem rowB_take_add (bs : List UInt8) (s n : Nat) (h : s + n ≤ 8 * bs.length) : (rowB bs).take (s + n) = (rowB bs).take s ++ (List.range n).map fun j => bitB bs (s + j) := by
  apply List.ext_getElem
  · simp; omega
  · intro i h1 h2
    rw [List.length_take, rowB_length] at h1
    by_cases c : i < s
    · rw [List.getElem_append_left (by rw [List.length_take, rowB_length]; omega)]
      simp
    · rw [List.getElem_append_right (by rw [List.length_take, rowB_length]; omega)]
      simp only [List.length_take, rowB_length, List.getElem_take, List.getElem_map, List.getElem_range]
      unfold rowB
      simp only [List.getElem_map, List.getElem_range]
      congr 1
      omega
theorem unp_row {l : List Int} {bs : List UInt8} {vs : List Nat} (h : IsUnp l bs vs) (hs : (nat l).sum ≤ 8 * bs.length) : ∀ i, i ≤ l.length → packB ((nat l).take i) (vs.take i) = (rowB bs).take ((nat l).take i).sum := by
  intro i
  induction i with
  | zero => intro _; simp [packB]
  | succ i ih =>
    intro hi
    have h1 := h.1
    have hst := sum_take_nat (nat l) i (by simp; omega)
    have hle := sum_take_le (nat l) (i + 1)
    rw [packB_take _ _ _ (by simp; omega) (by omega), ih (by omega), hst, nat_getD] at *
    rw [rowB_take_add _ _ _ (by omega), h.2 i (by omega), num_nm, dig_nm]
theorem num_zero (bs : List UInt8) (k n : Nat) : num bs k n = 0 ↔ ∀ j, j < n → bitB bs (k + j) = false := by
  rw [num_nm]
  constructor
  · intro h j hj
    have := nm_bit (fun j => bitB bs (k + j)) n (n - 1 - j)
    rw [h, decide_eq_true (by omega), show n - 1 - (n - 1 - j) = j from by omega] at this
    simpa using this.symm
  · intro h
    apply Nat.eq_of_testBit_eq
    intro i
    rw [nm_bit]
    by_cases hi : i < n
    · rw [h _ (by omega)]; simp
    · rw [decide_eq_false hi]; simp
theorem isPack_self {l : List Int} {bs : List UInt8} {vs : List Nat} (hok : UnpOk l bs) (h : IsUnp l bs vs) : IsPack l vs bs := by
  obtain ⟨_, hlen, hz⟩ := hok
  have hs : (nat l).sum ≤ 8 * bs.length := by omega
  refine ⟨hlen, fun m hm => ?_⟩
  have hr := unp_row h hs l.length (Nat.le_refl _)
  have h1 := h.1
  rw [List.take_of_length_le (by simp), List.take_of_length_le (by omega)] at hr
  rw [hr]
  by_cases c : m < (nat l).sum
  · have : ((rowB bs).take (nat l).sum).getD m false = (rowB bs).getD m false := by simp [List.getD, List.getElem?_take, c]
    rw [this, rowB_getD, if_pos hm]
  · have e : ((rowB bs).take (nat l).sum).getD m false = false := by simp only [List.getD]; rw [List.getElem?_eq_none (by rw [List.length_take, rowB_length]; omega)]; rfl
    rw [e]
    have := (num_zero _ _ _).1 hz (m - (nat l).sum) (by omega)
    rwa [show (nat l).sum + (m - (nat l).sum) = m from by omega] at this
theorem packOk_unp {l : List Int} {bs : List UInt8} {vs : List Nat} (hs : (spanOf l).isSome) (h : IsUnp l bs vs) : PackOk l vs :=
  ⟨hs, h.1.symm, fun i hi => by rw [h.2 i hi]; exact num_lt _ _ _⟩
theorem unpOk_of {l : List Int} {bs : List UInt8} {vs : List Nat} (hs : (spanOf l).isSome) (hlv : l.length = vs.length) (h : IsPack l vs bs) : UnpOk l bs := by
  refine ⟨hs, h.1, (num_zero _ _ _).2 fun j hj => ?_⟩
  have hpl := packB_length (nat l) vs (by simpa using hlv)
  have := h.2 ((nat l).sum + j) (by omega)
  rw [this]
  simp only [List.getD]
  rw [List.getElem?_eq_none (by omega)]
  rfl
theorem packB_split (ns vs : List Nat) (i : Nat) (h : ns.length = vs.length) : packB ns vs = packB (ns.take i) (vs.take i) ++ packB (ns.drop i) (vs.drop i) := by
  induction ns generalizing vs i with
  | nil => simp [packB]
  | cons n ns ih =>
    cases vs with
    | nil => simp at h
    | cons v vs =>
      cases i with
      | zero => simp [packB]
      | succ i =>
        simp only [List.take_succ_cons, List.drop_succ_cons, packB, List.append_assoc]
        rw [← ih vs i (by simpa using h)]
theorem packB_at (ns vs : List Nat) (i j : Nat) (h : ns.length = vs.length) (hi : i < ns.length) (hj : j < ns.getD i 0) : (packB ns vs).getD ((ns.take i).sum + j) false = (dig (vs.getD i 0) (ns.getD i 0)).getD j false := by
  rw [packB_split ns vs (i + 1) h, packB_take ns vs i hi (by omega)]
  have hl := packB_length (ns.take i) (vs.take i) (by simp; omega)
  rw [List.append_assoc, getD_right _ _ _ _ (by omega), hl, getD_left _ _ _ _ (by rw [dig_length]; omega)]
  congr 1
  omega
theorem isUnp_of_pack {l : List Int} {vs : List Nat} {cs : List UInt8} (hok : PackOk l vs) (h : IsPack l vs cs) : IsUnp l cs vs := by
  obtain ⟨hs, hlen, hfit⟩ := hok
  refine ⟨hlen.symm, fun i hi => ?_⟩
  have hsl := sum_take_nat (nat l) i (by simpa using hi)
  have hle := sum_take_le (nat l) (i + 1)
  rw [nat_getD] at hsl
  have e := nm_congr (fun j => bitB cs (((nat l).take i).sum + j)) (fun j => (dig (vs.getD i 0) (l.getD i 0).toNat).getD j false) (l.getD i 0).toNat (fun j hj => by
    have := packB_at (nat l) vs i j (by simpa using hlen) (by simpa using hi) (by rw [nat_getD]; exact hj)
    rw [nat_getD] at this
    have h2 := h.2 (((nat l).take i).sum + j) (by have := h.1; omega)
    exact h2.trans this)
  rw [num_nm, e, nm_dig, Nat.mod_eq_of_lt (hfit i hi)]
theorem not_unpOk_more {l : List Int} {vs : List Nat} {cs : List UInt8} (h : IsPack l vs cs) : ¬ UnpOk l (cs ++ [0]) := by
  intro hu
  have h1 := hu.2.1
  have h2 := h.1
  rw [List.length_append] at h1
  simp only [List.length_cons, List.length_nil] at h1
  omega
end Go.Proofs.Ytkdgoopldaoihaa
namespace Go.Proofs.Ytkdgoopldaoihaa
set_option linter.unusedVariables false
set_option linter.unusedSimpArgs false
open Go.RowKit Go.Deep

theorem Try.info_u64 : (Try.prog.info? 22).map (fun i => (i.zero, i.size, i.bytes)) = some (some (.int .u64 0), 1, 8) := by kernel_rfl
theorem made_u64s (n : Nat) : madeCells #[.int .u64 0] n = (u64s (List.replicate n 0)).toArray := by
  apply Array.ext
  · simp [size_madeCells, u64s]
  · intro i h1 h2
    simp [madeCells, u64s, Nat.mod_one]
theorem own_made64 (w : World) (n : Nat) : Own (w.alloc (.cells (madeCells #[.int .u64 0] n) 22)) w.heap.size 22 (u64s (List.replicate n 0)) := by
  rw [made_u64s]
  exact Own.new w 22 _

theorem load_len (bs : List UInt8) (len : Nat) (a : Option Addr) (c B : Nat) (k n : Int) (w : World) (hlen : bs.length = len) (h : Ro w B a (u8s bs)) (hk0 : 0 ≤ k) (hn0 : 0 ≤ n) (hn : n ≤ 64) (hk : k + n ≤ 8 * len) (hl : len ≤ 1000000) :
    Calls Try.prog 94 #[.slice a len c, .int .i64 k, .int .i64 n] w fun e w' => e = .returned (.int .u64 (num bs k.toNat n.toNat : Nat)) ∧ w = w' := by
  subst hlen
  obtain ⟨k, rfl⟩ := Int.eq_ofNat_of_zero_le hk0
  obtain ⟨n, rfl⟩ := Int.eq_ofNat_of_zero_le hn0
  exact load_any bs a c B k n w h (by omega) (by omega) hl

end Go.Proofs.Ytkdgoopldaoihaa
namespace Go.Proofs.Ytkdgoopldaoihaa
open Go.RowKit Go.Deep
attribute [local go_sem ↓] Go.wp_at_zero Go.wp_at_succ

theorem refDigits_int (v n : Int) (w : World) (hv0 : 0 ≤ v) (hv : v < 18446744073709551616) (hn0 : 0 ≤ n) (hn : n ≤ 64) :
    Calls Try.prog 51 #[.int .u64 v, .int .i64 n] w fun e w' => ∃ a c, e = .returned (.slice a n.toNat c) ∧ Ro w' w'.heap.size a (i64s (bn (dig v.toNat n.toNat))) ∧ Below w.heap.size w w' := by
  obtain ⟨v, rfl⟩ := Int.eq_ofNat_of_zero_le hv0
  obtain ⟨n, rfl⟩ := Int.eq_ofNat_of_zero_le hn0
  refine (refDigits_any v n w (by omega) (by omega)).mono ?_
  rintro e w' ⟨x, rfl, hown, hbel⟩
  obtain ⟨a, c, hxe, hro, _, _⟩ := hown.form
  rw [show (i64s (bn (dig v n))).length = n by simp] at hxe
  exact ⟨a, c, by rw [hxe]; rfl, hro, hbel⟩

theorem refFits_yes (v n : Int) (w : World) (hv0 : 0 ≤ v) (hv1 : v < 18446744073709551616) (h0 : 0 ≤ n) (hn : n ≤ 64) (hv : v.toNat < 2 ^ n.toNat) :
    Calls Try.prog 50 #[.int .u64 v, .int .i64 n] w fun e w' => e = .returned (.bool true) ∧ w' = w := by
  obtain ⟨v, rfl⟩ := Int.eq_ofNat_of_zero_le hv0
  obtain ⟨n, rfl⟩ := Int.eq_ofNat_of_zero_le h0
  refine (refFits_any v n w (by omega) (by omega)).mono ?_
  rintro e w' ⟨rfl, rfl⟩
  exact ⟨ret_bool (decide_eq_true (by simpa using hv)), rfl⟩
theorem refFits_no (v n : Int) (w : World) (hv0 : 0 ≤ v) (hv1 : v < 18446744073709551616) (h0 : 0 ≤ n) (hn : n ≤ 64) (hv : ¬ v.toNat < 2 ^ n.toNat) :
    Calls Try.prog 50 #[.int .u64 v, .int .i64 n] w fun e w' => e = .returned (.bool false) ∧ w' = w := by
  obtain ⟨v, rfl⟩ := Int.eq_ofNat_of_zero_le hv0
  obtain ⟨n, rfl⟩ := Int.eq_ofNat_of_zero_le h0
  refine (refFits_any v n w (by omega) (by omega)).mono ?_
  rintro e w' ⟨rfl, rfl⟩
  exact ⟨ret_bool (decide_eq_false (by simpa using hv)), rfl⟩

set_option maxHeartbeats 8000000 in
set_option maxRecDepth 100000 in
theorem refPack_yes (l : List Int) (vs : List Nat) (a a2 : Option Addr) (c c2 B : Nat) (w : World) (h : Ro w B a (i64s l)) (h2 : Ro w B a2 (u64s vs)) (hB : B ≤ w.heap.size) (hl : l.length ≤ 1000) (hok : PackOk l vs) (h64 : ∀ i, vs.getD i 0 < 18446744073709551616) :
    Calls Try.prog 31 #[.slice a l.length c, .slice a2 vs.length c2] w fun e w' => ∃ x cs, e = .returned (.tuple #[x, .bool true]) ∧ IsPack l vs cs ∧ Lst w' w.heap.size 5 x (u8s cs) ∧ Below w.heap.size w w' := by
  obtain ⟨hsome, hlen, hfit⟩ := hok
  obtain ⟨t, ht⟩ := Option.isSome_iff_exists.1 hsome
  obtain ⟨hw, rfl⟩ := spanOf_some ht
  have hsum := nat_sum_le l hw
  clear ht hsome
  have HLEN := Lib.hid hlen
  rw [← hlen]
  clear hlen
  go_enter Try.func31, Try.ntmps31
  go_wp2_with fail
  go_loopw [6, 7] (fun o i wr => ∃ k : Nat, k ≤ l.length ∧ i = .int .i64 (k : Int) ∧ Lst wr w.heap.size 3 o (i64s (bn (packB ((nat l).take k) (vs.take k)))) ∧ Below w.heap.size w wr) (fun _ i _ => l.length - (intOf i).toNat)
  case atStart => exact ⟨0, by omega, by simp, Lst.nil _ _ _, Below.refl _ _⟩
  case round =>
    obtain ⟨k, hk, rfl, hown, hbel⟩ := hrel
    by_cases hlt : k < l.length
    · obtain ⟨b, off, rfl, hb, hc⟩ := h.i64 (by omega)
      obtain ⟨b2, off2, rfl, hb2, hc2⟩ := h2.u64 (by have := HLEN.out; omega)
      have hbw : b < w.heap.size := by omega
      have hbw2 : b2 < w.heap.size := by omega
      have hw1 := hc k hlt
      have hw2 := hc2 k (by have := HLEN.out; omega)
      have hcell := cell_keep hbel hw1 hbw
      have hcell2 := cell_keep hbel hw2 hbw2
      have hv := hfit k hlt
      have hn := hw k hlt
      have hv64 := h64 k
      have hstep := packB_take (nat l) vs k (by simpa using hlt) (by have := HLEN.out; omega)
      have hplen := packB_length ((nat l).take k) (vs.take k) (by have := HLEN.out; simp; omega)
      have hsl := sum_take_le (nat l) k
      rw [nat_getD] at hstep
      clear hc hc2
      generalize l.getD k 0 = n at *
      generalize vs.getD k 0 = v at *
      obtain ⟨hn0, hn1⟩ := hn
      have HST := Lib.hid hstep
      have hpl : (packB ((nat l).take k) (vs.take k)).length ≤ 64000 := by omega
      clear hstep hplen hsl
      generalize packB ((nat l).take k) (vs.take k) = pk at *
      have hv' : ((v : Nat) : Int).toNat < 2 ^ n.toNat := by simpa using hv
      go_wp2_with fail
      go_quiet ((go_at_call 50; exact Calls.quiet_of_same (refFits_yes _ _ _ (by omega) (by omega) hn0 hn1 hv')))
      go_wp2_with fail
      have hnn : n.toNat ≤ 64 := by omega
      go_region_held3 (fun w' => w'.cell? ⟨b, off + k, none⟩ = some (.int .i64 n) ∧ w'.cell? ⟨b2, off2 + k, none⟩ = some (.int .u64 (v : Int))) (go_keep)
        (first
          | (go_at_call 51; refine (refDigits_int (v : Int) n _ (by omega) (by omega) hn0 hn1).mono ?_; rintro e w3 ⟨a3, c3, rfl, hro3, hbel3⟩; have ho3 := Lst.below (by exact hown) hbel3 (Nat.le_refl _); have hb3 : Below w.heap.size w w3 := Below.trans (by exact ⟨hbel.os, hbel.tape, hbel.output, hbel.size, hbel.block⟩) (hbel3.mono hbel.size); have hk1 := cell_keep hb3 hw1 hbw; have hk2 := cell_keep hb3 hw2 hbw2)
          | (refine step_appB (by rfl) (.tmp 43) (.tmp 52) 36 (by rfl) w.heap.size 3 (.int .i64 0) 8 Try.underlying36 Try.info_i64r rfl _ (i64s (bn pk)) (by rfl) ho3 a3 _ n.toNat c3 (i64s (bn (dig v n.toNat))) (by rfl) (by simp) hro3 (i64s_cell1 _) (by simp; omega) (by simp; omega) w.heap.size w hb3 (Nat.le_refl _) hb3.size ?_; intro v4 w4 hown4 hbel4 hsz4; have hk3 := cell_keep hbel4 hw1 hbw; have hk4 := cell_keep hbel4 hw2 hbw2))
      go_wp2_with fail
      go_roundw
      case rel =>
        refine ⟨k + 1, by omega, by go_num, ?_, hbel4⟩
        have e : i64s (bn (packB ((nat l).take (k + 1)) (vs.take (k + 1)))) = i64s (bn pk) ++ i64s (bn (dig v n.toNat)) := by rw [HST.out]; simp [i64s, bn]
        rw [e]
        simpa using hown4.out
      case measure => simp [intOf]; omega
    · have e1 : (nat l).take k = nat l := List.take_of_length_le (by simp; omega)
      have e2 : vs.take k = vs := List.take_of_length_le (by have := HLEN.out; omega)
      rw [e1, e2] at hown
      have hplen := packB_length (nat l) vs (by have := HLEN.out; simp; omega)
      obtain ⟨a1, c1, hoe, hro, _, _⟩ := hown.form
      rw [show (i64s (bn (packB (nat l) vs))).length = (nat l).sum by rw [i64s_length, bn_length, hplen]] at hoe
      subst hoe
      have HP := Lib.hid hplen
      clear hplen e1 e2
      have hby := refBytes_len (packB (nat l) vs) (nat l).sum a1 c1 wr.heap.size wr HP.out hro (Nat.le_refl _) (by omega)
      generalize (nat l).sum = S at *
      go_wp2_with fail
      refine hby.mono ?_
      rintro e w7 ⟨x, cs, rfl, hcs, hown7, hbel7⟩
      go_wp2_with fail
      go_ret2
      exact ⟨x, cs, rfl, isPack_of_bytes HLEN.out hcs, hown7.base hbel.size, hbel.trans (hbel7.mono hbel.size)⟩

set_option maxHeartbeats 8000000 in
set_option maxRecDepth 100000 in
theorem refPack_no (l : List Int) (vs : List Nat) (a a2 : Option Addr) (c c2 B : Nat) (w : World) (h : Ro w B a (i64s l)) (h2 : Ro w B a2 (u64s vs)) (hB : B ≤ w.heap.size) (hl : l.length ≤ 1000) (hno : ¬ PackOk l vs) (h64 : ∀ i, vs.getD i 0 < 18446744073709551616) :
    Calls Try.prog 31 #[.slice a l.length c, .slice a2 vs.length c2] w fun e w' => e = .returned (.tuple #[.slice none 0 0, .bool false]) ∧ Below w.heap.size w w' := by
  by_cases hlen : l.length = vs.length
  · have HLEN := Lib.hid hlen
    rw [← hlen]
    have hno2 : ¬ ∀ i, i < l.length → (0 ≤ l.getD i 0 ∧ l.getD i 0 ≤ 64) ∧ vs.getD i 0 < 2 ^ (l.getD i 0).toNat := fun hh =>
      hno ⟨by rw [spanOf_ok l fun i hi => (hh i hi).1]; rfl, hlen, fun i hi => (hh i hi).2⟩
    clear hlen hno
    go_enter Try.func31, Try.ntmps31
    go_wp2_with fail
    go_loopw [6, 7] (fun o i wr => ∃ k : Nat, k ≤ l.length ∧ i = .int .i64 (k : Int) ∧ Lst wr w.heap.size 3 o (i64s (bn (packB ((nat l).take k) (vs.take k)))) ∧ Below w.heap.size w wr ∧ ∀ i, i < k → (0 ≤ l.getD i 0 ∧ l.getD i 0 ≤ 64) ∧ vs.getD i 0 < 2 ^ (l.getD i 0).toNat) (fun _ i _ => l.length - (intOf i).toNat)
    case atStart => exact ⟨0, by omega, by simp, Lst.nil _ _ _, Below.refl _ _, by omega⟩
    case round =>
      obtain ⟨k, hk, rfl, hown, hbel, hall⟩ := hrel
      by_cases hlt : k < l.length
      · obtain ⟨b, off, rfl, hb, hc⟩ := h.i64 (by omega)
        obtain ⟨b2, off2, rfl, hb2, hc2⟩ := h2.u64 (by have := HLEN.out; omega)
        have hbw : b < w.heap.size := by omega
        have hbw2 : b2 < w.heap.size := by omega
        have hw1 := hc k hlt
        have hw2 := hc2 k (by have := HLEN.out; omega)
        have hcell := cell_keep hbel hw1 hbw
        have hcell2 := cell_keep hbel hw2 hbw2
        have hv64 := h64 k
        have hnext : (0 ≤ l.getD k 0 ∧ l.getD k 0 ≤ 64) ∧ vs.getD k 0 < 2 ^ (l.getD k 0).toNat → ∀ i, i < k + 1 → (0 ≤ l.getD i 0 ∧ l.getD i 0 ≤ 64) ∧ vs.getD i 0 < 2 ^ (l.getD i 0).toNat := fun hx i hi => by
          by_cases e : i = k
          · rw [e]; exact hx
          · exact hall i (by omega)
        have hstep := packB_take (nat l) vs k (by simpa using hlt) (by have := HLEN.out; omega)
        have hplen := packB_length ((nat l).take k) (vs.take k) (by have := HLEN.out; simp; omega)
        have hsl : ((nat l).take k).sum ≤ 64 * k := by
          have := nat_sum_le (l.take k) (fun i hi => by
            rw [List.length_take] at hi
            have e : (l.take k).getD i 0 = l.getD i 0 := by simp only [List.getD, List.getElem?_take]; rw [if_pos (by omega)]
            rw [e]; exact (hall i (by omega)).1)
          rw [List.length_take] at this
          have e : nat (l.take k) = (nat l).take k := by simp [nat]
          rw [e] at this
          omega
        rw [nat_getD] at hstep
        have HN := Lib.hid hnext
        have HNO := Lib.hid hno2
        clear hc hc2 hnext hall hno2 h64
        generalize l.getD k 0 = n at *
        generalize vs.getD k 0 = v at *
        have HST := Lib.hid hstep
        have hpl : (packB ((nat l).take k) (vs.take k)).length ≤ 64000 := by omega
        clear hstep hplen hsl
        generalize packB ((nat l).take k) (vs.take k) = pk at *
        by_cases hn0 : 0 ≤ n
        · by_cases hn1 : n ≤ 64
          · by_cases hv : v < 2 ^ n.toNat
            · have hv' : ((v : Nat) : Int).toNat < 2 ^ n.toNat := by simpa using hv
              have HV := Lib.hid (HN.out ⟨⟨hn0, hn1⟩, hv⟩)
              go_wp2_with fail
              go_quiet ((go_at_call 50; exact Calls.quiet_of_same (refFits_yes _ _ _ (by omega) (by omega) hn0 hn1 hv')))
              go_wp2_with fail
              have hnn : n.toNat ≤ 64 := by omega
              go_region_held3 (fun w' => w'.cell? ⟨b, off + k, none⟩ = some (.int .i64 n) ∧ w'.cell? ⟨b2, off2 + k, none⟩ = some (.int .u64 (v : Int))) (go_keep)
                (first
                  | (go_at_call 51; refine (refDigits_int (v : Int) n _ (by omega) (by omega) hn0 hn1).mono ?_; rintro e w3 ⟨a3, c3, rfl, hro3, hbel3⟩; have ho3 := Lst.below (by exact hown) hbel3 (Nat.le_refl _); have hb3 : Below w.heap.size w w3 := Below.trans (by exact ⟨hbel.os, hbel.tape, hbel.output, hbel.size, hbel.block⟩) (hbel3.mono hbel.size); have hk1 := cell_keep hb3 hw1 hbw; have hk2 := cell_keep hb3 hw2 hbw2)
                  | (refine step_appB (by rfl) (.tmp 43) (.tmp 52) 36 (by rfl) w.heap.size 3 (.int .i64 0) 8 Try.underlying36 Try.info_i64r rfl _ (i64s (bn pk)) (by rfl) ho3 a3 _ n.toNat c3 (i64s (bn (dig v n.toNat))) (by rfl) (by simp) hro3 (i64s_cell1 _) (by simp; omega) (by simp; omega) w.heap.size w hb3 (Nat.le_refl _) hb3.size ?_; intro v4 w4 hown4 hbel4 hsz4; have hk3 := cell_keep hbel4 hw1 hbw; have hk4 := cell_keep hbel4 hw2 hbw2))
              go_wp2_with fail
              go_roundw
              case rel =>
                refine ⟨k + 1, by omega, by go_num, ?_, hbel4, HV.out⟩
                have e : i64s (bn (packB ((nat l).take (k + 1)) (vs.take (k + 1)))) = i64s (bn pk) ++ i64s (bn (dig v n.toNat)) := by rw [HST.out]; simp [i64s, bn]
                rw [e]
                simpa using hown4.out
              case measure => simp [intOf]; omega
            · have hv' : ¬ ((v : Nat) : Int).toNat < 2 ^ n.toNat := by simpa using hv
              go_wp2_with fail
              go_quiet ((go_at_call 50; exact Calls.quiet_of_same (refFits_no _ _ _ (by omega) (by omega) hn0 hn1 hv')))
              go_wp2_with fail
              go_ret2
              exact ⟨rfl, (Qt.drewN wr _).below hbel⟩
          · go_wp2_with fail
            go_ret2
            exact ⟨rfl, hbel⟩
        · go_wp2_with fail
          go_ret2
          exact ⟨rfl, hbel⟩
      · exact absurd (fun i hi => hall i (by omega)) hno2
  · have hne : ((l.length : Int) != (vs.length : Int)) = true := by rw [bne_iff_ne]; omega
    go_enter Try.func31, Try.ntmps31
    go_wp2_with fail
    go_ret2
    exact ⟨rfl, Below.refl _ _⟩
end Go.Proofs.Ytkdgoopldaoihaa
