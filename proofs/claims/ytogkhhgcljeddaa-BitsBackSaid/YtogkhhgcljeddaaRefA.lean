/-
  The document's answers on bits, by their contracts: Bit, Row, Bytes, Number, Digits, within, fits, Width.
-/
import Derived.Test.YtogkhhgcljeddaaList
import Derived.Test.YtogkhhgcljeddaaRefMath
namespace Go.Proofs.Ytogkhhgcljeddaa
open Go.RowKit Go.Deep

theorem Try.info_i64 : (Try.prog.info? 3).map (fun i => (i.zero, i.size, i.bytes)) = some (some (.int .i64 0), 1, 8) := by kernel_rfl
theorem i64s_oneCell (l : List Int) : ∀ v ∈ i64s l, v.oneCell' = true := by
  intro v hv
  simp only [i64s, List.mem_map] at hv
  obtain ⟨x, _, rfl⟩ := hv
  rfl

set_option maxHeartbeats 400000 in
theorem refBit_any (bs : List UInt8) (a : Option Addr) (c B k : Nat) (w : World) (h : Ro w B a (u8s bs)) (hk : k < 8 * bs.length) (hl : bs.length ≤ 1000000) :
    Calls Try.prog 28 #[.slice a bs.length c, .int .i64 (k : Nat)] w fun e w' => e = .returned (.int .i64 (bi (bitB bs k))) ∧ w = w' := by
  obtain ⟨b, off, rfl, hb, hc⟩ := h.u8 (by omega)
  have hcell := hc (k / 8) (by omega)
  have hfin : bitB bs k = (bs.getD (k / 8) 0).toNat.testBit (7 - k % 8) := rfl
  clear hc h
  generalize bs.getD (k / 8) 0 = x at *
  have hx := x.toNat_lt
  have HF := Lib.hid hfin
  clear hfin
  go_enter Try.func28, Try.ntmps28
  go_wp2
  go_loop [5, 6] (fun v i => ∃ j : Nat, j ≤ 7 ∧ k % 8 ≤ j ∧ i = .int .i64 (j : Int) ∧ v = .int .i64 ((x.toNat / 2 ^ (7 - j) : Nat) : Int)) (fun _ i => (intOf i).toNat)
  case atStart => exact ⟨7, by omega, by omega, by simp, by simp⟩
  case round =>
    obtain ⟨j, hj, hj2, rfl, rfl⟩ := hrel
    have hd := Nat.div_le_self x.toNat (2 ^ (7 - j))
    have hstep : x.toNat / 2 ^ (7 - j) / 2 = x.toNat / 2 ^ (7 - j + 1) := by rw [Nat.div_div_eq_div_mul, Nat.pow_succ]
    have hfin : x.toNat.testBit (7 - j) = decide (x.toNat / 2 ^ (7 - j) % 2 = 1) := Nat.testBit_eq_decide_div_mod_eq
    generalize x.toNat / 2 ^ (7 - j) = y at *
    have HS := Lib.hid hstep
    have HF2 := Lib.hid hfin
    clear hstep hfin
    by_cases hlt : k % 8 < j
    · go_wp2
      go_round
      case rel => exact ⟨j - 1, by omega, by omega, by go_num, by rw [show 7 - (j - 1) = 7 - j + 1 from by omega, ← HS.out]; go_num⟩
      case measure => simp [intOf]; omega
    · go_wp2
      go_ret
      refine ⟨ret_int ?_, rfl⟩
      rw [HF.out, show 7 - k % 8 = 7 - j from by omega, HF2.out]
      unfold bi
      by_cases e : y % 2 = 1 <;> simp [e] <;> omega

set_option maxHeartbeats 400000 in
theorem refRow_any (bs : List UInt8) (a : Option Addr) (c B : Nat) (w : World) (h : Ro w B a (u8s bs)) (hB : B ≤ w.heap.size) (hl : bs.length ≤ 1000000) :
    Calls Try.prog 30 #[.slice a bs.length c] w fun e w' => ∃ v, e = .returned v ∧ Lst w' w.heap.size 3 v (i64s (bn (rowB bs))) ∧ Below w.heap.size w w' := by
  go_enter Try.func30, Try.ntmps30
  go_wp2
  go_loopw [3, 4] (fun v i wr => ∃ k : Nat, k ≤ 8 * bs.length ∧ i = .int .i64 (k : Int) ∧ Lst wr w.heap.size 3 v (i64s (bn ((rowB bs).take k))) ∧ Below w.heap.size w wr) (fun _ i _ => 8 * bs.length - (intOf i).toNat)
  case atStart => exact ⟨0, by omega, by simp, Lst.nil _ _ _, Below.refl _ _⟩
  case round =>
    obtain ⟨k, hk, rfl, hown, hbel⟩ := hrel
    by_cases hlt : k < 8 * bs.length
    · have hbit := refBit_any bs a c B k wr (h.below hbel hB) hlt hl
      go_wp2_with fail
      refine hbit.mono ?_
      rintro e w' ⟨rfl, rfl⟩
      clear hbit
      go_wp2_with (at_builtin; refine wpList_app1 rfl (.tmp 12) (.tmp 16) 34 rfl w.heap.size 3 (.int .i64 0) 8 Try.underlying34 Try.info_i64 rfl (.int .i64 (bi (bitB bs k))) rfl _ (i64s (bn ((rowB bs).take k))) rfl hown rfl ?c1 ?c2 w.heap.size w hbel (Nat.le_refl _) hbel.size ?_)
      case c1 => simp; omega
      case c2 => simp; omega
      intro v' w1 hown1 hbel1 _
      go_wp2_with fail
      go_roundw
      case rel => exact ⟨k + 1, by omega, by go_num, by rw [take_rowB bs k hlt, bn_append, i64s, List.map_append]; exact hown1.out, hbel1⟩
      case measure => simp [intOf]; omega
    · go_wp2
      go_ret
      have e : (rowB bs).take k = rowB bs := List.take_of_length_le (by simp; omega)
      rw [e] at hown
      exact ⟨_, rfl, hown, hbel⟩

set_option maxHeartbeats 400000 in
theorem refDigits_any (v n : Nat) (w : World) (hv : v < 18446744073709551616) (hn : n ≤ 64) :
    Calls Try.prog 31 #[.int .u64 v, .int .i64 (n : Nat)] w fun e w' => ∃ x, e = .returned x ∧ Lst w' w.heap.size 3 x (i64s (bn (dig v n))) ∧ Below w.heap.size w w' := by
  go_enter Try.func31, Try.ntmps31
  go_wp2
  go_loopw [0, 5, 6] (fun x o i wr => ∃ j : Nat, j ≤ n ∧ i = .int .i64 (j : Int) ∧ x = .int .u64 ((v / 2 ^ j : Nat) : Int) ∧ Lst wr w.heap.size 3 o (i64s (bn (dig v j))) ∧ Below w.heap.size w wr) (fun _ _ i _ => n - (intOf i).toNat)
  case atStart => exact ⟨0, by omega, by simp, by simp, Lst.nil _ _ _, Below.refl _ _⟩
  case round =>
    obtain ⟨j, hj, rfl, rfl, hown, hbel⟩ := hrel
    by_cases hlt : j < n
    · obtain ⟨a, c, hoe, hro, hlc, _⟩ := hown.form
      rw [show (i64s (bn (dig v j))).length = j by simp] at hoe
      subst hoe
      have hd := Nat.div_le_self v (2 ^ j)
      have hstep : v / 2 ^ j / 2 = v / 2 ^ (j + 1) := by rw [Nat.div_div_eq_div_mul, Nat.pow_succ]
      have hbit : v.testBit j = decide (v / 2 ^ j % 2 = 1) := Nat.testBit_eq_decide_div_mod_eq
      generalize v / 2 ^ j = y at *
      have hbit2 : ((y : Int) % 2) = bi (v.testBit j) := by
        rw [hbit]
        unfold bi
        by_cases e : y % 2 = 1 <;> simp [e] <;> omega
      have HS := Lib.hid hstep
      have HBT := Lib.hid hbit2
      clear hstep hbit hbit2 hlc
      have hlit := Lst.lit wr w.heap.size 3 #[.int .i64 ((y : Int) % 2)] hbel.size (by simp [maxLen])
      go_wp2_with (at_builtin; refine wpList_appB rfl (.tmp 15) (.tmp 16) 34 rfl w.heap.size 3 (.int .i64 0) 8 Try.underlying34 Try.info_i64 rfl _ [.int .i64 ((y : Int) % 2)] rfl hlit a wr.heap.size j c (i64s (bn (dig v j))) rfl (by simp) ?c0 (i64s_oneCell _) ?c1 ?c2 w.heap.size w ?c3 (Nat.le_refl _) ?c4 ?_)
      case c0 => exact hro.keep fun p hp => World.cell?_alloc_lt wr _ p hp
      case c1 => first | omega | (simp; omega)
      case c2 => first | omega | (simp; omega)
      case c3 => exact hbel.alloc hbel.size _
      case c4 => have := hbel.size; simp; omega
      intro v' w1 hown1 hbel1 _
      go_wp2_with fail
      go_roundw
      case rel => exact ⟨j + 1, by omega, by go_num, by rw [← HS.out]; go_num, by rw [dig_succ, bn, List.map_cons, i64s, List.map_cons, ← HBT.out]; exact hown1.out, hbel1⟩
      case measure => simp [intOf]; omega
    · obtain rfl : j = n := by omega
      go_wp2
      go_ret
      exact ⟨_, rfl, hown, hbel⟩

set_option maxHeartbeats 400000 in
theorem refNumber_any (l : List Bool) (a : Option Addr) (c B : Nat) (w : World) (h : Ro w B a (i64s (bn l))) (hl : l.length ≤ 64) :
    Calls Try.prog 41 #[.slice a l.length c] w fun e w' => e = .returned (.int .u64 (nm (fun j => l.getD j false) l.length : Nat)) ∧ w = w' := by
  go_enter Try.func41, Try.ntmps41
  go_wp2
  go_loop [3, 4] (fun v i => ∃ j : Nat, j ≤ l.length ∧ i = .int .i64 (j : Int) ∧ v = .int .u64 (nm (fun j => l.getD j false) j : Nat)) (fun _ i => l.length - (intOf i).toNat)
  case atStart => exact ⟨0, by omega, by simp, by simp [nm]⟩
  case round =>
    obtain ⟨j, hj, rfl, rfl⟩ := hrel
    by_cases hlt : j < l.length
    · obtain ⟨b, off, rfl, hb, hc⟩ := h.i64 (by simp; omega)
      have hcell := hc j (by simpa using hlt)
      rw [bn_getD] at hcell
      have hnext : nm (fun j => l.getD j false) (j + 1) = 2 * nm (fun j => l.getD j false) j + (l.getD j false).toNat := rfl
      have hlt1 := nm_lt (fun j => l.getD j false) j
      have hp := Nat.pow_le_pow_right (n := 2) (by omega) (show j ≤ 63 by omega)
      have hbr := bi_range (l.getD j false)
      rw [bi_toNat] at hcell hbr
      clear hc
      generalize (l.getD j false).toNat = y at *
      generalize nm (fun j => l.getD j false) j = z at *
      have hz : z < 9223372036854775808 := by omega
      have HN := Lib.hid hnext
      clear hnext hp hlt1
      go_wp2
      go_round
      case rel => exact ⟨j + 1, by omega, by go_num, by rw [HN.out]; go_num⟩
      case measure => simp [intOf]; omega
    · obtain rfl : j = l.length := by omega
      go_wp2
      go_ret
      exact ⟨rfl, rfl⟩

theorem refNumber_len (l : List Bool) (len : Nat) (a : Option Addr) (c B : Nat) (w : World) (hlen : l.length = len) (h : Ro w B a (i64s (bn l))) (hl : len ≤ 64) :
    Calls Try.prog 41 #[.slice a len c] w fun e w' => e = .returned (.int .u64 (nm (fun j => l.getD j false) len : Nat)) ∧ w = w' := by
  subst hlen
  exact refNumber_any l a c B w h hl

set_option maxHeartbeats 400000 in
theorem refFits_any (v n : Nat) (w : World) (hv : v < 18446744073709551616) (hn : n ≤ 64) :
    Calls Try.prog 40 #[.int .u64 v, .int .i64 (n : Nat)] w fun e w' => e = .returned (.bool (decide (v < 2 ^ n))) ∧ w = w' := by
  go_enter Try.func40, Try.ntmps40
  go_wp2
  go_loop [0, 5] (fun x i => ∃ j : Nat, j ≤ n ∧ i = .int .i64 (j : Int) ∧ x = .int .u64 ((v / 2 ^ j : Nat) : Int)) (fun _ i => n - (intOf i).toNat)
  case atStart => exact ⟨0, by omega, by simp, by simp⟩
  case round =>
    obtain ⟨j, hj, rfl, rfl⟩ := hrel
    have hd := Nat.div_le_self v (2 ^ j)
    have hstep : v / 2 ^ j / 2 = v / 2 ^ (j + 1) := by rw [Nat.div_div_eq_div_mul, Nat.pow_succ]
    have hfin : (v / 2 ^ j = 0) ↔ v < 2 ^ j := Nat.div_eq_zero_iff_lt (Nat.pow_pos (by omega))
    by_cases hlt : j < n
    · generalize v / 2 ^ j = y at *
      have HS := Lib.hid hstep
      clear hstep hfin
      go_wp2
      go_round
      case rel => exact ⟨j + 1, by omega, by go_num, by rw [← HS.out]; go_num⟩
      case measure => simp [intOf]; omega
    · obtain rfl : j = n := by omega
      generalize v / 2 ^ j = y at *
      have HF := Lib.hid hfin
      clear hstep hfin
      go_wp2
      go_ret
      refine ⟨ret_bool ?_, rfl⟩
      have hd2 : decide (v < 2 ^ j) = decide (y = 0) := decide_eq_decide.2 HF.out.symm
      rw [hd2]
      by_cases e : y = 0 <;> simp [e]

set_option maxHeartbeats 1000000 in
theorem refWithin_any (a : Option Addr) (len c : Nat) (k n : Int) (w : World) (hl : len ≤ 1000000) (hk0 : -9223372036854775808 ≤ k) (hk : k ≤ 9223372036854775807) (hn0 : -9223372036854775808 ≤ n) (hn : n ≤ 9223372036854775807) :
    Calls Try.prog 27 #[.slice a len c, .int .i64 k, .int .i64 n] w fun e w' => e = .returned (.bool (decide (0 ≤ n ∧ n ≤ 64 ∧ 0 ≤ k ∧ k + n ≤ 8 * len))) ∧ w = w' := by
  by_cases h1 : 0 ≤ n
  · by_cases h2 : n ≤ 64
    · by_cases h3 : 0 ≤ k
      · by_cases h4 : k ≤ 8 * (len : Int)
        · go_enter Try.func27, Try.ntmps27
          go_wp2
          go_ret
          exact ⟨ret_bool (by rw [decide_eq_decide]; omega), rfl⟩
        · go_enter Try.func27, Try.ntmps27
          go_wp2
          go_ret
          exact ⟨ret_bool (by simp; omega), rfl⟩
      · go_enter Try.func27, Try.ntmps27
        go_wp2
        go_ret
        exact ⟨ret_bool (by simp; omega), rfl⟩
    · go_enter Try.func27, Try.ntmps27
      go_wp2
      go_ret
      exact ⟨ret_bool (by simp; omega), rfl⟩
  · go_enter Try.func27, Try.ntmps27
    go_wp2
    go_ret
    exact ⟨ret_bool (by simp; omega), rfl⟩

set_option maxHeartbeats 400000 in
theorem refWidth_any (n : Int) (w : World) :
    Calls Try.prog 34 #[.int .i64 n] w fun e w' => e = .returned (.int .i64 (min (max n 0) 64)) ∧ w = w' := by
  go_enter Try.func34, Try.ntmps34
  go_wp2
  all_goals go_ret
  all_goals exact ⟨ret_int (by omega), rfl⟩

theorem Try.info_u8' : (Try.prog.info? 5).map (fun i => (i.zero, i.size, i.bytes)) = some (some (.int .u8 0), 1, 1) := by kernel_rfl

set_option maxHeartbeats 1000000 in
theorem refBytes_any (l : List Bool) (a : Option Addr) (c B : Nat) (w : World) (h : Ro w B a (i64s (bn l))) (hB : B ≤ w.heap.size) (hl : l.length ≤ 1000000) :
    Calls Try.prog 32 #[.slice a l.length c] w fun e w' => ∃ x cs, e = .returned x ∧ IsBytes l cs ∧ Lst w' w.heap.size 5 x (u8s cs) ∧ Below w.heap.size w w' := by
  go_enter Try.func32, Try.ntmps32
  go_wp2
  go_loopw [3, 4] (fun o i wr => ∃ (k : Nat) (cs : List UInt8), k ≤ (l.length + 7) / 8 ∧ i = .int .i64 ((8 * k : Nat) : Int) ∧ IsBytesTo l cs k ∧ Lst wr w.heap.size 5 o (u8s cs) ∧ Below w.heap.size w wr) (fun _ i _ => l.length + 8 - (intOf i).toNat)
  case atStart => exact ⟨0, [], by omega, by simp, IsBytesTo.start l, Lst.nil _ _ _, Below.refl _ _⟩
  case round =>
    obtain ⟨k, cs, hk, rfl, hto, hown, hbel⟩ := hrel
    have hcl := hto.1
    by_cases hlt : 8 * k < l.length
    · go_wp2
      go_loop [5, 6] (fun x i => ∃ j : Nat, j ≤ 8 ∧ i = .int .i64 (j : Int) ∧ x = .int .i64 (nm (fun j => l.getD (8 * k + j) false) j : Nat)) (fun _ i => 8 - (intOf i).toNat)
      case atStart => exact ⟨0, by omega, by simp, by simp [nm]⟩
      case round =>
        obtain ⟨j, hj, rfl, rfl⟩ := hrel
        have hlt1 := nm_lt (fun j => l.getD (8 * k + j) false) j
        have hp := Nat.pow_le_pow_right (n := 2) (by omega) (show j ≤ 8 by omega)
        by_cases hlt2 : j < 8
        · have hnext : nm (fun j => l.getD (8 * k + j) false) (j + 1) = 2 * nm (fun j => l.getD (8 * k + j) false) j + (l.getD (8 * k + j) false).toNat := rfl
          have hout : ¬ 8 * k + j < l.length → l.getD (8 * k + j) false = false := fun hh => by simp [List.getD]; rw [List.getElem?_eq_none (by omega)]; rfl
          obtain ⟨b, off, rfl, hb, hc⟩ := (h.below hbel hB).i64 (by simp; omega)
          have hbr := bi_range (l.getD (8 * k + j) false)
          by_cases hin : 8 * k + j < l.length
          · have hcell := hc (8 * k + j) (by simpa using hin)
            rw [bn_getD] at hcell
            rw [bi_toNat] at hcell hbr
            clear hc hout
            generalize (l.getD (8 * k + j) false).toNat = y at *
            generalize nm (fun j => l.getD (8 * k + j) false) j = z at *
            have hz : z ≤ 256 := by omega
            have HN := Lib.hid hnext
            clear hnext hp hlt1 hcl
            go_wp2
            go_round
            case rel => exact ⟨j + 1, by omega, by go_num, by rw [HN.out]; go_num⟩
            case measure => simp [intOf]; omega
          · have ho := hout hin
            rw [ho] at hnext
            clear hc hout hbr ho
            generalize nm (fun j => l.getD (8 * k + j) false) j = z at *
            have hz : z ≤ 256 := by omega
            have HN := Lib.hid hnext
            clear hnext hp hlt1 hcl
            go_wp2
            go_round
            case rel => exact ⟨j + 1, by omega, by go_num, by rw [HN.out]; go_num⟩
            case measure => simp [intOf]; omega
        · obtain rfl : j = 8 := by omega
          have hstep := hto.step
          generalize nm (fun j => l.getD (8 * k + j) false) 8 = z at *
          have hz : z < 256 := by omega
          have HSTEP := Lib.hid hstep
          have HCL := Lib.hid hcl
          clear hstep hcl hp hlt1
          go_wp2_with (at_builtin; refine wpList_app1 rfl (.tmp 33) (.tmp 36) 22 rfl w.heap.size 5 (.int .u8 0) 1 Try.underlying22 Try.info_u8' rfl (.int .u8 (z : Nat)) rfl _ (u8s cs) rfl hown rfl ?c1 ?c2 w.heap.size w hbel (Nat.le_refl _) hbel.size ?_)
          case c1 => have := HCL.out; omega
          case c2 => have := HCL.out; omega
          intro v' w1 hown1 hbel1 _
          go_wp2_with fail
          go_roundw
          case rel =>
            refine ⟨k + 1, cs ++ [UInt8.ofNat z], by omega, by go_num, HSTEP.out, ?_, hbel1⟩
            have e : u8s (cs ++ [UInt8.ofNat z]) = u8s cs ++ [.int .u8 (z : Nat)] := by
              simp only [u8s, List.map_append, List.map_cons, List.map_nil]
              rw [u8_of z hz]
            rw [e]
            exact hown1.out
          case measure => simp [intOf]; omega
    · have hke : k = (l.length + 7) / 8 := by omega
      have HK := Lib.hid (hto.stop hke)
      clear hke
      go_wp2
      go_ret
      exact ⟨_, cs, rfl, HK.out, hown, hbel⟩
theorem refBytes_len (l : List Bool) (len : Nat) (a : Option Addr) (c B : Nat) (w : World) (hlen : l.length = len) (h : Ro w B a (i64s (bn l))) (hB : B ≤ w.heap.size) (hl : len ≤ 1000000) :
    Calls Try.prog 32 #[.slice a len c] w fun e w' => ∃ x cs, e = .returned x ∧ IsBytes l cs ∧ Lst w' w.heap.size 5 x (u8s cs) ∧ Below w.heap.size w w' := by
  subst hlen
  exact refBytes_any l a c B w h hB hl
end Go.Proofs.Ytogkhhgcljeddaa
