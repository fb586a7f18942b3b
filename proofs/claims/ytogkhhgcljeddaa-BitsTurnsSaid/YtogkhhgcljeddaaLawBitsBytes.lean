/-
  The statement BitsBytes: the walk of its Go text, by the contracts of what it calls.
-/
import Derived.Test.YtogkhhgcljeddaaArgs
import Derived.Test.YtogkhhgcljeddaaAlive
import Derived.Test.YtogkhhgcljeddaaList
namespace Go.Proofs.Ytogkhhgcljeddaa
open Go.RowKit Go.Deep

theorem num_bytes (bs : List UInt8) (k i : Nat) : num bs (8 * k) (8 * (i + 1)) = num bs (8 * k) (8 * i) * 256 + (bs.getD (k + i) 0).toNat := by
  rw [show 8 * (i + 1) = 8 * i + 8 from by omega, num_add, num_byte bs (8 * k + 8 * i) 8 (by omega)]
  rw [show (8 * k + 8 * i) / 8 = k + i from by omega, show (8 * k + 8 * i) % 8 = 0 from by omega]
  have h := (bs.getD (k + i) 0).toNat_lt
  simp only [Nat.sub_zero, Nat.sub_self, Nat.pow_zero, Nat.div_one]
  rw [Nat.mod_eq_of_lt (by omega)]

theorem count_len (bs : List UInt8) (len : Nat) (a : Option Addr) (c B : Nat) (w : World) (hlen : bs.length = len) (h : Ro w B a (u8s bs)) (hl : len ≤ 1000000) :
    Calls Try.prog 18 #[.slice a len c] w fun e w' => e = .returned (.int .i64 (ones bs : Nat)) ∧ w = w' := by
  subst hlen
  exact count_any bs a c B w h hl
theorem get_yes_len (bs : List UInt8) (len : Nat) (a : Option Addr) (c B : Nat) (k n : Int) (w : World) (hlen : bs.length = len) (h : Ro w B a (u8s bs)) (hB : B ≤ w.heap.size) (hl : len ≤ 1000000) (hn0 : 0 ≤ n) (hn : n ≤ 64) (hk0 : 0 ≤ k) (hk : k + n ≤ 8 * len) :
    Calls Try.prog 10 #[.slice a len c, .int .i64 k, .int .i64 n] w fun e w' => e = .returned (.tuple #[.int .u64 (num bs k.toNat n.toNat : Nat), .bool true]) ∧ Below w.heap.size w w' := by
  subst hlen
  exact get_yes bs a c B k n w h hB hl hn0 hn hk0 hk

set_option maxRecDepth 100000 in
set_option maxHeartbeats 2000000 in
theorem bitsBytes_walk (a0 a1 : Option Addr) (len0 len1 cap0 cap1 : Nat) (k : Int) (bs cs : List UInt8) (w : World) (hl0 : bs.length = len0) (hl1 : cs.length = len1)
    (h0 : Ro w w.heap.size a0 (u8s bs)) (h1 : Ro w w.heap.size a1 (u8s cs)) (hk0 : -9223372036854775808 ≤ k) (hk1 : k ≤ 9223372036854775807) (hc0 : len0 ≤ 9223372036854775807) (hc1 : len1 ≤ 9223372036854775807) :
    Calls Try.prog 8 #[.slice a0 len0 cap0, .slice a1 len1 cap1, .int .i64 k] w fun e w' => e = .returned (.bool true) ∧ Below w.heap.size w w' := by
  by_cases g0 : 300 < len0
  · have g0' : (300 : Int) < (len0 : Int) := by omega
    go_enter Try.func8, Try.ntmps8
    go_wp2_with fail
    refine (alive_any _).mono ?_
    rintro e w' ⟨rfl, hb⟩
    go_wp2_with fail
    go_ret
    exact ⟨rfl, hb⟩
  by_cases g1 : 300 < len1
  · have g1' : (300 : Int) < (len1 : Int) := by omega
    go_enter Try.func8, Try.ntmps8
    go_wp2_with fail
    refine (alive_any _).mono ?_
    rintro e w' ⟨rfl, hb⟩
    go_wp2_with fail
    go_ret
    exact ⟨rfl, hb⟩
  have d0 : decide ((300 : Int) < (len0 : Int)) = false := decide_eq_false (by omega)
  have d1 : decide ((300 : Int) < (len1 : Int)) = false := decide_eq_false (by omega)
  have HL0 := Lib.hid hl0
  have HL1 := Lib.hid hl1
  have ho0 := ones_le bs
  have ho1 := ones_le cs
  have hoa := ones_append bs cs
  rw [hl0] at ho0
  rw [hl1] at ho1
  clear hl0 hl1
  generalize hz0 : ones bs = z0 at *
  generalize hz1 : ones cs = z1 at *
  have HZ0 := Lib.hid hz0
  have HZ1 := Lib.hid hz1
  have HA := Lib.hid hoa
  clear hz0 hz1 hoa
  have hlit := Lst.lit w w.heap.size 5 #[] (Nat.le_refl _) (by simp)
  go_enter Try.func8, Try.ntmps8
  go_wp2_with (at_builtin; (refine wpList_appG (.tmp 21) (.tmp 22) 22 rfl w.heap.size 5 (.int .u8 0) 1 Try.underlying22 Try.info_u8 rfl _ [] rfl hlit a0 w.heap.size len0 cap0 (u8s bs) rfl (by simpa using HL0.out) (h0.keep fun p hp => World.cell?_alloc_lt w _ p hp) (u8s_oneCell _) (by simp; omega) (by simp; omega) w.heap.size w ((Below.refl _ _).alloc (Nat.le_refl _) _) (Nat.le_refl _) (by simp) (by go_simp) ?_))
  intro v2 w2 hown2 hbel2 hsz2
  have h12 := h1.below hbel2 (Nat.le_refl _)
  clear hlit
  go_wp2_with (at_builtin; (refine wpList_appG (.tmp 23) (.tmp 24) 22 rfl w.heap.size 5 (.int .u8 0) 1 Try.underlying22 Try.info_u8 rfl v2 (u8s bs) rfl hown2.out a1 w.heap.size len1 cap1 (u8s cs) rfl (by simpa using HL1.out) h12 (u8s_oneCell _) (by have := HL0.out; simp; omega) (by have := HL0.out; simp; omega) w.heap.size w hbel2 (Nat.le_refl _) hbel2.size (by go_simp) ?_))
  intro v3 w3 hown3 hbel3 hsz3
  have hown3' := hown3.out
  rw [show u8s bs ++ u8s cs = u8s (bs ++ cs) by simp [u8s]] at hown3'
  obtain ⟨a3, c3, hve, hro3, _, _⟩ := hown3'.form
  rw [show (u8s (bs ++ cs)).length = len0 + len1 by rw [u8s_length, List.length_append, HL0.out, HL1.out]] at hve
  subst hve
  have hcnt := count_len (bs ++ cs) (len0 + len1) a3 c3 w3.heap.size w3 (by rw [List.length_append, HL0.out, HL1.out]) hro3 (by omega)
  rw [HA.out] at hcnt
  have hcnt0 := count_len bs len0 a0 cap0 w.heap.size w3 HL0.out (h0.below hbel3 (Nat.le_refl _)) (by omega)
  have hcnt1 := count_len cs len1 a1 cap1 w.heap.size w3 HL1.out (h1.below hbel3 (Nat.le_refl _)) (by omega)
  rw [HZ0.out] at hcnt0
  rw [HZ1.out] at hcnt1
  have HC := Lib.hid hcnt
  have HC0 := Lib.hid hcnt0
  have HC1 := Lib.hid hcnt1
  clear hcnt hcnt0 hcnt1 hown3 hown3' hown2
  go_wp2_with fail
  refine HC.out.mono ?_
  rintro e w' ⟨rfl, rfl⟩
  go_wp2_with fail
  refine HC0.out.mono ?_
  rintro e w' ⟨rfl, rfl⟩
  go_wp2_with fail
  refine HC1.out.mono ?_
  rintro e w' ⟨rfl, rfl⟩
  by_cases hk : 0 ≤ k ∧ k < (len0 : Int)
  · obtain ⟨hka, hkb⟩ := hk
    obtain ⟨k, rfl⟩ := Int.eq_ofNat_of_zero_le hka
    have d2 : decide ((k : Int) < 0) = false := decide_eq_false (by omega)
    have d3 : decide (len0 ≤ k) = false := decide_eq_false (by omega)
    go_wp2_with fail
    go_loopw [7] (fun n wr => ∃ p : Nat, p ≤ 4 ∧ n = .int .i64 ((2 ^ p : Nat) : Int) ∧ Below w.heap.size w wr) (fun n _ => 16 - (intOf n).toNat)
    case atStart => exact ⟨0, by omega, by simp, hbel3⟩
    case round =>
      obtain ⟨p, hp, rfl, hbr⟩ := hrel
      by_cases hp3 : p ≤ 3
      · obtain ⟨N, hN⟩ : ∃ N, N = 2 ^ p := ⟨_, rfl⟩
        have hN8 : N ≤ 8 := by rw [hN]; exact Nat.pow_le_pow_right (n := 2) (by omega) hp3
        have hN1 : 1 ≤ N := by rw [hN]; exact Nat.pow_pos (by omega)
        rw [← hN]
        have HN := Lib.hid hN
        clear hN
        have hror := h0.below hbr (Nat.le_refl _)
        by_cases hfit : k + N ≤ len0
        · have hget := get_yes_len bs len0 a0 cap0 w.heap.size (8 * (k : Int)) (8 * (N : Int)) wr HL0.out hror hbr.size (by omega) (by omega) (by omega) (by omega) (by omega)
          rw [show (8 * (k : Int)).toNat = 8 * k by omega, show (8 * (N : Int)).toNat = 8 * N by omega] at hget
          have HG := Lib.hid hget
          have hle : (k : Int) + (N : Int) ≤ (len0 : Int) := by omega
          clear hget
          go_wp2_with fail
          refine HG.out.mono ?_
          rintro e w4 ⟨rfl, hb4⟩
          have hbr4 := hbr.trans (hb4.mono hbr.size)
          have hror4 := h0.below hbr4 (Nat.le_refl _)
          go_wp2_with fail
          go_loop [10, 11] (fun v i => ∃ j : Nat, j ≤ N ∧ i = .int .i64 (j : Int) ∧ v = .int .u64 (num bs (8 * k) (8 * j) : Nat)) (fun _ i => N - (intOf i).toNat)
          case atStart => exact ⟨0, by omega, by simp, by simp [num]⟩
          case round =>
            obtain ⟨j, hj, rfl, rfl⟩ := hrel
            by_cases hlt : j < N
            · obtain ⟨b, off, rfl, hb, hc⟩ := hror4.u8 (by have := HL0.out; omega)
              have hcell := hc (k + j) (by have := HL0.out; omega)
              have hstep := num_bytes bs k j
              have hlt1 := num_lt bs (8 * k) (8 * j)
              have hpw := Nat.pow_le_pow_right (n := 2) (by omega) (show 8 * j ≤ 56 by omega)
              clear hc
              generalize num bs (8 * k) (8 * j) = z at *
              generalize bs.getD (k + j) 0 = y at *
              have hy := y.toNat_lt
              have hz : z < 72057594037927936 := by omega
              have HS := Lib.hid hstep
              clear hstep hlt1 hpw
              go_wp2_with fail
              go_round
              case rel => exact ⟨j + 1, by omega, by go_num, by rw [HS.out]; go_num⟩
              case measure => simp [intOf]; omega
            · obtain rfl : j = N := by omega
              have hp1 : j * 2 = 2 ^ (p + 1) := by rw [HN.out, Nat.pow_succ]
              have HP1 := Lib.hid hp1
              clear hp1
              go_wp2_with fail
              go_roundw
              case rel => exact ⟨p + 1, by omega, by rw [← HP1.out]; go_num, hbr4⟩
              case measure => simp [intOf]; omega
        · have hget := get_no a0 len0 cap0 (8 * (k : Int)) (8 * (N : Int)) wr (by omega) (by omega) (by omega) (by omega)
          have HG := Lib.hid hget
          have hle : ¬ (k : Int) + (N : Int) ≤ (len0 : Int) := by omega
          have hp1 : N * 2 = 2 ^ (p + 1) := by rw [HN.out, Nat.pow_succ]
          have HP1 := Lib.hid hp1
          clear hget hp1
          go_wp2_with fail
          refine HG.out.mono ?_
          rintro e w4 ⟨rfl, hb4⟩
          have hbr4 := hbr.trans (hb4.mono hbr.size)
          go_wp2_with fail
          go_loop [10, 11] (fun v i => i = .int .i64 0 ∧ v = .int .u64 0) (fun _ i => (intOf i).toNat)
          case atStart => exact ⟨by simp, by simp⟩
          case round =>
            obtain ⟨rfl, rfl⟩ := hrel
            go_wp2_with fail
            go_roundw
            case rel => exact ⟨p + 1, by omega, by rw [← HP1.out]; go_num, hbr4⟩
            case measure => simp [intOf]; omega
      · obtain rfl : p = 4 := by omega
        go_wp2_with fail
        refine (alive_any _).mono ?_
        rintro e w' ⟨rfl, hb⟩
        go_wp2_with fail
        go_ret
        exact ⟨rfl, hbr.trans (hb.mono hbr.size)⟩
  · by_cases hk2 : k < 0
    · go_wp2_with fail
      refine (alive_any _).mono ?_
      rintro e w' ⟨rfl, hb⟩
      go_wp2_with fail
      go_ret
      exact ⟨rfl, hbel3.trans (hb.mono hbel3.size)⟩
    · have hk3 : (len0 : Int) ≤ k := by omega
      go_wp2_with fail
      refine (alive_any _).mono ?_
      rintro e w' ⟨rfl, hb⟩
      go_wp2_with fail
      go_ret
      exact ⟨rfl, hbel3.trans (hb.mono hbel3.size)⟩

theorem bitsBytes_row (w : World) {a0 a1 : Option Addr} {len0 len1 cap0 cap1 : Nat} {k : Int} {z0 z1 : List Int} (w0 : IsRow .u8 w a0 len0 cap0 z0) (w1 : IsRow .u8 w a1 len1 cap1 z1) (w2 : (Lit.int .i64 k).wf = true) :
    Calls Try.prog 8 #[.slice a0 len0 cap0, .slice a1 len1 cap1, .int .i64 k] w fun e w' => e = .returned (.bool true) ∧ Below w.heap.size w w' := by
  obtain ⟨bs, h0, hm0, _, hr0⟩ := w0.u8s
  obtain ⟨cs, h1, hm1, _, hr1⟩ := w1.u8s
  have hk := bounds_i64 w2
  have l0 := w0.len_le
  have l1 := w1.len_le
  exact bitsBytes_walk a0 a1 len0 len1 cap0 cap1 k bs cs w h0 h1 hr0 hr1 hk.1 hk.2 l0 l1
end Go.Proofs.Ytogkhhgcljeddaa
