/-
  The statement BitsTurns: the walk of its Go text, by the contracts of what it calls.
-/
import Derived.Test.YtogkhhgcljeddaaLawBitsTells
namespace Go.Proofs.Ytogkhhgcljeddaa
open Go.RowKit Go.Deep

theorem wd_nat (m : Nat) (h : m ≤ 64) : wd (m : Int) = m := by unfold wd; omega
/-- a number with a sign, as an unsigned one, has the same lowest bits -/
theorem ext_wrap (v m : Nat) (h1 : 1 ≤ m) (hm : m ≤ 64) : ∃ u : Nat, IntKind.u64.wrap (ext v m) = (u : Int) ∧ u < 18446744073709551616 ∧ u % 2 ^ m = v % 2 ^ m := by
  have hN : 2 ^ m * 2 ^ (64 - m) = 18446744073709551616 := by rw [← Nat.pow_add, show m + (64 - m) = 64 from by omega]
  have hP : 0 < 2 ^ m := Nat.pow_pos (by omega)
  have hS : 0 < 2 ^ (64 - m) := Nat.pow_pos (by omega)
  have hr : v % 2 ^ m < 2 ^ m := Nat.mod_lt _ hP
  have hle : 2 ^ m ≤ 18446744073709551616 := pow_le_64 hm
  unfold ext
  split
  · refine ⟨18446744073709551616 - 2 ^ m + v % 2 ^ m, ?_, by omega, ?_⟩
    · rw [IntKind.wrap_u64]; omega
    · have e : 18446744073709551616 - 2 ^ m = 2 ^ m * (2 ^ (64 - m) - 1) := by rw [Nat.mul_sub, hN, Nat.mul_one]
      rw [e, Nat.mul_add_mod, Nat.mod_mod]
  · refine ⟨v % 2 ^ m, ?_, by omega, Nat.mod_mod _ _⟩
    rw [IntKind.wrap_u64]; omega
theorem ext_congr (u v m : Nat) (h : u % 2 ^ m = v % 2 ^ m) : ext u m = ext v m := by
  unfold ext
  by_cases h0 : m = 0
  · subst h0; simp [Nat.mod_one]
  · rw [top_bit u m (by omega), top_bit v m (by omega), h]
theorem mod_two (u v m : Nat) (h1 : 1 ≤ m) (h : u % 2 ^ m = v % 2 ^ m) : u % 2 = v % 2 := by
  obtain ⟨k, rfl⟩ : ∃ k, m = k + 1 := ⟨m - 1, by omega⟩
  have hd : 2 ∣ 2 ^ (k + 1) := ⟨2 ^ k, by rw [Nat.pow_succ, Nat.mul_comm]⟩
  rw [← Nat.mod_mod_of_dvd u hd, ← Nat.mod_mod_of_dvd v hd, h]

set_option maxRecDepth 100000 in
set_option maxHeartbeats 4000000 in
theorem bitsTurns_walk (a1 : Option Addr) (len1 cap1 : Nat) (v : Nat) (n x0 x1 x2 : Int) (bs : List UInt8) (w : World) (hl1 : bs.length = len1)
    (h1 : Ro w w.heap.size a1 (u8s bs)) (hv : v < 18446744073709551616) (hn0 : -9223372036854775808 ≤ n) (hn1 : n ≤ 9223372036854775807) (hx0 : -9223372036854775808 ≤ x0 ∧ x0 ≤ 9223372036854775807)
    (hx1 : -9223372036854775808 ≤ x1 ∧ x1 ≤ 9223372036854775807) (hx2 : -9223372036854775808 ≤ x2 ∧ x2 ≤ 9223372036854775807) (hc1 : len1 ≤ 9223372036854775807) :
    Calls Try.prog 7 #[.agg #[.int .u64 v, .int .i64 n], .slice a1 len1 cap1, .agg #[.int .i64 x0, .int .i64 x1, .int .i64 x2]] w fun e w' => e = .returned (.bool true) ∧ Below w.heap.size w w' := by
  obtain ⟨wb, hwbe⟩ : ∃ wb, wb = (w.alloc (.cells #[.int .u64 v, .int .i64 n] 44)).alloc (.cells #[.int .i64 x0, .int .i64 x1, .int .i64 x2] 45) := ⟨_, rfl⟩
  have hbx : Below w.heap.size w wb := by rw [hwbe]; exact ((Below.refl _ _).alloc (Nat.le_refl _) _).alloc (by simp) _
  have hszb : wb.heap.size = w.heap.size + 2 := by rw [hwbe]; simp
  have hwb : Ro wb w.heap.size a1 (u8s bs) := h1.below hbx (Nat.le_refl _)
  have hown : Own wb (w.heap.size + 1) 45 [.int .i64 x0, .int .i64 x1, .int .i64 x2] := by
    have := Own.new (w.alloc (.cells #[.int .u64 v, .int .i64 n] 44)) 45 [.int .i64 x0, .int .i64 x1, .int .i64 x2]
    rw [hwbe]
    simpa using this
  have hcb0 : wb.cell? ⟨w.heap.size + 1, 0, none⟩ = some (.int .i64 x0) := by rw [hown.cell 0]; rfl
  have hcb1 : wb.cell? ⟨w.heap.size + 1, 1, none⟩ = some (.int .i64 x1) := by rw [hown.cell 1]; rfl
  have hcb2 : wb.cell? ⟨w.heap.size + 1, 2, none⟩ = some (.int .i64 x2) := by rw [hown.cell 2]; rfl
  clear hown
  by_cases hg : 1 ≤ n ∧ n ≤ 64 ∧ len1 ≤ 300
  rotate_left
  · have HBX := Lib.hid hbx
    have HE := Lib.hid hwbe
    clear hbx hszb hwb hcb0 hcb1 hcb2 hwbe
    by_cases g1 : n < 1
    · go_enter Try.func7, Try.ntmps7
      go_wp2_with fail
      rw [← HE.out]
      refine (alive_any _).mono ?_
      rintro e w' ⟨rfl, hb⟩
      go_wp2_with fail
      go_ret
      exact ⟨rfl, HBX.out.trans (hb.mono HBX.out.size)⟩
    by_cases g2 : 64 < n
    · go_enter Try.func7, Try.ntmps7
      go_wp2_with fail
      rw [← HE.out]
      refine (alive_any _).mono ?_
      rintro e w' ⟨rfl, hb⟩
      go_wp2_with fail
      go_ret
      exact ⟨rfl, HBX.out.trans (hb.mono HBX.out.size)⟩
    have g3 : (300 : Int) < (len1 : Int) := by omega
    go_enter Try.func7, Try.ntmps7
    go_wp2_with fail
    rw [← HE.out]
    refine (alive_any _).mono ?_
    rintro e w' ⟨rfl, hb⟩
    go_wp2_with fail
    go_ret
    exact ⟨rfl, HBX.out.trans (hb.mono HBX.out.size)⟩
  obtain ⟨g1, g2, g3⟩ := hg
  obtain ⟨m, rfl⟩ := Int.eq_ofNat_of_zero_le (show 0 ≤ n by omega)
  have hm1 : 1 ≤ m := by omega
  have hm64 : m ≤ 64 := by omega
  obtain ⟨u, hu1, hu2, hu3⟩ := ext_wrap v m hm1 hm64
  have hue := ext_congr u v m hu3
  have hu2' := mod_two u v m hm1 hu3
  have hrr := revn_revn v m hm64
  have hrl : revn v m < 18446744073709551616 := Nat.lt_of_lt_of_le (revn_lt v m hm64) (pow_le_64 hm64)
  have hext : ∀ W : World, Calls Try.prog 14 #[.int .u64 v, .int .i64 (m : Nat)] W fun e w' => e = .returned (.int .i64 (ext v m)) ∧ W = w' := fun W => by
    have := extend_is v (m : Nat) W
    rwa [wd_nat m hm64] at this
  have hext2 : ∀ W : World, Calls Try.prog 14 #[.int .u64 u, .int .i64 (m : Nat)] W fun e w' => e = .returned (.int .i64 (ext v m)) ∧ W = w' := fun W => by
    have := extend_is u (m : Nat) W
    rwa [wd_nat m hm64, hue] at this
  have hrev : ∀ W : World, Calls Try.prog 16 #[.int .u64 v, .int .i64 (m : Nat)] W fun e w' => e = .returned (.int .u64 (revn v m : Nat)) ∧ W = w' := fun W => by
    have := reverse_is v (m : Nat) W hv
    rwa [wd_nat m hm64] at this
  have hrev2 : ∀ W : World, Calls Try.prog 16 #[.int .u64 (revn v m : Nat), .int .i64 (m : Nat)] W fun e w' => e = .returned (.int .u64 (v % 2 ^ m : Nat)) ∧ W = w' := fun W => by
    have := reverse_is (revn v m) (m : Nat) W hrl
    rwa [wd_nat m hm64, hrr] at this
  have HX1 := Lib.hid hext
  have HX2 := Lib.hid hext2
  have HR1 := Lib.hid hrev
  have HR2 := Lib.hid hrev2
  clear hext hext2 hrev hrev2 hue hrr hrl hu3
  have HE := Lib.hid hwbe
  have HBX := Lib.hid hbx
  have HSZ := Lib.hid hszb
  have HWB := Lib.hid hwb
  have HC0 := Lib.hid hcb0
  have HC1 := Lib.hid hcb1
  have HC2 := Lib.hid hcb2
  have HL1 := Lib.hid hl1
  have HU1 := Lib.hid hu1
  have HU2 := Lib.hid hu2'
  clear hwbe hbx hszb hwb hcb0 hcb1 hcb2 hl1 hu1 hu2'
  have e1 : decide ((m : Int) < 1) = false := decide_eq_false (by omega)
  have e2 : decide ((64 : Int) < (m : Int)) = false := decide_eq_false (by omega)
  have e3 : decide ((300 : Int) < (len1 : Int)) = false := decide_eq_false (by omega)
  obtain ⟨low, hlow⟩ : ∃ low, low = v % 2 ^ m := ⟨_, rfl⟩
  have hlv : low < 18446744073709551616 := by rw [hlow]; exact Nat.lt_of_le_of_lt (Nat.mod_le _ _) hv
  have hcase : (decide ((m : Int) < 64) = true ∧ ∃ P : Nat, 0 < P ∧ IntKind.u64.wrap (2 ^ m) = (P : Int) ∧ ((low : Int) != (v : Int) % (P : Int)) = false) ∨ (decide ((m : Int) < 64) = false ∧ ((low : Int) != (v : Int)) = false) := by
    by_cases h64 : m < 64
    · refine .inl ⟨decide_eq_true (by omega), 2 ^ m, Nat.pow_pos (by omega), ?_, ?_⟩
      · have e : ((2 : Int) ^ m) = ((2 ^ m : Nat) : Int) := by simp
        rw [e, wrap_u64_nat _ (by have := Nat.pow_le_pow_right (n := 2) (by omega) (show m ≤ 63 by omega); omega)]
      · rw [hlow]; simp
    · refine .inr ⟨decide_eq_false (by omega), ?_⟩
      have e : m = 64 := by omega
      rw [hlow, e, Nat.mod_eq_of_lt hv]; simp
  rw [← hlow] at HR2
  clear hlow
  generalize revn v m = rv at *
  generalize ext v m = ex at *
  rcases hcase with ⟨q1, P, q3, q4, q5⟩ | ⟨q1, q3⟩
  all_goals
    go_enter Try.func7, Try.ntmps7
    go_wp2_with fail
    rw [← HE.out]
    refine (HX1.out _).mono ?_
    rintro e w' ⟨rfl, rfl⟩
    go_wp2_with fail
    refine (HR1.out _).mono ?_
    rintro e w' ⟨rfl, rfl⟩
    go_wp2_with fail
    refine (HR2.out _).mono ?_
    rintro e w' ⟨rfl, rfl⟩
    have hu1 := HU1.out
    have hu2 : (((u : Int) % 2) != ((v : Int) % 2)) = false := by
      have := HU2.out
      rw [bne_eq_false_iff_eq]
      omega
    go_wp2_with fail
    refine (HX2.out _).mono ?_
    rintro e w' ⟨rfl, rfl⟩
    have hz0 := HC0.out
    have hz1 := HC1.out
    go_wp2_with fail
    clear hu1 hu2
    by_cases hin : 0 ≤ x1 ∧ x1 ≤ 64 ∧ 0 ≤ x0 ∧ x0 + x1 ≤ 8 * (len1 : Int)
    rotate_left
    · refine (get_no a1 len1 cap1 x0 x1 wb (by omega) hx0.1 hx0.2 hin).mono ?_
      rintro e w3 ⟨rfl, hb3⟩
      go_wp2_with fail
      refine (alive_any _).mono ?_
      rintro e w4 ⟨rfl, hb4⟩
      go_wp2_with fail
      go_ret
      exact ⟨rfl, HBX.out.trans ((hb3.trans (hb4.mono hb3.size)).mono HBX.out.size)⟩
    obtain ⟨i1, i2, i3, i4⟩ := hin
    obtain ⟨k, rfl⟩ := Int.eq_ofNat_of_zero_le i3
    obtain ⟨j, rfl⟩ := Int.eq_ofNat_of_zero_le i1
    refine (get_yes_len bs len1 a1 cap1 w.heap.size k j wb HL1.out HWB.out HBX.out.size (by omega) i1 i2 i3 i4).mono ?_
    rintro e w3 ⟨rfl, hb3⟩
    rw [Int.toNat_natCast, Int.toNat_natCast]
    have hs3 : w.heap.size + 1 < wb.heap.size := by have := HSZ.out; omega
    have hy0 := cell_keep hb3 hz0 hs3
    have hy1 := cell_keep hb3 hz1 hs3
    have hy2 := cell_keep hb3 HC2.out hs3
    have hro3 := HWB.out.below hb3 HBX.out.size
    clear hz0 hz1
    go_wp2_with fail
    by_cases hin2 : 0 ≤ x2 ∧ x2 ≤ 64 ∧ 0 ≤ (k : Int) + (j : Int) ∧ (k : Int) + (j : Int) + x2 ≤ 8 * (len1 : Int)
    rotate_left
    · refine (get_no a1 len1 cap1 ((k : Int) + (j : Int)) x2 w3 (by omega) (by omega) (by omega) hin2).mono ?_
      rintro e w4 ⟨rfl, hb4⟩
      have hb34 := hb3.trans (hb4.mono hb3.size)
      go_wp2_with fail
      refine (alive_any _).mono ?_
      rintro e w5 ⟨rfl, hb5⟩
      go_wp2_with fail
      go_ret
      exact ⟨rfl, HBX.out.trans ((hb34.trans (hb5.mono hb34.size)).mono HBX.out.size)⟩
    obtain ⟨i5, i6, i7, i8⟩ := hin2
    obtain ⟨t, rfl⟩ := Int.eq_ofNat_of_zero_le i5
    refine (get_yes_len bs len1 a1 cap1 w.heap.size ((k : Int) + (j : Int)) t w3 HL1.out hro3 (by have := HBX.out.size; have := hb3.size; omega) (by omega) i5 i6 i7 i8).mono ?_
    rintro e w4 ⟨rfl, hb4⟩
    rw [show ((k : Int) + (j : Int)).toNat = k + j by omega, Int.toNat_natCast]
    have hb34 := hb3.trans (hb4.mono hb3.size)
    have hs4 : w.heap.size + 1 < w3.heap.size := by have := hb3.size; omega
    have hv0 := cell_keep hb4 hy0 hs4
    have hv1 := cell_keep hb4 hy1 hs4
    have hv2 := cell_keep hb4 hy2 hs4
    have hro4 := hro3.below hb4 (by have := HBX.out.size; have := hb3.size; omega)
    clear hy0 hy1 hy2 hro3
    by_cases hsum : 64 < (j : Int) + (t : Int)
    · go_wp2_with fail
      refine (alive_any _).mono ?_
      rintro e w5 ⟨rfl, hb5⟩
      go_wp2_with fail
      go_ret
      exact ⟨rfl, HBX.out.trans ((hb34.trans (hb5.mono hb34.size)).mono HBX.out.size)⟩
    go_wp2_with fail
    refine (get_yes_len bs len1 a1 cap1 w.heap.size k ((j : Int) + (t : Int)) w4 HL1.out hro4 (by have := HBX.out.size; have := hb34.size; omega) (by omega) (by omega) (by omega) i3 (by omega)).mono ?_
    rintro e w5 ⟨rfl, hb5⟩
    rw [Int.toNat_natCast, show ((j : Int) + (t : Int)).toNat = j + t by omega]
    have hb35 := hb34.trans (hb5.mono hb34.size)
    have hs5 : w.heap.size + 1 < w4.heap.size := by have := hb4.size; omega
    have hw2 := cell_keep hb5 hv2 hs5
    obtain ⟨X, p, r, M, hX, hp, hr, f1, f2⟩ : ∃ X p r M : Nat, num bs k (j + t) = X ∧ num bs k j = p ∧ num bs (k + j) t = r ∧ X < 18446744073709551616 ∧
        ((((t : Int) == 64) = true ∧ ((X : Int) == (r : Int)) = true) ∨ (((t : Int) == 64) = false ∧ decide ((t : Int) < 64) = true ∧ ∃ Q : Nat, IntKind.u64.wrap (2 ^ t) = (Q : Int) ∧ IntKind.u64.wrap ((p : Int) * (Q : Int)) = (M : Int) ∧ M + r < 18446744073709551616 ∧ ((X : Int) == (M : Int) + (r : Int)) = true)) := by
      have hadd := num_add bs k j t
      have hlX := num_lt bs k (j + t)
      have hp64 := pow_le_64 (n := j + t) (by omega)
      refine ⟨_, _, _, num bs k j * 2 ^ t, rfl, rfl, rfl, by omega, ?_⟩
      by_cases h64 : t = 64
      · refine .inl ⟨by rw [beq_iff_eq]; omega, ?_⟩
        have hj0 : j = 0 := by omega
        subst hj0
        rw [beq_iff_eq]
        simp
      · refine .inr ⟨by rw [beq_eq_false_iff_ne]; omega, decide_eq_true (by omega), 2 ^ t, ?_, ?_, by omega, ?_⟩
        · have e : ((2 : Int) ^ t) = ((2 ^ t : Nat) : Int) := by simp
          rw [e, wrap_u64_nat _ (by have := Nat.pow_le_pow_right (n := 2) (by omega) (show t ≤ 63 by omega); omega)]
        · rw [← Int.natCast_mul, wrap_u64_nat _ (by omega)]
        · rw [beq_iff_eq, hadd]; simp
    rw [hX]
    rw [hp] at *
    rw [hr] at *
    clear hv0 hv1 hv2 hro4 hX hp hr
    rcases f2 with ⟨f3, f4⟩ | ⟨f3, f4, Q, f5, f6, f7, f8⟩
    all_goals
      go_wp2_with fail
      refine (alive_any _).mono ?_
      rintro e w6 ⟨rfl, hb6⟩
      have hq2 := cell_keep hb6 hw2 (by have := hb5.size; omega)
      have hfin := HBX.out.trans ((hb35.trans (hb6.mono hb35.size)).mono HBX.out.size)
      clear hw2
      have HF := Lib.hid hfin
      clear hfin
      go_wp2_with fail
      go_ret
      exact ⟨rfl, HF.out⟩

theorem bitsTurns_row (w : World) {a1 : Option Addr} {len1 cap1 : Nat} {v n : Int} {z1 z2 : List Int} (wv : (Lit.int .u64 v).wf = true) (wn : (Lit.int .i64 n).wf = true) (w1 : IsRow .u8 w a1 len1 cap1 z1) (hz2 : z2.length = 3) (w2 : ∀ n ∈ z2, (Lit.int .i64 n).wf = true) :
    Calls Try.prog 7 #[.agg #[.int .u64 v, .int .i64 n], .slice a1 len1 cap1, .agg (z2.map (Value.int .i64)).toArray] w fun e w' => e = .returned (.bool true) ∧ Below w.heap.size w w' := by
  obtain ⟨bs, h1, _, _, hr1⟩ := w1.u8s
  obtain ⟨x0, x1, x2, rfl⟩ : ∃ x0 x1 x2, z2 = [x0, x1, x2] := by
    match z2, hz2 with
    | [x0, x1, x2], _ => exact ⟨x0, x1, x2, rfl⟩
  have hv := bounds_u64 wv
  have hn := bounds_i64 wn
  obtain ⟨v, rfl⟩ := Int.eq_ofNat_of_zero_le hv.1
  exact bitsTurns_walk a1 len1 cap1 v n x0 x1 x2 bs w h1 hr1 (by omega) hn.1 hn.2 (bounds_i64 (w2 x0 (by simp))) (bounds_i64 (w2 x1 (by simp))) (bounds_i64 (w2 x2 (by simp))) w1.len_le
end Go.Proofs.Ytogkhhgcljeddaa
