/-
  The statement BitsBack: the walk of its Go text, by the contracts of what it calls.
-/
import Derived.Test.YtogkhhgcljeddaaLawBitsTells
namespace Go.Proofs.Ytogkhhgcljeddaa
open Go.RowKit Go.Deep

theorem num_put {bs cs : List UInt8} {k n v : Nat} (h : IsPut bs cs k n v) (hk : k + n ≤ 8 * bs.length) : num cs k n = v % 2 ^ n := by
  rw [num_nm, ← nm_dig]
  apply nm_congr
  intro i hi
  rw [h.2 _ (by omega), if_pos (by omega), dig_getD _ _ _ hi]
  congr 1
  omega
theorem put_back {bs cs ds : List UInt8} {k n v : Nat} (h : IsPut bs cs k n v) (hk : k + n ≤ 8 * bs.length) (h2 : IsPut cs ds k n (num bs k n)) : ds = bs := by
  have l1 := h.1
  have l2 := h2.1
  refine bytes_ext ds bs (by omega) fun m hm => ?_
  rw [h2.2 m (by omega)]
  by_cases c : k ≤ m ∧ m < k + n
  · rw [if_pos c, num_nm, nm_bit, decide_eq_true (by omega), Bool.true_and]
    congr 1
    omega
  · rw [if_neg c, h.2 m (by omega), if_neg c]
theorem num_one (bs : List UInt8) (i : Nat) : num bs i 1 = (bitB bs i).toNat := by rw [num_nm]; simp [nm]
theorem num_out {bs cs : List UInt8} {k n v : Nat} (h : IsPut bs cs k n v) (i : Nat) (hi : i < 8 * bs.length) (ho : i < k ∨ k + n ≤ i) : num cs i 1 = num bs i 1 := by
  rw [num_one, num_one, h.2 i hi, if_neg (by omega)]

set_option maxRecDepth 100000 in
set_option maxHeartbeats 4000000 in
theorem bitsBack_walk (a0 : Option Addr) (len0 cap0 : Nat) (k n : Int) (v : Nat) (bs : List UInt8) (w : World) (hl0 : bs.length = len0)
    (h0 : Ro w w.heap.size a0 (u8s bs)) (hk0 : -9223372036854775808 ≤ k) (hk1 : k ≤ 9223372036854775807) (hn0 : -9223372036854775808 ≤ n) (hn1 : n ≤ 9223372036854775807) (hc0 : len0 ≤ 9223372036854775807) (hv : v < 18446744073709551616) :
    Calls Try.prog 5 #[.slice a0 len0 cap0, .agg #[.int .i64 k, .int .i64 n], .int .u64 v] w fun e w' => e = .returned (.bool true) ∧ Below w.heap.size w w' := by
  obtain ⟨wb, hwbe⟩ : ∃ wb, wb = w.alloc (.cells #[.int .i64 k, .int .i64 n] 23) := ⟨_, rfl⟩
  have hbx0 : Below w.heap.size w wb := by rw [hwbe]; exact (Below.refl _ _).alloc (Nat.le_refl _) _
  have hszb : wb.heap.size = w.heap.size + 1 := by rw [hwbe]; simp
  have hwb : Ro wb w.heap.size a0 (u8s bs) := h0.below hbx0 (Nat.le_refl _)
  have hcb0 : wb.cell? ⟨w.heap.size, 0, none⟩ = some (.int .i64 k) := by rw [hwbe, (Own.new w 23 [.int .i64 k, .int .i64 n]).cell 0]; rfl
  have hcb1 : wb.cell? ⟨w.heap.size, 1, none⟩ = some (.int .i64 n) := by rw [hwbe, (Own.new w 23 [.int .i64 k, .int .i64 n]).cell 1]; rfl
  by_cases g0 : (300 : Int) < (len0 : Int)
  · have HBX := Lib.hid hbx0
    have HE := Lib.hid hwbe
    clear hbx0 hszb hwb hcb0 hcb1 hwbe
    go_enter Try.func5, Try.ntmps5
    go_wp2_with fail
    rw [← HE.out]
    refine (alive_any _).mono ?_
    rintro e w' ⟨rfl, hb⟩
    go_wp2_with fail
    go_ret
    exact ⟨rfl, HBX.out.trans (hb.mono HBX.out.size)⟩
  have g0' : len0 ≤ 300 := by omega
  have hgetY := fun (i1 : 0 ≤ n) (i2 : n ≤ 64) (i3 : 0 ≤ k) (i4 : k + n ≤ 8 * (len0 : Int)) => get_yes_len bs len0 a0 cap0 w.heap.size k n wb hl0 hwb (by omega) (by omega) i1 i2 i3 i4
  have hgetN := fun hin => get_no a0 len0 cap0 k n wb (by omega) hk0 hk1 hin
  have HGY := Lib.hid hgetY
  have HGN := Lib.hid hgetN
  have HL0 := Lib.hid hl0
  have HBX := Lib.hid hbx0
  have HSZ := Lib.hid hszb
  have HWB := Lib.hid hwb
  have HC0 := Lib.hid hcb0
  have HC1 := Lib.hid hcb1
  have HE := Lib.hid hwbe
  clear hbx0 hszb hwb hcb0 hcb1 hl0 hwbe hgetY hgetN
  go_enter Try.func5, Try.ntmps5
  go_wp2_with fail
  rw [← HE.out]
  by_cases hin : 0 ≤ n ∧ n ≤ 64 ∧ 0 ≤ k ∧ k + n ≤ 8 * (len0 : Int)
  · obtain ⟨i1, i2, i3, i4⟩ := hin
    refine (HGY.out i1 i2 i3 i4).mono ?_
    rintro e w1 ⟨rfl, hb1⟩
    obtain ⟨k, rfl⟩ := Int.eq_ofNat_of_zero_le i3
    obtain ⟨m, rfl⟩ := Int.eq_ofNat_of_zero_le i1
    have hkm : k + m ≤ 8 * len0 := by omega
    rw [Int.toNat_natCast, Int.toNat_natCast]
    have hs1 : w.heap.size + 1 ≤ w1.heap.size := by have := hb1.size; have := HSZ.out; omega
    have hx0 := cell_keep hb1 HC0.out (by have := HSZ.out; omega)
    have hro1 := HWB.out.below hb1 (by have := HSZ.out; omega)
    go_wp2_with fail
    refine (put_yes_len bs len0 a0 cap0 w.heap.size k m v w1 HL0.out hro1 (by omega) (by omega) i1 i2 i3 i4).mono ?_
    rintro e w2 ⟨g, cs, rfl, hg, hput, hown2, hb2⟩
    rw [Int.toNat_natCast, Int.toNat_natCast] at hput
    have hcl : cs.length = len0 := by rw [hput.1]; exact HL0.out
    have hx1 := cell_keep hb2 hx0 (by omega)
    have hb12 : Below (w.heap.size + 1) wb w2 := by have := HSZ.out; exact (this ▸ hb1).trans (hb2.mono hs1)
    have hroc := hown2.ro w2.heap.size hown2.lt
    have HP := Lib.hid hput
    have HCL := Lib.hid hcl
    have hwas := num_lt bs k m
    have hwas2 := pow_le_64 (n := m) (by omega)
    have hnum := num_put hput (by rw [HL0.out]; exact hkm)
    obtain ⟨x, hxv⟩ : ∃ x, x = v % 2 ^ m := ⟨_, rfl⟩
    rw [← hxv] at hnum
    have HXV := Lib.hid hxv
    have HNUM := Lib.hid hnum
    clear hxv
    clear hx0 hput hcl hb1 hb2 hown2 hro1 hnum
    go_wp2_with fail
    refine (get_yes_len cs len0 (some ⟨g, 0, none⟩) len0 w2.heap.size k m w2 HCL.out hroc (Nat.le_refl _) (by omega) i1 i2 i3 i4).mono ?_
    rintro e w3 ⟨rfl, hb3⟩
    rw [Int.toNat_natCast, Int.toNat_natCast, HNUM.out]
    have hx2 := cell_keep hb3 hx1 (by have := hb12.size; have := HSZ.out; omega)
    have hroc3 := hroc.below hb3 (Nat.le_refl _)
    have hb13 : Below (w.heap.size + 1) wb w3 := hb12.trans (hb3.mono (by have := hb12.size; have := HSZ.out; omega))
    clear hx1 hroc
    go_wp2_with fail
    refine (put_yes_len cs len0 (some ⟨g, 0, none⟩) len0 w2.heap.size k m (num bs k m) w3 HCL.out hroc3 hb3.size (by omega) i1 i2 i3 i4).mono ?_
    rintro e w4 ⟨g2, ds, rfl, _, hput2, hown4, hb4⟩
    rw [Int.toNat_natCast, Int.toNat_natCast] at hput2
    obtain rfl := put_back HP.out (by rw [HL0.out]; exact hkm) hput2
    have hx3 := cell_keep hb4 hx2 (by have := hb13.size; have := HSZ.out; omega)
    have hroc4 := hroc3.below hb4 hb3.size
    have hb14 : Below (w.heap.size + 1) wb w4 := hb13.trans (hb4.mono (by have := hb13.size; have := HSZ.out; omega))
    have hrod4 := hown4.ro w4.heap.size hown4.lt
    have hrob4 := HWB.out.below hb14 (Nat.le_succ _)
    have hs4 : w2.heap.size ≤ w4.heap.size := Nat.le_trans hb3.size hb4.size
    have hcvd := conv_ro (c := len0) hrod4 HL0.out
    have hcvb := conv_ro (c := cap0) hrob4 HL0.out
    clear hput2 hown4 hx2 hroc3 hb3 hb4 hb12 hb13
    have hcase : (decide ((m : Int) < 64) = true ∧ ((m : Int) == 64) = false ∧ ∃ P : Nat, 0 < P ∧ IntKind.u64.wrap (2 ^ m) = (P : Int) ∧ ((x : Int) != (v : Int) % (P : Int)) = false) ∨ (decide ((m : Int) < 64) = false ∧ ((m : Int) == 64) = true ∧ ((x : Int) != (v : Int)) = false) := by
      by_cases h64 : m < 64
      · refine .inl ⟨decide_eq_true (by omega), by rw [beq_eq_false_iff_ne]; omega, 2 ^ m, Nat.pow_pos (by omega), ?_, ?_⟩
        · have e : ((2 : Int) ^ m) = ((2 ^ m : Nat) : Int) := by simp
          rw [e, wrap_u64_nat _ (by have := Nat.pow_le_pow_right (n := 2) (by omega) (show m ≤ 63 by omega); omega)]
        · rw [HXV.out]; simp
      · refine .inr ⟨decide_eq_false (by omega), by rw [beq_iff_eq]; omega, ?_⟩
        have e : m = 64 := by omega
        rw [HXV.out, e, Nat.mod_eq_of_lt hv]; simp
    rcases hcase with ⟨q1, q2, P, q3, q4, q5⟩ | ⟨q1, q2, q3⟩
    all_goals
      go_wp2_with fail
      go_loopw [16] (fun i wr => ∃ j : Nat, j ≤ 8 * len0 ∧ i = .int .i64 (j : Int) ∧ Below w4.heap.size w4 wr) (fun i _ => 8 * len0 - (intOf i).toNat)
      case atStart => exact ⟨0, by omega, by simp, Below.refl _ _⟩
      case round =>
        obtain ⟨j, hj, rfl, hbr⟩ := hrel
        by_cases hlt : j < 8 * len0
        · have hgb := get_yes_len ds len0 a0 cap0 w.heap.size (j : Nat) 1 wr HL0.out (hrob4.below hbr (by have := hb14.size; have := HSZ.out; omega)) (by have := hbr.size; have := hb14.size; have := HSZ.out; omega) (by omega) (by omega) (by omega) (by omega) (by omega)
          have hgc := fun w' (hb' : Below w4.heap.size w4 w') => get_yes_len cs len0 (some ⟨g, 0, none⟩) len0 w2.heap.size (j : Nat) 1 w' HCL.out (hroc4.below hb' hs4) (by have := hb'.size; omega) (by omega) (by omega) (by omega) (by omega) (by omega)
          have hout := num_out HP.out j (by rw [HL0.out]; exact hlt)
          rw [Int.toNat_natCast, show (1 : Int).toNat = 1 from rfl] at hgb hgc
          have hbx3 := fun w' (hb' : Below w4.heap.size w4 w') => cell_keep hb' hx3 (by have := hb14.size; have := HSZ.out; omega)
          have HGB := Lib.hid hgb
          have HGC := Lib.hid hgc
          have HBX3 := Lib.hid hbx3
          clear hgb hgc hbx3
          generalize num ds (j : Nat) 1 = y at *
          generalize num cs (j : Nat) 1 = z at *
          have HO := Lib.hid hout
          clear hout
          by_cases ho : j < k ∨ k + m ≤ j
          · obtain rfl : z = y := HO.out ho
            have hcond : (decide ((j : Int) < (k : Int)) || decide ((k : Int) + (m : Int) ≤ (j : Int))) = true := by
              rcases ho with h | h
              · rw [decide_eq_true (by omega)]; rfl
              · rw [decide_eq_true (show (k : Int) + (m : Int) ≤ (j : Int) by omega)]; simp
            go_wp2_with fail
            refine HGB.out.mono ?_
            rintro e w5 ⟨rfl, hb5⟩
            have hbr5 := hbr.trans (hb5.mono hbr.size)
            have hx5 := HBX3.out _ hbr5
            go_wp2_with fail
            refine (HGC.out _ hbr5).mono ?_
            rintro e w6 ⟨rfl, hb6⟩
            have hbr6 := hbr5.trans (hb6.mono hbr5.size)
            have hx6 := HBX3.out _ hbr6
            clear hx5
            go_wp2_with fail
            all_goals
              go_roundw
              case rel => exact ⟨j + 1, by omega, by go_num, hbr6⟩
              case measure => simp [intOf]; omega
          · have i5 : ¬ (j : Int) < (k : Int) := by omega
            have i6 : ¬ (k : Int) + (m : Int) ≤ (j : Int) := by omega
            go_wp2_with fail
            refine HGB.out.mono ?_
            rintro e w5 ⟨rfl, hb5⟩
            have hbr5 := hbr.trans (hb5.mono hbr.size)
            have hx5 := HBX3.out _ hbr5
            go_wp2_with fail
            refine (HGC.out _ hbr5).mono ?_
            rintro e w6 ⟨rfl, hb6⟩
            have hbr6 := hbr5.trans (hb6.mono hbr5.size)
            have hx6 := HBX3.out _ hbr6
            clear hx5
            go_wp2_with fail
            go_roundw
            case rel => exact ⟨j + 1, by omega, by go_num, hbr6⟩
            case measure => simp [intOf]; omega
        · have hbrw : Below w.heap.size w wr := (HBX.out.trans (hb14.mono (Nat.le_succ _))).trans (hbr.mono (by have := hb14.size; have := HSZ.out; omega))
          go_wp2_with fail
          refine (alive_any _).mono ?_
          rintro e w5 ⟨rfl, hb5⟩
          go_wp2_with fail
          go_ret
          exact ⟨rfl, hbrw.trans (hb5.mono hbrw.size)⟩
  · refine (HGN.out hin).mono ?_
    rintro e w1 ⟨rfl, hb1⟩
    have hs1 : w.heap.size + 1 ≤ w1.heap.size := by have := hb1.size; have := HSZ.out; omega
    have hx0 := cell_keep hb1 HC0.out (by have := HSZ.out; omega)
    go_wp2_with fail
    refine (put_no a0 len0 cap0 k n v w1 (by omega) hk0 hk1 hin).mono ?_
    rintro e w2 ⟨rfl, hb2⟩
    have hb12 := hb1.trans (hb2.mono hb1.size)
    go_wp2_with fail
    refine (alive_any _).mono ?_
    rintro e w3 ⟨rfl, hb3⟩
    go_wp2_with fail
    go_ret
    exact ⟨rfl, HBX.out.trans ((hb12.trans (hb3.mono hb12.size)).mono HBX.out.size)⟩

theorem bitsBack_row (w : World) {a0 : Option Addr} {len0 cap0 : Nat} {z0 z1 : List Int} {v : Int} (w0 : IsRow .u8 w a0 len0 cap0 z0) (hz1 : z1.length = 2) (w1 : ∀ n ∈ z1, (Lit.int .i64 n).wf = true) (w2 : (Lit.int .u64 v).wf = true) :
    Calls Try.prog 5 #[.slice a0 len0 cap0, .agg (z1.map (Value.int .i64)).toArray, .int .u64 v] w fun e w' => e = .returned (.bool true) ∧ Below w.heap.size w w' := by
  obtain ⟨bs, h0, hm0, _, hr0⟩ := w0.u8s
  obtain ⟨k, n, rfl⟩ : ∃ k n, z1 = [k, n] := by
    match z1, hz1 with
    | [k, n], _ => exact ⟨k, n, rfl⟩
  have hk := bounds_i64 (w1 k (by simp))
  have hn := bounds_i64 (w1 n (by simp))
  have hv := bounds_u64 w2
  obtain ⟨v, rfl⟩ := Int.eq_ofNat_of_zero_le hv.1
  exact bitsBack_walk a0 len0 cap0 k n v bs w h0 hr0 hk.1 hk.2 hn.1 hn.2 w0.len_le (by omega)
end Go.Proofs.Ytogkhhgcljeddaa
