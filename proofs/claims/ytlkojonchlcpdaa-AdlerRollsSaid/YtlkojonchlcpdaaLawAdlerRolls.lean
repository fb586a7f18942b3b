/-
  The statement AdlerRolls: the walk of its Go text, by the contracts of what it calls.
-/
import Derived.Test.YtlkojonchlcpdaaLawAdlerOne
namespace Go.Proofs.Ytlkojonchlcpdaa
open Go.RowKit Go.Deep

theorem roll_alike (c : UInt8) (n : Nat) (h : 1 ≤ n) : rollN (sumN (List.replicate n c)) (n : Int) c.toNat c.toNat = sumN (List.replicate n c) := by
  obtain ⟨m, rfl⟩ : ∃ m, n = m + 1 := ⟨n - 1, by omega⟩
  have := rollN_sum c c (List.replicate m c) ((m + 1 : Nat) : Int) (by simp)
  rw [List.replicate_succ] at *
  rw [this, ← List.replicate_succ', List.replicate_succ]

/-- n cells, the first j of them filled -/
def fillL (n j : Nat) (y : UInt8) : List Value := u8s (List.replicate j y) ++ List.replicate (n - j) (.int .u8 0)
theorem fillL_at (n j : Nat) (y : UInt8) (h : j < n) : (fillL n j y)[j]? = some (.int .u8 0) := by
  unfold fillL
  rw [List.getElem?_append_right (by simp), u8s_length, List.length_replicate, Nat.sub_self, List.getElem?_replicate, if_pos (by omega)]
theorem fillL_set (n j : Nat) (y : UInt8) (h : j < n) : (fillL n j y).set j (.int .u8 (y.toNat : Int)) = fillL n (j + 1) y := by
  unfold fillL
  rw [List.set_append_right _ _ (by simp)]
  obtain ⟨m, hm⟩ : ∃ m, n - j = m + 1 := ⟨n - j - 1, by omega⟩
  rw [hm, show n - (j + 1) = m by omega, List.replicate_succ, List.replicate_succ']
  simp [u8s]
theorem fillL_all (n : Nat) (y : UInt8) : fillL n n y = u8s (List.replicate n y) := by simp [fillL]

set_option maxRecDepth 100000 in
set_option maxHeartbeats 4000000 in
theorem adlerRolls_walk (a0 : Option Addr) (len cap : Nat) (n : Int) (y : UInt8) (bs : List UInt8) (w : World) (hlen : bs.length = len) (hcap : len ≤ cap)
    (h0 : Ro w w.heap.size a0 (u8s bs)) (ha0 : -9223372036854775808 ≤ n) (ha1 : n ≤ 9223372036854775807) (hc0 : len ≤ 9223372036854775807) (hc1 : cap ≤ 9223372036854775807) :
    Calls Try.prog 7 #[.slice a0 len cap, .int .i64 n, .int .u8 (y.toNat : Int)] w fun e w' => e = .returned (.bool true) ∧ Below w.heap.size w w' := by
  by_cases g1 : 4000 < len
  · have g1' : (4000 : Int) < (len : Int) := by omega
    go_enter Try.func7, Try.ntmps7
    go_wp2_with fail
    refine (alive_any _).mono ?_
    rintro e w' ⟨rfl, hb⟩
    go_wp2_with fail
    go_ret
    exact ⟨rfl, hb⟩
  have d1 : decide ((4000 : Int) < (len : Int)) = false := decide_eq_false (by omega)
  by_cases g2 : n < 1
  · have d2 : decide (n < 1) = true := decide_eq_true g2
    go_enter Try.func7, Try.ntmps7
    go_wp2_with fail
    refine (alive_any _).mono ?_
    rintro e w' ⟨rfl, hb⟩
    go_wp2_with fail
    go_ret
    exact ⟨rfl, hb⟩
  obtain ⟨n, rfl⟩ := Int.eq_ofNat_of_zero_le (show 0 ≤ n by omega)
  have d2 : decide ((n : Int) < 1) = false := decide_eq_false g2
  by_cases g3 : len < n
  · have d3 : decide (len < n) = true := decide_eq_true g3
    go_enter Try.func7, Try.ntmps7
    go_wp2_with fail
    refine (alive_any _).mono ?_
    rintro e w' ⟨rfl, hb⟩
    go_wp2_with fail
    go_ret
    exact ⟨rfl, hb⟩
  have d3 : decide (len < n) = false := decide_eq_false g3
  have hnl : (n : Int) ≤ (len : Int) := by omega
  have HL := Lib.hid hlen
  have hs1 := sum_any (bs.take n) n a0 cap w (by rw [List.length_take]; omega) (by have := h0.take n; rwa [show (u8s bs).take n = u8s (bs.take n) by simp [u8s, List.map_take]] at this) (by omega)
  rw [show sumN (bs.take n) = winS bs n 0 by simp [winS]] at hs1
  have HS1 := Lib.hid hs1
  clear hs1 hlen
  go_enter Try.func7, Try.ntmps7
  go_wp2_with fail
  refine HS1.out.mono ?_
  rintro e w1 ⟨rfl, hb1⟩
  clear HS1
  go_wp2_with fail
  go_loopw [7, 8] (fun s i wr => ∃ k : Nat, k + n ≤ len ∧ i = .int .i64 ((k + n : Nat) : Int) ∧ s = .int .u32 (winS bs n k : Nat) ∧ Below w.heap.size w wr) (fun _ i _ => len - (intOf i).toNat)
  case atStart => exact ⟨0, by omega, by simp, rfl, hb1⟩
  case round =>
    obtain ⟨k, hk, rfl, rfl, hbr⟩ := hrel
    by_cases hlt : k + n < len
    · obtain ⟨b0, off, rfl, hb0, hc⟩ := (h0.below hbr (Nat.le_refl _)).u8 (by have := HL.out; omega)
      have hcell := hc k (by have := HL.out; omega)
      have hcell2 := hc (k + n) (by have := HL.out; omega)
      have hroll := winS_roll bs n k (by have := HL.out; omega)
      have hwl := winS_lt bs n k
      have hw0 : b0 < wr.heap.size := by have := hbr.size; omega
      clear hc
      generalize winS bs n k = s at hroll hwl ⊢
      generalize bs.getD k 0 = z1 at *
      generalize bs.getD (k + n) 0 = z2 at *
      have hz1 := z1.toNat_lt
      have hz2 := z2.toNat_lt
      have hrol := fun W => roll_any s (n : Int) z1.toNat z2.toNat W hwl (by omega) (by omega) (by omega) (by omega)
      rw [hroll] at hrol
      have HR := Lib.hid hrol
      have HB := Lib.hid hbr
      clear hrol hroll hbr
      have e1 : ((k + n : Nat) : Int) = (k : Int) + (n : Int) := by omega
      rw [e1]
      clear e1
      have i0 : (0 : Int) ≤ (k : Int) := by omega
      have i1 : (k : Int) < (len : Int) := by omega
      have i2 : (0 : Int) ≤ (k : Int) + (n : Int) := by omega
      have i3 : (k : Int) + (n : Int) < (len : Int) := by omega
      go_wp2_with fail
      have i4 : ((k : Int) + (n : Int)).toNat = k + n := by omega
      have i5 : IntKind.i64.wrap ((k : Int) + (n : Int) - (n : Int)) = (k : Int) := by rw [IntWalk.i64_in _ (by omega)]; omega
      have i6 : IntKind.i64.wrap (k : Int) = (k : Int) := IntWalk.i64_in _ (by omega)
      go_region_held3 (fun w' => w'.cell? ⟨b0, off + k, none⟩ = some (.int .u8 (z1.toNat : Int)) ∧ w'.cell? ⟨b0, off + (k + n), none⟩ = some (.int .u8 (z2.toNat : Int)))
        (first
          | assumption
          | exact ⟨hcell, hcell2⟩
          | (have hH := ‹World.cell? _ ⟨b0, off + k, none⟩ = _ ∧ _›; exact ⟨(hb9.cell hw0).trans hH.1, (hb9.cell hw0).trans hH.2⟩))
        ((go_at_call 16; refine (HR.out _).mono ?_; rintro e w9 ⟨rfl, hb9⟩))
      clear i4 i5 i6
      go_wp2_with fail
      go_roundw
      case rel => exact ⟨k + 1, by omega, by go_num, rfl, HB.out.drew.trans (hb9.mono HB.out.drew.size)⟩
      case measure => simp [intOf]; omega
    · have e : k = len - n := by omega
      have hfin : winS bs n k = sumN (bs.drop (len - n)) := by
        unfold winS
        rw [e, List.take_of_length_le (by rw [List.length_drop]; have := HL.out; omega)]
      have HF := Lib.hid hfin
      have HE := Lib.hid e
      clear hfin e
      generalize winS bs n k = s at HF ⊢
      have HB := Lib.hid hbr
      clear hbr
      have hmk := fun W => run_make_row' (P := Try.prog) 22 5 (.int .u8 0) 1 Try.underlying22 Try.info_u8 rfl .i64 .i64 n (by omega) (by omega) W
      have hlt' : ¬ ((k + n : Nat) : Int) < (len : Int) := by omega
      go_wp2_with fail
      clear hmk
      have hownM : Own (wr.alloc (.cells (madeCells #[.int .u8 0] n) 5)) wr.heap.size 5 (fillL n 0 y) := by
        have := Own.new wr 5 (madeCells #[.int .u8 0] n).toList
        rw [toList_madeCells_one] at this
        have e : fillL n 0 y = List.replicate n (.int .u8 0) := by simp [fillL, u8s]
        rw [e]
        have e2 : (List.replicate n (Value.int .u8 0)).toArray = madeCells #[.int .u8 0] n := by rw [← toList_madeCells_one]
        rw [e2] at this
        exact this
      rename World => wm
      go_loopw [10] (fun i wq => ∃ j : Nat, j ≤ n ∧ i = .int .i64 (j : Int) ∧ Own wq wm.heap.size 5 (fillL n j y) ∧ Below w.heap.size w wq) (fun i _ => n - (intOf i).toNat)
      case atStart => exact ⟨0, by omega, by simp, hownM, HB.out.alloc HB.out.size _⟩
      case round =>
        obtain ⟨j, hj, rfl, hoj, hbj⟩ := hrel
        by_cases hlj : j < n
        · have hcell := hoj.cell j
          have hfr := hoj.frozen j
          rw [fillL_at n j y hlj] at hcell
          have HO := Lib.hid hoj
          have HBJ := Lib.hid hbj
          clear hoj hbj
          go_wp2_with fail
          go_roundw
          case rel => exact ⟨j + 1, by omega, by go_num, by rw [← fillL_set n j y hlj]; exact HO.out.set j _, HBJ.out.setCell (p := ⟨wm.heap.size, j, none⟩) HB.out.size _⟩
          case measure => simp [intOf]; omega
        · obtain rfl : j = n := by omega
          rw [fillL_all] at hoj
          have hs2 := sum_any (List.replicate j y) j (some ⟨wm.heap.size, 0, none⟩) j wr (by simp) (hoj.ro _ hoj.lt) (by omega)
          have hra := roll_alike y j (by omega)
          generalize ht : sumN (List.replicate j y) = t at hs2 hra
          have htl : t < 4294967296 := by rw [← ht]; exact moreN_lt _ _
          have hro2 := fun W => roll_any t (j : Int) y.toNat y.toNat W htl (by omega) (by omega) y.toNat_lt y.toNat_lt
          rw [hra] at hro2
          have HS2 := Lib.hid hs2
          have HR2 := Lib.hid hro2
          have HBJ := Lib.hid hbj
          clear hs2 hra ht hro2 hoj hbj
          go_wp2_with fail
          refine HS2.out.mono ?_
          rintro e w3 ⟨rfl, hb3⟩
          have hb03 := HBJ.out.trans (hb3.mono HBJ.out.size)
          have HB3 := Lib.hid hb03
          clear hb3 hb03
          go_wp2_with fail
          refine (alive_any _).mono ?_
          rintro e w4 ⟨rfl, hb4⟩
          have hb04 := HB3.out.trans (hb4.mono HB3.out.size)
          have HB4 := Lib.hid hb04
          clear hb4 hb04
          have hq : (len : Int) - (j : Int) = (k : Int) := by have := HE.out; omega
          have hkl : k ≤ len := by omega
          have hkc : ¬ cap = k := by have := HE.out; omega
          clear hlt'
          have hdr := (h0.below HB4.out (Nat.le_refl _)).drop k cap (by rw [u8s_length, HL.out]; exact hcap)
          rw [if_neg hkc, show (u8s bs).drop k = u8s (bs.drop k) by simp [u8s, List.map_drop]] at hdr
          have hs3 := sum_any (bs.drop k) (len - k) (a0.map fun x => x.add k) (cap - k) w4 (by rw [List.length_drop, HL.out]) (hdr.mono HB4.out.size) (by omega)
          have hfin : s = sumN (bs.drop k) := by have h := HF.out; rw [← HE.out] at h; exact h
          rw [← hfin] at hs3
          have HS3 := Lib.hid hs3
          clear hs3 hdr hfin
          go_wp2_with fail
          refine HS3.out.mono ?_
          rintro e w5 ⟨rfl, hb5⟩
          have hb05 := HB4.out.trans (hb5.mono HB4.out.size)
          have HB5 := Lib.hid hb05
          clear hb5 hb05
          go_wp2_with fail
          refine (HR2.out _).mono ?_
          rintro e w6 ⟨rfl, hb6⟩
          have hb06 := HB5.out.trans (hb6.mono HB5.out.size)
          have HB6 := Lib.hid hb06
          clear hb6 hb06
          go_wp2_with fail
          go_ret
          exact ⟨rfl, HB6.out⟩

theorem adlerRolls_row (w : World) {a0 : Option Addr} {len cap : Nat} {n y : Int} {zs : List Int} (w0 : IsRow .u8 w a0 len cap zs) (w1 : (Lit.int .i64 n).wf = true) (w2 : (Lit.int .u8 y).wf = true) :
    Calls Try.prog 7 #[.slice a0 len cap, .int .i64 n, .int .u8 y] w fun e w' => e = .returned (.bool true) ∧ Below w.heap.size w w' := by
  obtain ⟨bs, h0, hm, _, hr⟩ := w0.u8s
  have ha := bounds_i64 w1
  have hy := bounds_u8 w2
  have e : y = ((UInt8.ofNat y.toNat).toNat : Int) := by
    rw [show (UInt8.ofNat y.toNat).toNat = y.toNat by simp; omega]
    omega
  rw [e]
  exact adlerRolls_walk a0 len cap n (UInt8.ofNat y.toNat) bs w h0 hm hr ha.1 ha.2 w0.len_le w0.cap_le
end Go.Proofs.Ytlkojonchlcpdaa
