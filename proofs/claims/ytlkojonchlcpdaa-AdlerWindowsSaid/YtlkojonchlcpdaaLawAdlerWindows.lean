/-
  The statement AdlerWindows: the walk of its Go text, by the contracts of what it calls.
-/
import Derived.Test.YtlkojonchlcpdaaLawAdlerOne
namespace Go.Proofs.Ytlkojonchlcpdaa
open Go.RowKit Go.Deep

theorem winL_lt (bs : List UInt8) (n : Int) (i : Nat) : (winL bs n).getD i 0 < 4294967296 := by
  by_cases h : i < winN n bs.length
  · rw [winL_getD bs n i h]; exact winS_lt _ _ _
  · have : (winL bs n).length ≤ i := by rw [winL_length]; omega
    rw [List.getD_eq_getElem?_getD, List.getElem?_eq_none this]
    simp
theorem isFind_self (l : List Nat) (x : Nat) (h : x < l.length) : ∃ i, IsFind l (l.getD x 0) i true ∧ i ≤ x ∧ l.getD i 0 = l.getD x 0 ∧ i < l.length := by
  obtain ⟨i, b, hf⟩ := isFind_some l (l.getD x 0)
  rcases hf with ⟨rfl, h1, h2, h3⟩ | ⟨rfl, rfl, h3⟩
  · refine ⟨i, .inl ⟨rfl, h1, h2, h3⟩, ?_, h2, h1⟩
    rcases Nat.lt_or_ge x i with e | e
    · exact absurd rfl (h3 x e)
    · exact e
  · exact absurd rfl (h3 x h)

set_option maxRecDepth 100000 in
set_option maxHeartbeats 4000000 in
theorem adlerWindows_walk (a0 : Option Addr) (len cap : Nat) (n : Int) (s : Nat) (bs : List UInt8) (w : World) (hlen : bs.length = len) (hcap : len ≤ cap) (hnil : a0 = none → cap = 0)
    (h0 : Ro w w.heap.size a0 (u8s bs)) (hn0 : -9223372036854775808 ≤ n) (hn1 : n ≤ 9223372036854775807) (hc1 : cap ≤ 9223372036854775807) (hs : s < 4294967296) :
    Calls Try.prog 4 #[.slice a0 len cap, .int .i64 n, .int .u32 (s : Int)] w fun e w' => e = .returned (.bool true) ∧ Below w.heap.size w w' := by
  by_cases g1 : 300 < len
  · have g1' : (300 : Int) < (len : Int) := by omega
    go_enter Try.func4, Try.ntmps4
    go_wp2_with fail
    refine (alive_any _).mono ?_
    rintro e w' ⟨rfl, hb⟩
    go_wp2_with fail
    go_ret
    exact ⟨rfl, hb⟩
  have d1 : decide ((300 : Int) < (len : Int)) = false := decide_eq_false (by omega)
  obtain ⟨i, b, hfi⟩ := isFind_some (winL bs n) s
  have HFI := Lib.hid hfi
  have HL := Lib.hid hlen
  clear hfi hlen
  have hwl : (winL bs n).length ≤ 301 := by rw [winL_length, HL.out]; have := winN_le n len; omega
  go_enter Try.func4, Try.ntmps4
  go_wp2_with fail
  refine (adWindows_any bs n len a0 cap w HL.out hcap hc1 hnil h0 (by omega)).mono ?_
  rintro e w1 ⟨v, rfl, hl1, hb1⟩
  obtain ⟨a3, c3, hv, hr3, _, _⟩ := hl1.form
  subst hv
  rw [u32s_length]
  clear hl1
  go_wp2_with fail
  refine (adFind_any bs s n len a0 cap i b w1 HL.out hcap hc1 hnil ((h0.below hb1 (Nat.le_refl _)).mono hb1.size) hs HFI.out).mono ?_
  rintro e w2 ⟨rfl, hb2⟩
  have hb02 := hb1.trans (hb2.mono hb1.size)
  have hr32 := (hr3.below hb2 (Nat.le_refl _)).mono hb2.size
  clear hb2 hr3
  go_wp2_with fail
  refine (refFind_any bs s n len a0 cap i b w2 HL.out hcap hc1 hnil ((h0.below hb02 (Nat.le_refl _)).mono hb02.size) (by omega) hs HFI.out).mono ?_
  rintro e w3 ⟨rfl, hb3⟩
  have hb03 := hb02.trans (hb3.mono hb02.size)
  have hr33 := (hr32.below hb3 (Nat.le_refl _)).mono hb3.size
  clear hb3 hb02 hr32
  go_wp2_with fail
  refine (refWindows_any bs n len a0 cap w3 HL.out hcap hc1 hnil ((h0.below hb03 (Nat.le_refl _)).mono hb03.size) (by omega)).mono ?_
  rintro e w4 ⟨v, rfl, hl4, hb4⟩
  obtain ⟨a4, c4, hv, hr4, _, _⟩ := hl4.form
  subst hv
  rw [u32s_length]
  have hb04 := hb03.trans (hb4.mono hb03.size)
  have hr34 := (hr33.below hb4 (Nat.le_refl _)).mono hb4.size
  clear hl4 hb4 hb03 hr33 hb1
  obtain ⟨m, hm⟩ : ∃ m, (winL bs n).length = m := ⟨_, rfl⟩
  rw [hm] at hwl ⊢
  have HM := Lib.hid hm
  clear hm
  go_wp2_with fail
  refine (same_yes (winL bs n) m HM.out a3 a4 c3 c4 w4.heap.size w4.heap.size w4 hr34 hr4 (by omega)).mono ?_
  rintro e X ⟨rfl, hqt⟩
  have hbX := hqt.below hb04
  have hrX : Ro X X.heap.size a3 (u32s (winL bs n)) := by rw [hqt.size]; exact hr34.qt hqt
  have HBX := Lib.hid hbX
  have HRX := Lib.hid hrX
  clear hqt hb04 hr34 hr4 hbX hrX
  cases b
  all_goals
    go_wp2_with fail
    go_loopw [12] (fun x wr => ∃ k : Nat, k ≤ m ∧ x = .int .i64 (k : Int) ∧ Below X.heap.size X wr) (fun x _ => m - (intOf x).toNat)
    case atStart => exact ⟨0, by omega, by simp, Below.refl _ _⟩
    case round =>
      obtain ⟨k, hk, rfl, hbr⟩ := hrel
      have hb0r := HBX.out.trans (hbr.mono HBX.out.size)
      by_cases hlt : k < m
      · have hlt' : (k : Int) < (m : Int) := by omega
        obtain ⟨j, hfj, hjk, hjz, hjl⟩ := isFind_self (winL bs n) k (by have := HM.out; omega)
        have hzl := winL_lt bs n k
        have hfd := adFind_any bs _ n len a0 cap j true wr HL.out hcap hc1 hnil ((h0.below hb0r (Nat.le_refl _)).mono hb0r.size) hzl hfj
        obtain ⟨b3, off3, rfl, hb3, hc3⟩ := (HRX.out.below hbr (Nat.le_refl _)).u32 (by have := HM.out; omega)
        have hcell := hc3 k (by have := HM.out; omega)
        have hcell2 := hc3 j hjl
        have hb3r : b3 < wr.heap.size := by have := hbr.size; omega
        rw [hjz] at hcell2
        have hjm : j < m := by rw [← HM.out]; exact hjl
        clear hc3 hjz hfj hzl hjl
        generalize (winL bs n).getD k 0 = z at hfd hcell hcell2
        have HFD := Lib.hid hfd
        have HBR := Lib.hid hbr
        have HB0 := Lib.hid hb0r
        clear hfd hbr hb0r
        go_wp2_with fail
        refine HFD.out.mono ?_
        rintro e w9 ⟨rfl, hb9⟩
        have hd1 := (hb9.cell (p := ⟨b3, off3 + k, none⟩) hb3r).trans hcell
        have hd2 := (hb9.cell (p := ⟨b3, off3 + j, none⟩) hb3r).trans hcell2
        have hbr9 := HBR.out.trans (hb9.mono HBR.out.size)
        have HB9 := Lib.hid hbr9
        have j0 : (0 : Int) ≤ (j : Int) := by omega
        have j1 : (j : Int) < (m : Int) := by omega
        have j2 : (0 : Int) ≤ (k : Int) := by omega
        have j3 : decide (k < j) = false := decide_eq_false (by omega)
        have j4 : decide ((k : Int) < (j : Int)) = false := decide_eq_false (by omega)
        clear hcell hcell2 hbr9 hb9
        go_wp2_with fail
        go_quiet (fail)
        go_wp2_with fail
        go_roundw
        case rel => exact ⟨k + 1, by omega, by go_num, (Qt.drewN _ _).below HB9.out⟩
        case measure => simp [intOf]; omega
      · have hlt' : ¬ (k : Int) < (m : Int) := by omega
        have HB0 := Lib.hid hb0r
        clear hb0r
        go_wp2_with fail
        refine (alive_any _).mono ?_
        rintro e w9 ⟨rfl, hb9⟩
        go_wp2_with fail
        go_ret
        exact ⟨rfl, HB0.out.trans (hb9.mono HB0.out.size)⟩

theorem adlerWindows_row (w : World) {a0 : Option Addr} {len cap : Nat} {zs : List Int} {n s : Int} (w0 : IsRow .u8 w a0 len cap zs) (w1 : (Lit.int .i64 n).wf = true) (w2 : (Lit.int .u32 s).wf = true) :
    Calls Try.prog 4 #[.slice a0 len cap, .int .i64 n, .int .u32 s] w fun e w' => e = .returned (.bool true) ∧ Below w.heap.size w w' := by
  obtain ⟨bs, h0, hm, hnil, hr⟩ := w0.u8s
  have ha := bounds_i64 w1
  have hs := bounds_u32 w2
  obtain ⟨s, rfl⟩ := Int.eq_ofNat_of_zero_le hs.1
  exact adlerWindows_walk a0 len cap n s bs w h0 hm hnil hr ha.1 ha.2 w0.cap_le (by omega)
end Go.Proofs.Ytlkojonchlcpdaa
