/-
  The statement AdlerFinds: the walk of its Go text, by the contracts of what it calls.
-/
import Derived.Test.YtlkojonchlcpdaaLawAdlerWindows
namespace Go.Proofs.Ytlkojonchlcpdaa
open Go.RowKit Go.Deep

/-- where the slice from k on lies -/
def offA (a : Option Addr) (cap k : Nat) : Option Addr := if cap = k then a else a.map fun x => x.add k
theorem slice_sum (bs : List UInt8) (a : Option Addr) (cap B n k : Nat) (W : World) (hcap : bs.length ≤ cap) (h : Ro W B a (u8s bs)) (hB : B ≤ W.heap.size) (hk : k + n ≤ bs.length) (hl : bs.length ≤ 1000000) :
    Calls Try.prog 10 #[.slice (offA a cap k) n (cap - k)] W fun e w' => e = .returned (.int .u32 (winS bs n k : Nat)) ∧ Below W.heap.size W w' := by
  have hr := ((h.drop k cap (by rw [u8s_length]; exact hcap)).take n).mono hB
  rw [show ((u8s bs).drop k).take n = u8s ((bs.drop k).take n) by simp [u8s, List.map_take, List.map_drop]] at hr
  exact sum_any ((bs.drop k).take n) n (offA a cap k) (cap - k) W (by rw [List.length_take, List.length_drop]; omega) hr (by omega)

set_option maxRecDepth 100000 in
set_option maxHeartbeats 8000000 in
theorem adlerFinds_walk (a0 : Option Addr) (len cap : Nat) (p q : Int) (s : Nat) (bs : List UInt8) (w : World) (hlen : bs.length = len) (hcap : len ≤ cap) (hnil : a0 = none → cap = 0)
    (h0 : Ro w w.heap.size a0 (u8s bs)) (hp0 : -9223372036854775808 ≤ p) (hp1 : p ≤ 9223372036854775807) (hq0 : -9223372036854775808 ≤ q) (hq1 : q ≤ 9223372036854775807) (hc1 : cap ≤ 9223372036854775807) (hs : s < 4294967296) :
    Calls Try.prog 8 #[.slice a0 len cap, .agg #[.int .i64 p, .int .i64 q], .int .u32 (s : Int)] w fun e w' => e = .returned (.bool true) ∧ Below w.heap.size w w' := by
  have hbx0 : Below w.heap.size w (w.alloc (.cells #[.int .i64 p, .int .i64 q] 40)) := (Below.refl _ _).alloc (Nat.le_refl _) _
  have HBX := Lib.hid hbx0
  clear hbx0
  by_cases hok : len ≤ 300 ∧ 0 ≤ p ∧ 0 ≤ q ∧ p ≤ len ∧ q ≤ len - p
  case neg =>
    by_cases g1 : 300 < len
    case' pos => have d1 : decide ((300 : Int) < (len : Int)) = true := decide_eq_true (by omega)
    case' neg =>
      have d1 : decide ((300 : Int) < (len : Int)) = false := decide_eq_false (by omega)
      by_cases g2 : p < 0
      case' pos => have d2 : decide (p < 0) = true := decide_eq_true g2
      case' neg =>
        have d2 : decide (p < 0) = false := decide_eq_false g2
        by_cases g3 : q < 0
        case' pos => have d3 : decide (q < 0) = true := decide_eq_true g3
        case' neg =>
          have d3 : decide (q < 0) = false := decide_eq_false g3
          by_cases g4 : (len : Int) < p
          case' pos => have d4 : decide ((len : Int) < p) = true := decide_eq_true g4
          case' neg =>
            have d4 : decide ((len : Int) < p) = false := decide_eq_false g4
            have d5 : decide ((len : Int) - p < q) = true := decide_eq_true (by omega)
    all_goals
      go_enter Try.func8, Try.ntmps8
      go_wp2_with fail
      refine (alive_any _).mono ?_
      rintro e w' ⟨rfl, hb⟩
      go_wp2_with fail
      go_ret
      exact ⟨rfl, HBX.out.trans (hb.mono (by simp))⟩
  case pos =>
    obtain ⟨g1, g2, g3, g4, g5⟩ := hok
    obtain ⟨p, rfl⟩ := Int.eq_ofNat_of_zero_le g2
    obtain ⟨q, rfl⟩ := Int.eq_ofNat_of_zero_le g3
    have d1 : decide ((300 : Int) < (len : Int)) = false := decide_eq_false (by omega)
    have d2 : decide ((p : Int) < 0) = false := decide_eq_false (by omega)
    have d3 : decide ((q : Int) < 0) = false := decide_eq_false (by omega)
    have d4 : decide (len < p) = false := decide_eq_false (by omega)
    have d5 : decide ((len : Int) - (p : Int) < (q : Int)) = false := decide_eq_false (by omega)
    have hpq : p + q ≤ len := by omega
    have HL := Lib.hid hlen
    have hsum : ∀ (W : World) (k : Nat), Below w.heap.size w W → k + q ≤ len → Calls Try.prog 10 #[.slice (offA a0 cap k) q (cap - k)] W fun e w' => e = .returned (.int .u32 (winS bs q k : Nat)) ∧ Below W.heap.size W w' := fun W k hW hk =>
      slice_sum bs a0 cap w.heap.size q k W (by rw [HL.out]; exact hcap) (h0.below hW (Nat.le_refl _)) hW.size (by rw [HL.out]; exact hk) (by rw [HL.out]; omega)
    have hN : winN (q : Int) bs.length = len - q + 1 := by unfold winN; rw [HL.out, if_pos (by omega)]; simp
    obtain ⟨k, hfk, hkp, hkz, hkl⟩ := isFind_self (winL bs q) p (by rw [winL_length, hN]; omega)
    rw [winL_length, hN] at hkl
    rw [winL_getD bs q p (by rw [hN]; omega)] at hfk hkz
    rw [winL_getD bs q k (by rw [hN]; omega)] at hkz
    rw [Int.toNat_natCast] at hfk hkz
    have hsp : ∀ (A1 : Option Addr) (L1 C1 : Nat) (W : World), A1 = offA a0 cap p → L1 = q → C1 = cap - p → Below w.heap.size w W → Calls Try.prog 10 #[.slice A1 L1 C1] W fun e w' => e = .returned (.int .u32 (winS bs q p : Nat)) ∧ Below W.heap.size W w' := by
      rintro A1 L1 C1 W rfl rfl rfl hW
      exact hsum W p hW (by omega)
    have hsk : ∀ (A1 : Option Addr) (L1 C1 : Nat) (W : World), A1 = offA a0 cap k → L1 = q → C1 = cap - k → Below w.heap.size w W → Calls Try.prog 10 #[.slice A1 L1 C1] W fun e w' => e = .returned (.int .u32 (winS bs q k : Nat)) ∧ Below W.heap.size W w' := by
      rintro A1 L1 C1 W rfl rfl rfl hW
      exact hsum W k hW (by omega)
    rw [hkz] at hsk
    have hzl := winS_lt bs q p
    have hfd := fun W (hW : Below w.heap.size w W) => adFind_any bs (winS bs q p) q len a0 cap k true W HL.out hcap hc1 hnil ((h0.below hW (Nat.le_refl _)).mono hW.size) hzl hfk
    generalize winS bs q p = z at hsp hsk hfd
    obtain ⟨i, b, hfi⟩ := isFind_some (winL bs q) s
    have hfd2 := fun W (hW : Below w.heap.size w W) => adFind_any bs s q len a0 cap i b W HL.out hcap hc1 hnil ((h0.below hW (Nat.le_refl _)).mono hW.size) hs hfi
    have hwin := fun W (hW : Below w.heap.size w W) => adWindows_any bs q len a0 cap W HL.out hcap hc1 hnil ((h0.below hW (Nat.le_refl _)).mono hW.size) (by omega)
    have hti : b = true → i + q ≤ len ∧ ∀ (A1 : Option Addr) (L1 C1 : Nat) (W : World), A1 = offA a0 cap i → L1 = q → C1 = cap - i → Below w.heap.size w W → Calls Try.prog 10 #[.slice A1 L1 C1] W fun e w' => e = .returned (.int .u32 (s : Nat)) ∧ Below W.heap.size W w' := by
      intro hb
      rcases hfi with ⟨_, h1, h2, _⟩ | ⟨h1, _⟩
      · rw [winL_length, hN] at h1
        rw [winL_getD bs q i (by rw [hN]; omega), Int.toNat_natCast] at h2
        refine ⟨by omega, ?_⟩
        rintro A1 L1 C1 W rfl rfl rfl hW
        have := hsum W i hW (by omega)
        rwa [h2] at this
      · rw [hb] at h1; cases h1
    have htf : b = false → i = 0 ∧ ∀ j, j < len - q + 1 → (winL bs q).getD j 0 ≠ s := by
      intro hb
      rcases hfi with ⟨h1, _⟩ | ⟨_, h1, h2⟩
      · rw [hb] at h1; cases h1
      · exact ⟨h1, fun j hj => h2 j (by rw [winL_length, hN]; exact hj)⟩
    have HFI := Lib.hid hfi
    have HFD2 := Lib.hid hfd2
    have HWIN := Lib.hid hwin
    have HTI := Lib.hid hti
    have HTF := Lib.hid htf
    clear hfi hfd2 hwin hti htf
    have HSUM := Lib.hid hsum
    have HN := Lib.hid hN
    have HFD := Lib.hid hfd
    have HSP := Lib.hid hsp
    have HSK := Lib.hid hsk
    clear hlen hsum hN hfk hkz hzl hfd hsp hsk
    have e1 : (p : Int) ≤ (p : Int) + (q : Int) := by omega
    have e2 : (p : Int) + (q : Int) ≤ (cap : Int) := by omega
    have e3 : ((p : Int) + (q : Int) - (p : Int)) = (q : Int) := by omega
    obtain ⟨tp, htp, htq⟩ : ∃ t : Prop, (cap = p) = t ∧ (offA a0 cap p = if cap = p then a0 else a0.map fun x => x.add p) := ⟨_, rfl, rfl⟩
    have hcases : ∀ j : Nat, ((cap = j) = True ∧ offA a0 cap j = a0) ∨ ((cap = j) = False ∧ offA a0 cap j = a0.map fun x => x.add j) := by
      intro j
      by_cases h : cap = j
      · exact .inl ⟨by simp [h], by simp [offA, h]⟩
      · exact .inr ⟨by simp [h], by simp [offA, h]⟩
    clear htp htq tp
    rcases hcases p with ⟨hcp, hop⟩ | ⟨hcp, hop⟩
    all_goals
      rcases hcases k with ⟨hck, hok⟩ | ⟨hck, hok⟩
      all_goals
        have HOP := Lib.hid hop
        have HOK := Lib.hid hok
        have HKP := Lib.hid hkp
        have HCK := Lib.hid hck
        clear hop hok hck
        go_enter Try.func8, Try.ntmps8
        go_wp2_with fail
        refine (HSP.out _ _ _ _ HOP.out.symm (by omega) (by simp only [eq_iff_iff, iff_true, iff_false] at hcp; omega) HBX.out).mono ?_
        rintro e w1 ⟨rfl, hb1⟩
        have hb01 := HBX.out.trans (hb1.mono (by simp))
        have hx0 : w1.cell? ⟨w.heap.size, 0, none⟩ = some (.int .i64 (p : Int)) := (hb1.cell (by simp)).trans (by go_simp)
        have hsz1 : w.heap.size < w1.heap.size := by have := hb1.size; simp at this; omega
        have HB1 := Lib.hid hb01
        clear hb1 hb01
        go_wp2_with fail
        refine (HFD.out _ HB1.out).mono ?_
        rintro e X ⟨rfl, hb2⟩
        have hb02 := HB1.out.trans (hb2.mono HB1.out.size)
        have hx1 := (hb2.cell (p := ⟨w.heap.size, 0, none⟩) hsz1).trans hx0
        have hszX : w.heap.size < X.heap.size := by have := hb2.size; omega
        have HB2 := Lib.hid hb02
        clear hb2 hb02 hx0
        go_wp2_with fail
        have f1 : decide (p < k) = false := decide_eq_false (by have := HKP.out; omega)
        have f2 : decide ((p : Int) < (k : Int)) = false := decide_eq_false (by have := HKP.out; omega)
        have f3 : (0 : Int) ≤ (k : Int) := by omega
        have f4 : (k : Int) ≤ (k : Int) + (q : Int) := by omega
        have f5 : (k : Int) + (q : Int) ≤ (cap : Int) := by have := HKP.out; omega
        have f6 : IntKind.i64.wrap ((k : Int) + (q : Int)) = (k : Int) + (q : Int) := IntWalk.i64_in _ (by omega)
        have f7 : (0 : Int) ≤ (k : Int) + (q : Int) := by omega
        have f8 : ((k : Int) + (q : Int)).toNat = k + q := by omega
        have f9 : IntKind.i64.wrap ((p : Int) + (q : Int)) = (p : Int) + (q : Int) := IntWalk.i64_in _ (by omega)
        have f10 : (0 : Int) ≤ (p : Int) + (q : Int) := by omega
        have f11 : ((p : Int) + (q : Int)).toNat = p + q := by omega
        have f12 : (0 : Int) ≤ (p : Int) := by omega
        have hck := HCK.out
        go_region_held3 (fun w' => w'.cell? ⟨w.heap.size, 0, none⟩ = some (.int .i64 (p : Int)) ∧ Below X.heap.size X w')
          (first
            | assumption
            | exact ⟨hx1, (Below.refl _ _).drew⟩
            | (have hH := ‹World.cell? _ ⟨w.heap.size, 0, none⟩ = _ ∧ _›; exact ⟨(hb9.cell (Nat.lt_of_lt_of_le hszX hH.2.size)).trans hH.1, hH.2.trans (hb9.mono hH.2.size)⟩))
          (first
            | (go_at_call 10; have hH := ‹World.cell? _ ⟨w.heap.size, 0, none⟩ = _ ∧ _›; (with_reducible refine (HSK.out _ _ _ _ HOK.out.symm rfl rfl (HB2.out.trans (hH.2.mono HB2.out.size))).mono ?_); clear hH; rintro e w9 ⟨rfl, hb9⟩)
            | (go_at_call 10; have hH := ‹World.cell? _ ⟨w.heap.size, 0, none⟩ = _ ∧ _›; (with_reducible refine (HSP.out _ _ _ _ HOP.out.symm rfl rfl (HB2.out.trans (hH.2.mono HB2.out.size))).mono ?_); clear hH; rintro e w9 ⟨rfl, hb9⟩))
        have hH := ‹World.cell? w9 ⟨w.heap.size, 0, none⟩ = _ ∧ _›
        have hb9X := HB2.out.trans (hH.2.mono HB2.out.size)
        have HB9 := Lib.hid hb9X
        clear hH hb9X hb9 hx1 f1 f2 f3 f4 f5 f6 f7 f8 f9 f10 f11 f12 hck
        go_wp2_with fail
        refine (HFD2.out _ HB9.out).mono ?_
        rintro e w10 ⟨rfl, hb10⟩
        have hb010 := HB9.out.trans (hb10.mono HB9.out.size)
        have HB10 := Lib.hid hb010
        clear hb10 hb010
        cases b
        case' false =>
          obtain ⟨hi0, hne⟩ := HTF.out rfl
          subst hi0
          have HNE := Lib.hid hne
          clear hne
          go_wp2_with fail
          refine (HWIN.out _ HB10.out).mono ?_
          rintro e w11 ⟨v, rfl, hl11, hb11⟩
          obtain ⟨a3, c3, hv, hr3, _, _⟩ := hl11.form
          subst hv
          rw [u32s_length, winL_length, HN.out]
          have hb011 := HB10.out.trans (hb11.mono HB10.out.size)
          have HB11 := Lib.hid hb011
          have HR3 := Lib.hid hr3
          clear hb11 hb011 hl11 hr3
          obtain ⟨m, hm, hm2⟩ : ∃ m, len - q + 1 = m ∧ (len : Int) - (q : Int) + 1 = (m : Int) := ⟨_, rfl, by omega⟩
          rw [hm]
          have HM := Lib.hid hm
          have hm5 : m ≤ 301 := by omega
          clear hm
          go_wp2_with fail
          go_loop [13] (fun x => ∃ j : Nat, j ≤ m ∧ x = .int .i64 (j : Int)) (fun x => m - (intOf x).toNat)
          case atStart => exact ⟨0, by omega, by simp⟩
          case round =>
            obtain ⟨j, hj, rfl⟩ := hrel
            by_cases hlt : j < m
            · have hlt' : (j : Int) < (m : Int) := by omega
              have hLm : (winL bs (q : Int)).length = m := by rw [winL_length, HN.out, HM.out]
              obtain ⟨b3, off3, rfl, hb3, hc3⟩ := HR3.out.u32 (by rw [hLm]; omega)
              have hcell := hc3 j (by rw [hLm]; exact hlt)
              have hnej := HNE.out j (by rw [HM.out]; exact hlt)
              clear hc3 hLm
              generalize (winL bs (q : Int)).getD j 0 = y at hcell hnej
              have hne2 : ((y : Int) == (s : Int)) = false := by rw [beq_eq_false_iff_ne]; omega
              clear hnej hm2
              go_wp2_with fail
              go_round
              case rel => exact ⟨j + 1, by omega, by go_num⟩
              case measure => simp [intOf]; omega
            · have hlt' : ¬ (j : Int) < (m : Int) := by omega
              obtain rfl : j = m := by omega
              go_wp2_with fail
              refine (alive_any _).mono ?_
              rintro e w12 ⟨rfl, hb12⟩
              have hb012 := HB11.out.trans (hb12.mono HB11.out.size)
              have HB12 := Lib.hid hb012
              clear hb12 hb012
              have hm3 : ((j : Int) == (len : Int) - (q : Int) + 1) = true := by rw [beq_iff_eq]; omega
              have hm4 : ((j : Int) == (j : Int)) = true := by rw [beq_iff_eq]
              go_wp2_with fail
              go_ret
              exact ⟨rfl, HB12.out⟩
        case' true =>
          obtain ⟨hi1, hsi⟩ := HTI.out rfl
          have HSI := Lib.hid hsi
          clear hsi
          have i1 : (i : Int) ≤ (i : Int) + (q : Int) := by omega
          have i2 : (i : Int) + (q : Int) ≤ (cap : Int) := by omega
          have i3 : ((i : Int) + (q : Int) - (i : Int)) = (q : Int) := by omega
          rcases hcases i with ⟨hci, hoi⟩ | ⟨hci, hoi⟩
          all_goals
            have HOI := Lib.hid hoi
            clear hoi
            go_wp2_with fail
            refine (alive_any _).mono ?_
            rintro e w11 ⟨rfl, hb11⟩
            have hb011 := HB10.out.trans (hb11.mono HB10.out.size)
            have HB11 := Lib.hid hb011
            clear hb11 hb011
            go_wp2_with fail
            refine (HSI.out _ _ _ _ HOI.out.symm (by omega) (by simp only [eq_iff_iff, iff_true, iff_false] at hci; omega) HB11.out).mono ?_
            rintro e w12 ⟨rfl, hb12⟩
            have hb012 := HB11.out.trans (hb12.mono HB11.out.size)
            have HB12 := Lib.hid hb012
            clear hb12 hb012
            go_wp2_with fail
            go_ret
            exact ⟨rfl, HB12.out⟩

theorem adlerFinds_row (w : World) {a0 : Option Addr} {len cap : Nat} {zs z1 : List Int} {s : Int} (w0 : IsRow .u8 w a0 len cap zs) (hz1 : z1.length = 2) (w1 : ∀ n ∈ z1, (Lit.int .i64 n).wf = true) (w2 : (Lit.int .u32 s).wf = true) :
    Calls Try.prog 8 #[.slice a0 len cap, .agg (z1.map (Value.int .i64)).toArray, .int .u32 s] w fun e w' => e = .returned (.bool true) ∧ Below w.heap.size w w' := by
  obtain ⟨bs, h0, hm, hnil, hr⟩ := w0.u8s
  obtain ⟨p, q, rfl⟩ : ∃ p q, z1 = [p, q] := by
    match z1, hz1 with
    | [p, q], _ => exact ⟨p, q, rfl⟩
  have hp := bounds_i64 (w1 p (by simp))
  have hq := bounds_i64 (w1 q (by simp))
  have hs := bounds_u32 w2
  obtain ⟨s, rfl⟩ := Int.eq_ofNat_of_zero_le hs.1
  exact adlerFinds_walk a0 len cap p q s bs w h0 hm hnil hr hp.1 hp.2 hq.1 hq.2 w0.cap_le (by omega)
end Go.Proofs.Ytlkojonchlcpdaa
