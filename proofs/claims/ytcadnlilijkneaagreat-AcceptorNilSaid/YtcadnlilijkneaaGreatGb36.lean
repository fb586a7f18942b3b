/-
  Sorting of uint64: the partitions. No claim of their own.
-/
import Derived.Test.YtcadnlilijkneaaGreatGb35
import Derived.Deep.CutBlock
import Derived.Deep.CutRange
namespace Go.Proofs.YtcadnlilijkneaaGreat
open Go.RowKit Go.Sort
set_option linter.unusedVariables false
set_option linter.unusedSimpArgs false

set_option maxHeartbeats 4000000 in
set_option maxRecDepth 100000 in
theorem partEq_any (w : World) (g N c a b p : Nat) (d : Array Int) (z : List Value) (h : Uw w g d z) (hN : d.size = N) (hap : a ≤ p) (hpb : p < b) (hb : b ≤ N) (hsz : N < 1000000000) :
    Calls Tryz.prog 284 #[.slice (some ⟨g, 0, none⟩) N c, .int .i64 (a : Int), .int .i64 (b : Int), .int .i64 (p : Int)] w fun e w' => e = .returned (.int .i64 ((partitionEqual ltInt d a b p).1 : Nat)) ∧ Hid (Sd w g (partitionEqual ltInt d a b p).2 z w') := by
  have HS0 := Lib.hid (Sd.refl h)
  clear h
  obtain ⟨m, hm⟩ : ∃ m, b = m + 1 := ⟨b - 1, by omega⟩
  have em : IntKind.i64.wrap ((b : Int) - 1) = (m : Int) := wrapN (by omega) (by omega)
  have HT := Lib.hid (show partitionEqual ltInt d a b p = partEqLoop ltInt a (a + 1) m (swp d a p) by rw [partitionEqual, show b - 1 = m by omega])
  rw [HT.out]
  have has : (a : Int) < 1000000000 := by omega
  have q0 := HS0.out.1.cell a (by omega)
  have q1 := HS0.out.1.cell p (by omega)
  have f0 := Own.frozen HS0.out.1 a
  have f1 := Own.frozen HS0.out.1 p
  have hgl := Own.lt HS0.out.1
  obtain ⟨xa, hxa⟩ : ∃ x, Hid (d[a]! = x) := ⟨_, Lib.hid rfl⟩
  obtain ⟨xp, hxp⟩ : ∃ x, Hid (d[p]! = x) := ⟨_, Lib.hid rfl⟩
  rw [hxa.out] at q0
  rw [hxp.out] at q1
  have n0 : (0 : Int) ≤ (a : Int) := by omega
  have n1 : (0 : Int) ≤ (p : Int) := by omega
  have b0 : (a : Int) < (N : Int) := by omega
  have b1 : (p : Int) < (N : Int) := by omega
  obtain ⟨v3, hy3⟩ := cell?_setCell_some (w := w) (p := ⟨g, a, none⟩) (x := .int .u64 xp) (q := ⟨g, p, none⟩) q1
  have HA := Lib.hid (show a ≤ m ∧ m < N by omega)
  have hml : m < N := by omega
  have haN : a < N := by omega
  have HPP := Lib.hid (show p < N by omega)
  clear HT hm hap hpb hb
  go_enter Tryz.func284, Tryz.ntmps284
  go_wp2_with fail
  go_region
  go_wp2_with fail
  go_loopw [9, 10] (fun vi vj wr => ∃ (i j : Nat) (dk : Array Int), vi = .int .i64 i ∧ vj = .int .i64 j ∧ a < i ∧ i ≤ j + 1 ∧ j < N ∧ dk.size = N ∧ Hid (Sd w g dk z wr) ∧ Hid (partEqLoop ltInt a i j dk = partEqLoop ltInt a (a + 1) m (swp d a p))) (fun vi vj _ => (intOf vj).toNat + 1 - (intOf vi).toNat)
  case atStart => exact ⟨a + 1, m, swp d a p, by go_num, rfl, by omega, by have := HA.out; omega, hml, by rw [size_swp2]; exact hN, Lib.hid ((HS0.out.qt ⟨_, rfl⟩).swap a p (by omega) (by have := HPP.out; omega) hxa.out hxp.out), Lib.hid rfl⟩
  case round =>
    clear q0 q1 f0 f1 hgl n0 n1 b0 b1 hy3 hxa hxp
    obtain ⟨i, j, dk, rfl, rfl, hai, hij, hjN, hsk, HW, HE⟩ := hrel
    obtain ⟨y, hy⟩ : ∃ y, Hid (dk[a]! = y) := ⟨_, Lib.hid rfl⟩
    go_wp2_with fail
    go_loopw [9] (fun v wr => ∃ (i1 : Nat), v = .int .i64 i1 ∧ i ≤ i1 ∧ i1 ≤ j + 1 ∧ Hid (Sd w g dk z wr) ∧ Hid (scanUp (fun x => !ltInt dk[a]! x) dk j i1 = scanUp (fun x => !ltInt dk[a]! x) dk j i)) (fun v _ => j + 1 - (intOf v).toNat)
    case atStart => exact ⟨i, rfl, Nat.le_refl _, hij, HW, Lib.hid rfl⟩
    case round =>
      obtain ⟨i1, rfl, hii, hij1, HSu, HSC⟩ := hrel
      obtain ⟨x, hx⟩ : ∃ x, Hid (dk[i1]! = x) := ⟨_, Lib.hid rfl⟩
      obtain ⟨B, hB⟩ : ∃ B : Bool, Hid ((decide (i1 ≤ j) && (!ltInt y x)) = B) := ⟨_, Lib.hid rfl⟩
      go_upto_region 3 with fail
      go_cut [43] from 29 to 45 (fun v wx => v = .bool B ∧ Hid (Sd w g dk z wx))
      case first =>
        by_cases hg : i1 ≤ j
        · have hd : decide (i1 ≤ j) = true := decide_eq_true hg
          have q0 := HSu.out.1.cell i1 (by omega)
          rw [hx.out] at q0
          have q1 := HSu.out.1.cell a (by omega)
          rw [hy.out] at q1
          have n0 : (0 : Int) ≤ (i1 : Int) := by omega
          have n1 : (0 : Int) ≤ (a : Int) := by omega
          have b0 : (i1 : Int) < (N : Int) := by omega
          have b1 : (a : Int) < (N : Int) := by omega
          have hB2 := Lib.hid (show (!ltInt y x) = B by rw [← hB.out, hd]; rfl)
          clear hg
          go_wp2_with fail
          go_quiet ((go_at_call 283; exact Calls.quiet_of_same (Less_any _ _ _)))
          go_wp2_with fail
          go_meet
          case rel => exact ⟨by rw [← hB2.out], Lib.hid (HSu.out.drewN _)⟩
        · have hd : decide (i1 ≤ j) = false := decide_eq_false hg
          have hB2 := Lib.hid (show false = B by rw [← hB.out, hd]; rfl)
          clear hg
          go_wp2_with fail
          go_quiet ((go_at_call 283; exact Calls.quiet_of_same (Less_any _ _ _)))
          go_wp2_with fail
          go_meet
          case rel => exact ⟨by rw [← hB2.out], Lib.hid (HSu.out.drewN _)⟩
      case rest =>
        clear HSu
        obtain ⟨rfl, HSu⟩ := hcut
        cases B with
        | true =>
          have hb := hB.out
          rw [Bool.and_eq_true, decide_eq_true_eq] at hb
          have HR := Lib.hid ((scanUp_go (fun x => !ltInt dk[a]! x) dk j i1 hb.1 (by rw [hx.out, hy.out]; exact hb.2)).symm.trans HSC.out)
          have his : (i1 : Int) < 1000000000 := by omega
          have HB := Lib.hid hb.1
          clear hb
          go_wp2_with fail
          go_roundw
          case rel => exact ⟨i1 + 1, by go_num, by omega, by have := HB.out; omega, HSu, HR⟩
          case measure => have := HB.out; simp [intOf]; omega
        | false =>
          have HI2 := Lib.hid (show i1 = scanUp (fun x => !ltInt dk[a]! x) dk j i from (scanUp_end (fun x => !ltInt dk[a]! x) dk j i1 (by
            rcases Nat.lt_or_ge j i1 with h | h
            · exact .inl (by omega)
            · refine .inr ?_
              have hb := hB.out
              rw [decide_eq_true h, hx.out.symm, hy.out.symm, Bool.true_and] at hb
              exact hb)).symm.trans HSC.out)
          have HS2 := HSu
          clear HSC hB hx HSu
          clear x
          go_wp2_with fail
          go_loopw [10] (fun v wr => ∃ (j1 : Nat), v = .int .i64 j1 ∧ j1 ≤ j ∧ i1 ≤ j1 + 1 ∧ Hid (Sd w g dk z wr) ∧ Hid (scanDown (fun x => ltInt dk[a]! x) dk i1 j1 = scanDown (fun x => ltInt dk[a]! x) dk i1 j)) (fun v _ => (intOf v).toNat)
          case atStart => exact ⟨j, rfl, Nat.le_refl _, hij1, HS2, Lib.hid rfl⟩
          case round =>
            obtain ⟨j1, rfl, hjj, hij2, HSu, HSC⟩ := hrel
            obtain ⟨x, hx⟩ : ∃ x, Hid (dk[j1]! = x) := ⟨_, Lib.hid rfl⟩
            obtain ⟨B, hB⟩ : ∃ B : Bool, Hid ((decide (i1 ≤ j1) && (ltInt y x)) = B) := ⟨_, Lib.hid rfl⟩
            go_upto_region 5 with fail
            go_cut [59] from 46 to 61 (fun v wx => v = .bool B ∧ Hid (Sd w g dk z wx))
            case first =>
              by_cases hg : i1 ≤ j1
              · have hd : decide (i1 ≤ j1) = true := decide_eq_true hg
                have q0 := HSu.out.1.cell j1 (by omega)
                rw [hx.out] at q0
                have q1 := HSu.out.1.cell a (by omega)
                rw [hy.out] at q1
                have n0 : (0 : Int) ≤ (j1 : Int) := by omega
                have n1 : (0 : Int) ≤ (a : Int) := by omega
                have b0 : (j1 : Int) < (N : Int) := by omega
                have b1 : (a : Int) < (N : Int) := by omega
                have hB2 := Lib.hid (show (ltInt y x) = B by rw [← hB.out, hd]; rfl)
                clear hg
                go_wp2_with fail
                go_quiet ((go_at_call 283; exact Calls.quiet_of_same (Less_any _ _ _)))
                go_wp2_with fail
                go_meet
                case rel => exact ⟨by rw [← hB2.out], Lib.hid (HSu.out.drewN _)⟩
              · have hd : decide (i1 ≤ j1) = false := decide_eq_false hg
                have hB2 := Lib.hid (show false = B by rw [← hB.out, hd]; rfl)
                clear hg
                go_wp2_with fail
                go_quiet ((go_at_call 283; exact Calls.quiet_of_same (Less_any _ _ _)))
                go_wp2_with fail
                go_meet
                case rel => exact ⟨by rw [← hB2.out], Lib.hid (HSu.out.drewN _)⟩
            case rest =>
              clear HSu
              obtain ⟨rfl, HSu⟩ := hcut
              cases B with
              | true =>
                have hb := hB.out
                rw [Bool.and_eq_true, decide_eq_true_eq] at hb
                have hj0 : 0 < j1 := by omega
                have HR := Lib.hid ((scanDown_go (fun x => ltInt dk[a]! x) dk i1 j1 hb.1 hj0 (by rw [hx.out, hy.out]; exact hb.2)).symm.trans HSC.out)
                obtain ⟨k, hk⟩ : ∃ k, j1 = k + 1 := ⟨j1 - 1, by omega⟩
                rw [show j1 - 1 = k by omega] at HR
                have ek : IntKind.i64.wrap ((j1 : Int) - 1) = (k : Int) := wrapN (by omega) (by omega)
                have HB := Lib.hid (And.intro hb.1 hk)
                clear hb hk hj0
                go_wp2_with fail
                go_roundw
                case rel => exact ⟨k, rfl, by have := HB.out; omega, by have := HB.out; omega, HSu, HR⟩
                case measure => have := HB.out; simp [intOf]; omega
              | false =>
                have HJ2 := Lib.hid (show j1 = scanDown (fun x => ltInt dk[a]! x) dk i1 j from (scanDown_end (fun x => ltInt dk[a]! x) dk i1 j1 (by
                  rcases Nat.lt_or_ge j1 i1 with h | h
                  · exact .inl (by omega)
                  · refine .inr ?_
                    have hb := hB.out
                    rw [decide_eq_true h, hx.out.symm, hy.out.symm, Bool.true_and] at hb
                    exact hb)).symm.trans HSC.out)
                have HS3 := HSu
                clear HSC hB hx HSu HS2
                clear x
                by_cases hle : i1 ≤ j1
                · have hd : decide (j1 < i1) = false := decide_eq_false (by omega)
                  have hlt3 := scans_lt ltInt a i j dk (by omega) HI2.out HJ2.out hle
                  have HR := Lib.hid ((partEq_go ltInt a i j dk HI2.out HJ2.out (by omega)).symm.trans HE.out)
                  rename World => W3
                  obtain ⟨k, hk⟩ : ∃ k, j1 = k + 1 := ⟨j1 - 1, by omega⟩
                  rw [show j1 - 1 = k by omega] at HR
                  have ek : IntKind.i64.wrap ((j1 : Int) - 1) = (k : Int) := wrapN (by omega) (by omega)
                  have his : (i1 : Int) < 1000000000 := by omega
                  have q0 := HS3.out.1.cell i1 (by omega)
                  have q1 := HS3.out.1.cell j1 (by omega)
                  have f0 := Own.frozen HS3.out.1 i1
                  have f1 := Own.frozen HS3.out.1 j1
                  have hgl := Own.lt HS3.out.1
                  obtain ⟨xi, hxi⟩ : ∃ x, Hid (dk[i1]! = x) := ⟨_, Lib.hid rfl⟩
                  obtain ⟨xj, hxj⟩ : ∃ x, Hid (dk[j1]! = x) := ⟨_, Lib.hid rfl⟩
                  rw [hxi.out] at q0
                  rw [hxj.out] at q1
                  have n0 : (0 : Int) ≤ (i1 : Int) := by omega
                  have n1 : (0 : Int) ≤ (j1 : Int) := by omega
                  have b0 : (i1 : Int) < (N : Int) := by omega
                  have b1 : (j1 : Int) < (N : Int) := by omega
                  obtain ⟨v3, hy3⟩ := cell?_setCell_some (w := W3) (p := ⟨g, i1, none⟩) (x := .int .u64 xj) (q := ⟨g, j1, none⟩) q1
                  have HK := Lib.hid (And.intro hk (And.intro hlt3 (And.intro hjj hii)))
                  clear hk hlt3 hle hjj hij2 hii hij1
                  go_wp2_with fail
                  go_region
                  go_wp2_with fail
                  go_roundw
                  case rel => exact ⟨i1 + 1, k, swp dk i1 j1, by go_num, rfl, by have := HK.out; omega, by have := HK.out; omega, by have := HK.out; omega, by rw [size_swp2]; exact hsk, Lib.hid ((HS3.out.qt ⟨_, rfl⟩).swap i1 j1 (by omega) (by omega) hxi.out hxj.out), HR⟩
                  case measure => have := HK.out; simp [intOf]; omega
                · have hd : decide (j1 < i1) = true := decide_eq_true (by omega)
                  have HR := Lib.hid ((partEq_break ltInt a i j dk HI2.out HJ2.out (by omega)).symm.trans HE.out)
                  clear hle
                  go_wp2_with fail
                  go_ret
                  rw [← HR.out]
                  exact ⟨rfl, Lib.hid HS3.out⟩
set_option maxHeartbeats 8000000 in
set_option maxRecDepth 100000 in
theorem part_any (w : World) (g N c a b p : Nat) (d : Array Int) (z : List Value) (h : Uw w g d z) (hN : d.size = N) (hap : a ≤ p) (hpb : p < b) (hb : b ≤ N) (hsz : N < 1000000000) :
    Calls Tryz.prog 285 #[.slice (some ⟨g, 0, none⟩) N c, .int .i64 (a : Int), .int .i64 (b : Int), .int .i64 (p : Int)] w fun e w' => e = .returned (.tuple #[.int .i64 ((partition ltInt d a b p).1 : Nat), .bool (partition ltInt d a b p).2.1]) ∧ Hid (Sd w g (partition ltInt d a b p).2.2 z w') := by
  have HS0 := Lib.hid (Sd.refl h)
  clear h
  obtain ⟨j, hj⟩ : ∃ m, b = m + 1 := ⟨b - 1, by omega⟩
  obtain ⟨i, hi⟩ : ∃ i, i = a + 1 := ⟨_, rfl⟩
  have em : IntKind.i64.wrap ((b : Int) - 1) = (j : Int) := wrapN (by omega) (by omega)
  have ei : IntKind.i64.wrap ((a : Int) + 1) = (i : Int) := wrapN (by omega) (by omega)
  obtain ⟨dk, hdk⟩ : ∃ dk, dk = swp d a p := ⟨_, rfl⟩
  have HP := Lib.hid (fun (i2 j2 : Nat) => @part_first_break Int _ ltInt d a b p i j dk i2 j2 hi (by omega) hdk)
  have HG := Lib.hid (fun (i2 j2 : Nat) => @part_first_go Int _ ltInt d a b p i j dk i2 j2 hi (by omega) hdk)
  have hsk : dk.size = N := by rw [hdk, size_swp2]; exact hN
  have q0 := HS0.out.1.cell a (by omega)
  have q1 := HS0.out.1.cell p (by omega)
  have f0 := Own.frozen HS0.out.1 a
  have f1 := Own.frozen HS0.out.1 p
  have hgl := Own.lt HS0.out.1
  obtain ⟨xa, hxa⟩ : ∃ x, Hid (d[a]! = x) := ⟨_, Lib.hid rfl⟩
  obtain ⟨xp, hxp⟩ : ∃ x, Hid (d[p]! = x) := ⟨_, Lib.hid rfl⟩
  rw [hxa.out] at q0
  rw [hxp.out] at q1
  have n0 : (0 : Int) ≤ (a : Int) := by omega
  have n1 : (0 : Int) ≤ (p : Int) := by omega
  have b0 : (a : Int) < (N : Int) := by omega
  have b1 : (p : Int) < (N : Int) := by omega
  obtain ⟨v3, hy3⟩ := cell?_setCell_some (w := w) (p := ⟨g, a, none⟩) (x := .int .u64 xp) (q := ⟨g, p, none⟩) q1
  have HW := Lib.hid (show Sd w g dk z (((w.setCell ⟨g, a, none⟩ (.int .u64 xp)).setCell ⟨g, p, none⟩ (.int .u64 xa)).drew) from by rw [hdk]; exact (HS0.out.swap a p (by omega) (by omega) hxa.out hxp.out).drew)
  have hij : i ≤ j + 1 := by omega
  have hjN : j < N := by omega
  have haN : a < N := by omega
  have hai : a < i := by omega
  have has : (a : Int) < 1000000000 := by omega
  obtain ⟨y, hy⟩ : ∃ y, Hid (dk[a]! = y) := ⟨_, Lib.hid rfl⟩
  clear hdk hj hi hap hpb hb hxa hxp
  go_enter Tryz.func285, Tryz.ntmps285
  go_wp2_with fail
  go_region

  go_wp2_with fail
  go_loopw [10] (fun v wr => ∃ (i1 : Nat), v = .int .i64 i1 ∧ i ≤ i1 ∧ i1 ≤ j + 1 ∧ Hid (Sd w g dk z wr) ∧ Hid (scanUp (fun x => ltInt x dk[a]!) dk j i1 = scanUp (fun x => ltInt x dk[a]!) dk j i)) (fun v _ => j + 1 - (intOf v).toNat)
  case atStart => exact ⟨i, rfl, Nat.le_refl _, hij, HW, Lib.hid rfl⟩
  case round =>
    obtain ⟨i1, rfl, hii, hij1, HSu, HSC⟩ := hrel
    obtain ⟨x, hx⟩ : ∃ x, Hid (dk[i1]! = x) := ⟨_, Lib.hid rfl⟩
    obtain ⟨B, hB⟩ : ∃ B : Bool, Hid ((decide (i1 ≤ j) && (ltInt x y)) = B) := ⟨_, Lib.hid rfl⟩
    go_upto_region 3 with fail
    go_cut [43] from 30 to 45 (fun v wx => v = .bool B ∧ Hid (Sd w g dk z wx))
    case first =>
      by_cases hg : i1 ≤ j
      · have hd : decide (i1 ≤ j) = true := decide_eq_true hg
        have q0 := HSu.out.1.cell i1 (by omega)
        rw [hx.out] at q0
        have q1 := HSu.out.1.cell a (by omega)
        rw [hy.out] at q1
        have n0 : (0 : Int) ≤ (i1 : Int) := by omega
        have n1 : (0 : Int) ≤ (a : Int) := by omega
        have b0 : (i1 : Int) < (N : Int) := by omega
        have b1 : (a : Int) < (N : Int) := by omega
        have hB2 := Lib.hid (show (ltInt x y) = B by rw [← hB.out, hd]; rfl)
        clear hg
        go_wp2_with fail
        go_quiet ((go_at_call 283; exact Calls.quiet_of_same (Less_any _ _ _)))
        go_wp2_with fail
        go_meet
        case rel => exact ⟨by rw [← hB2.out], Lib.hid (HSu.out.drewN _)⟩
      · have hd : decide (i1 ≤ j) = false := decide_eq_false hg
        have hB2 := Lib.hid (show false = B by rw [← hB.out, hd]; rfl)
        clear hg
        go_wp2_with fail
        go_quiet ((go_at_call 283; exact Calls.quiet_of_same (Less_any _ _ _)))
        go_wp2_with fail
        go_meet
        case rel => exact ⟨by rw [← hB2.out], Lib.hid (HSu.out.drewN _)⟩
    case rest =>
      clear HSu
      obtain ⟨rfl, HSu⟩ := hcut
      cases B with
      | true =>
        have hb := hB.out
        rw [Bool.and_eq_true, decide_eq_true_eq] at hb
        have HR := Lib.hid ((scanUp_go (fun x => ltInt x dk[a]!) dk j i1 hb.1 (by rw [hx.out, hy.out]; exact hb.2)).symm.trans HSC.out)
        have his : (i1 : Int) < 1000000000 := by omega
        have HB := Lib.hid hb.1
        clear hb
        go_wp2_with fail
        go_roundw
        case rel => exact ⟨i1 + 1, by go_num, by omega, by have := HB.out; omega, HSu, HR⟩
        case measure => have := HB.out; simp [intOf]; omega
      | false =>
        have HI2 := Lib.hid (show i1 = scanUp (fun x => ltInt x dk[a]!) dk j i from (scanUp_end (fun x => ltInt x dk[a]!) dk j i1 (by
          rcases Nat.lt_or_ge j i1 with h | h
          · exact .inl (by omega)
          · refine .inr ?_
            have hb := hB.out
            rw [decide_eq_true h, hx.out.symm, hy.out.symm, Bool.true_and] at hb
            exact hb)).symm.trans HSC.out)
        have HS2 := HSu
        clear HSC hB hx HSu
        clear x
        go_wp2_with fail
        go_loopw [11] (fun v wr => ∃ (j1 : Nat), v = .int .i64 j1 ∧ j1 ≤ j ∧ i1 ≤ j1 + 1 ∧ Hid (Sd w g dk z wr) ∧ Hid (scanDown (fun x => !ltInt x dk[a]!) dk i1 j1 = scanDown (fun x => !ltInt x dk[a]!) dk i1 j)) (fun v _ => (intOf v).toNat)
        case atStart => exact ⟨j, rfl, Nat.le_refl _, hij1, HS2, Lib.hid rfl⟩
        case round =>
          obtain ⟨j1, rfl, hjj, hij2, HSu, HSC⟩ := hrel
          obtain ⟨x, hx⟩ : ∃ x, Hid (dk[j1]! = x) := ⟨_, Lib.hid rfl⟩
          obtain ⟨B, hB⟩ : ∃ B : Bool, Hid ((decide (i1 ≤ j1) && (!ltInt x y)) = B) := ⟨_, Lib.hid rfl⟩
          go_upto_region 5 with fail
          go_cut [60] from 46 to 62 (fun v wx => v = .bool B ∧ Hid (Sd w g dk z wx))
          case first =>
            by_cases hg : i1 ≤ j1
            · have hd : decide (i1 ≤ j1) = true := decide_eq_true hg
              have q0 := HSu.out.1.cell j1 (by omega)
              rw [hx.out] at q0
              have q1 := HSu.out.1.cell a (by omega)
              rw [hy.out] at q1
              have n0 : (0 : Int) ≤ (j1 : Int) := by omega
              have n1 : (0 : Int) ≤ (a : Int) := by omega
              have b0 : (j1 : Int) < (N : Int) := by omega
              have b1 : (a : Int) < (N : Int) := by omega
              have hB2 := Lib.hid (show (!ltInt x y) = B by rw [← hB.out, hd]; rfl)
              clear hg
              go_wp2_with fail
              go_quiet ((go_at_call 283; exact Calls.quiet_of_same (Less_any _ _ _)))
              go_wp2_with fail
              go_meet
              case rel => exact ⟨by rw [← hB2.out], Lib.hid (HSu.out.drewN _)⟩
            · have hd : decide (i1 ≤ j1) = false := decide_eq_false hg
              have hB2 := Lib.hid (show false = B by rw [← hB.out, hd]; rfl)
              clear hg
              go_wp2_with fail
              go_quiet ((go_at_call 283; exact Calls.quiet_of_same (Less_any _ _ _)))
              go_wp2_with fail
              go_meet
              case rel => exact ⟨by rw [← hB2.out], Lib.hid (HSu.out.drewN _)⟩
          case rest =>
            clear HSu
            obtain ⟨rfl, HSu⟩ := hcut
            cases B with
            | true =>
              have hb := hB.out
              rw [Bool.and_eq_true, decide_eq_true_eq] at hb
              have hj0 : 0 < j1 := by omega
              have HR := Lib.hid ((scanDown_go (fun x => !ltInt x dk[a]!) dk i1 j1 hb.1 hj0 (by rw [hx.out, hy.out]; exact hb.2)).symm.trans HSC.out)
              obtain ⟨k, hk⟩ : ∃ k, j1 = k + 1 := ⟨j1 - 1, by omega⟩
              rw [show j1 - 1 = k by omega] at HR
              have ek : IntKind.i64.wrap ((j1 : Int) - 1) = (k : Int) := wrapN (by omega) (by omega)
              have HB := Lib.hid (And.intro hb.1 hk)
              clear hb hk hj0
              go_wp2_with fail
              go_roundw
              case rel => exact ⟨k, rfl, by have := HB.out; omega, by have := HB.out; omega, HSu, HR⟩
              case measure => have := HB.out; simp [intOf]; omega
            | false =>
              have HJ2 := Lib.hid (show j1 = scanDown (fun x => !ltInt x dk[a]!) dk i1 j from (scanDown_end (fun x => !ltInt x dk[a]!) dk i1 j1 (by
                rcases Nat.lt_or_ge j1 i1 with h | h
                · exact .inl (by omega)
                · refine .inr ?_
                  have hb := hB.out
                  rw [decide_eq_true h, hx.out.symm, hy.out.symm, Bool.true_and] at hb
                  exact hb)).symm.trans HSC.out)
              have HS3 := HSu
              clear HSC hB hx HSu HS2
              clear x
              by_cases hle : i1 ≤ j1
              · have hd : decide (j1 < i1) = false := decide_eq_false (by omega)
                have hlt3 := part_scans_lt ltInt a i j dk (by omega) HI2.out HJ2.out hle
                have HF0 := Lib.hid (HG.out _ _ HI2.out HJ2.out (by omega))
                rename World => W3
                obtain ⟨k, hk⟩ : ∃ k, j1 = k + 1 := ⟨j1 - 1, by omega⟩
                rw [show j1 - 1 = k by omega] at HF0
                obtain ⟨PL, hPL⟩ : ∃ X, Hid (partLoop ltInt a (i1 + 1) k (swp dk i1 j1) = X) := ⟨_, Lib.hid rfl⟩
                rw [hPL.out] at HF0
                have HF := HF0
                have ek : IntKind.i64.wrap ((j1 : Int) - 1) = (k : Int) := wrapN (by omega) (by omega)
                have his : (i1 : Int) < 1000000000 := by omega
                have q0 := HS3.out.1.cell i1 (by omega)
                have q1 := HS3.out.1.cell j1 (by omega)
                have f0 := Own.frozen HS3.out.1 i1
                have f1 := Own.frozen HS3.out.1 j1
                have hgl := Own.lt HS3.out.1
                obtain ⟨xi, hxi⟩ : ∃ x, Hid (dk[i1]! = x) := ⟨_, Lib.hid rfl⟩
                obtain ⟨xj, hxj⟩ : ∃ x, Hid (dk[j1]! = x) := ⟨_, Lib.hid rfl⟩
                rw [hxi.out] at q0
                rw [hxj.out] at q1
                have n0 : (0 : Int) ≤ (i1 : Int) := by omega
                have n1 : (0 : Int) ≤ (j1 : Int) := by omega
                have b0 : (i1 : Int) < (N : Int) := by omega
                have b1 : (j1 : Int) < (N : Int) := by omega
                obtain ⟨v3, hy3⟩ := cell?_setCell_some (w := W3) (p := ⟨g, i1, none⟩) (x := .int .u64 xj) (q := ⟨g, j1, none⟩) q1
                have HK := Lib.hid (And.intro hk (And.intro hlt3 (And.intro hjj hii)))
                clear hk hlt3 hle hij2 hij1 HF0 HP HG
                go_wp2_with fail
                go_region
                go_wp2_with fail
                go_loopw [10, 11] (fun vi vj wr => ∃ (i j : Nat) (dk : Array Int), vi = .int .i64 i ∧ vj = .int .i64 j ∧ a < i ∧ i ≤ j + 1 ∧ j < N ∧ dk.size = N ∧ Hid (Sd w g dk z wr) ∧ Hid (partLoop ltInt a i j dk = PL)) (fun vi vj _ => (intOf vj).toNat + 1 - (intOf vi).toNat)
                case atStart => exact ⟨i1 + 1, k, swp dk i1 j1, by go_num, rfl, by omega, by have := HK.out; omega, by have := HK.out; omega, by rw [size_swp2]; exact hsk, Lib.hid ((HS3.out.qt ⟨_, rfl⟩).swap i1 j1 (by omega) (by omega) hxi.out hxj.out), hPL⟩
                case round =>
                  clear q0 q1 f0 f1 hgl n0 n1 b0 b1 hy3 hxi hxj HI2 HJ2 HS3 HK hii hjj hy hsk hij hjN hai hd his ek
                  obtain ⟨i, j, dk, rfl, rfl, hai, hij, hjN, hsk, HW, HE⟩ := hrel
                  obtain ⟨y, hy⟩ : ∃ y, Hid (dk[a]! = y) := ⟨_, Lib.hid rfl⟩
                  go_wp2_with fail
                  go_loopw [10] (fun v wr => ∃ (i1 : Nat), v = .int .i64 i1 ∧ i ≤ i1 ∧ i1 ≤ j + 1 ∧ Hid (Sd w g dk z wr) ∧ Hid (scanUp (fun x => ltInt x dk[a]!) dk j i1 = scanUp (fun x => ltInt x dk[a]!) dk j i)) (fun v _ => j + 1 - (intOf v).toNat)
                  case atStart => exact ⟨i, rfl, Nat.le_refl _, hij, HW, Lib.hid rfl⟩
                  case round =>
                    obtain ⟨i1, rfl, hii, hij1, HSu, HSC⟩ := hrel
                    obtain ⟨x, hx⟩ : ∃ x, Hid (dk[i1]! = x) := ⟨_, Lib.hid rfl⟩
                    obtain ⟨B, hB⟩ : ∃ B : Bool, Hid ((decide (i1 ≤ j) && (ltInt x y)) = B) := ⟨_, Lib.hid rfl⟩
                    go_upto_region 13 with fail
                    go_cut [112] from 99 to 114 (fun v wx => v = .bool B ∧ Hid (Sd w g dk z wx))
                    case first =>
                      by_cases hg : i1 ≤ j
                      · have hd : decide (i1 ≤ j) = true := decide_eq_true hg
                        have q0 := HSu.out.1.cell i1 (by omega)
                        rw [hx.out] at q0
                        have q1 := HSu.out.1.cell a (by omega)
                        rw [hy.out] at q1
                        have n0 : (0 : Int) ≤ (i1 : Int) := by omega
                        have n1 : (0 : Int) ≤ (a : Int) := by omega
                        have b0 : (i1 : Int) < (N : Int) := by omega
                        have b1 : (a : Int) < (N : Int) := by omega
                        have hB2 := Lib.hid (show (ltInt x y) = B by rw [← hB.out, hd]; rfl)
                        clear hg
                        go_wp2_with fail
                        go_quiet ((go_at_call 283; exact Calls.quiet_of_same (Less_any _ _ _)))
                        go_wp2_with fail
                        go_meet
                        case rel => exact ⟨by rw [← hB2.out], Lib.hid (HSu.out.drewN _)⟩
                      · have hd : decide (i1 ≤ j) = false := decide_eq_false hg
                        have hB2 := Lib.hid (show false = B by rw [← hB.out, hd]; rfl)
                        clear hg
                        go_wp2_with fail
                        go_quiet ((go_at_call 283; exact Calls.quiet_of_same (Less_any _ _ _)))
                        go_wp2_with fail
                        go_meet
                        case rel => exact ⟨by rw [← hB2.out], Lib.hid (HSu.out.drewN _)⟩
                    case rest =>
                      clear HSu
                      obtain ⟨rfl, HSu⟩ := hcut
                      cases B with
                      | true =>
                        have hb := hB.out
                        rw [Bool.and_eq_true, decide_eq_true_eq] at hb
                        have HR := Lib.hid ((scanUp_go (fun x => ltInt x dk[a]!) dk j i1 hb.1 (by rw [hx.out, hy.out]; exact hb.2)).symm.trans HSC.out)
                        have his : (i1 : Int) < 1000000000 := by omega
                        have HB := Lib.hid hb.1
                        clear hb
                        go_wp2_with fail
                        go_roundw
                        case rel => exact ⟨i1 + 1, by go_num, by omega, by have := HB.out; omega, HSu, HR⟩
                        case measure => have := HB.out; simp [intOf]; omega
                      | false =>
                        have HI2 := Lib.hid (show i1 = scanUp (fun x => ltInt x dk[a]!) dk j i from (scanUp_end (fun x => ltInt x dk[a]!) dk j i1 (by
                          rcases Nat.lt_or_ge j i1 with h | h
                          · exact .inl (by omega)
                          · refine .inr ?_
                            have hb := hB.out
                            rw [decide_eq_true h, hx.out.symm, hy.out.symm, Bool.true_and] at hb
                            exact hb)).symm.trans HSC.out)
                        have HS2 := HSu
                        clear HSC hB hx HSu
                        clear x
                        go_wp2_with fail
                        go_loopw [11] (fun v wr => ∃ (j1 : Nat), v = .int .i64 j1 ∧ j1 ≤ j ∧ i1 ≤ j1 + 1 ∧ Hid (Sd w g dk z wr) ∧ Hid (scanDown (fun x => !ltInt x dk[a]!) dk i1 j1 = scanDown (fun x => !ltInt x dk[a]!) dk i1 j)) (fun v _ => (intOf v).toNat)
                        case atStart => exact ⟨j, rfl, Nat.le_refl _, hij1, HS2, Lib.hid rfl⟩
                        case round =>
                          obtain ⟨j1, rfl, hjj, hij2, HSu, HSC⟩ := hrel
                          obtain ⟨x, hx⟩ : ∃ x, Hid (dk[j1]! = x) := ⟨_, Lib.hid rfl⟩
                          obtain ⟨B, hB⟩ : ∃ B : Bool, Hid ((decide (i1 ≤ j1) && (!ltInt x y)) = B) := ⟨_, Lib.hid rfl⟩
                          go_upto_region 15 with fail
                          go_cut [129] from 115 to 131 (fun v wx => v = .bool B ∧ Hid (Sd w g dk z wx))
                          case first =>
                            by_cases hg : i1 ≤ j1
                            · have hd : decide (i1 ≤ j1) = true := decide_eq_true hg
                              have q0 := HSu.out.1.cell j1 (by omega)
                              rw [hx.out] at q0
                              have q1 := HSu.out.1.cell a (by omega)
                              rw [hy.out] at q1
                              have n0 : (0 : Int) ≤ (j1 : Int) := by omega
                              have n1 : (0 : Int) ≤ (a : Int) := by omega
                              have b0 : (j1 : Int) < (N : Int) := by omega
                              have b1 : (a : Int) < (N : Int) := by omega
                              have hB2 := Lib.hid (show (!ltInt x y) = B by rw [← hB.out, hd]; rfl)
                              clear hg
                              go_wp2_with fail
                              go_quiet ((go_at_call 283; exact Calls.quiet_of_same (Less_any _ _ _)))
                              go_wp2_with fail
                              go_meet
                              case rel => exact ⟨by rw [← hB2.out], Lib.hid (HSu.out.drewN _)⟩
                            · have hd : decide (i1 ≤ j1) = false := decide_eq_false hg
                              have hB2 := Lib.hid (show false = B by rw [← hB.out, hd]; rfl)
                              clear hg
                              go_wp2_with fail
                              go_quiet ((go_at_call 283; exact Calls.quiet_of_same (Less_any _ _ _)))
                              go_wp2_with fail
                              go_meet
                              case rel => exact ⟨by rw [← hB2.out], Lib.hid (HSu.out.drewN _)⟩
                          case rest =>
                            clear HSu
                            obtain ⟨rfl, HSu⟩ := hcut
                            cases B with
                            | true =>
                              have hb := hB.out
                              rw [Bool.and_eq_true, decide_eq_true_eq] at hb
                              have hj0 : 0 < j1 := by omega
                              have HR := Lib.hid ((scanDown_go (fun x => !ltInt x dk[a]!) dk i1 j1 hb.1 hj0 (by rw [hx.out, hy.out]; exact hb.2)).symm.trans HSC.out)
                              obtain ⟨k, hk⟩ : ∃ k, j1 = k + 1 := ⟨j1 - 1, by omega⟩
                              rw [show j1 - 1 = k by omega] at HR
                              have ek : IntKind.i64.wrap ((j1 : Int) - 1) = (k : Int) := wrapN (by omega) (by omega)
                              have HB := Lib.hid (And.intro hb.1 hk)
                              clear hb hk hj0
                              go_wp2_with fail
                              go_roundw
                              case rel => exact ⟨k, rfl, by have := HB.out; omega, by have := HB.out; omega, HSu, HR⟩
                              case measure => have := HB.out; simp [intOf]; omega
                            | false =>
                              have HJ2 := Lib.hid (show j1 = scanDown (fun x => !ltInt x dk[a]!) dk i1 j from (scanDown_end (fun x => !ltInt x dk[a]!) dk i1 j1 (by
                                rcases Nat.lt_or_ge j1 i1 with h | h
                                · exact .inl (by omega)
                                · refine .inr ?_
                                  have hb := hB.out
                                  rw [decide_eq_true h, hx.out.symm, hy.out.symm, Bool.true_and] at hb
                                  exact hb)).symm.trans HSC.out)
                              have HS3 := HSu
                              clear HSC hB hx HSu HS2
                              clear x
                              by_cases hle : i1 ≤ j1
                              · have hd : decide (j1 < i1) = false := decide_eq_false (by omega)
                                have hlt3 := part_scans_lt ltInt a i j dk (by omega) HI2.out HJ2.out hle
                                have HR := Lib.hid ((part_go ltInt a i j dk HI2.out HJ2.out (by omega)).symm.trans HE.out)
                                rename World => W3
                                obtain ⟨k, hk⟩ : ∃ k, j1 = k + 1 := ⟨j1 - 1, by omega⟩
                                rw [show j1 - 1 = k by omega] at HR
                                have ek : IntKind.i64.wrap ((j1 : Int) - 1) = (k : Int) := wrapN (by omega) (by omega)
                                have his : (i1 : Int) < 1000000000 := by omega
                                have q0 := HS3.out.1.cell i1 (by omega)
                                have q1 := HS3.out.1.cell j1 (by omega)
                                have f0 := Own.frozen HS3.out.1 i1
                                have f1 := Own.frozen HS3.out.1 j1
                                have hgl := Own.lt HS3.out.1
                                obtain ⟨xi, hxi⟩ : ∃ x, Hid (dk[i1]! = x) := ⟨_, Lib.hid rfl⟩
                                obtain ⟨xj, hxj⟩ : ∃ x, Hid (dk[j1]! = x) := ⟨_, Lib.hid rfl⟩
                                rw [hxi.out] at q0
                                rw [hxj.out] at q1
                                have n0 : (0 : Int) ≤ (i1 : Int) := by omega
                                have n1 : (0 : Int) ≤ (j1 : Int) := by omega
                                have b0 : (i1 : Int) < (N : Int) := by omega
                                have b1 : (j1 : Int) < (N : Int) := by omega
                                obtain ⟨v3, hy3⟩ := cell?_setCell_some (w := W3) (p := ⟨g, i1, none⟩) (x := .int .u64 xj) (q := ⟨g, j1, none⟩) q1
                                have HK := Lib.hid (And.intro hk (And.intro hlt3 (And.intro hjj hii)))
                                clear hk hlt3 hle hjj hij2 hii hij1
                                go_wp2_with fail
                                go_region
                                go_wp2_with fail
                                go_roundw
                                case rel => exact ⟨i1 + 1, k, swp dk i1 j1, by go_num, rfl, by have := HK.out; omega, by have := HK.out; omega, by have := HK.out; omega, by rw [size_swp2]; exact hsk, Lib.hid ((HS3.out.qt ⟨_, rfl⟩).swap i1 j1 (by omega) (by omega) hxi.out hxj.out), HR⟩
                                case measure => have := HK.out; simp [intOf]; omega
                              · have hd : decide (j1 < i1) = true := decide_eq_true (by omega)
                                have HR := Lib.hid ((part_break ltInt a i j dk HI2.out HJ2.out (by omega)).symm.trans HE.out)
                                rename World => W3
                                have q0 := HS3.out.1.cell j1 (by omega)
                                have q1 := HS3.out.1.cell a (by omega)
                                have f0 := Own.frozen HS3.out.1 j1
                                have f1 := Own.frozen HS3.out.1 a
                                have hgl := Own.lt HS3.out.1
                                obtain ⟨xi, hxi⟩ : ∃ x, Hid (dk[j1]! = x) := ⟨_, Lib.hid rfl⟩
                                obtain ⟨xj, hxj⟩ : ∃ x, Hid (dk[a]! = x) := ⟨_, Lib.hid rfl⟩
                                rw [hxi.out] at q0
                                rw [hxj.out] at q1
                                have n0 : (0 : Int) ≤ (j1 : Int) := by omega
                                have n1 : (0 : Int) ≤ (a : Int) := by omega
                                have b0 : (j1 : Int) < (N : Int) := by omega
                                have b1 : (a : Int) < (N : Int) := by omega
                                obtain ⟨v3, hy3⟩ := cell?_setCell_some (w := W3) (p := ⟨g, j1, none⟩) (x := .int .u64 xj) (q := ⟨g, a, none⟩) q1
                                clear hle
                                go_wp2_with fail
                                go_region
                                go_wp2_with fail
                                go_ret2
                                have HF2 := HF.out
                                rw [← HR.out] at HF2
                                rw [HF2]
                                exact ⟨rfl, Lib.hid ((HS3.out.qt ⟨_, rfl⟩).swap j1 a (by omega) (by omega) hxi.out hxj.out)⟩
              · have hd : decide (j1 < i1) = true := decide_eq_true (by omega)
                have HR := Lib.hid (HP.out _ _ HI2.out HJ2.out (by omega))
                rename World => W3
                have q0 := HS3.out.1.cell j1 (by omega)
                have q1 := HS3.out.1.cell a (by omega)
                have f0 := Own.frozen HS3.out.1 j1
                have f1 := Own.frozen HS3.out.1 a
                have hgl := Own.lt HS3.out.1
                obtain ⟨xi, hxi⟩ : ∃ x, Hid (dk[j1]! = x) := ⟨_, Lib.hid rfl⟩
                obtain ⟨xj, hxj⟩ : ∃ x, Hid (dk[a]! = x) := ⟨_, Lib.hid rfl⟩
                rw [hxi.out] at q0
                rw [hxj.out] at q1
                have n0 : (0 : Int) ≤ (j1 : Int) := by omega
                have n1 : (0 : Int) ≤ (a : Int) := by omega
                have b0 : (j1 : Int) < (N : Int) := by omega
                have b1 : (a : Int) < (N : Int) := by omega
                obtain ⟨v3, hy3⟩ := cell?_setCell_some (w := W3) (p := ⟨g, j1, none⟩) (x := .int .u64 xj) (q := ⟨g, a, none⟩) q1
                clear hle HP HG
                go_wp2_with fail
                go_region
                go_wp2_with fail
                go_ret2
                rw [HR.out]
                exact ⟨rfl, Lib.hid ((HS3.out.qt ⟨_, rfl⟩).swap j1 a (by omega) (by omega) hxi.out hxj.out)⟩
end Go.Proofs.YtcadnlilijkneaaGreat
namespace Go.Proofs.YtcadnlilijkneaaGreat
open Go.RowKit Go.Sort
set_option linter.unusedVariables false
set_option linter.unusedSimpArgs false

theorem Own.ne {w : World} {g b : Nat} {t u : TypeId} {cs ds : List Value} (h1 : Own w g t cs) (h2 : Own w b u ds) (ht : t ≠ u) : g ≠ b := by
  rintro rfl
  unfold Own at h1 h2
  rw [h1] at h2
  simp at h2
  exact ht h2.2
def Pv (w : World) (g : Nat) (d : Array Int) (z : List Value) (sb s : Nat) (w' : World) : Prop := Uw w' g d z ∧ Own w' sb 3 [.int .i64 (s : Int)] ∧ Chg [sb] w w'
theorem order2_lt2 (d : Array Int) {a b n : Nat} (s : Nat) (ha : a < n) (hb : b < n) {r : Nat × Nat × Nat} (h : order2 ltInt d a b s = r) : r.1 < n ∧ r.2.1 < n ∧ r.2.2 ≤ s + 1 := by
  subst h
  unfold order2
  split
  · exact ⟨hb, ha, Nat.le_refl _⟩
  · exact ⟨ha, hb, Nat.le_succ _⟩
theorem Less_t {x y : Int} (hl : ltInt x y = true) (w : World) : Calls Tryz.prog 283 #[.int .u64 x, .int .u64 y] w fun e w' => e = .returned (.bool true) ∧ w' = w := by
  have := Less_any x y w
  rwa [hl] at this
theorem Less_f {x y : Int} (hl : ltInt x y = false) (w : World) : Calls Tryz.prog 283 #[.int .u64 x, .int .u64 y] w fun e w' => e = .returned (.bool false) ∧ w' = w := by
  have := Less_any x y w
  rwa [hl] at this
set_option maxHeartbeats 1000000 in
theorem order2_any (w : World) (g N c sb s a b : Nat) (d : Array Int) (z : List Value) (h : Uw w g d z) (hs : Own w sb 3 [.int .i64 (s : Int)]) (hN : d.size = N) (ha : a < N) (hb : b < N) (hsz : N < 1000000000) (hss : s ≤ 100) :
    Calls Tryz.prog 305 #[.slice (some ⟨g, 0, none⟩) N c, .int .i64 (a : Int), .int .i64 (b : Int), .pointer (some ⟨sb, 0, none⟩)] w fun e w' => e = .returned (.tuple #[.int .i64 ((order2 ltInt d a b s).1 : Nat), .int .i64 ((order2 ltInt d a b s).2.1 : Nat)]) ∧ Hid (Pv w g d z sb (order2 ltInt d a b s).2.2 w') := by
  have hne : g ≠ sb := Own.ne h hs (by decide)
  have hne' : sb ≠ g := fun e => hne e.symm
  have q0 := h.cell b (by omega)
  have q1 := h.cell a (by omega)
  have q2 : w.cell? ⟨sb, 0, none⟩ = some (.int .i64 (s : Int)) := by rw [hs.cell]; rfl
  have f2 := hs.frozen 0
  have n0 : (0 : Int) ≤ (b : Int) := by omega
  have n1 : (0 : Int) ≤ (a : Int) := by omega
  have b0 : (b : Int) < (N : Int) := by omega
  have b1 : (a : Int) < (N : Int) := by omega
  have hs0 : (0 : Int) ≤ (s : Int) := by omega
  have hs1 : (s : Int) ≤ 100 := by omega
  have hlt := hs.lt
  obtain ⟨x, hx⟩ : ∃ x, Hid (d[b]! = x) := ⟨_, Lib.hid rfl⟩
  obtain ⟨y, hy⟩ : ∃ x, Hid (d[a]! = x) := ⟨_, Lib.hid rfl⟩
  have HO := Lib.hid (show order2 ltInt d a b s = if ltInt x y then (b, a, s + 1) else (a, b, s) by unfold order2; rw [hx.out, hy.out])
  rw [hx.out] at q0
  rw [hy.out] at q1
  have HH := Lib.hid (And.intro h hs)
  clear h hs
  rw [HO.out]
  cases hl : ltInt x y with
  | true =>
    simp only [if_true]
    go_enter Tryz.func305, Tryz.ntmps305
    go_wp2_with fail
    go_quiet ((go_at_call 283; exact Calls.quiet_of_same (Less_t hl _)))
    go_wp2_with fail
    go_ret2
    refine ⟨rfl, Lib.hid ⟨?_, ?_, ?_⟩⟩
    · exact (HH.out.1.qt ⟨_, rfl⟩).far (p := ⟨sb, 0, none⟩) hne _
    · have h1 := (HH.out.2.qt (w' := w.drewN nq) ⟨_, rfl⟩).set 0 (.int .i64 ((s + 1 : Nat) : Int))
      simp at h1
      exact h1
    · exact ((Chg.refl [sb] w).drewN _).setCell (.inl (by simp)) _
  | false =>
    simp only [Bool.false_eq_true, if_false]
    go_enter Tryz.func305, Tryz.ntmps305
    go_wp2_with fail
    go_quiet ((go_at_call 283; exact Calls.quiet_of_same (Less_f hl _)))
    go_wp2_with fail
    go_ret2
    exact ⟨rfl, Lib.hid ⟨HH.out.1.qt ⟨_, rfl⟩, HH.out.2.qt ⟨_, rfl⟩, (Chg.refl [sb] w).drewN _⟩⟩
theorem Pv.then {w w' w'' : World} {g : Nat} {d : Array Int} {z : List Value} {sb s s' : Nat} (h : Pv w g d z sb s w') (k : Pv w' g d z sb s' w'') : Pv w g d z sb s' w'' := ⟨k.1, k.2.1, h.2.2.trans k.2.2⟩
theorem median_facts (d : Array Int) {a b k n s : Nat} (ha : a < n) (hb : b < n) (hk : k < n) : (median ltInt d a b k s).1 < n ∧ (median ltInt d a b k s).2 ≤ s + 3 := by
  unfold median
  simp only
  obtain ⟨h1, h2, h3⟩ := order2_lt2 d s ha hb (r := order2 ltInt d a b s) rfl
  generalize order2 ltInt d a b s = r1 at *
  obtain ⟨h4, h5, h6⟩ := order2_lt2 d r1.2.2 h2 hk (r := order2 ltInt d r1.2.1 k r1.2.2) rfl
  generalize order2 ltInt d r1.2.1 k r1.2.2 = r2 at *
  obtain ⟨h7, h8, h9⟩ := order2_lt2 d r2.2.2 h1 h4 (r := order2 ltInt d r1.1 r2.1 r2.2.2) rfl
  generalize order2 ltInt d r1.1 r2.1 r2.2.2 = r3 at *
  exact ⟨h8, by omega⟩
set_option maxHeartbeats 1000000 in
theorem median_any (w : World) (g N c sb s a b k : Nat) (d : Array Int) (z : List Value) (h : Uw w g d z) (hs : Own w sb 3 [.int .i64 (s : Int)]) (hN : d.size = N) (ha : a < N) (hb : b < N) (hk : k < N) (hsz : N < 1000000000) (hss : s ≤ 90) :
    Calls Tryz.prog 300 #[.slice (some ⟨g, 0, none⟩) N c, .int .i64 (a : Int), .int .i64 (b : Int), .int .i64 (k : Int), .pointer (some ⟨sb, 0, none⟩)] w fun e w' => e = .returned (.int .i64 ((median ltInt d a b k s).1 : Nat)) ∧ Hid (Pv w g d z sb (median ltInt d a b k s).2 w') := by
  have C1 := Lib.hid (order2_any w g N c sb s a b d z h hs hN ha hb hsz (by omega))
  unfold median
  simp only
  obtain ⟨h1, h2, h3⟩ := order2_lt2 d s ha hb (r := order2 ltInt d a b s) rfl
  generalize order2 ltInt d a b s = r1 at *
  obtain ⟨x1, y1, s1⟩ := r1
  simp only at h1 h2 h3 C1 ⊢
  have C2 := Lib.hid (fun w1 (p : Pv w g d z sb s1 w1) => order2_any w1 g N c sb s1 y1 k d z p.1 p.2.1 hN h2 hk hsz (by omega))
  obtain ⟨h4, h5, h6⟩ := order2_lt2 d s1 h2 hk (r := order2 ltInt d y1 k s1) rfl
  generalize order2 ltInt d y1 k s1 = r2 at *
  obtain ⟨x2, y2, s2⟩ := r2
  simp only at h4 h5 h6 C2 ⊢
  have C3 := Lib.hid (fun w1 w2 (p : Pv w1 g d z sb s2 w2) => order2_any w2 g N c sb s2 x1 x2 d z p.1 p.2.1 hN h1 h4 hsz (by omega))
  generalize order2 ltInt d x1 x2 s2 = r3 at *
  obtain ⟨x3, y3, s3⟩ := r3
  simp only at C3 ⊢
  clear h1 h2 h3 h4 h5 h6 h hs
  go_enter Tryz.func300, Tryz.ntmps300
  go_wp2_with fail
  refine C1.out.mono ?_
  rintro e w1 ⟨rfl, P1⟩
  go_wp2_with fail
  refine (C2.out w1 P1.out).mono ?_
  rintro e w2 ⟨rfl, P2⟩
  go_wp2_with fail
  refine (C3.out w1 w2 P2.out).mono ?_
  rintro e w3 ⟨rfl, P3⟩
  go_wp2_with fail
  go_ret
  exact ⟨rfl, Lib.hid ((P1.out.then P2.out).then P3.out)⟩
set_option maxHeartbeats 1000000 in
theorem medianAdj_any (w : World) (g N c sb s a : Nat) (d : Array Int) (z : List Value) (h : Uw w g d z) (hs : Own w sb 3 [.int .i64 (s : Int)]) (hN : d.size = N) (ha : 1 ≤ a) (hb : a + 1 < N) (hsz : N < 1000000000) (hss : s ≤ 90) :
    Calls Tryz.prog 299 #[.slice (some ⟨g, 0, none⟩) N c, .int .i64 (a : Int), .pointer (some ⟨sb, 0, none⟩)] w fun e w' => e = .returned (.int .i64 ((medianAdjacent ltInt d a s).1 : Nat)) ∧ Hid (Pv w g d z sb (medianAdjacent ltInt d a s).2 w') := by
  have C1 := Lib.hid (median_any w g N c sb s (a - 1) a (a + 1) d z h hs hN (by omega) (by omega) hb hsz hss)
  unfold medianAdjacent
  obtain ⟨m, hm⟩ : ∃ m, a = m + 1 := ⟨a - 1, by omega⟩
  obtain ⟨q, hq⟩ : ∃ q, q = a + 1 := ⟨_, rfl⟩
  rw [show a - 1 = m by omega, ← hq] at C1 ⊢
  have e1 : IntKind.i64.wrap ((a : Int) - 1) = (m : Int) := wrapN (by omega) (by omega)
  have e2 : IntKind.i64.wrap ((a : Int) + 1) = (q : Int) := wrapN (by omega) (by omega)
  clear hm hq h hs
  go_enter Tryz.func299, Tryz.ntmps299
  go_wp2_with fail
  refine C1.out.mono ?_
  rintro e w1 ⟨rfl, P1⟩
  go_wp2_with fail
  go_ret
  exact ⟨rfl, P1⟩

def hc : Hint → Int
  | .unknown => 0
  | .increasing => 1
  | .decreasing => 2
end Go.Proofs.YtcadnlilijkneaaGreat
namespace Go.Proofs.YtcadnlilijkneaaGreat
open Go.RowKit Go.Sort
set_option linter.unusedVariables false
set_option linter.unusedSimpArgs false

theorem Pv.qt {w w' w'' : World} {g : Nat} {d : Array Int} {z : List Value} {sb s : Nat} (h : Pv w g d z sb s w') (k : Qt w' w'') : Pv w g d z sb s w'' := ⟨h.1.qt k, h.2.1.qt k, h.2.2.qt k⟩
theorem Pv.sd {w0 w w' : World} {g : Nat} {d : Array Int} {z : List Value} {sb s : Nat} (h : Pv w g d z sb s w') (h0 : Chg [] w0 w) (hs : w0.heap.size ≤ sb) : Sd w0 g d z w' :=
  ⟨h.1, (h0.mono (by simp)).then h.2.2 (by simp; exact .inr hs)⟩
set_option maxHeartbeats 4000000 in
set_option maxRecDepth 100000 in
theorem choosePivot_any (w : World) (g N c a b : Nat) (d : Array Int) (z : List Value) (h : Uw w g d z) (hN : d.size = N) (hab : a + 8 ≤ b) (hb : b ≤ N) (hsz : N < 1000000000) :
    Calls Tryz.prog 280 #[.slice (some ⟨g, 0, none⟩) N c, .int .i64 (a : Int), .int .i64 (b : Int)] w fun e w' => e = .returned (.tuple #[.int .i64 ((choosePivot ltInt d a b).1 : Nat), .int .i64 (hc (choosePivot ltInt d a b).2)]) ∧ Hid (Sd w g d z w') := by
  obtain ⟨l, hl⟩ : ∃ l, l = b - a := ⟨_, rfl⟩
  obtain ⟨q, hq⟩ : ∃ q, q = l / 4 := ⟨_, rfl⟩
  obtain ⟨q2, hq2⟩ : ∃ x, x = q * 2 := ⟨_, rfl⟩
  obtain ⟨q3, hq3⟩ : ∃ x, x = q * 3 := ⟨_, rfl⟩
  obtain ⟨i, hi⟩ : ∃ i, i = a + q := ⟨_, rfl⟩
  obtain ⟨j, hj⟩ : ∃ i, i = a + q2 := ⟨_, rfl⟩
  obtain ⟨k, hk⟩ : ∃ i, i = a + q3 := ⟨_, rfl⟩
  have e1 : IntKind.i64.wrap ((b : Int) - (a : Int)) = (l : Int) := wrapN (by omega) (by omega)
  have e2 : (l : Int) / 4 = (q : Int) := by omega
  have e3 : Int.tdiv (l : Int) 4 = (q : Int) := by rw [Int.tdiv_eq_ediv_of_nonneg (by omega)]; omega
  have e4 : IntKind.i64.wrap (q : Int) = (q : Int) := wrapN rfl (by omega)
  have e5 : IntKind.i64.wrap ((q : Int) * 2) = (q2 : Int) := wrapN (by omega) (by omega)
  have e6 : IntKind.i64.wrap ((q : Int) * 3) = (q3 : Int) := wrapN (by omega) (by omega)
  have e7 : IntKind.i64.wrap ((a : Int) + (q : Int)) = (i : Int) := wrapN (by omega) (by omega)
  have e8 : IntKind.i64.wrap ((a : Int) + (q2 : Int)) = (j : Int) := wrapN (by omega) (by omega)
  have e9 : IntKind.i64.wrap ((a : Int) + (q3 : Int)) = (k : Int) := wrapN (by omega) (by omega)
  have d8 : decide (8 ≤ (l : Int)) = true := decide_eq_true (by omega)
  have HX := Lib.hid (show choosePivot ltInt d a b = (fun r : Nat × Nat => (r.1, if r.2 = 0 then Hint.increasing else if r.2 = 12 then Hint.decreasing else Hint.unknown)) (if l ≥ 50 then (median ltInt d (medianAdjacent ltInt d i 0).1 (medianAdjacent ltInt d j (medianAdjacent ltInt d i 0).2).1 (medianAdjacent ltInt d k (medianAdjacent ltInt d j (medianAdjacent ltInt d i 0).2).2).1 (medianAdjacent ltInt d k (medianAdjacent ltInt d j (medianAdjacent ltInt d i 0).2).2).2) else median ltInt d i j k 0) by
    unfold choosePivot
    simp only [← hl, ← hq, Nat.mul_one, ← hq2, ← hq3, ← hi, ← hj, ← hk]
    rw [if_pos (show l ≥ 8 by omega)])
  have hsb : g < w.heap.size := Own.lt h
  have hu : Uw (w.alloc (.cells #[.int .i64 0] 3)) g d z := Own.alloc h _
  have ho : Own (w.alloc (.cells #[.int .i64 0] 3)) w.heap.size 3 [.int .i64 ((0 : Nat) : Int)] := Own.new w _ _
  have hc0 : Chg [] w (w.alloc (.cells #[.int .i64 0] 3)) := (Chg.refl [] w).alloc _
  obtain ⟨sb, hsbE⟩ : ∃ sb, Hid (w.heap.size = sb) := ⟨_, Lib.hid rfl⟩
  obtain ⟨w0, HW0⟩ : ∃ w0, Hid (w.alloc (.cells #[.int .i64 0] 3) = w0) := ⟨_, Lib.hid rfl⟩
  rw [HW0.out] at hu ho hc0
  rw [hsbE.out] at ho
  have HC := Lib.hid hc0
  have HU := Lib.hid (And.intro hu ho)
  have hb1 : 1 ≤ i ∧ i < N ∧ j < N ∧ k < N ∧ (50 ≤ l → 1 ≤ i ∧ i + 1 < N ∧ 1 ≤ j ∧ j + 1 < N ∧ 1 ≤ k ∧ k + 1 < N) := by omega
  have HB := Lib.hid hb1
  clear hu ho hc0 h hl hq hq2 hq3 hi hj hk hb1 hsb
  by_cases h50 : 50 ≤ l
  · have d50 : decide (50 ≤ (l : Int)) = true := decide_eq_true (by omega)
    rw [if_pos h50] at HX
    have hbb := HB.out.2.2.2.2 h50
    have C1 := Lib.hid (medianAdj_any w0 g N c sb 0 i d z HU.out.1 HU.out.2 hN hbb.1 hbb.2.1 hsz (by omega))
    have mm : (medianAdjacent ltInt d i 0).1 < N ∧ (medianAdjacent ltInt d i 0).2 ≤ 0 + 3 := median_facts d (a := i - 1) (b := i) (k := i + 1) (n := N) (s := 0) (by omega) (by omega) (by omega)
    obtain ⟨m1, m2⟩ := mm
    generalize medianAdjacent ltInt d i 0 = r1 at *
    obtain ⟨x1, s1⟩ := r1
    simp only at m1 m2 C1 HX
    have C2 := Lib.hid (fun w1 (p : Pv w0 g d z sb s1 w1) => medianAdj_any w1 g N c sb s1 j d z p.1 p.2.1 hN hbb.2.2.1 hbb.2.2.2.1 hsz (by omega))
    have mm : (medianAdjacent ltInt d j s1).1 < N ∧ (medianAdjacent ltInt d j s1).2 ≤ s1 + 3 := median_facts d (a := j - 1) (b := j) (k := j + 1) (n := N) (s := s1) (by omega) (by omega) (by omega)
    obtain ⟨m3, m4⟩ := mm
    generalize medianAdjacent ltInt d j s1 = r2 at *
    obtain ⟨x2, s2⟩ := r2
    simp only at m3 m4 C2 HX
    have C3 := Lib.hid (fun w1 w2 (p : Pv w1 g d z sb s2 w2) => medianAdj_any w2 g N c sb s2 k d z p.1 p.2.1 hN hbb.2.2.2.2.1 hbb.2.2.2.2.2 hsz (by omega))
    have mm : (medianAdjacent ltInt d k s2).1 < N ∧ (medianAdjacent ltInt d k s2).2 ≤ s2 + 3 := median_facts d (a := k - 1) (b := k) (k := k + 1) (n := N) (s := s2) (by omega) (by omega) (by omega)
    obtain ⟨m5, m6⟩ := mm
    generalize medianAdjacent ltInt d k s2 = r3 at *
    obtain ⟨x3, s3⟩ := r3
    simp only at m5 m6 C3 HX
    have C4 := Lib.hid (fun w1 w2 (p : Pv w1 g d z sb s3 w2) => median_any w2 g N c sb s3 x1 x2 x3 d z p.1 p.2.1 hN m1 m3 m5 hsz (by omega))
    obtain ⟨m7, m8⟩ := median_facts d (s := s3) m1 m3 m5
    generalize median ltInt d x1 x2 x3 s3 = r4 at *
    obtain ⟨x4, s4⟩ := r4
    simp only at m7 m8 C4 HX
    have hs4 : s4 ≤ 100 := by omega
    clear m1 m2 m3 m4 m5 m6 m7 m8 hbb h50
    rw [HX.out]
    simp only
    by_cases c0 : s4 = 0
    · have z0 : ((s4 : Int) == 0) = true := by simp; omega
      rw [if_pos c0]
      clear c0
      go_enter Tryz.func280, Tryz.ntmps280
      go_wp2_with fail
      rw [HW0.out, hsbE.out]
      refine (C1.out).mono ?_
      rintro e v1 ⟨rfl, P1⟩
      go_wp2_with fail
      refine (C2.out v1 P1.out).mono ?_
      rintro e v2 ⟨rfl, P2⟩
      go_wp2_with fail
      refine (C3.out v1 v2 P2.out).mono ?_
      rintro e v3 ⟨rfl, P3⟩
      go_wp2_with fail
      refine (C4.out v2 v3 P3.out).mono ?_
      rintro e v4 ⟨rfl, P4⟩
      have k0 : v4.cell? ⟨sb, 0, none⟩ = some (.int .i64 (s4 : Int)) := by rw [P4.out.2.1.cell]; rfl
      go_wp2_with fail
      go_ret2
      exact ⟨rfl, Lib.hid ((((P1.out.then P2.out).then P3.out).then P4.out).sd HC.out (by rw [hsbE.out]; exact Nat.le_refl _))⟩
    · have z0 : ((s4 : Int) == 0) = false := beq_eq_false_iff_ne.2 (by omega)
      rw [if_neg c0]
      clear c0
      by_cases c1 : s4 = 12
      · have z1 : ((s4 : Int) == 12) = true := by simp; omega
        rw [if_pos c1]
        clear c1
        go_enter Tryz.func280, Tryz.ntmps280
        go_wp2_with fail
        rw [HW0.out, hsbE.out]
        refine (C1.out).mono ?_
        rintro e v1 ⟨rfl, P1⟩
        go_wp2_with fail
        refine (C2.out v1 P1.out).mono ?_
        rintro e v2 ⟨rfl, P2⟩
        go_wp2_with fail
        refine (C3.out v1 v2 P2.out).mono ?_
        rintro e v3 ⟨rfl, P3⟩
        go_wp2_with fail
        refine (C4.out v2 v3 P3.out).mono ?_
        rintro e v4 ⟨rfl, P4⟩
        have k0 : v4.cell? ⟨sb, 0, none⟩ = some (.int .i64 (s4 : Int)) := by rw [P4.out.2.1.cell]; rfl
        go_wp2_with fail
        go_ret2
        exact ⟨rfl, Lib.hid ((((P1.out.then P2.out).then P3.out).then P4.out).sd HC.out (by rw [hsbE.out]; exact Nat.le_refl _))⟩
      · have z1 : ((s4 : Int) == 12) = false := beq_eq_false_iff_ne.2 (by omega)
        rw [if_neg c1]
        clear c1
        go_enter Tryz.func280, Tryz.ntmps280
        go_wp2_with fail
        rw [HW0.out, hsbE.out]
        refine (C1.out).mono ?_
        rintro e v1 ⟨rfl, P1⟩
        go_wp2_with fail
        refine (C2.out v1 P1.out).mono ?_
        rintro e v2 ⟨rfl, P2⟩
        go_wp2_with fail
        refine (C3.out v1 v2 P2.out).mono ?_
        rintro e v3 ⟨rfl, P3⟩
        go_wp2_with fail
        refine (C4.out v2 v3 P3.out).mono ?_
        rintro e v4 ⟨rfl, P4⟩
        have k0 : v4.cell? ⟨sb, 0, none⟩ = some (.int .i64 (s4 : Int)) := by rw [P4.out.2.1.cell]; rfl
        go_wp2_with fail
        go_ret2
        exact ⟨rfl, Lib.hid ((((P1.out.then P2.out).then P3.out).then P4.out).sd HC.out (by rw [hsbE.out]; exact Nat.le_refl _))⟩
  · have d50 : decide (50 ≤ (l : Int)) = false := decide_eq_false (by omega)
    rw [if_neg h50] at HX
    have hbb := HB.out
    have C1 := Lib.hid (median_any w0 g N c sb 0 i j k d z HU.out.1 HU.out.2 hN hbb.2.1 hbb.2.2.1 hbb.2.2.2.1 hsz (by omega))
    obtain ⟨m7, m8⟩ := median_facts d (s := 0) hbb.2.1 hbb.2.2.1 hbb.2.2.2.1
    generalize median ltInt d i j k 0 = r4 at *
    obtain ⟨x4, s4⟩ := r4
    simp only at m7 m8 C1 HX
    have hs4 : s4 ≤ 100 := by omega
    clear m7 m8 hbb h50
    rw [HX.out]
    simp only
    by_cases c0 : s4 = 0
    · have z0 : ((s4 : Int) == 0) = true := by simp; omega
      rw [if_pos c0]
      clear c0
      go_enter Tryz.func280, Tryz.ntmps280
      go_wp2_with fail
      rw [HW0.out, hsbE.out]
      refine (C1.out).mono ?_
      rintro e v1 ⟨rfl, P1⟩
      have k0 : v1.cell? ⟨sb, 0, none⟩ = some (.int .i64 (s4 : Int)) := by rw [P1.out.2.1.cell]; rfl
      go_wp2_with fail
      go_ret2
      exact ⟨rfl, Lib.hid (P1.out.sd HC.out (by rw [hsbE.out]; exact Nat.le_refl _))⟩
    · have z0 : ((s4 : Int) == 0) = false := beq_eq_false_iff_ne.2 (by omega)
      rw [if_neg c0]
      clear c0
      by_cases c1 : s4 = 12
      · have z1 : ((s4 : Int) == 12) = true := by simp; omega
        rw [if_pos c1]
        clear c1
        go_enter Tryz.func280, Tryz.ntmps280
        go_wp2_with fail
        rw [HW0.out, hsbE.out]
        refine (C1.out).mono ?_
        rintro e v1 ⟨rfl, P1⟩
        have k0 : v1.cell? ⟨sb, 0, none⟩ = some (.int .i64 (s4 : Int)) := by rw [P1.out.2.1.cell]; rfl
        go_wp2_with fail
        go_ret2
        exact ⟨rfl, Lib.hid (P1.out.sd HC.out (by rw [hsbE.out]; exact Nat.le_refl _))⟩
      · have z1 : ((s4 : Int) == 12) = false := beq_eq_false_iff_ne.2 (by omega)
        rw [if_neg c1]
        clear c1
        go_enter Tryz.func280, Tryz.ntmps280
        go_wp2_with fail
        rw [HW0.out, hsbE.out]
        refine (C1.out).mono ?_
        rintro e v1 ⟨rfl, P1⟩
        have k0 : v1.cell? ⟨sb, 0, none⟩ = some (.int .i64 (s4 : Int)) := by rw [P1.out.2.1.cell]; rfl
        go_wp2_with fail
        go_ret2
        exact ⟨rfl, Lib.hid (P1.out.sd HC.out (by rw [hsbE.out]; exact Nat.le_refl _))⟩
end Go.Proofs.YtcadnlilijkneaaGreat
