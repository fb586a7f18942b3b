/-
  Sorting of uint64: the partitions. No claim of their own.
-/
import Derived.Deep.CutBlock
import Derived.Deep.CutRange
import Derived.Test.YtmpajlpemabniaaGreatZq25
namespace Go.Proofs.YtmpajlpemabniaaGreat
open Go.RowKit Go.Sort
set_option linter.unusedVariables false
set_option linter.unusedSimpArgs false
set_option maxHeartbeats 4000000 in
set_option maxRecDepth 100000 in
theorem partEq_any (w : World) (g N c a b p : Nat) (d : Array Int) (z : List Value) (h : Uw w g d z) (hN : d.size = N) (hap : a ≤ p) (hpb : p < b) (hb : b ≤ N) (hsz : N < 1000000000) :
    Calls Tryz.prog 258 #[.slice (some ⟨g, 0, none⟩) N c, .int .i64 (a : Int), .int .i64 (b : Int), .int .i64 (p : Int)] w fun e w' => e = .returned (.int .i64 ((partitionEqual ltInt d a b p).1 : Nat)) ∧ Hid (Sd w g (partitionEqual ltInt d a b p).2 z w') := by
  have HS0 := Lib.hid (Sd.refl h)
  clear h
  obtain ⟨m, hm⟩ : ∃ m, b = m + 1 := ⟨b - 1, by omega⟩
  have em : IntKind.i64.wrap ((b : Int) - 1) = (m : Int) := wrapN (by omega) (by omega)
  have HT := Lib.hid (show partitionEqual ltInt d a b p = partEqLoop ltInt a (a + 1) m (swp d a p) by rw [partitionEqual, show b - 1 = m by omega])
  rw [HT.out]
  have has : (a : Int) < 1000000000 := by omega
  have q0 := HS0.out.1.cell a (by omega)
  have q1 := HS0.out.1.cell p (by omega)
  have f0 := Own.frozen HS0.out.1 a
  have f1 := Own.frozen HS0.out.1 p
  have hgl := Own.lt HS0.out.1
  obtain ⟨xa, hxa⟩ : ∃ x, Hid (d[a]! = x) := ⟨_, Lib.hid rfl⟩
  obtain ⟨xp, hxp⟩ : ∃ x, Hid (d[p]! = x) := ⟨_, Lib.hid rfl⟩
  rw [hxa.out] at q0
  rw [hxp.out] at q1
  have n0 : (0 : Int) ≤ (a : Int) := by omega
  have n1 : (0 : Int) ≤ (p : Int) := by omega
  have b0 : (a : Int) < (N : Int) := by omega
  have b1 : (p : Int) < (N : Int) := by omega
  obtain ⟨v3, hy3⟩ := cell?_setCell_some (w := w) (p := ⟨g, a, none⟩) (x := .int .u64 xp) (q := ⟨g, p, none⟩) q1
  have HA := Lib.hid (show a ≤ m ∧ m < N by omega)
  have hml : m < N := by omega
  have haN : a < N := by omega
  have HPP := Lib.hid (show p < N by omega)
  clear HT hm hap hpb hb
  go_enter Tryz.func258, Tryz.ntmps258
  go_wp2_with fail
  go_region
  go_wp2_with fail
  go_loopw [9, 10] (fun vi vj wr => ∃ (i j : Nat) (dk : Array Int), vi = .int .i64 i ∧ vj = .int .i64 j ∧ a < i ∧ i ≤ j + 1 ∧ j < N ∧ dk.size = N ∧ Hid (Sd w g dk z wr) ∧ Hid (partEqLoop ltInt a i j dk = partEqLoop ltInt a (a + 1) m (swp d a p))) (fun vi vj _ => (intOf vj).toNat + 1 - (intOf vi).toNat)
  case atStart => exact ⟨a + 1, m, swp d a p, by go_num, rfl, by omega, by have := HA.out; omega, hml, by rw [size_swp2]; exact hN, Lib.hid ((HS0.out.qt ⟨_, rfl⟩).swap a p (by omega) (by have := HPP.out; omega) hxa.out hxp.out), Lib.hid rfl⟩
  case round =>
    clear q0 q1 f0 f1 hgl n0 n1 b0 b1 hy3 hxa hxp
    obtain ⟨i, j, dk, rfl, rfl, hai, hij, hjN, hsk, HW, HE⟩ := hrel
    obtain ⟨y, hy⟩ : ∃ y, Hid (dk[a]! = y) := ⟨_, Lib.hid rfl⟩
    go_wp2_with fail
    go_loopw [9] (fun v wr => ∃ (i1 : Nat), v = .int .i64 i1 ∧ i ≤ i1 ∧ i1 ≤ j + 1 ∧ Hid (Sd w g dk z wr) ∧ Hid (scanUp (fun x => !ltInt dk[a]! x) dk j i1 = scanUp (fun x => !ltInt dk[a]! x) dk j i)) (fun v _ => j + 1 - (intOf v).toNat)
    case atStart => exact ⟨i, rfl, Nat.le_refl _, hij, HW, Lib.hid rfl⟩
    case round =>
      obtain ⟨i1, rfl, hii, hij1, HSu, HSC⟩ := hrel
      obtain ⟨x, hx⟩ : ∃ x, Hid (dk[i1]! = x) := ⟨_, Lib.hid rfl⟩
      obtain ⟨B, hB⟩ : ∃ B : Bool, Hid ((decide (i1 ≤ j) && (!ltInt y x)) = B) := ⟨_, Lib.hid rfl⟩
      go_upto_region 3 with fail
      go_cut [43] from 29 to 45 (fun v wx => v = .bool B ∧ Hid (Sd w g dk z wx))
      case first =>
        by_cases hg : i1 ≤ j
        · have hd : decide (i1 ≤ j) = true := decide_eq_true hg
          have q0 := HSu.out.1.cell i1 (by omega)
          rw [hx.out] at q0
          have q1 := HSu.out.1.cell a (by omega)
          rw [hy.out] at q1
          have n0 : (0 : Int) ≤ (i1 : Int) := by omega
          have n1 : (0 : Int) ≤ (a : Int) := by omega
          have b0 : (i1 : Int) < (N : Int) := by omega
          have b1 : (a : Int) < (N : Int) := by omega
          have hB2 := Lib.hid (show (!ltInt y x) = B by rw [← hB.out, hd]; rfl)
          clear hg
          go_wp2_with fail
          go_quiet ((go_at_call 257; exact Calls.quiet_of_same (Less_any _ _ _)))
          go_wp2_with fail
          go_meet
          case rel => exact ⟨by rw [← hB2.out], Lib.hid (HSu.out.drewN _)⟩
        · have hd : decide (i1 ≤ j) = false := decide_eq_false hg
          have hB2 := Lib.hid (show false = B by rw [← hB.out, hd]; rfl)
          clear hg
          go_wp2_with fail
          go_quiet ((go_at_call 257; exact Calls.quiet_of_same (Less_any _ _ _)))
          go_wp2_with fail
          go_meet
          case rel => exact ⟨by rw [← hB2.out], Lib.hid (HSu.out.drewN _)⟩
      case rest =>
        clear HSu
        obtain ⟨rfl, HSu⟩ := hcut
        cases B with
        | true =>
          have hb := hB.out
          rw [Bool.and_eq_true, decide_eq_true_eq] at hb
          have HR := Lib.hid ((scanUp_go (fun x => !ltInt dk[a]! x) dk j i1 hb.1 (by rw [hx.out, hy.out]; exact hb.2)).symm.trans HSC.out)
          have his : (i1 : Int) < 1000000000 := by omega
          have HB := Lib.hid hb.1
          clear hb
          go_wp2_with fail
          go_roundw
          case rel => exact ⟨i1 + 1, by go_num, by omega, by have := HB.out; omega, HSu, HR⟩
          case measure => have := HB.out; simp [intOf]; omega
        | false =>
          have HI2 := Lib.hid (show i1 = scanUp (fun x => !ltInt dk[a]! x) dk j i from (scanUp_end (fun x => !ltInt dk[a]! x) dk j i1 (by
            rcases Nat.lt_or_ge j i1 with h | h
            · exact .inl (by omega)
            · refine .inr ?_
              have hb := hB.out
              rw [decide_eq_true h, hx.out.symm, hy.out.symm, Bool.true_and] at hb
              exact hb)).symm.trans HSC.out)
          have HS2 := HSu
          clear HSC hB hx HSu
          clear x
          go_wp2_with fail
          go_loopw [10] (fun v wr => ∃ (j1 : Nat), v = .int .i64 j1 ∧ j1 ≤ j ∧ i1 ≤ j1 + 1 ∧ Hid (Sd w g dk z wr) ∧ Hid (scanDown (fun x => ltInt dk[a]! x) dk i1 j1 = scanDown (fun x => ltInt dk[a]! x) dk i1 j)) (fun v _ => (intOf v).toNat)
          case atStart => exact ⟨j, rfl, Nat.le_refl _, hij1, HS2, Lib.hid rfl⟩
          case round =>
            obtain ⟨j1, rfl, hjj, hij2, HSu, HSC⟩ := hrel
            obtain ⟨x, hx⟩ : ∃ x, Hid (dk[j1]! = x) := ⟨_, Lib.hid rfl⟩
            obtain ⟨B, hB⟩ : ∃ B : Bool, Hid ((decide (i1 ≤ j1) && (ltInt y x)) = B) := ⟨_, Lib.hid rfl⟩
            go_upto_region 5 with fail
            go_cut [59] from 46 to 61 (fun v wx => v = .bool B ∧ Hid (Sd w g dk z wx))
            case first =>
              by_cases hg : i1 ≤ j1
              · have hd : decide (i1 ≤ j1) = true := decide_eq_true hg
                have q0 := HSu.out.1.cell j1 (by omega)
                rw [hx.out] at q0
                have q1 := HSu.out.1.cell a (by omega)
                rw [hy.out] at q1
                have n0 : (0 : Int) ≤ (j1 : Int) := by omega
                have n1 : (0 : Int) ≤ (a : Int) := by omega
                have b0 : (j1 : Int) < (N : Int) := by omega
                have b1 : (a : Int) < (N : Int) := by omega
                have hB2 := Lib.hid (show (ltInt y x) = B by rw [← hB.out, hd]; rfl)
                clear hg
                go_wp2_with fail
                go_quiet ((go_at_call 257; exact Calls.quiet_of_same (Less_any _ _ _)))
                go_wp2_with fail
                go_meet
                case rel => exact ⟨by rw [← hB2.out], Lib.hid (HSu.out.drewN _)⟩
              · have hd : decide (i1 ≤ j1) = false := decide_eq_false hg
                have hB2 := Lib.hid (show false = B by rw [← hB.out, hd]; rfl)
                clear hg
                go_wp2_with fail
                go_quiet ((go_at_call 257; exact Calls.quiet_of_same (Less_any _ _ _)))
                go_wp2_with fail
                go_meet
                case rel => exact ⟨by rw [← hB2.out], Lib.hid (HSu.out.drewN _)⟩
            case rest =>
              clear HSu
              obtain ⟨rfl, HSu⟩ := hcut
              cases B with
              | true =>
                have hb := hB.out
                rw [Bool.and_eq_true, decide_eq_true_eq] at hb
                have hj0 : 0 < j1 := by omega
                have HR := Lib.hid ((scanDown_go (fun x => ltInt dk[a]! x) dk i1 j1 hb.1 hj0 (by rw [hx.out, hy.out]; exact hb.2)).symm.trans HSC.out)
                obtain ⟨k, hk⟩ : ∃ k, j1 = k + 1 := ⟨j1 - 1, by omega⟩
                rw [show j1 - 1 = k by omega] at HR
                have ek : IntKind.i64.wrap ((j1 : Int) - 1) = (k : Int) := wrapN (by omega) (by omega)
                have HB := Lib.hid (And.intro hb.1 hk)
                clear hb hk hj0
                go_wp2_with fail
                go_roundw
                case rel => exact ⟨k, rfl, by have := HB.out; omega, by have := HB.out; omega, HSu, HR⟩
                case measure => have := HB.out; simp [intOf]; omega
              | false =>
                have HJ2 := Lib.hid (show j1 = scanDown (fun x => ltInt dk[a]! x) dk i1 j from (scanDown_end (fun x => ltInt dk[a]! x) dk i1 j1 (by
                  rcases Nat.lt_or_ge j1 i1 with h | h
                  · exact .inl (by omega)
                  · refine .inr ?_
                    have hb := hB.out
                    rw [decide_eq_true h, hx.out.symm, hy.out.symm, Bool.true_and] at hb
                    exact hb)).symm.trans HSC.out)
                have HS3 := HSu
                clear HSC hB hx HSu HS2
                clear x
                by_cases hle : i1 ≤ j1
                · have hd : decide (j1 < i1) = false := decide_eq_false (by omega)
                  have hlt3 := scans_lt ltInt a i j dk (by omega) HI2.out HJ2.out hle
                  have HR := Lib.hid ((partEq_go ltInt a i j dk HI2.out HJ2.out (by omega)).symm.trans HE.out)
                  rename World => W3
                  obtain ⟨k, hk⟩ : ∃ k, j1 = k + 1 := ⟨j1 - 1, by omega⟩
                  rw [show j1 - 1 = k by omega] at HR
                  have ek : IntKind.i64.wrap ((j1 : Int) - 1) = (k : Int) := wrapN (by omega) (by omega)
                  have his : (i1 : Int) < 1000000000 := by omega
                  have q0 := HS3.out.1.cell i1 (by omega)
                  have q1 := HS3.out.1.cell j1 (by omega)
                  have f0 := Own.frozen HS3.out.1 i1
                  have f1 := Own.frozen HS3.out.1 j1
                  have hgl := Own.lt HS3.out.1
                  obtain ⟨xi, hxi⟩ : ∃ x, Hid (dk[i1]! = x) := ⟨_, Lib.hid rfl⟩
                  obtain ⟨xj, hxj⟩ : ∃ x, Hid (dk[j1]! = x) := ⟨_, Lib.hid rfl⟩
                  rw [hxi.out] at q0
                  rw [hxj.out] at q1
                  have n0 : (0 : Int) ≤ (i1 : Int) := by omega
                  have n1 : (0 : Int) ≤ (j1 : Int) := by omega
                  have b0 : (i1 : Int) < (N : Int) := by omega
                  have b1 : (j1 : Int) < (N : Int) := by omega
                  obtain ⟨v3, hy3⟩ := cell?_setCell_some (w := W3) (p := ⟨g, i1, none⟩) (x := .int .u64 xj) (q := ⟨g, j1, none⟩) q1
                  have HK := Lib.hid (And.intro hk (And.intro hlt3 (And.intro hjj hii)))
                  clear hk hlt3 hle hjj hij2 hii hij1
                  go_wp2_with fail
                  go_region
                  go_wp2_with fail
                  go_roundw
                  case rel => exact ⟨i1 + 1, k, swp dk i1 j1, by go_num, rfl, by have := HK.out; omega, by have := HK.out; omega, by have := HK.out; omega, by rw [size_swp2]; exact hsk, Lib.hid ((HS3.out.qt ⟨_, rfl⟩).swap i1 j1 (by omega) (by omega) hxi.out hxj.out), HR⟩
                  case measure => have := HK.out; simp [intOf]; omega
                · have hd : decide (j1 < i1) = true := decide_eq_true (by omega)
                  have HR := Lib.hid ((partEq_break ltInt a i j dk HI2.out HJ2.out (by omega)).symm.trans HE.out)
                  clear hle
                  go_wp2_with fail
                  go_ret
                  rw [← HR.out]
                  exact ⟨rfl, Lib.hid HS3.out⟩
set_option maxHeartbeats 8000000 in
set_option maxRecDepth 100000 in
theorem part_any (w : World) (g N c a b p : Nat) (d : Array Int) (z : List Value) (h : Uw w g d z) (hN : d.size = N) (hap : a ≤ p) (hpb : p < b) (hb : b ≤ N) (hsz : N < 1000000000) :
    Calls Tryz.prog 259 #[.slice (some ⟨g, 0, none⟩) N c, .int .i64 (a : Int), .int .i64 (b : Int), .int .i64 (p : Int)] w fun e w' => e = .returned (.tuple #[.int .i64 ((partition ltInt d a b p).1 : Nat), .bool (partition ltInt d a b p).2.1]) ∧ Hid (Sd w g (partition ltInt d a b p).2.2 z w') := by
  have HS0 := Lib.hid (Sd.refl h)
  clear h
  obtain ⟨j, hj⟩ : ∃ m, b = m + 1 := ⟨b - 1, by omega⟩
  obtain ⟨i, hi⟩ : ∃ i, i = a + 1 := ⟨_, rfl⟩
  have em : IntKind.i64.wrap ((b : Int) - 1) = (j : Int) := wrapN (by omega) (by omega)
  have ei : IntKind.i64.wrap ((a : Int) + 1) = (i : Int) := wrapN (by omega) (by omega)
  obtain ⟨dk, hdk⟩ : ∃ dk, dk = swp d a p := ⟨_, rfl⟩
  have HP := Lib.hid (fun (i2 j2 : Nat) => @part_first_break Int _ ltInt d a b p i j dk i2 j2 hi (by omega) hdk)
  have HG := Lib.hid (fun (i2 j2 : Nat) => @part_first_go Int _ ltInt d a b p i j dk i2 j2 hi (by omega) hdk)
  have hsk : dk.size = N := by rw [hdk, size_swp2]; exact hN
  have q0 := HS0.out.1.cell a (by omega)
  have q1 := HS0.out.1.cell p (by omega)
  have f0 := Own.frozen HS0.out.1 a
  have f1 := Own.frozen HS0.out.1 p
  have hgl := Own.lt HS0.out.1
  obtain ⟨xa, hxa⟩ : ∃ x, Hid (d[a]! = x) := ⟨_, Lib.hid rfl⟩
  obtain ⟨xp, hxp⟩ : ∃ x, Hid (d[p]! = x) := ⟨_, Lib.hid rfl⟩
  rw [hxa.out] at q0
  rw [hxp.out] at q1
  have n0 : (0 : Int) ≤ (a : Int) := by omega
  have n1 : (0 : Int) ≤ (p : Int) := by omega
  have b0 : (a : Int) < (N : Int) := by omega
  have b1 : (p : Int) < (N : Int) := by omega
  obtain ⟨v3, hy3⟩ := cell?_setCell_some (w := w) (p := ⟨g, a, none⟩) (x := .int .u64 xp) (q := ⟨g, p, none⟩) q1
  have HW := Lib.hid (show Sd w g dk z (((w.setCell ⟨g, a, none⟩ (.int .u64 xp)).setCell ⟨g, p, none⟩ (.int .u64 xa)).drew) from by rw [hdk]; exact (HS0.out.swap a p (by omega) (by omega) hxa.out hxp.out).drew)
  have hij : i ≤ j + 1 := by omega
  have hjN : j < N := by omega
  have haN : a < N := by omega
  have hai : a < i := by omega
  have has : (a : Int) < 1000000000 := by omega
  obtain ⟨y, hy⟩ : ∃ y, Hid (dk[a]! = y) := ⟨_, Lib.hid rfl⟩
  clear hdk hj hi hap hpb hb hxa hxp
  go_enter Tryz.func259, Tryz.ntmps259
  go_wp2_with fail
  go_region
  go_wp2_with fail
  go_loopw [10] (fun v wr => ∃ (i1 : Nat), v = .int .i64 i1 ∧ i ≤ i1 ∧ i1 ≤ j + 1 ∧ Hid (Sd w g dk z wr) ∧ Hid (scanUp (fun x => ltInt x dk[a]!) dk j i1 = scanUp (fun x => ltInt x dk[a]!) dk j i)) (fun v _ => j + 1 - (intOf v).toNat)
  case atStart => exact ⟨i, rfl, Nat.le_refl _, hij, HW, Lib.hid rfl⟩
  case round =>
    obtain ⟨i1, rfl, hii, hij1, HSu, HSC⟩ := hrel
    obtain ⟨x, hx⟩ : ∃ x, Hid (dk[i1]! = x) := ⟨_, Lib.hid rfl⟩
    obtain ⟨B, hB⟩ : ∃ B : Bool, Hid ((decide (i1 ≤ j) && (ltInt x y)) = B) := ⟨_, Lib.hid rfl⟩
    go_upto_region 3 with fail
    go_cut [43] from 30 to 45 (fun v wx => v = .bool B ∧ Hid (Sd w g dk z wx))
    case first =>
      by_cases hg : i1 ≤ j
      · have hd : decide (i1 ≤ j) = true := decide_eq_true hg
        have q0 := HSu.out.1.cell i1 (by omega)
        rw [hx.out] at q0
        have q1 := HSu.out.1.cell a (by omega)
        rw [hy.out] at q1
        have n0 : (0 : Int) ≤ (i1 : Int) := by omega
        have n1 : (0 : Int) ≤ (a : Int) := by omega
        have b0 : (i1 : Int) < (N : Int) := by omega
        have b1 : (a : Int) < (N : Int) := by omega
        have hB2 := Lib.hid (show (ltInt x y) = B by rw [← hB.out, hd]; rfl)
        clear hg
        go_wp2_with fail
        go_quiet ((go_at_call 257; exact Calls.quiet_of_same (Less_any _ _ _)))
        go_wp2_with fail
        go_meet
        case rel => exact ⟨by rw [← hB2.out], Lib.hid (HSu.out.drewN _)⟩
      · have hd : decide (i1 ≤ j) = false := decide_eq_false hg
        have hB2 := Lib.hid (show false = B by rw [← hB.out, hd]; rfl)
        clear hg
        go_wp2_with fail
        go_quiet ((go_at_call 257; exact Calls.quiet_of_same (Less_any _ _ _)))
        go_wp2_with fail
        go_meet
        case rel => exact ⟨by rw [← hB2.out], Lib.hid (HSu.out.drewN _)⟩
    case rest =>
      clear HSu
      obtain ⟨rfl, HSu⟩ := hcut
      cases B with
      | true =>
        have hb := hB.out
        rw [Bool.and_eq_true, decide_eq_true_eq] at hb
        have HR := Lib.hid ((scanUp_go (fun x => ltInt x dk[a]!) dk j i1 hb.1 (by rw [hx.out, hy.out]; exact hb.2)).symm.trans HSC.out)
        have his : (i1 : Int) < 1000000000 := by omega
        have HB := Lib.hid hb.1
        clear hb
        go_wp2_with fail
        go_roundw
        case rel => exact ⟨i1 + 1, by go_num, by omega, by have := HB.out; omega, HSu, HR⟩
        case measure => have := HB.out; simp [intOf]; omega
      | false =>
        have HI2 := Lib.hid (show i1 = scanUp (fun x => ltInt x dk[a]!) dk j i from (scanUp_end (fun x => ltInt x dk[a]!) dk j i1 (by
          rcases Nat.lt_or_ge j i1 with h | h
          · exact .inl (by omega)
          · refine .inr ?_
            have hb := hB.out
            rw [decide_eq_true h, hx.out.symm, hy.out.symm, Bool.true_and] at hb
            exact hb)).symm.trans HSC.out)
        have HS2 := HSu
        clear HSC hB hx HSu
        clear x
        go_wp2_with fail
        go_loopw [11] (fun v wr => ∃ (j1 : Nat), v = .int .i64 j1 ∧ j1 ≤ j ∧ i1 ≤ j1 + 1 ∧ Hid (Sd w g dk z wr) ∧ Hid (scanDown (fun x => !ltInt x dk[a]!) dk i1 j1 = scanDown (fun x => !ltInt x dk[a]!) dk i1 j)) (fun v _ => (intOf v).toNat)
        case atStart => exact ⟨j, rfl, Nat.le_refl _, hij1, HS2, Lib.hid rfl⟩
        case round =>
          obtain ⟨j1, rfl, hjj, hij2, HSu, HSC⟩ := hrel
          obtain ⟨x, hx⟩ : ∃ x, Hid (dk[j1]! = x) := ⟨_, Lib.hid rfl⟩
          obtain ⟨B, hB⟩ : ∃ B : Bool, Hid ((decide (i1 ≤ j1) && (!ltInt x y)) = B) := ⟨_, Lib.hid rfl⟩
          go_upto_region 5 with fail
          go_cut [60] from 46 to 62 (fun v wx => v = .bool B ∧ Hid (Sd w g dk z wx))
          case first =>
            by_cases hg : i1 ≤ j1
            · have hd : decide (i1 ≤ j1) = true := decide_eq_true hg
              have q0 := HSu.out.1.cell j1 (by omega)
              rw [hx.out] at q0
              have q1 := HSu.out.1.cell a (by omega)
              rw [hy.out] at q1
              have n0 : (0 : Int) ≤ (j1 : Int) := by omega
              have n1 : (0 : Int) ≤ (a : Int) := by omega
              have b0 : (j1 : Int) < (N : Int) := by omega
              have b1 : (a : Int) < (N : Int) := by omega
              have hB2 := Lib.hid (show (!ltInt x y) = B by rw [← hB.out, hd]; rfl)
              clear hg
              go_wp2_with fail
              go_quiet ((go_at_call 257; exact Calls.quiet_of_same (Less_any _ _ _)))
              go_wp2_with fail
              go_meet
              case rel => exact ⟨by rw [← hB2.out], Lib.hid (HSu.out.drewN _)⟩
            · have hd : decide (i1 ≤ j1) = false := decide_eq_false hg
              have hB2 := Lib.hid (show false = B by rw [← hB.out, hd]; rfl)
              clear hg
              go_wp2_with fail
              go_quiet ((go_at_call 257; exact Calls.quiet_of_same (Less_any _ _ _)))
              go_wp2_with fail
              go_meet
              case rel => exact ⟨by rw [← hB2.out], Lib.hid (HSu.out.drewN _)⟩
          case rest =>
            clear HSu
            obtain ⟨rfl, HSu⟩ := hcut
            cases B with
            | true =>
              have hb := hB.out
              rw [Bool.and_eq_true, decide_eq_true_eq] at hb
              have hj0 : 0 < j1 := by omega
              have HR := Lib.hid ((scanDown_go (fun x => !ltInt x dk[a]!) dk i1 j1 hb.1 hj0 (by rw [hx.out, hy.out]; exact hb.2)).symm.trans HSC.out)
              obtain ⟨k, hk⟩ : ∃ k, j1 = k + 1 := ⟨j1 - 1, by omega⟩
              rw [show j1 - 1 = k by omega] at HR
              have ek : IntKind.i64.wrap ((j1 : Int) - 1) = (k : Int) := wrapN (by omega) (by omega)
              have HB := Lib.hid (And.intro hb.1 hk)
              clear hb hk hj0
              go_wp2_with fail
              go_roundw
              case rel => exact ⟨k, rfl, by have := HB.out; omega, by have := HB.out; omega, HSu, HR⟩
              case measure => have := HB.out; simp [intOf]; omega
            | false =>
              have HJ2 := Lib.hid (show j1 = scanDown (fun x => !ltInt x dk[a]!) dk i1 j from (scanDown_end (fun x => !ltInt x dk[a]!) dk i1 j1 (by
                rcases Nat.lt_or_ge j1 i1 with h | h
                · exact .inl (by omega)
                · refine .inr ?_
                  have hb := hB.out
                  rw [decide_eq_true h, hx.out.symm, hy.out.symm, Bool.true_and] at hb
                  exact hb)).symm.trans HSC.out)
              have HS3 := HSu
              clear HSC hB hx HSu HS2
              clear x
              by_cases hle : i1 ≤ j1
              · have hd : decide (j1 < i1) = false := decide_eq_false (by omega)
                have hlt3 := part_scans_lt ltInt a i j dk (by omega) HI2.out HJ2.out hle
                have HF0 := Lib.hid (HG.out _ _ HI2.out HJ2.out (by omega))
                rename World => W3
                obtain ⟨k, hk⟩ : ∃ k, j1 = k + 1 := ⟨j1 - 1, by omega⟩
                rw [show j1 - 1 = k by omega] at HF0
                obtain ⟨PL, hPL⟩ : ∃ X, Hid (partLoop ltInt a (i1 + 1) k (swp dk i1 j1) = X) := ⟨_, Lib.hid rfl⟩
                rw [hPL.out] at HF0
                have HF := HF0
                have ek : IntKind.i64.wrap ((j1 : Int) - 1) = (k : Int) := wrapN (by omega) (by omega)
                have his : (i1 : Int) < 1000000000 := by omega
                have q0 := HS3.out.1.cell i1 (by omega)
                have q1 := HS3.out.1.cell j1 (by omega)
                have f0 := Own.frozen HS3.out.1 i1
                have f1 := Own.frozen HS3.out.1 j1
                have hgl := Own.lt HS3.out.1
                obtain ⟨xi, hxi⟩ : ∃ x, Hid (dk[i1]! = x) := ⟨_, Lib.hid rfl⟩
                obtain ⟨xj, hxj⟩ : ∃ x, Hid (dk[j1]! = x) := ⟨_, Lib.hid rfl⟩
                rw [hxi.out] at q0
                rw [hxj.out] at q1
                have n0 : (0 : Int) ≤ (i1 : Int) := by omega
                have n1 : (0 : Int) ≤ (j1 : Int) := by omega
                have b0 : (i1 : Int) < (N : Int) := by omega
                have b1 : (j1 : Int) < (N : Int) := by omega
                obtain ⟨v3, hy3⟩ := cell?_setCell_some (w := W3) (p := ⟨g, i1, none⟩) (x := .int .u64 xj) (q := ⟨g, j1, none⟩) q1
                have HK := Lib.hid (And.intro hk (And.intro hlt3 (And.intro hjj hii)))
                clear hk hlt3 hle hij2 hij1 HF0 HP HG
                go_wp2_with fail
                go_region
                go_wp2_with fail
                go_loopw [10, 11] (fun vi vj wr => ∃ (i j : Nat) (dk : Array Int), vi = .int .i64 i ∧ vj = .int .i64 j ∧ a < i ∧ i ≤ j + 1 ∧ j < N ∧ dk.size = N ∧ Hid (Sd w g dk z wr) ∧ Hid (partLoop ltInt a i j dk = PL)) (fun vi vj _ => (intOf vj).toNat + 1 - (intOf vi).toNat)
                case atStart => exact ⟨i1 + 1, k, swp dk i1 j1, by go_num, rfl, by omega, by have := HK.out; omega, by have := HK.out; omega, by rw [size_swp2]; exact hsk, Lib.hid ((HS3.out.qt ⟨_, rfl⟩).swap i1 j1 (by omega) (by omega) hxi.out hxj.out), hPL⟩
                case round =>
                  clear q0 q1 f0 f1 hgl n0 n1 b0 b1 hy3 hxi hxj HI2 HJ2 HS3 HK hii hjj hy hsk hij hjN hai hd his ek
                  obtain ⟨i, j, dk, rfl, rfl, hai, hij, hjN, hsk, HW, HE⟩ := hrel
                  obtain ⟨y, hy⟩ : ∃ y, Hid (dk[a]! = y) := ⟨_, Lib.hid rfl⟩
                  go_wp2_with fail
                  go_loopw [10] (fun v wr => ∃ (i1 : Nat), v = .int .i64 i1 ∧ i ≤ i1 ∧ i1 ≤ j + 1 ∧ Hid (Sd w g dk z wr) ∧ Hid (scanUp (fun x => ltInt x dk[a]!) dk j i1 = scanUp (fun x => ltInt x dk[a]!) dk j i)) (fun v _ => j + 1 - (intOf v).toNat)
                  case atStart => exact ⟨i, rfl, Nat.le_refl _, hij, HW, Lib.hid rfl⟩
                  case round =>
                    obtain ⟨i1, rfl, hii, hij1, HSu, HSC⟩ := hrel
                    obtain ⟨x, hx⟩ : ∃ x, Hid (dk[i1]! = x) := ⟨_, Lib.hid rfl⟩
                    obtain ⟨B, hB⟩ : ∃ B : Bool, Hid ((decide (i1 ≤ j) && (ltInt x y)) = B) := ⟨_, Lib.hid rfl⟩
                    go_upto_region 13 with fail
                    go_cut [112] from 99 to 114 (fun v wx => v = .bool B ∧ Hid (Sd w g dk z wx))
                    case first =>
                      by_cases hg : i1 ≤ j
                      · have hd : decide (i1 ≤ j) = true := decide_eq_true hg
                        have q0 := HSu.out.1.cell i1 (by omega)
                        rw [hx.out] at q0
                        have q1 := HSu.out.1.cell a (by omega)
                        rw [hy.out] at q1
                        have n0 : (0 : Int) ≤ (i1 : Int) := by omega
                        have n1 : (0 : Int) ≤ (a : Int) := by omega
                        have b0 : (i1 : Int) < (N : Int) := by omega
                        have b1 : (a : Int) < (N : Int) := by omega
                        have hB2 := Lib.hid (show (ltInt x y) = B by rw [← hB.out, hd]; rfl)
                        clear hg
                        go_wp2_with fail
                        go_quiet ((go_at_call 257; exact Calls.quiet_of_same (Less_any _ _ _)))
                        go_wp2_with fail
                        go_meet
                        case rel => exact ⟨by rw [← hB2.out], Lib.hid (HSu.out.drewN _)⟩
                      · have hd : decide (i1 ≤ j) = false := decide_eq_false hg
                        have hB2 := Lib.hid (show false = B by rw [← hB.out, hd]; rfl)
                        clear hg
                        go_wp2_with fail
                        go_quiet ((go_at_call 257; exact Calls.quiet_of_same (Less_any _ _ _)))
                        go_wp2_with fail
                        go_meet
                        case rel => exact ⟨by rw [← hB2.out], Lib.hid (HSu.out.drewN _)⟩
                    case rest =>
                      clear HSu
                      obtain ⟨rfl, HSu⟩ := hcut
                      cases B with
                      | true =>
                        have hb := hB.out
                        rw [Bool.and_eq_true, decide_eq_true_eq] at hb
                        have HR := Lib.hid ((scanUp_go (fun x => ltInt x dk[a]!) dk j i1 hb.1 (by rw [hx.out, hy.out]; exact hb.2)).symm.trans HSC.out)
                        have his : (i1 : Int) < 1000000000 := by omega
                        have HB := Lib.hid hb.1
                        clear hb
                        go_wp2_with fail
                        go_roundw
                        case rel => exact ⟨i1 + 1, by go_num, by omega, by have := HB.out; omega, HSu, HR⟩
                        case measure => have := HB.out; simp [intOf]; omega
                      | false =>
                        have HI2 := Lib.hid (show i1 = scanUp (fun x => ltInt x dk[a]!) dk j i from (scanUp_end (fun x => ltInt x dk[a]!) dk j i1 (by
                          rcases Nat.lt_or_ge j i1 with h | h
                          · exact .inl (by omega)
                          · refine .inr ?_
                            have hb := hB.out
                            rw [decide_eq_true h, hx.out.symm, hy.out.symm, Bool.true_and] at hb
                            exact hb)).symm.trans HSC.out)
                        have HS2 := HSu
                        clear HSC hB hx HSu
                        clear x
                        go_wp2_with fail
                        go_loopw [11] (fun v wr => ∃ (j1 : Nat), v = .int .i64 j1 ∧ j1 ≤ j ∧ i1 ≤ j1 + 1 ∧ Hid (Sd w g dk z wr) ∧ Hid (scanDown (fun x => !ltInt x dk[a]!) dk i1 j1 = scanDown (fun x => !ltInt x dk[a]!) dk i1 j)) (fun v _ => (intOf v).toNat)
                        case atStart => exact ⟨j, rfl, Nat.le_refl _, hij1, HS2, Lib.hid rfl⟩
                        case round =>
                          obtain ⟨j1, rfl, hjj, hij2, HSu, HSC⟩ := hrel
                          obtain ⟨x, hx⟩ : ∃ x, Hid (dk[j1]! = x) := ⟨_, Lib.hid rfl⟩
                          obtain ⟨B, hB⟩ : ∃ B : Bool, Hid ((decide (i1 ≤ j1) && (!ltInt x y)) = B) := ⟨_, Lib.hid rfl⟩
                          go_upto_region 15 with fail
                          go_cut [129] from 115 to 131 (fun v wx => v = .bool B ∧ Hid (Sd w g dk z wx))
                          case first =>
                            by_cases hg : i1 ≤ j1
                            · have hd : decide (i1 ≤ j1) = true := decide_eq_true hg
                              have q0 := HSu.out.1.cell j1 (by omega)
                              rw [hx.out] at q0
                              have q1 := HSu.out.1.cell a (by omega)
                              rw [hy.out] at q1
                              have n0 : (0 : Int) ≤ (j1 : Int) := by omega
                              have n1 : (0 : Int) ≤ (a : Int) := by omega
                              have b0 : (j1 : Int) < (N : Int) := by omega
                              have b1 : (a : Int) < (N : Int) := by omega
                              have hB2 := Lib.hid (show (!ltInt x y) = B by rw [← hB.out, hd]; rfl)
                              clear hg
                              go_wp2_with fail
                              go_quiet ((go_at_call 257; exact Calls.quiet_of_same (Less_any _ _ _)))
                              go_wp2_with fail
                              go_meet
                              case rel => exact ⟨by rw [← hB2.out], Lib.hid (HSu.out.drewN _)⟩
                            · have hd : decide (i1 ≤ j1) = false := decide_eq_false hg
                              have hB2 := Lib.hid (show false = B by rw [← hB.out, hd]; rfl)
                              clear hg
                              go_wp2_with fail
                              go_quiet ((go_at_call 257; exact Calls.quiet_of_same (Less_any _ _ _)))
                              go_wp2_with fail
                              go_meet
                              case rel => exact ⟨by rw [← hB2.out], Lib.hid (HSu.out.drewN _)⟩
                          case rest =>
                            clear HSu
                            obtain ⟨rfl, HSu⟩ := hcut
                            cases B with
                            | true =>
                              have hb := hB.out
                              rw [Bool.and_eq_true, decide_eq_true_eq] at hb
                              have hj0 : 0 < j1 := by omega
                              have HR := Lib.hid ((scanDown_go (fun x => !ltInt x dk[a]!) dk i1 j1 hb.1 hj0 (by rw [hx.out, hy.out]; exact hb.2)).symm.trans HSC.out)
                              obtain ⟨k, hk⟩ : ∃ k, j1 = k + 1 := ⟨j1 - 1, by omega⟩
                              rw [show j1 - 1 = k by omega] at HR
                              have ek : IntKind.i64.wrap ((j1 : Int) - 1) = (k : Int) := wrapN (by omega) (by omega)
                              have HB := Lib.hid (And.intro hb.1 hk)
                              clear hb hk hj0
                              go_wp2_with fail
                              go_roundw
                              case rel => exact ⟨k, rfl, by have := HB.out; omega, by have := HB.out; omega, HSu, HR⟩
                              case measure => have := HB.out; simp [intOf]; omega
                            | false =>
                              have HJ2 := Lib.hid (show j1 = scanDown (fun x => !ltInt x dk[a]!) dk i1 j from (scanDown_end (fun x => !ltInt x dk[a]!) dk i1 j1 (by
                                rcases Nat.lt_or_ge j1 i1 with h | h
                                · exact .inl (by omega)
                                · refine .inr ?_
                                  have hb := hB.out
                                  rw [decide_eq_true h, hx.out.symm, hy.out.symm, Bool.true_and] at hb
                                  exact hb)).symm.trans HSC.out)
                              have HS3 := HSu
                              clear HSC hB hx HSu HS2
                              clear x
                              by_cases hle : i1 ≤ j1
                              · have hd : decide (j1 < i1) = false := decide_eq_false (by omega)
                                have hlt3 := part_scans_lt ltInt a i j dk (by omega) HI2.out HJ2.out hle
                                have HR := Lib.hid ((part_go ltInt a i j dk HI2.out HJ2.out (by omega)).symm.trans HE.out)
                                rename World => W3
                                obtain ⟨k, hk⟩ : ∃ k, j1 = k + 1 := ⟨j1 - 1, by omega⟩
                                rw [show j1 - 1 = k by omega] at HR
                                have ek : IntKind.i64.wrap ((j1 : Int) - 1) = (k : Int) := wrapN (by omega) (by omega)
                                have his : (i1 : Int) < 1000000000 := by omega
                                have q0 := HS3.out.1.cell i1 (by omega)
                                have q1 := HS3.out.1.cell j1 (by omega)
                                have f0 := Own.frozen HS3.out.1 i1
                                have f1 := Own.frozen HS3.out.1 j1
                                have hgl := Own.lt HS3.out.1
                                obtain ⟨xi, hxi⟩ : ∃ x, Hid (dk[i1]! = x) := ⟨_, Lib.hid rfl⟩
                                obtain ⟨xj, hxj⟩ : ∃ x, Hid (dk[j1]! = x) := ⟨_, Lib.hid rfl⟩
                                rw [hxi.out] at q0
                                rw [hxj.out] at q1
                                have n0 : (0 : Int) ≤ (i1 : Int) := by omega
                                have n1 : (0 : Int) ≤ (j1 : Int) := by omega
                                have b0 : (i1 : Int) < (N : Int) := by omega
                                have b1 : (j1 : Int) < (N : Int) := by omega
                                obtain ⟨v3, hy3⟩ := cell?_setCell_some (w := W3) (p := ⟨g, i1, none⟩) (x := .int .u64 xj) (q := ⟨g, j1, none⟩) q1
                                have HK := Lib.hid (And.intro hk (And.intro hlt3 (And.intro hjj hii)))
                                clear hk hlt3 hle hjj hij2 hii hij1
                                go_wp2_with fail
                                go_region
                                go_wp2_with fail
                                go_roundw
                                case rel => exact ⟨i1 + 1, k, swp dk i1 j1, by go_num, rfl, by have := HK.out; omega, by have := HK.out; omega, by have := HK.out; omega, by rw [size_swp2]; exact hsk, Lib.hid ((HS3.out.qt ⟨_, rfl⟩).swap i1 j1 (by omega) (by omega) hxi.out hxj.out), HR⟩
                                case measure => have := HK.out; simp [intOf]; omega
                              · have hd : decide (j1 < i1) = true := decide_eq_true (by omega)
                                have HR := Lib.hid ((part_break ltInt a i j dk HI2.out HJ2.out (by omega)).symm.trans HE.out)
                                rename World => W3
                                have q0 := HS3.out.1.cell j1 (by omega)
                                have q1 := HS3.out.1.cell a (by omega)
                                have f0 := Own.frozen HS3.out.1 j1
                                have f1 := Own.frozen HS3.out.1 a
                                have hgl := Own.lt HS3.out.1
                                obtain ⟨xi, hxi⟩ : ∃ x, Hid (dk[j1]! = x) := ⟨_, Lib.hid rfl⟩
                                obtain ⟨xj, hxj⟩ : ∃ x, Hid (dk[a]! = x) := ⟨_, Lib.hid rfl⟩
                                rw [hxi.out] at q0
                                rw [hxj.out] at q1
                                have n0 : (0 : Int) ≤ (j1 : Int) := by omega
                                have n1 : (0 : Int) ≤ (a : Int) := by omega
                                have b0 : (j1 : Int) < (N : Int) := by omega
                                have b1 : (a : Int) < (N : Int) := by omega
                                obtain ⟨v3, hy3⟩ := cell?_setCell_some (w := W3) (p := ⟨g, j1, none⟩) (x := .int .u64 xj) (q := ⟨g, a, none⟩) q1
                                clear hle
                                go_wp2_with fail
                                go_region
                                go_wp2_with fail
                                go_ret2
                                have HF2 := HF.out
                                rw [← HR.out] at HF2
                                rw [HF2]
                                exact ⟨rfl, Lib.hid ((HS3.out.qt ⟨_, rfl⟩).swap j1 a (by omega) (by omega) hxi.out hxj.out)⟩
              · have hd : decide (j1 < i1) = true := decide_eq_true (by omega)
                have HR := Lib.hid (HP.out _ _ HI2.out HJ2.out (by omega))
                rename World => W3
                have q0 := HS3.out.1.cell j1 (by omega)
                have q1 := HS3.out.1.cell a (by omega)
                have f0 := Own.frozen HS3.out.1 j1
                have f1 := Own.frozen HS3.out.1 a
                have hgl := Own.lt HS3.out.1
                obtain ⟨xi, hxi⟩ : ∃ x, Hid (dk[j1]! = x) := ⟨_, Lib.hid rfl⟩
                obtain ⟨xj, hxj⟩ : ∃ x, Hid (dk[a]! = x) := ⟨_, Lib.hid rfl⟩
                rw [hxi.out] at q0
                rw [hxj.out] at q1
                have n0 : (0 : Int) ≤ (j1 : Int) := by omega
                have n1 : (0 : Int) ≤ (a : Int) := by omega
                have b0 : (j1 : Int) < (N : Int) := by omega
                have b1 : (a : Int) < (N : Int) := by omega
                obtain ⟨v3, hy3⟩ := cell?_setCell_some (w := W3) (p := ⟨g, j1, none⟩) (x := .int .u64 xj) (q := ⟨g, a, none⟩) q1
                clear hle HP HG
                go_wp2_with fail
                go_region
                go_wp2_with fail
                go_ret2
                rw [HR.out]
                exact ⟨rfl, Lib.hid ((HS3.out.qt ⟨_, rfl⟩).swap j1 a (by omega) (by omega) hxi.out hxj.out)⟩
end Go.Proofs.YtmpajlpemabniaaGreat
