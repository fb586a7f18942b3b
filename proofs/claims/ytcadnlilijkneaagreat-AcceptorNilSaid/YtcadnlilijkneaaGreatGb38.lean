/-
  Sorting of uint64: the whole sort. No claim of their own.
-/
import Derived.Test.YtcadnlilijkneaaGreatGb37
import Derived.Sort.AssemblyPlain
import Derived.Test.YtcadnlilijkneaaGreatGb31
import Derived.Test.YtcadnlilijkneaaGreatGb24
import Derived.Test.YtcadnlilijkneaaGreatGb12
namespace Go.Proofs.YtcadnlilijkneaaGreat
open Go.RowKit Go.Sort Go.Shelf
set_option linter.unusedVariables false
set_option linter.unusedSimpArgs false

def Fin_ (a b : Nat) (d : Array Int) (a' b' : Nat) (dk : Array Int) : Prop := ∀ R, PermIn a' b' dk R → SortedIn ltInt a' b' R → PermIn a b d R ∧ SortedIn ltInt a b R
def Ordered (w : World) (g : Nat) (a b : Nat) (d : Array Int) (z : List Value) (w' : World) : Prop := ∃ R, PermIn a b d R ∧ SortedIn ltInt a b R ∧ Sd w g R z w'
theorem ptrans {a b : Nat} {d d1 d2 : Array Int} (h : PermIn a b d d1) (k : PermIn a b d1 d2) : PermIn a b d d2 := permIn_trans _ _ _ a b h k
set_option maxHeartbeats 8000000 in
set_option maxRecDepth 1000000 in
theorem pdq_any : ∀ (n : Nat) (w : World) (g N c a b lim : Nat) (d : Array Int) (z : List Value), b - a < n → Uw w g d z → d.size = N → a ≤ b → b ≤ N → N < 1000000000 → lim ≤ 1000 → Below ltInt a b d →
    Calls Tryz.prog 252 #[.slice (some ⟨g, 0, none⟩) N c, .int .i64 (a : Int), .int .i64 (b : Int), .int .i64 (lim : Int)] w fun e w' => e = .returned (.tuple #[]) ∧ Hid (Ordered w g a b d z w') := by
  intro n
  induction n with
  | zero => intro _ _ _ _ _ _ _ _ _ h; exact absurd h (Nat.not_lt_zero _)
  | succ n ih =>
    intro w g N c a b lim d z hn h hN hab hb hsz hlim hBel
    have HS0 := Lib.hid (Sd.refl h)
    have IH := Lib.hid ih
    have HB0 := Lib.hid hBel
    obtain ⟨K, hK⟩ : ∃ K, Hid (K = b - a) := ⟨_, Lib.hid rfl⟩
    have HKn := Lib.hid hn
    clear h ih hBel hn
    go_enter Tryz.func252, Tryz.ntmps252
    go_wp2_with fail
    go_loopw [1, 2, 3, 8, 9] (fun v1 v2 v3 v8 v9 wr => ∃ (a' b' l' : Nat) (wb wp : Bool) (dk : Array Int), v1 = .int .i64 (a' : Int) ∧ v2 = .int .i64 (b' : Int) ∧ v3 = .int .i64 (l' : Int) ∧ v8 = .bool wb ∧ v9 = .bool wp ∧ a' ≤ b' ∧ b' ≤ N ∧ b' - a' ≤ K ∧ l' ≤ 1000 ∧ dk.size = N ∧ Hid (Below ltInt a' b' dk) ∧ Hid (Sd w g dk z wr) ∧ Hid (Fin_ a b d a' b' dk)) (fun v1 v2 _ _ _ _ => (intOf v2).toNat - (intOf v1).toNat)
    case atStart => exact ⟨a, b, lim, true, true, d, rfl, rfl, rfl, rfl, rfl, hab, hb, by rw [hK.out]; exact Nat.le_refl _, hlim, hN, HB0, HS0, Lib.hid fun R p s => ⟨p, s⟩⟩
    case round =>
      clear hab hb hlim
      obtain ⟨a', b', l', wb, wp, dk, rfl, rfl, rfl, rfl, rfl, hab, hb, hbK, hlim, hsk, HBel, HS, HF⟩ := hrel
      obtain ⟨L, hL⟩ : ∃ L, Hid (L = b' - a') := ⟨_, Lib.hid rfl⟩
      have eL : IntKind.i64.wrap ((b' : Int) - (a' : Int)) = (L : Int) := wrapN (by have := hL.out; omega) (by have := hL.out; omega)
      by_cases h12 : L ≤ 12
      · have d12 : decide ((L : Int) ≤ 12) = true := decide_eq_true (by omega)
        have CI := Lib.hid (insertion_any _ g N c a' b' dk z HS.out.1 hsk hab hb hsz)
        have HI := Lib.hid (insertionSort_holds (lt := ltInt) swo_ltInt dk a' b' hab (by omega))
        clear h12
        go_wp2_with fail
        refine CI.out.mono ?_
        rintro e w2 ⟨rfl, HS2⟩
        go_wp2_with fail
        (try simp only [Exit.inBlock, Exit.then])
        refine bodyPost_ret (results_none rfl _ _ _) rfl ?_
        obtain ⟨p, s⟩ := HF.out _ HI.out.1 HI.out.2
        exact ⟨rfl, Lib.hid ⟨_, p, s, HS.out.then HS2.out⟩⟩
      · have d12 : decide ((L : Int) ≤ 12) = false := decide_eq_false (by omega)
        by_cases hl0 : l' = 0
        · have z0 : ((l' : Int) == 0) = true := by simp; omega
          have CI := Lib.hid (heapSort_any _ g N c a' b' dk z HS.out.1 hsk (by have := hL.out; omega) hb hsz)
          have HI := Lib.hid (heapSort_holds (lt := ltInt) swo_ltInt dk a' b' hab (by omega))
          clear h12 hl0
          go_wp2_with fail
          refine CI.out.mono ?_
          rintro e w2 ⟨rfl, HS2⟩
          go_wp2_with fail
          (try simp only [Exit.inBlock, Exit.then])
          refine bodyPost_ret (results_none rfl _ _ _) rfl ?_
          obtain ⟨p, s⟩ := HF.out _ HI.out.1 HI.out.2
          exact ⟨rfl, Lib.hid ⟨_, p, s, HS.out.then HS2.out⟩⟩
        · have z0 : ((l' : Int) == 0) = false := beq_eq_false_iff_ne.2 (by omega)
          have h8 : a' + 8 ≤ b' := by have := hL.out; omega
          have hlt : a' < b' := by omega
          clear h12
          go_upto_if 35 with fail
          go_cut [3] from 19 (fun v3 wx => ∃ (l1 : Nat) (d1 : Array Int), v3 = .int .i64 (l1 : Int) ∧ l1 ≤ 1000 ∧ Hid (PermIn a' b' dk d1) ∧ Hid (Sd w g d1 z wx))
          case first =>
            cases wb with
            | true =>
              go_wp2_with fail
              go_meet
              case rel => exact ⟨l', dk, rfl, hlim, Lib.hid (permIn_refl _ _ _), HS⟩
            | false =>
              have CI := Lib.hid (breakPatterns_any _ g N c a' b' dk z HS.out.1 hsk h8 hb hsz)
              obtain ⟨l1, hl1⟩ : ∃ l1, l' = l1 + 1 := ⟨l' - 1, by omega⟩
              have el : IntKind.i64.wrap ((l' : Int) - 1) = (l1 : Int) := wrapN (by omega) (by omega)
              have hl2 : l1 ≤ 1000 := by omega
              clear hl1 hl0
              go_wp2_with fail
              refine CI.out.mono ?_
              rintro e w2 ⟨rfl, HS2⟩
              go_wp2_with fail
              go_meet
              case rel => exact ⟨l1, _, rfl, hl2, Lib.hid (breakPatterns_holds (α := Int) dk a' b' hab (by omega)), Lib.hid (HS.out.then HS2.out)⟩
          case rest =>
            obtain ⟨l1, d1, rfl, hl1, HP1, HS1⟩ := hcut
            have hs1 : d1.size = N := by rw [HP1.out.1]; exact hsk
            have CI := Lib.hid (choosePivot_any _ g N c a' b' d1 z HS1.out.1 hs1 h8 hb hsz)
            have HCR := Lib.hid (choosePivot_holds ltInt d1 a' b' hlt)
            generalize choosePivot ltInt d1 a' b' = cp at *
            obtain ⟨pv, hn⟩ := cp
            simp only at CI HCR
            clear HS
            go_upto_if 50 with (go_at_call 280; refine CI.out.mono ?_; rintro e w2 ⟨rfl, HS2⟩)
            go_cut [11, 12] from 19 (fun v11 v12 wx => ∃ (piv : Nat) (ht : Hint) (d2 : Array Int), v11 = .int .i64 (piv : Int) ∧ v12 = .int .i64 (hc ht) ∧ a' ≤ piv ∧ piv < b' ∧ Hid (PermIn a' b' dk d2) ∧ Hid (Sd w g d2 z wx))
            case first =>
              cases hn with
              | decreasing =>
                have CR := Lib.hid (reverse_any _ g N c a' b' d1 z HS2.out.1 hs1 hlt hb hsz)
                have hcr := HCR.out
                obtain ⟨x1, hx1⟩ : ∃ x, x = b' - 1 := ⟨_, rfl⟩
                obtain ⟨x2, hx2⟩ : ∃ x, x = pv - a' := ⟨_, rfl⟩
                obtain ⟨x3, hx3⟩ : ∃ x, x = x1 - x2 := ⟨_, rfl⟩
                have g1 : IntKind.i64.wrap ((b' : Int) - 1) = (x1 : Int) := wrapN (by omega) (by omega)
                have g2 : IntKind.i64.wrap ((pv : Int) - (a' : Int)) = (x2 : Int) := wrapN (by omega) (by omega)
                have g3 : IntKind.i64.wrap ((x1 : Int) - (x2 : Int)) = (x3 : Int) := wrapN (by omega) (by omega)
                have hx4 : a' ≤ x3 ∧ x3 < b' := by omega
                clear hx1 hx2 hx3 hcr
                simp only [hc] at *
                go_wp2_with fail
                refine CR.out.mono ?_
                rintro e w3 ⟨rfl, HS3⟩
                go_wp2_with fail
                go_meet
                case rel => exact ⟨x3, .increasing, _, rfl, rfl, hx4.1, hx4.2, Lib.hid (ptrans HP1.out (reverseRange_holds d1 a' b' hab (by omega))), Lib.hid ((HS1.out.then HS2.out).then HS3.out)⟩
              | increasing =>
                simp only [hc] at *
                go_wp2_with fail
                go_meet
                case rel => exact ⟨pv, .increasing, d1, rfl, rfl, HCR.out.1, HCR.out.2, HP1, Lib.hid (HS1.out.then HS2.out)⟩
              | unknown =>
                simp only [hc] at *
                go_wp2_with fail
                go_meet
                case rel => exact ⟨pv, .unknown, d1, rfl, rfl, HCR.out.1, HCR.out.2, HP1, Lib.hid (HS1.out.then HS2.out)⟩
            case rest =>
              obtain ⟨piv, ht, d2, rfl, rfl, hp1, hp2, HP2, HS3⟩ := hcut
              have hs2 : d2.size = N := by rw [HP2.out.1]; exact hsk
              clear HS1 HS2 HP1 CI HCR
              go_upto_region 15 with fail
              go_cut [68] from 19 (fun v68 wx => ∃ B : Bool, v68 = .bool B ∧ Hid (Sd w g d2 z wx))
              case first =>
                cases wb <;> cases wp <;> cases ht <;>
                  (simp only [hc]
                   go_wp2_with fail
                   go_meet
                   exact ⟨_, rfl, HS3⟩)
              case rest =>
                clear HS3
                obtain ⟨B, rfl, HS3⟩ := hcut
                go_upto_if 68 with fail
                go_cut [] from 19 (fun wx => ∃ d3 : Array Int, Hid (PermIn a' b' dk d3) ∧ Hid (Sd w g d3 z wx))
                case first =>
                  cases B with
                  | false =>
                    go_wp2_with fail
                    go_meet
                    case rel => exact ⟨d2, HP2, HS3⟩
                  | true =>
                    have CI := Lib.hid (partialIns_any _ g N c a' b' d2 z HS3.out.1 hs2 hlt hb hsz)
                    have HPI := Lib.hid (partialInsertionSort_holds (lt := ltInt) swo_ltInt d2 a' b' hlt (by omega) (HBel.out.perm (by omega) HP2.out))
                    generalize partialInsertionSort ltInt d2 a' b' = pr at *
                    obtain ⟨d3, ok⟩ := pr
                    simp only at CI HPI
                    cases ok with
                    | true =>
                      go_wp2_with fail
                      refine CI.out.mono ?_
                      rintro e w5 ⟨rfl, HS4⟩
                      go_wp2_with fail
                      (try simp only [Exit.inBlock, Exit.then])
                      refine bodyPost_ret (results_none rfl _ _ _) rfl ?_
                      obtain ⟨p, s⟩ := HF.out _ (ptrans HP2.out HPI.out.1) (HPI.out.2 trivial)
                      exact ⟨rfl, Lib.hid ⟨_, p, s, HS3.out.then HS4.out⟩⟩
                    | false =>
                      go_wp2_with fail
                      refine CI.out.mono ?_
                      rintro e w5 ⟨rfl, HS4⟩
                      go_wp2_with fail
                      go_meet
                      case rel => exact ⟨d3, Lib.hid (ptrans HP2.out HPI.out.1), Lib.hid (HS3.out.then HS4.out)⟩
                case rest =>
                  clear HS3
                  obtain ⟨d3, HP3, HS3⟩ := hcut
                  have hs3 : d3.size = N := by rw [HP3.out.1]; exact hsk
                  clear HP2 hs2
                  have HB3 := Lib.hid (HBel.out.perm (by omega) HP3.out)
                  obtain ⟨y, hy⟩ : ∃ y, Hid (d3[piv]! = y) := ⟨_, Lib.hid rfl⟩
                  obtain ⟨x, hx⟩ : ∃ y, Hid (d3[a' - 1]! = y) := ⟨_, Lib.hid rfl⟩
                  go_upto_region 17 with fail
                  go_cut [87] from 19 (fun v87 wx => ∃ B : Bool, v87 = .bool B ∧ Hid (B = true → 0 < a' ∧ ltInt x y = false) ∧ Hid (Sd w g d3 z wx))
                  case first =>
                    by_cases ha0 : a' = 0
                    · have da : decide ((0 : Int) < (a' : Int)) = false := decide_eq_false (by omega)
                      have da' : decide (0 < a') = false := decide_eq_false (by omega)
                      clear ha0
                      go_wp2_with fail
                      go_quiet ((go_at_call 283; exact Calls.quiet_of_same (Less_any _ _ _)))
                      go_wp2_with fail
                      go_meet
                      case rel => exact ⟨false, rfl, Lib.hid (fun h => nomatch h), Lib.hid (HS3.out.drewN _)⟩
                    · obtain ⟨m, hm⟩ : ∃ m, a' = m + 1 := ⟨a' - 1, by omega⟩
                      have em : IntKind.i64.wrap ((a' : Int) - 1) = (m : Int) := wrapN (by omega) (by omega)
                      have da : decide ((0 : Int) < (a' : Int)) = true := decide_eq_true (by omega)
                      have da' : decide (0 < a') = true := decide_eq_true (by omega)
                      rw [show a' - 1 = m by omega] at hx
                      have q0 := HS3.out.1.cell m (by omega)
                      have q1 := HS3.out.1.cell piv (by omega)
                      rw [hx.out] at q0
                      rw [hy.out] at q1
                      have n0 : (0 : Int) ≤ (m : Int) := by omega
                      have n1 : (0 : Int) ≤ (piv : Int) := by omega
                      have b0 : (m : Int) < (N : Int) := by omega
                      have b1 : (piv : Int) < (N : Int) := by omega
                      have hap : Hid (0 < a') := Lib.hid (by omega)
                      clear hm ha0
                      cases hl : ltInt x y with
                      | true =>
                        go_wp2_with fail
                        go_quiet ((go_at_call 283; exact Calls.quiet_of_same (Less_t hl _)))
                        go_wp2_with fail
                        go_meet
                        case rel => exact ⟨false, rfl, Lib.hid (fun h => nomatch h), Lib.hid (HS3.out.drewN _)⟩
                      | false =>
                        go_wp2_with fail
                        go_quiet ((go_at_call 283; exact Calls.quiet_of_same (Less_f hl _)))
                        go_wp2_with fail
                        go_meet
                        case rel => exact ⟨true, rfl, Lib.hid (fun _ => ⟨hap.out, hl⟩), Lib.hid (HS3.out.drewN _)⟩
                  case rest =>
                    clear HS3
                    obtain ⟨B2, rfl, HB2, HS3⟩ := hcut
                    cases B2 with
                    | true =>
                      have CI := Lib.hid (partEq_any _ g N c a' b' piv d3 z HS3.out.1 hs3 hp1 hp2 hb hsz)
                      have HR := Lib.hid (fun mid d4 => @round_eq Int _ ltInt swo_ltInt (partitionEqual_holds _) d3 d4 a' b' piv mid (HB2.out rfl).1 hp1 hp2 (by omega) HB3.out (by rw [hx.out, hy.out]; exact (HB2.out rfl).2))
                      generalize partitionEqual ltInt d3 a' b' piv = pr at *
                      obtain ⟨mid, d4⟩ := pr
                      simp only at CI
                      have HQ := Lib.hid (HR.out mid d4 rfl)
                      go_wp2_with fail
                      refine CI.out.mono ?_
                      rintro e w5 ⟨rfl, HS4⟩
                      go_wp2_with fail
                      go_roundw
                      case rel => exact ⟨mid, b', l1, wb, wp, d4, rfl, rfl, rfl, rfl, rfl, HQ.out.2.1, hb, by have := HQ.out.1; omega, hl1, by rw [HQ.out.2.2.1]; exact hs3, Lib.hid HQ.out.2.2.2.1, Lib.hid (HS3.out.then HS4.out), Lib.hid fun R p s => by
                        obtain ⟨p1, s1⟩ := HQ.out.2.2.2.2 R p s
                        exact HF.out R (ptrans HP3.out p1) s1⟩
                      case measure => have := HQ.out.1; have := HQ.out.2.1; simp [intOf]; omega
                    | false =>
                      have CI := Lib.hid (part_any _ g N c a' b' piv d3 z HS3.out.1 hs3 hp1 hp2 hb hsz)
                      have HR := Lib.hid (fun mid ap d4 => @round_part Int _ ltInt swo_ltInt (partition_holds _) d3 d4 a' b' piv mid ap hp1 hp2 (by omega) HB3.out)
                      generalize partition ltInt d3 a' b' piv = pr at *
                      obtain ⟨mid, ap, d4⟩ := pr
                      simp only at CI
                      have HQ := Lib.hid (HR.out mid ap d4 rfl)
                      have hq := HQ.out
                      obtain ⟨t1, ht1⟩ : ∃ x, x = mid - a' := ⟨_, rfl⟩
                      obtain ⟨t2, ht2⟩ : ∃ x, x = b' - mid := ⟨_, rfl⟩
                      obtain ⟨m1, hm1⟩ : ∃ x, x = mid + 1 := ⟨_, rfl⟩
                      obtain ⟨q8, hq8⟩ : ∃ x, x = L / 8 := ⟨_, rfl⟩
                      have g1 : IntKind.i64.wrap ((mid : Int) - (a' : Int)) = (t1 : Int) := wrapN (by omega) (by omega)
                      have g2 : IntKind.i64.wrap ((b' : Int) - (mid : Int)) = (t2 : Int) := wrapN (by omega) (by omega)
                      have g3 : IntKind.i64.wrap ((mid : Int) + 1) = (m1 : Int) := wrapN (by omega) (by omega)
                      have g4 : (L : Int) / 8 = (q8 : Int) := by omega
                      have g5 : Int.tdiv (L : Int) 8 = (q8 : Int) := by rw [Int.tdiv_eq_ediv_of_nonneg (by omega)]; omega
                      have g6 : IntKind.i64.wrap (q8 : Int) = (q8 : Int) := wrapN rfl (by have := hL.out; omega)
                      have hs4 : d4.size = N := by rw [hq.2.2.1]; exact hs3
                      have HM := Lib.hid (show a' ≤ mid ∧ mid < b' ∧ m1 = mid + 1 ∧ b' - a' < n + 1 from ⟨hq.1, hq.2.1, hm1, by have := hK.out; have := HKn.out; omega⟩)
                      rw [← hm1] at HQ
                      by_cases hlr : t1 < t2
                      · have dl : decide (t1 < t2) = true := decide_eq_true hlr
                        have CP := Lib.hid (fun W (u : Uw W g d4 z) => IH.out W g N c a' mid l1 d4 z (by have := HM.out; omega) u hs4 hq.1 (by omega) hsz hl1 hq.2.2.2.1)
                        clear hq ht1 ht2 hm1 hq8 hlr
                        go_wp2_with fail
                        refine CI.out.mono ?_
                        rintro e w5 ⟨rfl, HS4⟩
                        go_wp2_with fail
                        refine (CP.out w5 HS4.out.1).mono ?_
                        rintro e w6 ⟨rfl, HO⟩
                        obtain ⟨R1, p1, s1, HS5⟩ := HO.out
                        have HS6 := Lib.hid HS5
                        have HQ2 := Lib.hid (HQ.out.2.2.2.2.2.1 R1 p1 s1)
                        have hr1 : R1.size = N := by rw [p1.1]; exact hs4
                        clear HS5 p1 s1 HO
                        go_wp2_with fail
                        go_roundw
                        case rel => exact ⟨m1, b', l1, _, _, R1, rfl, rfl, rfl, rfl, rfl, by have := HM.out; omega, hb, by have := HM.out; omega, hl1, hr1, Lib.hid HQ2.out.1, Lib.hid ((HS3.out.then HS4.out).then HS6.out), Lib.hid fun R p s => by
                          obtain ⟨p2, s2⟩ := HQ2.out.2 R p s
                          exact HF.out R (ptrans HP3.out p2) s2⟩
                        case measure => have := HM.out; simp [intOf]; omega
                      · have dl : decide (t1 < t2) = false := decide_eq_false hlr
                        have CP := Lib.hid (fun W (u : Uw W g d4 z) => IH.out W g N c m1 b' l1 d4 z (by have := HM.out; omega) u hs4 (by have := HM.out; omega) hb hsz hl1 (by rw [hm1]; exact hq.2.2.2.2.1))
                        have hmN : mid ≤ N := by omega
                        clear hq ht1 ht2 hm1 hq8 hlr
                        go_wp2_with fail
                        refine CI.out.mono ?_
                        rintro e w5 ⟨rfl, HS4⟩
                        go_wp2_with fail
                        refine (CP.out w5 HS4.out.1).mono ?_
                        rintro e w6 ⟨rfl, HO⟩
                        obtain ⟨R1, p1, s1, HS5⟩ := HO.out
                        have HS6 := Lib.hid HS5
                        have HQ2 := Lib.hid (HQ.out.2.2.2.2.2.2 R1 p1 s1)
                        have hr1 : R1.size = N := by rw [p1.1]; exact hs4
                        clear HS5 p1 s1 HO
                        go_wp2_with fail
                        go_roundw
                        case rel => exact ⟨a', mid, l1, _, _, R1, rfl, rfl, rfl, rfl, rfl, by have := HM.out; omega, hmN, by have := HM.out; omega, hl1, hr1, Lib.hid HQ2.out.1, Lib.hid ((HS3.out.then HS4.out).then HS6.out), Lib.hid fun R p s => by
                          obtain ⟨p2, s2⟩ := HQ2.out.2 R p s
                          exact HF.out R (ptrans HP3.out p2) s2⟩
                        case measure => have := HM.out; simp [intOf]; omega
end Go.Proofs.YtcadnlilijkneaaGreat
namespace Go.Proofs.YtcadnlilijkneaaGreat
open Go.RowKit Go.Maps Go.Sort Go.Shelf Go.Deep
set_option linter.unusedVariables false
set_option linter.unusedSimpArgs false
attribute [local go_sem] Oper.semAt_some

def encU (x : Nat) : Array Value := #[.int .u64 (x : Int)]
def AllK (V : Nat → Option Value) (xs : List Nat) : Prop := xs.Nodup ∧ ∀ x, x ∈ xs ↔ (V x).isSome = true
set_option maxRecDepth 100000 in
set_option maxHeartbeats 2000000 in
theorem keys_stops (n Bm b : Nat) (V : Nat → Option Value) (w : World) (hm : Own w Bm 152 [.map (some b)]) (hv : MapV w b V) (Kp : World → World → Prop) (hK : ∀ W W', Kp W W' → KeepsWalks W W') :
    SeqStopsK Fence.wide n Tryz.prog 212 #[.pointer (some ⟨Bm, 0, none⟩)] encU Kp (AllK V) (fun _ => True) 1048577 w := by
  intro l J Jx W hW hJ hJx hY h0
  have hmW := (hm.below hW hm.lt).cell 0
  simp at hmW
  have hvW : MapV W b V := by
    obtain ⟨D, h1, h2⟩ := hv.own
    exact ⟨⟨D, owns_block h1 (hW.block b h1.lt), h2⟩, hv.dom⟩
  obtain ⟨D, hown, hD⟩ := hvW.own
  have hdom := Lib.hid hv.dom
  have HD := Lib.hid hD
  clear hm hv hvW hD
  refine callsIn_of_wp Tryz.func212 rfl trivial ?_ rfl
  simp only [Tryz.ntmps212, List.size_toArray, List.length_cons, List.length_nil, Nat.reduceAdd, Nat.reduceSub, Array.replicate_succ, Array.replicate_zero, List.push_toArray, List.append_toArray, List.nil_append, List.cons_append]
  gi_wp2_with (first
    | (gi_at_range; refine wpListIn_range_own _ rfl _ 152 rfl 23 116 ukeyed Tryz.underlying152 _ b 1048577 _ rfl hown ?_; intro w0 hrg0 hg0 hs0)
    | fail)
  go_frame
  gi_loopw [3] (fun _ wr => ∃ (left : Lit → Bool) (cnt : Nat) (ss : List Nat), wr.ranges Tryz.prog 23 idR b W.heap.size 1048577 D left cnt ∧ Hid (ColU V left ss) ∧ J ss wr)
    (fun _ wr => wr.rangeLeft b W.heap.size)
  case atStart =>
    exact ⟨_, _, [], hrg0, Lib.hid (ColU.start HD.out), hJ [] W w0 none h0 hg0 (fun r e => by cases e)⟩
  case round =>
    obtain ⟨left, cnt, ss, hrg, hC, hJs⟩ := hrel
    gi_wp2_with (first
      | (gi_at_next; refine wpListIn_next_ranges _ rfl _ rfl 23 ukeyed idR (fun x : Nat => Value.int .u64 (x : Int)) id (fun key kl hk => by obtain ⟨x, _, hx, _⟩ := keyOf_u64 hk; exact ⟨x, hx⟩) (fun v _ _ => ⟨v, rfl⟩) b W.heap.size 1048577 _ _ _ rfl hrg ?_ ?_)
      | fail)
    · intro hc0 hl0
      gi_wp2
      go_end0
      refine ⟨⟨_, rfl⟩, .inl ⟨ss, ⟨hC.out.1, fun x => ?_⟩, hJs⟩⟩
      rw [hC.out.2 x, hl0]
      simp
    · intro x c kl yd yp w2 cnt2 hkey hlk hv hat hrg2 hlt hg2 hs2 hen
      obtain ⟨x', hx', ex, rfl⟩ := keyOf_u64 hkey
      obtain rfl : x = x' := by simp at ex; omega
      have hJ2 : J ss w2 := hJ ss wr w2 (some W.heap.size) hJs hg2 (fun r e => by cases e; exact ⟨Nat.le_refl _, hrg.iter_walk⟩)
      have hsome : (V x).isSome = true := by
        rw [← HD.out.has]
        exact has_true_of_atKey hat
      have hC2 := Lib.hid (hC.out.step hlk hsome)
      have hlen : ss.length < 1048577 := by
        have h1 := nodup_le hC2.out.1 (N := 1048577) fun y hy => by
          obtain ⟨h2, _⟩ := (hC2.out.2 y).1 hy
          obtain ⟨v, hv⟩ := Option.isSome_iff_exists.1 h2
          exact hdom.out y v hv
        simp at h1
        omega
      obtain ⟨fn, tmps, assign, body, hy, hR⟩ := hY ss x w2 hJ2 hlen
      clear hs2 hY
      dsimp only [encU] at hy
      gi_wp2_with fail
      refine ⟨(fun h => by cases h), (roundIn_any hR).mono ?_⟩
      rintro e W5 (⟨rfl, hj5, hk5⟩ | ⟨rfl, hjx5⟩)
      · gi_wp2_with fail
        have hrg3 := hrg2.of_walks (hK _ _ hk5)
        go_roundw
        case rel => exact ⟨_, cnt2, ss ++ [x], hrg3, hC2, hj5⟩
        case measure => rw [hrg3.left_eq, hrg.left_eq]; exact hlt
      · gi_wp2_with fail
        refine bodyPost_ret (results_none rfl _ _ _) rfl ?_
        exact ⟨⟨_, rfl⟩, .inr ⟨ss ++ [x], trivial, hjx5⟩⟩
end Go.Proofs.YtcadnlilijkneaaGreat
namespace Go.Proofs.YtcadnlilijkneaaGreat
open Go.RowKit Go.Maps Go.Sort Go.Shelf Go.Deep
set_option linter.unusedVariables false
set_option linter.unusedSimpArgs false
attribute [local go_sem] Oper.semAt_some

theorem keepsWalks_chg {l : List Nat} {W W' : World} (h : Chg l W W') (hl : ∀ k ∈ l, k < W.heap.size → ∃ c t m, W.heap[k]? = some (.cells c t m)) : KeepsWalks W W' :=
  ⟨h.size, fun k o hk ho => by
    refine (h.block k (Array.getElem?_eq_some_iff.1 hk).1 (fun hm => ?_)).trans hk
    obtain ⟨c, t, mm, hc⟩ := hl k hm (Array.getElem?_eq_some_iff.1 hk).1
    rw [hk] at hc
    cases hc
    cases ho⟩
structure ApI (w : World) (b2 : Nat) (xs : List Nat) (W : World) : Prop where
  box : ∃ v, Own W b2 127 [v] ∧ Lst W w.heap.size 23 v (u64s xs)
  chg : Chg [] w W
set_option maxRecDepth 100000 in
set_option maxHeartbeats 2000000 in
theorem appendSeq_any (w : World) (Bm b : Nat) (V : Nat → Option Value) (hm : Own w Bm 152 [.map (some b)]) (hv : MapV w b V) :
    Calls Tryz.prog 251 #[.slice none 0 0, .func (.func 212) #[] #[.pointer (some ⟨Bm, 0, none⟩)]] w fun e w' => ∃ (v : Value) (xs : List Nat), e = .returned v ∧ AllK V xs ∧ Lst w' w.heap.size 23 v (u64s xs) ∧ Chg [] w w' := by
  have HM := Lib.hid (And.intro hm hv)
  clear hm hv
  refine (callsIn_wide (n := 5)).1 ?_
  refine callsIn_of_wp_marks Tryz.func251 rfl trivial ?_ rfl
  simp only [Tryz.ntmps251, List.size_toArray, List.length_cons, List.length_nil, Nat.reduceAdd, Nat.reduceSub, Array.replicate_succ, Array.replicate_zero, List.push_toArray, List.append_toArray, List.nil_append, List.cons_append]
  obtain ⟨w1, HW1⟩ : ∃ W, Hid (w.alloc (.cells #[.slice none 0 0] 127) = W) := ⟨_, Lib.hid rfl⟩
  have hC1 : Chg [] w w1 := by rw [← HW1.out]; exact (Chg.refl [] w).alloc _
  have hs1 : w1.heap.size = w.heap.size + 1 := by rw [← HW1.out]; simp
  have ho1 : Own w1 w.heap.size 127 [.slice none 0 0] := by rw [← HW1.out]; exact Own.new w _ _
  have hseq := keys_stops 4 Bm b V w1 (HM.out.1.chg hC1 (by simp)) (HM.out.2.kept hC1) KeepsWalks (fun _ _ h => h)
  have H0 := Lib.hid (show ApI w w.heap.size [] w1 from ⟨⟨_, ho1, Lst.nil _ _ _⟩, hC1⟩)
  have HSEQ := Lib.hid hseq
  have HS1 := Lib.hid hs1
  clear hC1 hs1 ho1 hseq
  gi_wp2_with fail
  rw [HW1.out]
  refine wpIn_rangeFunc_ownH rfl (by omega) (gf := 212) (lb := #[.pointer (some ⟨Bm, 0, none⟩)]) rfl trivial (enters_of Tryz.func212 (by kernel_rfl) rfl) HSEQ.out
    (fun h k => h.trans k) (fun W l o o' _ ho _ hw => KeepsWalks.putObj _ ho hw) (Below.refl _ _) (fun _ => rfl)
    (ApI w w.heap.size) (fun _ _ _ => False) ?hI ?hIx ?h0
    (fun x a' W => a' = { tmps := #[.slice none 0 0, .func (.func 212) #[] #[.pointer (some ⟨Bm, 0, none⟩)], .pointer (some ⟨w.heap.size, 0, none⟩), undef, .slice none 0 0, .int .u64 (x : Int), .func (.func 212) #[] #[.pointer (some ⟨Bm, 0, none⟩)], .int .u64 (x : Int), undef, undef, undef, undef, undef], defers := [] }) ?hAx ?assign ?body ?done ?stop
  case hI =>
    rintro xs X Y row h1 hg hr
    obtain ⟨v, h2, h3⟩ := h1.box
    have hr2 := fun r e => (hr r e).2
    exact ⟨⟨v, own_kept h2 hg hr2, lst_kept h3 hg hr2⟩, chg_row h1.chg hg hr (by have := HS1.out; omega)⟩
  case hIx => exact fun _ _ _ _ _ h _ _ => h.elim
  case h0 => exact H0.out
  case hAx => exact fun x a' => ownFrom_pure _ _
  case assign =>
    rintro l pre x W K h1 hK
    unfold encU
    have HK := Lib.hid hK
    clear hK
    gi_wp2_with fail
    exact HK.out _ _ (keepsFrom_below (Below.refl _ _)) (KeepsWalks.refl _) h1 rfl
  case body =>
    rintro l pre x a' W hl hlr h1 rfl hlt
    obtain ⟨v, h2, h3⟩ := h1.box
    obtain ⟨a, c, rfl, -⟩ := h3.form
    rw [u64s_length] at h2 h3
    obtain ⟨N, HN⟩ : ∃ N, Hid (pre.length = N) := ⟨_, Lib.hid rfl⟩
    rw [HN.out] at h2 h3 hlt
    obtain ⟨v, hvE⟩ : ∃ v, v = Value.slice a N c := ⟨_, rfl⟩
    rw [← hvE] at h2 h3
    have HVE := Lib.hid hvE
    rw [hvE] at h2
    have c0 := h2.cell 0
    have f0 := h2.frozen 0
    simp at c0
    rw [hvE] at h3
    have HH := Lib.hid (And.intro h2 (And.intro h3 h1.chg))
    clear hvE HVE v
    obtain ⟨i0, hi, hz0, hz1, hz2⟩ := info_parts Tryz.info_u64
    have hbl := h2.lt
    clear h1 h2 h3
    gi_wp2_with (first
      | (gi_at_builtin; refine wpListIn_append_own _ rfl _ _ 127 rfl w.heap.size 23 i0 (.int .u64 0) 1 8 Tryz.underlying127 hi hz0 hz1 hz2 rfl (by decide) _ _ _ rfl (show World.ownsRow _ _ _ _ _ N _ from by have := HH.out.2.1.alloc (.cells #[.int .u64 (x : Int)] 23); unfold Lst at this; rwa [u64s_length, HN.out] at this) ⟨W.heap.size, 0, none⟩ 1 1 [.int .u64 (x : Int)] rfl rfl (cell_one_new _ _ _) (by simp [Value.oneCell']) (by unfold maxLen; omega) (by omega) (by have := HH.out.2.2.size; simp; omega) ?_; intro v' w3 hown' hg3 hnil3
         obtain ⟨a5, n5, c5, rfl⟩ : ∃ a5 n5 c5, v' = .slice a5 n5 c5 := by
           rcases hown'.2 with ⟨rfl, _⟩ | ⟨g5, c5, r5, rfl, _⟩
           · exact ⟨_, _, _, rfl⟩
           · exact ⟨_, _, _, rfl⟩
         have hne : (Value.slice a N c).ownBlock ≠ some w.heap.size := fun e => by
           obtain ⟨cc, hcc⟩ := (HH.out.2.1.base (Nat.zero_le _)).typ e
           have h9 := HH.out.1
           unfold Own at h9
           rw [hcc] at h9
           simp at h9
         have ho3 := (HH.out.1.alloc (.cells #[.int .u64 (x : Int)] 23)).grown hg3 (fun e => hne e.symm)
         have c3 := ho3.cell 0
         have f3 := ho3.frozen 0
         simp at c3)
      | fail)
    have hCW : Chg (bl (.slice a N c) ++ [w.heap.size]) W (w3.setCell ⟨w.heap.size, 0, none⟩ (.slice a5 n5 c5)) := ((((Chg.refl _ W).alloc _).grown hg3 (fun k e => .inl (List.mem_append_left _ (mem_bl.2 e)))).setCell (by simp) _)
    have hcl : ∀ k ∈ bl (.slice a N c) ++ [w.heap.size], k < W.heap.size → ∃ c t m, W.heap[k]? = some (.cells c t m) := fun y hy hlt => by
      rcases List.mem_append.1 hy with hy | hy
      · obtain ⟨cc, hcc⟩ := (HH.out.2.1.base (Nat.zero_le _)).typ (mem_bl.1 hy)
        exact ⟨_, _, _, hcc⟩
      · simp at hy
        subst hy
        exact ⟨_, _, _, HH.out.1⟩
    refine ⟨keepsFrom_chg hCW hcl, keepsWalks_chg hCW hcl, ⟨_, ho3.set 0 _, ?_⟩, HH.out.2.2.then hCW (fun y hy => .inr ?_)⟩
    · have h6 : Lst w3 w.heap.size 23 (.slice a5 n5 c5) (u64s (pre ++ [x])) := by
        unfold Lst
        have e2 : u64s (pre ++ [x]) = u64s pre ++ [.int .u64 (x : Int)] := by simp [u64s]
        rw [e2, List.length_append, u64s_length, HN.out]
        exact hown'
      exact h6.chg (l := [w.heap.size]) ((Chg.refl _ _).setCell (by simp) _) (fun g hg hm => by
        obtain ⟨cc, hcc⟩ := (h6.base (Nat.zero_le _)).typ hg
        simp at hm
        subst hm
        have h9 := ho3
        unfold Own at h9
        rw [hcc] at h9
        simp at h9)
    · rcases List.mem_append.1 hy with hy | hy
      · exact (HH.out.2.1.lt _ (mem_bl.1 hy)).1
      · simp at hy
        omega
  case done =>
    rintro D xs W hD hS h1 hK
    obtain ⟨v, h2, h3⟩ := h1.box
    have c0 := h2.cell 0
    simp at c0
    have HH := Lib.hid (And.intro h2 (And.intro h3 h1.chg))
    have HK := Lib.hid hK
    clear h1 h2 h3 hK
    gi_wp2_with fail
    refine ⟨by simp, .inl ⟨_, _, rfl, run_takeDeferred HK.out, ?_⟩⟩
    have hg : W.grownBy (W.putObj D (.deferred none)) (some D) := grownBy_putObj' _ D (.deferred none)
    have hs1 := HS1.out
    have hCE := HH.out.2.2.grown hg (fun y hy => by injection hy with hy; subst hy; right; omega)
    have hl5 := lst_kept HH.out.2.1 hg (fun r hr => by injection hr with hr; subst hr; exact ⟨_, HK.out, rfl⟩)
    refine ⟨v, by simp [results, Tryz.results251, go_sem], ?_⟩
    exact ⟨v, xs, rfl, hS, hl5, hCE⟩
  case stop => exact fun D c pre W _ _ h _ => h.elim
end Go.Proofs.YtcadnlilijkneaaGreat
