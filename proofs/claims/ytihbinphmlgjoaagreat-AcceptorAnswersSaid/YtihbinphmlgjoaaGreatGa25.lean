/-
  Sorting of uint64: the whole sort. No claim of their own.
-/
import Derived.Test.YtihbinphmlgjoaaGreatGa24
import Derived.Sort.AssemblyPlain
import Derived.Test.YtihbinphmlgjoaaGreatGa18
import Derived.Test.YtihbinphmlgjoaaGreatGa13
import Derived.Test.YtihbinphmlgjoaaGreatGa6
import Derived.Test.YtihbinphmlgjoaaGreatGa21
namespace Go.Proofs.YtihbinphmlgjoaaGreat
open Go.RowKit Go.Sort Go.Shelf
set_option linter.unusedVariables false
set_option linter.unusedSimpArgs false

/-- what is sorted from a' to b' is, with the rest of dk, d in order -/
def Fin_ (a b : Nat) (d : Array Int) (a' b' : Nat) (dk : Array Int) : Prop := ∀ R, PermIn a' b' dk R → SortedIn ltInt a' b' R → PermIn a b d R ∧ SortedIn ltInt a b R
/-- d in order from a to b, in block g -/
def Ordered (w : World) (g : Nat) (a b : Nat) (d : Array Int) (z : List Value) (w' : World) : Prop := ∃ R, PermIn a b d R ∧ SortedIn ltInt a b R ∧ Sd w g R z w'
theorem ptrans {a b : Nat} {d d1 d2 : Array Int} (h : PermIn a b d d1) (k : PermIn a b d1 d2) : PermIn a b d d2 := permIn_trans _ _ _ a b h k
set_option maxHeartbeats 8000000 in
set_option maxRecDepth 1000000 in
theorem pdq_any : ∀ (n : Nat) (w : World) (g N c a b lim : Nat) (d : Array Int) (z : List Value), b - a < n → Uw w g d z → d.size = N → a ≤ b → b ≤ N → N < 1000000000 → lim ≤ 1000 → Below ltInt a b d →
    Calls Tryz.prog 177 #[.slice (some ⟨g, 0, none⟩) N c, .int .i64 (a : Int), .int .i64 (b : Int), .int .i64 (lim : Int)] w fun e w' => e = .returned (.tuple #[]) ∧ Hid (Ordered w g a b d z w') := by
  intro n
  induction n with
  | zero => intro _ _ _ _ _ _ _ _ _ h; exact absurd h (Nat.not_lt_zero _)
  | succ n ih =>
    intro w g N c a b lim d z hn h hN hab hb hsz hlim hBel
    have HS0 := Lib.hid (Sd.refl h)
    have IH := Lib.hid ih
    have HB0 := Lib.hid hBel
    obtain ⟨K, hK⟩ : ∃ K, Hid (K = b - a) := ⟨_, Lib.hid rfl⟩
    have HKn := Lib.hid hn
    clear h ih hBel hn
    go_enter Tryz.func177, Tryz.ntmps177
    go_wp2_with fail
    go_loopw [1, 2, 3, 8, 9] (fun v1 v2 v3 v8 v9 wr => ∃ (a' b' l' : Nat) (wb wp : Bool) (dk : Array Int), v1 = .int .i64 (a' : Int) ∧ v2 = .int .i64 (b' : Int) ∧ v3 = .int .i64 (l' : Int) ∧ v8 = .bool wb ∧ v9 = .bool wp ∧ a' ≤ b' ∧ b' ≤ N ∧ b' - a' ≤ K ∧ l' ≤ 1000 ∧ dk.size = N ∧ Hid (Below ltInt a' b' dk) ∧ Hid (Sd w g dk z wr) ∧ Hid (Fin_ a b d a' b' dk)) (fun v1 v2 _ _ _ _ => (intOf v2).toNat - (intOf v1).toNat)
    case atStart => exact ⟨a, b, lim, true, true, d, rfl, rfl, rfl, rfl, rfl, hab, hb, by rw [hK.out]; exact Nat.le_refl _, hlim, hN, HB0, HS0, Lib.hid fun R p s => ⟨p, s⟩⟩
    case round =>
      clear hab hb hlim
      obtain ⟨a', b', l', wb, wp, dk, rfl, rfl, rfl, rfl, rfl, hab, hb, hbK, hlim, hsk, HBel, HS, HF⟩ := hrel
      obtain ⟨L, hL⟩ : ∃ L, Hid (L = b' - a') := ⟨_, Lib.hid rfl⟩
      have eL : IntKind.i64.wrap ((b' : Int) - (a' : Int)) = (L : Int) := wrapN (by have := hL.out; omega) (by have := hL.out; omega)
      by_cases h12 : L ≤ 12
      · have d12 : decide ((L : Int) ≤ 12) = true := decide_eq_true (by omega)
        have CI := Lib.hid (insertion_any _ g N c a' b' dk z HS.out.1 hsk hab hb hsz)
        have HI := Lib.hid (insertionSort_holds (lt := ltInt) swo_ltInt dk a' b' hab (by omega))
        clear h12
        go_wp2_with fail
        refine CI.out.mono ?_
        rintro e w2 ⟨rfl, HS2⟩
        go_wp2_with fail
        (try simp only [Exit.inBlock, Exit.then])
        refine bodyPost_ret (results_none rfl _ _ _) rfl ?_
        obtain ⟨p, s⟩ := HF.out _ HI.out.1 HI.out.2
        exact ⟨rfl, Lib.hid ⟨_, p, s, HS.out.then HS2.out⟩⟩
      · have d12 : decide ((L : Int) ≤ 12) = false := decide_eq_false (by omega)
        by_cases hl0 : l' = 0
        · have z0 : ((l' : Int) == 0) = true := by simp; omega
          have CI := Lib.hid (heapSort_any _ g N c a' b' dk z HS.out.1 hsk (by have := hL.out; omega) hb hsz)
          have HI := Lib.hid (heapSort_holds (lt := ltInt) swo_ltInt dk a' b' hab (by omega))
          clear h12 hl0
          go_wp2_with fail
          refine CI.out.mono ?_
          rintro e w2 ⟨rfl, HS2⟩
          go_wp2_with fail
          (try simp only [Exit.inBlock, Exit.then])
          refine bodyPost_ret (results_none rfl _ _ _) rfl ?_
          obtain ⟨p, s⟩ := HF.out _ HI.out.1 HI.out.2
          exact ⟨rfl, Lib.hid ⟨_, p, s, HS.out.then HS2.out⟩⟩
        · have z0 : ((l' : Int) == 0) = false := beq_eq_false_iff_ne.2 (by omega)
          have h8 : a' + 8 ≤ b' := by have := hL.out; omega
          have hlt : a' < b' := by omega
          clear h12
          go_upto_if 35 with fail
          go_cut [3] from 19 (fun v3 wx => ∃ (l1 : Nat) (d1 : Array Int), v3 = .int .i64 (l1 : Int) ∧ l1 ≤ 1000 ∧ Hid (PermIn a' b' dk d1) ∧ Hid (Sd w g d1 z wx))
          case first =>
            cases wb with
            | true =>
              go_wp2_with fail
              go_meet
              case rel => exact ⟨l', dk, rfl, hlim, Lib.hid (permIn_refl _ _ _), HS⟩
            | false =>
              have CI := Lib.hid (breakPatterns_any _ g N c a' b' dk z HS.out.1 hsk h8 hb hsz)
              obtain ⟨l1, hl1⟩ : ∃ l1, l' = l1 + 1 := ⟨l' - 1, by omega⟩
              have el : IntKind.i64.wrap ((l' : Int) - 1) = (l1 : Int) := wrapN (by omega) (by omega)
              have hl2 : l1 ≤ 1000 := by omega
              clear hl1 hl0
              go_wp2_with fail
              refine CI.out.mono ?_
              rintro e w2 ⟨rfl, HS2⟩
              go_wp2_with fail
              go_meet
              case rel => exact ⟨l1, _, rfl, hl2, Lib.hid (breakPatterns_holds (α := Int) dk a' b' hab (by omega)), Lib.hid (HS.out.then HS2.out)⟩
          case rest =>
            obtain ⟨l1, d1, rfl, hl1, HP1, HS1⟩ := hcut
            have hs1 : d1.size = N := by rw [HP1.out.1]; exact hsk
            have CI := Lib.hid (choosePivot_any _ g N c a' b' d1 z HS1.out.1 hs1 h8 hb hsz)
            have HCR := Lib.hid (choosePivot_holds ltInt d1 a' b' hlt)
            generalize choosePivot ltInt d1 a' b' = cp at *
            obtain ⟨pv, hn⟩ := cp
            simp only at CI HCR
            clear HS
            go_upto_if 50 with (go_at_call 203; refine CI.out.mono ?_; rintro e w2 ⟨rfl, HS2⟩)
            go_cut [11, 12] from 19 (fun v11 v12 wx => ∃ (piv : Nat) (ht : Hint) (d2 : Array Int), v11 = .int .i64 (piv : Int) ∧ v12 = .int .i64 (hc ht) ∧ a' ≤ piv ∧ piv < b' ∧ Hid (PermIn a' b' dk d2) ∧ Hid (Sd w g d2 z wx))
            case first =>
              cases hn with
              | decreasing =>
                have CR := Lib.hid (reverse_any _ g N c a' b' d1 z HS2.out.1 hs1 hlt hb hsz)
                have hcr := HCR.out
                obtain ⟨x1, hx1⟩ : ∃ x, x = b' - 1 := ⟨_, rfl⟩
                obtain ⟨x2, hx2⟩ : ∃ x, x = pv - a' := ⟨_, rfl⟩
                obtain ⟨x3, hx3⟩ : ∃ x, x = x1 - x2 := ⟨_, rfl⟩
                have g1 : IntKind.i64.wrap ((b' : Int) - 1) = (x1 : Int) := wrapN (by omega) (by omega)
                have g2 : IntKind.i64.wrap ((pv : Int) - (a' : Int)) = (x2 : Int) := wrapN (by omega) (by omega)
                have g3 : IntKind.i64.wrap ((x1 : Int) - (x2 : Int)) = (x3 : Int) := wrapN (by omega) (by omega)
                have hx4 : a' ≤ x3 ∧ x3 < b' := by omega
                clear hx1 hx2 hx3 hcr
                simp only [hc] at *
                go_wp2_with fail
                refine CR.out.mono ?_
                rintro e w3 ⟨rfl, HS3⟩
                go_wp2_with fail
                go_meet
                case rel => exact ⟨x3, .increasing, _, rfl, rfl, hx4.1, hx4.2, Lib.hid (ptrans HP1.out (reverseRange_holds d1 a' b' hab (by omega))), Lib.hid ((HS1.out.then HS2.out).then HS3.out)⟩
              | increasing =>
                simp only [hc] at *
                go_wp2_with fail
                go_meet
                case rel => exact ⟨pv, .increasing, d1, rfl, rfl, HCR.out.1, HCR.out.2, HP1, Lib.hid (HS1.out.then HS2.out)⟩
              | unknown =>
                simp only [hc] at *
                go_wp2_with fail
                go_meet
                case rel => exact ⟨pv, .unknown, d1, rfl, rfl, HCR.out.1, HCR.out.2, HP1, Lib.hid (HS1.out.then HS2.out)⟩
            case rest =>
              obtain ⟨piv, ht, d2, rfl, rfl, hp1, hp2, HP2, HS3⟩ := hcut
              have hs2 : d2.size = N := by rw [HP2.out.1]; exact hsk
              clear HS1 HS2 HP1 CI HCR
              go_upto_region 15 with fail
              go_cut [68] from 19 (fun v68 wx => ∃ B : Bool, v68 = .bool B ∧ Hid (Sd w g d2 z wx))
              case first =>
                cases wb <;> cases wp <;> cases ht <;>
                  (simp only [hc]
                   go_wp2_with fail
                   go_meet
                   exact ⟨_, rfl, HS3⟩)
              case rest =>
                clear HS3
                obtain ⟨B, rfl, HS3⟩ := hcut
                go_upto_if 68 with fail
                go_cut [] from 19 (fun wx => ∃ d3 : Array Int, Hid (PermIn a' b' dk d3) ∧ Hid (Sd w g d3 z wx))
                case first =>
                  cases B with
                  | false =>
                    go_wp2_with fail
                    go_meet
                    case rel => exact ⟨d2, HP2, HS3⟩
                  | true =>
                    have CI := Lib.hid (partialIns_any _ g N c a' b' d2 z HS3.out.1 hs2 hlt hb hsz)
                    have HPI := Lib.hid (partialInsertionSort_holds (lt := ltInt) swo_ltInt d2 a' b' hlt (by omega) (HBel.out.perm (by omega) HP2.out))
                    generalize partialInsertionSort ltInt d2 a' b' = pr at *
                    obtain ⟨d3, ok⟩ := pr
                    simp only at CI HPI
                    cases ok with
                    | true =>
                      go_wp2_with fail
                      refine CI.out.mono ?_
                      rintro e w5 ⟨rfl, HS4⟩
                      go_wp2_with fail
                      (try simp only [Exit.inBlock, Exit.then])
                      refine bodyPost_ret (results_none rfl _ _ _) rfl ?_
                      obtain ⟨p, s⟩ := HF.out _ (ptrans HP2.out HPI.out.1) (HPI.out.2 trivial)
                      exact ⟨rfl, Lib.hid ⟨_, p, s, HS3.out.then HS4.out⟩⟩
                    | false =>
                      go_wp2_with fail
                      refine CI.out.mono ?_
                      rintro e w5 ⟨rfl, HS4⟩
                      go_wp2_with fail
                      go_meet
                      case rel => exact ⟨d3, Lib.hid (ptrans HP2.out HPI.out.1), Lib.hid (HS3.out.then HS4.out)⟩
                case rest =>
                  clear HS3
                  obtain ⟨d3, HP3, HS3⟩ := hcut
                  have hs3 : d3.size = N := by rw [HP3.out.1]; exact hsk
                  clear HP2 hs2
                  have HB3 := Lib.hid (HBel.out.perm (by omega) HP3.out)
                  obtain ⟨y, hy⟩ : ∃ y, Hid (d3[piv]! = y) := ⟨_, Lib.hid rfl⟩
                  obtain ⟨x, hx⟩ : ∃ y, Hid (d3[a' - 1]! = y) := ⟨_, Lib.hid rfl⟩
                  go_upto_region 17 with fail
                  go_cut [87] from 19 (fun v87 wx => ∃ B : Bool, v87 = .bool B ∧ Hid (B = true → 0 < a' ∧ ltInt x y = false) ∧ Hid (Sd w g d3 z wx))
                  case first =>
                    by_cases ha0 : a' = 0
                    · have da : decide ((0 : Int) < (a' : Int)) = false := decide_eq_false (by omega)
                      have da' : decide (0 < a') = false := decide_eq_false (by omega)
                      clear ha0
                      go_wp2_with fail
                      go_quiet ((go_at_call 206; exact Calls.quiet_of_same (Less_any _ _ _)))
                      go_wp2_with fail
                      go_meet
                      case rel => exact ⟨false, rfl, Lib.hid (fun h => nomatch h), Lib.hid (HS3.out.drewN _)⟩
                    · obtain ⟨m, hm⟩ : ∃ m, a' = m + 1 := ⟨a' - 1, by omega⟩
                      have em : IntKind.i64.wrap ((a' : Int) - 1) = (m : Int) := wrapN (by omega) (by omega)
                      have da : decide ((0 : Int) < (a' : Int)) = true := decide_eq_true (by omega)
                      have da' : decide (0 < a') = true := decide_eq_true (by omega)
                      rw [show a' - 1 = m by omega] at hx
                      have q0 := HS3.out.1.cell m (by omega)
                      have q1 := HS3.out.1.cell piv (by omega)
                      rw [hx.out] at q0
                      rw [hy.out] at q1
                      have n0 : (0 : Int) ≤ (m : Int) := by omega
                      have n1 : (0 : Int) ≤ (piv : Int) := by omega
                      have b0 : (m : Int) < (N : Int) := by omega
                      have b1 : (piv : Int) < (N : Int) := by omega
                      have hap : Hid (0 < a') := Lib.hid (by omega)
                      clear hm ha0
                      cases hl : ltInt x y with
                      | true =>
                        go_wp2_with fail
                        go_quiet ((go_at_call 206; exact Calls.quiet_of_same (Less_t hl _)))
                        go_wp2_with fail
                        go_meet
                        case rel => exact ⟨false, rfl, Lib.hid (fun h => nomatch h), Lib.hid (HS3.out.drewN _)⟩
                      | false =>
                        go_wp2_with fail
                        go_quiet ((go_at_call 206; exact Calls.quiet_of_same (Less_f hl _)))
                        go_wp2_with fail
                        go_meet
                        case rel => exact ⟨true, rfl, Lib.hid (fun _ => ⟨hap.out, hl⟩), Lib.hid (HS3.out.drewN _)⟩
                  case rest =>
                    clear HS3
                    obtain ⟨B2, rfl, HB2, HS3⟩ := hcut
                    cases B2 with
                    | true =>
                      have CI := Lib.hid (partEq_any _ g N c a' b' piv d3 z HS3.out.1 hs3 hp1 hp2 hb hsz)
                      have HR := Lib.hid (fun mid d4 => @round_eq Int _ ltInt swo_ltInt (partitionEqual_holds _) d3 d4 a' b' piv mid (HB2.out rfl).1 hp1 hp2 (by omega) HB3.out (by rw [hx.out, hy.out]; exact (HB2.out rfl).2))
                      generalize partitionEqual ltInt d3 a' b' piv = pr at *
                      obtain ⟨mid, d4⟩ := pr
                      simp only at CI
                      have HQ := Lib.hid (HR.out mid d4 rfl)
                      go_wp2_with fail
                      refine CI.out.mono ?_
                      rintro e w5 ⟨rfl, HS4⟩
                      go_wp2_with fail
                      go_roundw
                      case rel => exact ⟨mid, b', l1, wb, wp, d4, rfl, rfl, rfl, rfl, rfl, HQ.out.2.1, hb, by have := HQ.out.1; omega, hl1, by rw [HQ.out.2.2.1]; exact hs3, Lib.hid HQ.out.2.2.2.1, Lib.hid (HS3.out.then HS4.out), Lib.hid fun R p s => by
                        obtain ⟨p1, s1⟩ := HQ.out.2.2.2.2 R p s
                        exact HF.out R (ptrans HP3.out p1) s1⟩
                      case measure => have := HQ.out.1; have := HQ.out.2.1; simp [intOf]; omega
                    | false =>
                      have CI := Lib.hid (part_any _ g N c a' b' piv d3 z HS3.out.1 hs3 hp1 hp2 hb hsz)
                      have HR := Lib.hid (fun mid ap d4 => @round_part Int _ ltInt swo_ltInt (partition_holds _) d3 d4 a' b' piv mid ap hp1 hp2 (by omega) HB3.out)
                      generalize partition ltInt d3 a' b' piv = pr at *
                      obtain ⟨mid, ap, d4⟩ := pr
                      simp only at CI
                      have HQ := Lib.hid (HR.out mid ap d4 rfl)
                      have hq := HQ.out
                      obtain ⟨t1, ht1⟩ : ∃ x, x = mid - a' := ⟨_, rfl⟩
                      obtain ⟨t2, ht2⟩ : ∃ x, x = b' - mid := ⟨_, rfl⟩
                      obtain ⟨m1, hm1⟩ : ∃ x, x = mid + 1 := ⟨_, rfl⟩
                      obtain ⟨q8, hq8⟩ : ∃ x, x = L / 8 := ⟨_, rfl⟩
                      have g1 : IntKind.i64.wrap ((mid : Int) - (a' : Int)) = (t1 : Int) := wrapN (by omega) (by omega)
                      have g2 : IntKind.i64.wrap ((b' : Int) - (mid : Int)) = (t2 : Int) := wrapN (by omega) (by omega)
                      have g3 : IntKind.i64.wrap ((mid : Int) + 1) = (m1 : Int) := wrapN (by omega) (by omega)
                      have g4 : (L : Int) / 8 = (q8 : Int) := by omega
                      have g5 : Int.tdiv (L : Int) 8 = (q8 : Int) := by rw [Int.tdiv_eq_ediv_of_nonneg (by omega)]; omega
                      have g6 : IntKind.i64.wrap (q8 : Int) = (q8 : Int) := wrapN rfl (by have := hL.out; omega)
                      have hs4 : d4.size = N := by rw [hq.2.2.1]; exact hs3
                      have HM := Lib.hid (show a' ≤ mid ∧ mid < b' ∧ m1 = mid + 1 ∧ b' - a' < n + 1 from ⟨hq.1, hq.2.1, hm1, by have := hK.out; have := HKn.out; omega⟩)
                      rw [← hm1] at HQ
                      by_cases hlr : t1 < t2
                      · have dl : decide (t1 < t2) = true := decide_eq_true hlr
                        have CP := Lib.hid (fun W (u : Uw W g d4 z) => IH.out W g N c a' mid l1 d4 z (by have := HM.out; omega) u hs4 hq.1 (by omega) hsz hl1 hq.2.2.2.1)
                        clear hq ht1 ht2 hm1 hq8 hlr
                        go_wp2_with fail
                        refine CI.out.mono ?_
                        rintro e w5 ⟨rfl, HS4⟩
                        go_wp2_with fail
                        refine (CP.out w5 HS4.out.1).mono ?_
                        rintro e w6 ⟨rfl, HO⟩
                        obtain ⟨R1, p1, s1, HS5⟩ := HO.out
                        have HS6 := Lib.hid HS5
                        have HQ2 := Lib.hid (HQ.out.2.2.2.2.2.1 R1 p1 s1)
                        have hr1 : R1.size = N := by rw [p1.1]; exact hs4
                        clear HS5 p1 s1 HO
                        go_wp2_with fail
                        go_roundw
                        case rel => exact ⟨m1, b', l1, _, _, R1, rfl, rfl, rfl, rfl, rfl, by have := HM.out; omega, hb, by have := HM.out; omega, hl1, hr1, Lib.hid HQ2.out.1, Lib.hid ((HS3.out.then HS4.out).then HS6.out), Lib.hid fun R p s => by
                          obtain ⟨p2, s2⟩ := HQ2.out.2 R p s
                          exact HF.out R (ptrans HP3.out p2) s2⟩
                        case measure => have := HM.out; simp [intOf]; omega
                      · have dl : decide (t1 < t2) = false := decide_eq_false hlr
                        have CP := Lib.hid (fun W (u : Uw W g d4 z) => IH.out W g N c m1 b' l1 d4 z (by have := HM.out; omega) u hs4 (by have := HM.out; omega) hb hsz hl1 (by rw [hm1]; exact hq.2.2.2.2.1))
                        have hmN : mid ≤ N := by omega
                        clear hq ht1 ht2 hm1 hq8 hlr
                        go_wp2_with fail
                        refine CI.out.mono ?_
                        rintro e w5 ⟨rfl, HS4⟩
                        go_wp2_with fail
                        refine (CP.out w5 HS4.out.1).mono ?_
                        rintro e w6 ⟨rfl, HO⟩
                        obtain ⟨R1, p1, s1, HS5⟩ := HO.out
                        have HS6 := Lib.hid HS5
                        have HQ2 := Lib.hid (HQ.out.2.2.2.2.2.2 R1 p1 s1)
                        have hr1 : R1.size = N := by rw [p1.1]; exact hs4
                        clear HS5 p1 s1 HO
                        go_wp2_with fail
                        go_roundw
                        case rel => exact ⟨a', mid, l1, _, _, R1, rfl, rfl, rfl, rfl, rfl, by have := HM.out; omega, hmN, by have := HM.out; omega, hl1, hr1, Lib.hid HQ2.out.1, Lib.hid ((HS3.out.then HS4.out).then HS6.out), Lib.hid fun R p s => by
                          obtain ⟨p2, s2⟩ := HQ2.out.2 R p s
                          exact HF.out R (ptrans HP3.out p2) s2⟩
                        case measure => have := HM.out; simp [intOf]; omega
end Go.Proofs.YtihbinphmlgjoaaGreat
namespace Go.Proofs.YtihbinphmlgjoaaGreat
open Go.RowKit Go.Maps Go.Sort Go.Shelf Go.Deep
set_option linter.unusedVariables false
set_option linter.unusedSimpArgs false
attribute [local go_sem] Oper.semAt_some

def encU (x : Nat) : Array Value := #[.int .u64 (x : Int)]
/-- what has come is all: each key once -/
def AllK (V : Nat → Option Value) (xs : List Nat) : Prop := xs.Nodup ∧ ∀ x, x ∈ xs ↔ (V x).isSome = true
set_option maxRecDepth 100000 in
set_option maxHeartbeats 2000000 in
theorem keys_stops (n Bm b : Nat) (V : Nat → Option Value) (w : World) (hm : Own w Bm 86 [.map (some b)]) (hv : MapV w b V) (Kp : World → World → Prop) (hK : ∀ W W', Kp W W' → KeepsWalks W W') :
    SeqStopsK Fence.wide n Tryz.prog 147 #[.pointer (some ⟨Bm, 0, none⟩)] encU Kp (AllK V) (fun _ => True) 1048577 w := by
  intro l J Jx W hW hJ hJx hY h0
  have hmW := (hm.below hW hm.lt).cell 0
  simp at hmW
  have hvW : MapV W b V := by
    obtain ⟨D, h1, h2⟩ := hv.own
    exact ⟨⟨D, owns_block h1 (hW.block b h1.lt), h2⟩, hv.dom⟩
  obtain ⟨D, hown, hD⟩ := hvW.own
  have hdom := Lib.hid hv.dom
  have HD := Lib.hid hD
  clear hm hv hvW hD
  refine callsIn_of_wp Tryz.func147 rfl trivial ?_ rfl
  simp only [Tryz.ntmps147, List.size_toArray, List.length_cons, List.length_nil, Nat.reduceAdd, Nat.reduceSub, Array.replicate_succ, Array.replicate_zero, List.push_toArray, List.append_toArray, List.nil_append, List.cons_append]
  gi_wp2_with (first
    | (gi_at_range; refine wpListIn_range_own _ rfl _ 86 rfl 37 62 ukeyed Tryz.underlying86 _ b 1048577 _ rfl hown ?_; intro w0 hrg0 hg0 hs0)
    | fail)
  go_frame
  gi_loopw [3] (fun _ wr => ∃ (left : Lit → Bool) (cnt : Nat) (ss : List Nat), wr.ranges Tryz.prog 37 idR b W.heap.size 1048577 D left cnt ∧ Hid (ColU V left ss) ∧ J ss wr)
    (fun _ wr => wr.rangeLeft b W.heap.size)
  case atStart =>
    exact ⟨_, _, [], hrg0, Lib.hid (ColU.start HD.out), hJ [] W w0 none h0 hg0 (fun r e => by cases e)⟩
  case round =>
    obtain ⟨left, cnt, ss, hrg, hC, hJs⟩ := hrel
    gi_wp2_with (first
      | (gi_at_next; refine wpListIn_next_ranges _ rfl _ rfl 37 ukeyed idR (fun x : Nat => Value.int .u64 (x : Int)) id (fun key kl hk => by obtain ⟨x, _, hx, _⟩ := keyOf_u64 hk; exact ⟨x, hx⟩) (fun v _ _ => ⟨v, rfl⟩) b W.heap.size 1048577 _ _ _ rfl hrg ?_ ?_)
      | fail)
    · intro hc0 hl0
      gi_wp2
      go_end0
      refine ⟨⟨_, rfl⟩, .inl ⟨ss, ⟨hC.out.1, fun x => ?_⟩, hJs⟩⟩
      rw [hC.out.2 x, hl0]
      simp
    · intro x c kl yd yp w2 cnt2 hkey hlk hv hat hrg2 hlt hg2 hs2 hen
      obtain ⟨x', hx', ex, rfl⟩ := keyOf_u64 hkey
      obtain rfl : x = x' := by simp at ex; omega
      have hJ2 : J ss w2 := hJ ss wr w2 (some W.heap.size) hJs hg2 (fun r e => by cases e; exact ⟨Nat.le_refl _, hrg.iter_walk⟩)
      have hsome : (V x).isSome = true := by
        rw [← HD.out.has]
        exact has_true_of_atKey hat
      have hC2 := Lib.hid (hC.out.step hlk hsome)
      have hlen : ss.length < 1048577 := by
        have h1 := nodup_le hC2.out.1 (N := 1048577) fun y hy => by
          obtain ⟨h2, _⟩ := (hC2.out.2 y).1 hy
          obtain ⟨v, hv⟩ := Option.isSome_iff_exists.1 h2
          exact hdom.out y v hv
        simp at h1
        omega
      obtain ⟨fn, tmps, assign, body, hy, hR⟩ := hY ss x w2 hJ2 hlen
      clear hs2 hY
      dsimp only [encU] at hy
      gi_wp2_with fail
      refine ⟨(fun h => by cases h), (roundIn_any hR).mono ?_⟩
      rintro e W5 (⟨rfl, hj5, hk5⟩ | ⟨rfl, hjx5⟩)
      · gi_wp2_with fail
        have hrg3 := hrg2.of_walks (hK _ _ hk5)
        go_roundw
        case rel => exact ⟨_, cnt2, ss ++ [x], hrg3, hC2, hj5⟩
        case measure => rw [hrg3.left_eq, hrg.left_eq]; exact hlt
      · gi_wp2_with fail
        refine bodyPost_ret (results_none rfl _ _ _) rfl ?_
        exact ⟨⟨_, rfl⟩, .inr ⟨ss ++ [x], trivial, hjx5⟩⟩
end Go.Proofs.YtihbinphmlgjoaaGreat
namespace Go.Proofs.YtihbinphmlgjoaaGreat
open Go.RowKit Go.Maps Go.Sort Go.Shelf Go.Deep
set_option linter.unusedVariables false
set_option linter.unusedSimpArgs false
attribute [local go_sem] Oper.semAt_some

theorem keepsWalks_chg {l : List Nat} {W W' : World} (h : Chg l W W') (hl : ∀ k ∈ l, k < W.heap.size → ∃ c t m, W.heap[k]? = some (.cells c t m)) : KeepsWalks W W' :=
  ⟨h.size, fun k o hk ho => by
    refine (h.block k (Array.getElem?_eq_some_iff.1 hk).1 (fun hm => ?_)).trans hk
    obtain ⟨c, t, mm, hc⟩ := hl k hm (Array.getElem?_eq_some_iff.1 hk).1
    rw [hk] at hc
    cases hc
    cases ho⟩
/-- gathering under way: the box, and what has come -/
structure ApI (w : World) (b2 : Nat) (xs : List Nat) (W : World) : Prop where
  box : ∃ v, Own W b2 73 [v] ∧ Lst W w.heap.size 37 v (u64s xs)
  chg : Chg [] w W
theorem u64s_one (l : List Nat) : ∀ v ∈ u64s l, v.oneCell' = true := by
  intro v hv
  simp only [u64s, List.mem_map] at hv
  obtain ⟨x, _, rfl⟩ := hv
  rfl
set_option maxRecDepth 100000 in
set_option maxHeartbeats 2000000 in
theorem appendSeq_any (w : World) (Bm b : Nat) (V : Nat → Option Value) (hm : Own w Bm 86 [.map (some b)]) (hv : MapV w b V) :
    Calls Tryz.prog 176 #[.slice none 0 0, .func (.func 147) #[] #[.pointer (some ⟨Bm, 0, none⟩)]] w fun e w' => ∃ (v : Value) (xs : List Nat), e = .returned v ∧ AllK V xs ∧ Lst w' w.heap.size 37 v (u64s xs) ∧ Chg [] w w' := by
  have HM := Lib.hid (And.intro hm hv)
  clear hm hv
  refine (callsIn_wide (n := 5)).1 ?_
  refine callsIn_of_wp_marks Tryz.func176 rfl trivial ?_ rfl
  simp only [Tryz.ntmps176, List.size_toArray, List.length_cons, List.length_nil, Nat.reduceAdd, Nat.reduceSub, Array.replicate_succ, Array.replicate_zero, List.push_toArray, List.append_toArray, List.nil_append, List.cons_append]
  obtain ⟨w1, HW1⟩ : ∃ W, Hid (w.alloc (.cells #[.slice none 0 0] 73) = W) := ⟨_, Lib.hid rfl⟩
  have hC1 : Chg [] w w1 := by rw [← HW1.out]; exact (Chg.refl [] w).alloc _
  have hs1 : w1.heap.size = w.heap.size + 1 := by rw [← HW1.out]; simp
  have ho1 : Own w1 w.heap.size 73 [.slice none 0 0] := by rw [← HW1.out]; exact Own.new w _ _
  have hseq := keys_stops 4 Bm b V w1 (HM.out.1.chg hC1 (by simp)) (HM.out.2.kept hC1) KeepsWalks (fun _ _ h => h)
  have H0 := Lib.hid (show ApI w w.heap.size [] w1 from ⟨⟨_, ho1, Lst.nil _ _ _⟩, hC1⟩)
  have HSEQ := Lib.hid hseq
  have HS1 := Lib.hid hs1
  clear hC1 hs1 ho1 hseq
  gi_wp2_with fail
  rw [HW1.out]
  refine wpIn_rangeFunc_ownH rfl (by omega) (gf := 147) (lb := #[.pointer (some ⟨Bm, 0, none⟩)]) rfl trivial (enters_of Tryz.func147 (by kernel_rfl) rfl) HSEQ.out
    (fun h k => h.trans k) (fun W l o o' _ ho _ hw => KeepsWalks.putObj _ ho hw) (Below.refl _ _) (fun _ => rfl)
    (ApI w w.heap.size) (fun _ _ _ => False) ?hI ?hIx ?h0
    (fun x a' W => a' = { tmps := #[.slice none 0 0, .func (.func 147) #[] #[.pointer (some ⟨Bm, 0, none⟩)], .pointer (some ⟨w.heap.size, 0, none⟩), undef, .slice none 0 0, .int .u64 (x : Int), .func (.func 147) #[] #[.pointer (some ⟨Bm, 0, none⟩)], .int .u64 (x : Int), undef, undef, undef, undef, undef], defers := [] }) ?hAx ?assign ?body ?done ?stop
  case hI =>
    rintro xs X Y row h1 hg hr
    obtain ⟨v, h2, h3⟩ := h1.box
    have hr2 := fun r e => (hr r e).2
    exact ⟨⟨v, own_kept h2 hg hr2, lst_kept h3 hg hr2⟩, chg_row h1.chg hg hr (by have := HS1.out; omega)⟩
  case hIx => exact fun _ _ _ _ _ h _ _ => h.elim
  case h0 => exact H0.out
  case hAx => exact fun x a' => ownFrom_pure _ _
  case assign =>
    rintro l pre x W K h1 hK
    unfold encU
    have HK := Lib.hid hK
    clear hK
    gi_wp2_with fail
    exact HK.out _ _ (keepsFrom_below (Below.refl _ _)) (KeepsWalks.refl _) h1 rfl
  case body =>
    rintro l pre x a' W hl hlr h1 rfl hlt
    obtain ⟨v, h2, h3⟩ := h1.box
    obtain ⟨a, c, rfl, -⟩ := h3.form
    rw [u64s_length] at h2 h3
    obtain ⟨N, HN⟩ : ∃ N, Hid (pre.length = N) := ⟨_, Lib.hid rfl⟩
    rw [HN.out] at h2 h3 hlt
    obtain ⟨v, hvE⟩ : ∃ v, v = Value.slice a N c := ⟨_, rfl⟩
    rw [← hvE] at h2 h3
    have HVE := Lib.hid hvE
    rw [hvE] at h2
    have c0 := h2.cell 0
    have f0 := h2.frozen 0
    simp at c0
    rw [hvE] at h3
    have HH := Lib.hid (And.intro h2 (And.intro h3 h1.chg))
    clear hvE HVE v
    obtain ⟨i0, hi, hz0, hz1, hz2⟩ := info_parts Tryz.info_u64
    have hbl := h2.lt
    clear h1 h2 h3
    gi_wp2_with (first
      | (gi_at_builtin; refine wpListIn_append_own _ rfl _ _ 73 rfl w.heap.size 37 i0 (.int .u64 0) 1 8 Tryz.underlying73 hi hz0 hz1 hz2 rfl (by decide) _ _ _ rfl (show World.ownsRow _ _ _ _ _ N _ from by have := HH.out.2.1.alloc (.cells #[.int .u64 (x : Int)] 37); unfold Lst at this; rwa [u64s_length, HN.out] at this) ⟨W.heap.size, 0, none⟩ 1 1 [.int .u64 (x : Int)] rfl rfl (cell_one_new _ _ _) (by simp [Value.oneCell']) (by unfold maxLen; omega) (by omega) (by have := HH.out.2.2.size; simp; omega) ?_; intro v' w3 hown' hg3 hnil3
         obtain ⟨a5, n5, c5, rfl⟩ : ∃ a5 n5 c5, v' = .slice a5 n5 c5 := by
           rcases hown'.2 with ⟨rfl, _⟩ | ⟨g5, c5, r5, rfl, _⟩
           · exact ⟨_, _, _, rfl⟩
           · exact ⟨_, _, _, rfl⟩
         have hne : (Value.slice a N c).ownBlock ≠ some w.heap.size := fun e => by
           obtain ⟨cc, hcc⟩ := (HH.out.2.1.base (Nat.zero_le _)).typ e
           have h9 := HH.out.1
           unfold Own at h9
           rw [hcc] at h9
           simp at h9
         have ho3 := (HH.out.1.alloc (.cells #[.int .u64 (x : Int)] 37)).grown hg3 (fun e => hne e.symm)
         have c3 := ho3.cell 0
         have f3 := ho3.frozen 0
         simp at c3)
      | fail)
    have hCW : Chg (bl (.slice a N c) ++ [w.heap.size]) W (w3.setCell ⟨w.heap.size, 0, none⟩ (.slice a5 n5 c5)) := ((((Chg.refl _ W).alloc _).grown hg3 (fun k e => .inl (List.mem_append_left _ (mem_bl.2 e)))).setCell (by simp) _)
    have hcl : ∀ k ∈ bl (.slice a N c) ++ [w.heap.size], k < W.heap.size → ∃ c t m, W.heap[k]? = some (.cells c t m) := fun y hy hlt => by
      rcases List.mem_append.1 hy with hy | hy
      · obtain ⟨cc, hcc⟩ := (HH.out.2.1.base (Nat.zero_le _)).typ (mem_bl.1 hy)
        exact ⟨_, _, _, hcc⟩
      · simp at hy
        subst hy
        exact ⟨_, _, _, HH.out.1⟩
    refine ⟨keepsFrom_chg hCW hcl, keepsWalks_chg hCW hcl, ⟨_, ho3.set 0 _, ?_⟩, HH.out.2.2.then hCW (fun y hy => .inr ?_)⟩
    · have h6 : Lst w3 w.heap.size 37 (.slice a5 n5 c5) (u64s (pre ++ [x])) := by
        unfold Lst
        have e2 : u64s (pre ++ [x]) = u64s pre ++ [.int .u64 (x : Int)] := by simp [u64s]
        rw [e2, List.length_append, u64s_length, HN.out]
        exact hown'
      exact h6.chg (l := [w.heap.size]) ((Chg.refl _ _).setCell (by simp) _) (fun g hg hm => by
        obtain ⟨cc, hcc⟩ := (h6.base (Nat.zero_le _)).typ hg
        simp at hm
        subst hm
        have h9 := ho3
        unfold Own at h9
        rw [hcc] at h9
        simp at h9)
    · rcases List.mem_append.1 hy with hy | hy
      · exact (HH.out.2.1.lt _ (mem_bl.1 hy)).1
      · simp at hy
        omega
  case done =>
    rintro D xs W hD hS h1 hK
    obtain ⟨v, h2, h3⟩ := h1.box
    have c0 := h2.cell 0
    simp at c0
    have HH := Lib.hid (And.intro h2 (And.intro h3 h1.chg))
    have HK := Lib.hid hK
    clear h1 h2 h3 hK
    gi_wp2_with fail
    refine ⟨by simp, .inl ⟨_, _, rfl, run_takeDeferred HK.out, ?_⟩⟩
    have hg : W.grownBy (W.putObj D (.deferred none)) (some D) := grownBy_putObj' _ D (.deferred none)
    have hs1 := HS1.out
    have hCE := HH.out.2.2.grown hg (fun y hy => by injection hy with hy; subst hy; right; omega)
    have hl5 := lst_kept HH.out.2.1 hg (fun r hr => by injection hr with hr; subst hr; exact ⟨_, HK.out, rfl⟩)
    refine ⟨v, by simp [results, Tryz.results176, go_sem], ?_⟩
    exact ⟨v, xs, rfl, hS, hl5, hCE⟩
  case stop => exact fun D c pre W _ _ h _ => h.elim
end Go.Proofs.YtihbinphmlgjoaaGreat
namespace Go.Proofs.YtihbinphmlgjoaaGreat
open Go.RowKit Go.Maps Go.Sort Go.Shelf Go.Deep
set_option linter.unusedVariables false
set_option linter.unusedSimpArgs false

theorem bitsLen_any (n : Nat) (hn : n < 1000000000) (w : World) : Calls Tryz.prog 163 #[.int .u64 (n : Int)] w fun e w' => e = .returned (.int .i64 (bitsLen n : Nat)) ∧ w' = w := by
  have h := Any.bits_Len (SlLaysF0.n15.bits (P := Tryz.prog) (ρ := nextA_ren) { nextA with }) (n : Int) w (by omega) (by omega)
  rwa [Int.toNat_natCast, bitLen_eq _ (by omega)] at h
theorem insertion_none (w : World) (c : Nat) : Calls Tryz.prog 200 #[.slice none 0 c, .int .i64 0, .int .i64 0] w fun e w' => e = .returned (.tuple #[]) ∧ w' = w := by
  go_enter Tryz.func200, Tryz.ntmps200
  go_wp2_with fail
  go_loopw [6] (fun vi wr => vi = .int .i64 1 ∧ wr = w) (fun vi _ => 0)
  case atStart => exact ⟨rfl, rfl⟩
  case round =>
    obtain ⟨rfl, rfl⟩ := hrel
    go_wp2_with fail
    go_end0
    exact ⟨rfl, rfl⟩
theorem pdq_none (w : World) (c : Nat) : Calls Tryz.prog 177 #[.slice none 0 c, .int .i64 0, .int .i64 0, .int .i64 0] w fun e w' => e = .returned (.tuple #[]) ∧ w' = w := by
  go_enter Tryz.func177, Tryz.ntmps177
  go_wp2_with fail
  go_loopw [1, 2, 3, 8, 9] (fun v1 v2 v3 v8 v9 wr => v1 = .int .i64 0 ∧ v2 = .int .i64 0 ∧ v3 = .int .i64 0 ∧ v8 = .bool true ∧ v9 = .bool true ∧ wr = w) (fun _ _ _ _ _ _ => 0)
  case atStart => exact ⟨rfl, rfl, rfl, rfl, rfl, rfl⟩
  case round =>
    obtain ⟨rfl, rfl, rfl, rfl, rfl, rfl⟩ := hrel
    go_wp2_with fail
    refine (insertion_none wr c).mono ?_
    rintro e w2 ⟨rfl, rfl⟩
    go_wp2_with fail
    (try simp only [Exit.inBlock, Exit.then])
    refine bodyPost_ret (results_none rfl _ _ _) rfl ?_
    exact ⟨rfl, rfl⟩
/-- sorted by value: what two lists in order have in common is all -/
theorem sorted_eq {A B : List Nat} (h : A.Perm B) (hA : A.Pairwise (· ≤ ·)) (hB : B.Pairwise (· ≤ ·)) : A = B := by
  have hp : (A.map (fun (x : Nat) => (x : Int))).Perm (B.map (fun (x : Nat) => (x : Int))) := h.map _
  have s : ∀ L : List Nat, L.Pairwise (· ≤ ·) → (L.map (fun (x : Nat) => (x : Int))).Pairwise (fun a b => leI a b = true) := fun L hL => List.Pairwise.map _ (fun a b (hab : a ≤ b) => by simp only [leI, decide_eq_true_eq]; omega) hL
  have e := mergeSort_of_perm_i hp
  have e1 : (A.map (fun (x : Nat) => (x : Int))).mergeSort leI = A.map (fun (x : Nat) => (x : Int)) := List.mergeSort_of_pairwise (s A hA)
  have e2 : (B.map (fun (x : Nat) => (x : Int))).mergeSort leI = B.map (fun (x : Nat) => (x : Int)) := List.mergeSort_of_pairwise (s B hB)
  rw [e1, e2] at e
  exact List.map_inj_right (fun x y e => by omega) |>.1 e
def ints (xs : List Nat) : Array Int := (xs.map (fun (x : Nat) => (x : Int))).toArray
theorem us_ints (xs : List Nat) : us (ints xs) = u64s xs := by simp [us, ints, u64s]
theorem ints_size (xs : List Nat) : (ints xs).size = xs.length := by simp [ints]
theorem of_ordered {xs : List Nat} {R : Array Int} (hp : PermIn 0 xs.length (ints xs) R) (hs : SortedIn ltInt 0 xs.length R) : ∃ ys : List Nat, R = ints ys ∧ ys.Perm xs ∧ ys.Pairwise (· ≤ ·) := by
  have hsz : R.size = xs.length := by rw [hp.1, ints_size]
  have h1 : R.toList.Perm (xs.map (fun (x : Nat) => (x : Int))) := by
    have := hp.2.2
    rw [show R.extract 0 xs.length = R by rw [← hsz]; simp, show (ints xs).extract 0 xs.length = ints xs by rw [← ints_size xs]; simp] at this
    simpa [ints] using this
  have hnn : ∀ x ∈ R.toList, ((x.toNat : Nat) : Int) = x := fun x hx => by
    have := h1.mem_iff.1 hx
    simp only [List.mem_map] at this
    obtain ⟨y, _, rfl⟩ := this
    omega
  have hR : R.toList = (R.toList.map Int.toNat).map (fun (x : Nat) => (x : Int)) := by
    rw [List.map_map]
    have : R.toList.map ((fun (x : Nat) => (x : Int)) ∘ Int.toNat) = R.toList.map id := List.map_congr_left fun x hx => hnn x hx
    rw [this, List.map_id]
  refine ⟨R.toList.map Int.toNat, ?_, ?_, ?_⟩
  · unfold ints
    rw [← hR]
  · have h2 := h1.map Int.toNat
    rw [List.map_map] at h2
    have : xs.map (Int.toNat ∘ fun (x : Nat) => (x : Int)) = xs.map id := List.map_congr_left fun x hx => by simp
    rw [this, List.map_id] at h2
    exact h2
  · refine List.Pairwise.map (R := fun a b : Int => a ≤ b) _ (fun a b (hab : a ≤ b) => by omega) ?_
    rw [List.pairwise_iff_getElem]
    intro i j hi hj hij
    have := hs i j (Nat.zero_le _) hij (by simpa [hsz] using hj)
    simp only [ltInt, decide_eq_false_iff_not] at this
    have e1 : R[i]! = R.toList[i] := by simp at hi; simp [hi]
    have e2 : R[j]! = R.toList[j] := by simp at hj; simp [hj]
    rw [e1, e2] at this
    omega
theorem sort_any (w : World) (base : Nat) (v : Value) (xs : List Nat) (h : Lst w base 37 v (u64s xs)) (hl : xs.length ≤ 1048577) :
    Calls Tryz.prog 146 #[v] w fun e w' => e = .returned (.tuple #[]) ∧ ∃ ys : List Nat, ys.Perm xs ∧ ys.Pairwise (· ≤ ·) ∧ Lst w' base 37 v (u64s ys) ∧ Chg (bl v) w w' := by
  rcases h.2 with ⟨rfl, hz⟩ | ⟨g, cap, cur, rfl, hb, hg, hnc, hcm, hcs, htk⟩
  · rw [u64s_length] at hz
    have hx : xs = [] := List.eq_nil_of_length_eq_zero hz
    subst hx
    have HB := Lib.hid (fun w => bitsLen_any 0 (by omega) w)
    have hb0 : bitsLen 0 = 0 := by decide
    rw [hb0] at HB
    go_enter Tryz.func146, Tryz.ntmps146
    go_wp2_with fail
    refine (HB.out _).mono ?_
    rintro e w2 ⟨rfl, rfl⟩
    go_wp2_with fail
    refine (pdq_none w2 0).mono ?_
    rintro e w3 ⟨rfl, rfl⟩
    go_wp2_with fail
    go_end0
    exact ⟨rfl, [], List.Perm.refl _, List.Pairwise.nil, h, Chg.refl _ _⟩
  · rw [u64s_length] at hnc htk
    rw [Nat.mul_one] at htk hcs
    obtain ⟨N, hN⟩ : ∃ N, Hid (xs.length = N) := ⟨_, Lib.hid rfl⟩
    have hcl : cur.toList = us (ints xs) ++ cur.toList.drop xs.length := by
      rw [us_ints, ← htk, List.take_append_drop]
    have hu : Uw w g (ints xs) (cur.toList.drop xs.length) := by
      unfold Uw Own
      rw [← hcl]
      exact hg
    have CP := Lib.hid (pdq_any (N + 1) w g N cap 0 N (bitsLen N) (ints xs) (cur.toList.drop xs.length) (by omega) hu (by rw [ints_size]; exact hN.out) (Nat.zero_le _) (Nat.le_refl _) (by have := hN.out; omega) (Nat.le_trans ((bitsLen_le_iff N 62).2 (by have := hN.out; omega)) (by omega)) (.inl rfl))
    have HB := Lib.hid (fun w => bitsLen_any N (by have := hN.out; omega) w)
    have hwN : IntKind.u64.wrap (N : Int) = (N : Int) := by rw [IntKind.wrap_u64]; have := hN.out; omega
    have HC := Lib.hid (And.intro hb (And.intro hnc (And.intro hcm (And.intro hcs hcl))))
    rw [u64s_length, hN.out]
    obtain ⟨L0, hL0⟩ : ∃ L, Hid (bitsLen N = L) := ⟨_, Lib.hid rfl⟩
    rw [hL0.out] at CP HB
    clear hu hcl hg htk hcs hb hnc hcm h
    go_enter Tryz.func146, Tryz.ntmps146
    go_wp2_with fail
    refine (HB.out _).mono ?_
    rintro e w2 ⟨rfl, rfl⟩
    go_wp2_with fail
    refine CP.out.mono ?_
    rintro e w3 ⟨rfl, HO⟩
    obtain ⟨R, p, s, HS⟩ := HO.out
    rw [← hN.out] at p s
    obtain ⟨ys, rfl, hperm, hsorted⟩ := of_ordered p s
    have HY := Lib.hid (And.intro hperm (And.intro hsorted HS))
    clear p s HS HO hperm hsorted
    go_wp2_with fail
    go_end0
    obtain ⟨h1, h2, h3, h4⟩ := HY.out
    refine ⟨rfl, ys, h1, h2, ?_, by simpa [bl, Value.ownBlock] using h4⟩
    have hyl : ys.length = N := by rw [h1.length_eq, hN.out]
    unfold Uw Own at h3
    refine ⟨by rw [u64s_length]; exact (Nat.mul_one _).symm, .inr ⟨g, cap, (us (ints ys) ++ cur.toList.drop xs.length).toArray, by rw [u64s_length, hyl], HC.out.1, h3, by rw [u64s_length, hyl, ← hN.out]; exact HC.out.2.1, HC.out.2.2.1, ?_, ?_⟩⟩
    · have e1 := congrArg List.length HC.out.2.2.2.2
      simp only [List.length_append, us_len, ints_size, Array.length_toList] at e1
      simp only [List.size_toArray, List.length_append, us_len, ints_size, Nat.mul_one]
      rw [h1.length_eq, ← e1]
      exact HC.out.2.2.2.1
    · rw [u64s_length, Nat.mul_one, us_ints]
      simp
end Go.Proofs.YtihbinphmlgjoaaGreat
namespace Go.Proofs.YtihbinphmlgjoaaGreat
open Go.RowKit Go.Maps Go.Shelf Go.Deep
set_option linter.unusedVariables false
set_option linter.unusedSimpArgs false

theorem part_two {t : TypeId} {xs : Array Value} {off : Nat} (ha : ∀ w, (isAgg t).run Tryz.prog w = .ok true w) (hz : ∀ w, (Go.sizeOf t).run Tryz.prog w = .ok 2 w) (w : World) : (part t xs off).run Tryz.prog w = .ok (.agg (xs.extract off (off + 2))) w := by
  unfold part
  rw [Sem.run_bind, ha]
  simp [hz, Sem.run_bind, Result.andThen_ok]
theorem run_fieldP (a b c d e f g : Value) (w : World) : (Instr.field 62 (.agg #[a, b, c, d, e, f, g]) 0).run Tryz.prog w = .ok (.agg #[a, b]) w := by
  have ab : ∀ w, (isAgg 39).run Tryz.prog w = .ok true w := fun w => by unfold isAgg; rw [Sem.run_bind, run_underlying Tryz.underlying39 w]; rfl
  have zb : ∀ w, (Go.sizeOf 39).run Tryz.prog w = .ok 2 w := fun w => Tryz.sizeOf39 w
  have hp : (part 39 #[a, b, c, d, e, f, g] 0).run Tryz.prog w = .ok (.agg #[a, b]) w := part_two ab zb w
  have ha : (asAgg (.agg #[a, b, c, d, e, f, g])).run Tryz.prog w = .ok #[a, b, c, d, e, f, g] w := rfl
  unfold Instr.field
  simp [ha, Result.andThen_ok, Sem.run_bind, run_underlying Tryz.underlying62, hp]
/-- a tape with its states: what was flushed, the half, the records, the states -/
structure AT where
  F : Nat → Sec
  h : Nat
  L : List Rec
  S : AS
def atS (T : AT) : TS := calm T.F (fun _ => none) T.h T.L
/-- what a call that may change something leaves -/
def ChO (w : World) (B : Nat → Prop) (u mp q : Nat) (l : List Nat) (p g b n : Nat) (code : Int) (s : Es) (T2 : AT) (e : Ending) (w' : World) : Prop :=
  ∃ T' : EsT, e = .returned (.tuple #[T'.val, .int .i64 code]) ∧ ∃ l' : List Nat, Hid (T'.x = s ∧ LyP w' (fun x => w.heap.size ≤ x ∧ x ∉ acM u mp p g b l' ∧ ¬ B x) T'.y ∧ LyS T'.y ∧ Acs w' B u mp q l' p g b n (atS T2) T2.S ∧ (∀ x ∈ l', x ∈ l ∨ w.heap.size ≤ x) ∧ Chg (mp :: l ++ [g, b]) w w')
/-- the result is laid into a cell of the caller's own -/
theorem ChO.poke {w W w' : World} {B : Nat → Prop} {u mp q : Nat} {l : List Nat} {p g b n : Nat} {s : Es} {T2 : AT} {T' : EsT} {l' : List Nat} (hc : Chg [] w W)  (hm : ∀ x ∈ acM u mp p g b l, x < w.heap.size)
    (h : T'.x = s ∧ LyP w' (fun x => W.heap.size ≤ x ∧ x ∉ acM u mp p g b l' ∧ ¬ B x) T'.y ∧ LyS T'.y ∧ Acs w' B u mp q l' p g b n (atS T2) T2.S ∧ (∀ x ∈ l', x ∈ l ∨ W.heap.size ≤ x) ∧ Chg (mp :: l ++ [g, b]) W w') {R : Nat} (hB : ∀ x, B x → x ≠ R) (hR : w.heap.size ≤ R) (hR2 : R < W.heap.size) {w2 : World} (hc2 : Chg [R] w' w2) :
    T'.x = s ∧ LyP w2 (fun x => w.heap.size ≤ x ∧ x ∉ acM u mp p g b l' ∧ ¬ B x) T'.y ∧ LyS T'.y ∧ Acs w2 B u mp q l' p g b n (atS T2) T2.S ∧ (∀ x ∈ l', x ∈ l ∨ w.heap.size ≤ x) ∧ Chg (mp :: l ++ [g, b]) w w2 := by
  obtain ⟨h1, h2, h3, h4, h5, h6⟩ := h
  have hs := hc.size
  have hRm : ∀ x ∈ [R], x ∉ acM u mp p g b l' := fun x hx hh => by
    simp only [List.mem_singleton] at hx
    subst hx
    have h0 : ∀ y ∈ acM u mp p g b l', y ∈ acM u mp p g b l ∨ W.heap.size ≤ y := fun y hy => by
      unfold acM at hy ⊢
      simp only [List.mem_cons] at hy ⊢
      rcases hy with hy | hy | hy | hy | hy | hy
      · exact .inl (.inl hy)
      · exact .inl (.inr (.inl hy))
      · exact .inl (.inr (.inr (.inl hy)))
      · exact .inl (.inr (.inr (.inr (.inl hy))))
      · exact .inl (.inr (.inr (.inr (.inr (.inl hy)))))
      · rcases h5 y hy with hy | hy
        · exact .inl (.inr (.inr (.inr (.inr (.inr hy)))))
        · exact .inr hy
    rcases h0 x hh with h9 | h9
    · have := hm x h9; omega
    · omega
  refine ⟨h1, (h2.chg hc2 (fun x hx hh => by simp only [List.mem_singleton] at hh; omega)).mono (fun x _ hx => ⟨by omega, hx.2⟩), h3, h4.chg hc2 hRm (fun x hx hh => by simp only [List.mem_singleton] at hh; exact hB x hx.1 hh), fun x hx => (h5 x hx).imp id (fun h9 => by omega), ?_⟩
  exact ((hc.mono (by simp)).trans h6).then hc2 (fun x hx => .inr (by simp only [List.mem_singleton] at hx; omega))
theorem Acs.mlt {w : World} {B : Nat → Prop} {u mp q : Nat} {l : List Nat} {p g b n : Nat} {X : TS} {S : AS} (A : Acs w B u mp q l p g b n X S) : ∀ x ∈ acM u mp p g b l, x < w.heap.size := fun x hx => by
  have h1 := A.td.dlt
  obtain ⟨V, h2, _⟩ := A.map
  unfold acM at hx
  simp only [List.mem_cons] at hx
  rcases hx with hx | hx | hx | hx | hx | hx
  · subst hx; exact A.own.lt
  · subst hx; exact h2.lt
  · omega
  · omega
  · omega
  · exact A.td.lt x hx
def zLt : LyT := ⟨0, none, 0, [], 0⟩
set_option maxHeartbeats 1000000 in
/-- Prepare of what is no epoch, or no ballot, or on nothing -/
theorem Prepare_arg (w : World) (xv : Option Addr) (e : Nat) (he : e < 18446744073709551616) (b : Bt) (h : xv = none ∨ ep0 e = false ∨ btOk b = false) :
    Calls Tryz.prog 22 #[.pointer xv, .int .u64 (e : Int), btv b] w fun r w' => r = .returned (.tuple #[zEs.val, .int .i64 1]) ∧ Chg [] w w' := by
  obtain ⟨b1, b2⟩ := b
  obtain ⟨W, HW⟩ : ∃ W, Hid ((w.alloc (.cells #[.int .i64 b1, .int .i64 b2] 39)).alloc (.cells #[.int .i64 0, .int .i64 0, .int .i64 0, .int .i64 0, .int .u64 0, .slice none 0 0, .int .i64 0] 62) = W) := ⟨_, Lib.hid rfl⟩
  have hc : Chg [] w W := by rw [← HW.out]; exact ((Chg.refl [] w).alloc _).alloc _
  have hb : Own W w.heap.size 39 [.int .i64 b1, .int .i64 b2] := by rw [← HW.out]; exact (Own.new w _ _).alloc _
  have hr : Own W (w.heap.size + 1) 62 zEc := by
    rw [← HW.out]
    have := Own.new (w.alloc (.cells #[.int .i64 b1, .int .i64 b2] 39)) 62 zEc
    simpa using this
  have HE := Lib.hid (isEpoch_any e W he)
  have HBB := Lib.hid (fun W' => isBallot_any (b1, b2) W')
  have c0 := hb.cell 0
  have c1 := hb.cell 1
  simp at c0 c1
  have HR := Lib.hid hr
  have HC := Lib.hid hc
  clear hc hb hr he
  obtain ⟨x1, hx1⟩ : ∃ x, ep0 e = x := ⟨_, rfl⟩
  obtain ⟨x2, hx2⟩ : ∃ x, btOk (b1, b2) = x := ⟨_, rfl⟩
  rw [hx1] at HE h
  rw [hx2] at HBB h
  clear hx1 hx2
  have HFIN : Hid (∀ W', Chg [] W W' → Own W' (w.heap.size + 1) 62 zEc) := Lib.hid (fun W' h9 => HR.out.chg h9 (by simp))
  have h' : xv = none ∨ (∃ A, xv = some A) ∧ x1 = false ∨ (∃ A, xv = some A) ∧ x1 = true ∧ x2 = false := by
    cases xv with
    | none => exact .inl rfl
    | some A =>
      rcases h with h | h | h
      · cases h
      · exact .inr (.inl ⟨⟨A, rfl⟩, h⟩)
      · cases x1
        · exact .inr (.inl ⟨⟨A, rfl⟩, rfl⟩)
        · exact .inr (.inr ⟨⟨A, rfl⟩, rfl, h⟩)
  clear h
  rcases h' with h | ⟨⟨A, h⟩, h1⟩ | ⟨⟨A, h⟩, h1, h2⟩
  · subst h
    clear HE HBB HFIN
    go_enter Tryz.func22, Tryz.ntmps22
    go_upto_region 1 with fail
    rw [HW.out]
    have HQ := HR
    have HD := HC
    have hq := HQ.out
    have d0 := hq.cell 0
    have f0 := hq.frozen 0
    have d1 := hq.cell 1
    have f1 := hq.frozen 1
    have d2 := hq.cell 2
    have f2 := hq.frozen 2
    have d3 := hq.cell 3
    have f3 := hq.frozen 3
    have d4 := hq.cell 4
    have f4 := hq.frozen 4
    have d5 := hq.cell 5
    have f5 := hq.frozen 5
    have d6 := hq.cell 6
    have f6 := hq.frozen 6
    simp at d0 d1 d2 d3 d4 d5 d6
    clear hq
    go_wp2_with fail
    have H9 := Lib.hid (Own.put7 HQ.out (.int .i64 0) (.int .i64 0) (.int .i64 0) (.int .i64 0) (.int .u64 0) (.slice none 0 0) (.int .i64 0))
    refine bodyPost_ret (results_row_tmp Tryz.results22 _ _ (w.heap.size + 1) 62 _ (0, 0) _ rfl H9.out Tryz.underlying62 rfl (by kernel_rfl)) rfl ?_
    exact ⟨rfl, HD.out.put7 (.inr (Nat.le_succ _)) _ _ _ _ _ _ _⟩
  · subst h h1
    clear HBB HFIN
    go_enter Tryz.func22, Tryz.ntmps22
    go_upto_region 1 with fail
    rw [HW.out]
    go_upto_region 2 with (first | (go_at_call 51; refine HE.out.mono ?_; rintro r w2 ⟨rfl, hw⟩; have hw2 := hw.symm; subst hw2) | fail)
    have HQ := HR
    have HD := HC
    have hq := HQ.out
    have d0 := hq.cell 0
    have f0 := hq.frozen 0
    have d1 := hq.cell 1
    have f1 := hq.frozen 1
    have d2 := hq.cell 2
    have f2 := hq.frozen 2
    have d3 := hq.cell 3
    have f3 := hq.frozen 3
    have d4 := hq.cell 4
    have f4 := hq.frozen 4
    have d5 := hq.cell 5
    have f5 := hq.frozen 5
    have d6 := hq.cell 6
    have f6 := hq.frozen 6
    simp at d0 d1 d2 d3 d4 d5 d6
    clear hq
    go_wp2_with fail
    have H9 := Lib.hid (Own.put7 HQ.out (.int .i64 0) (.int .i64 0) (.int .i64 0) (.int .i64 0) (.int .u64 0) (.slice none 0 0) (.int .i64 0))
    refine bodyPost_ret (results_row_tmp Tryz.results22 _ _ (w.heap.size + 1) 62 _ (0, 0) _ rfl H9.out Tryz.underlying62 rfl (by kernel_rfl)) rfl ?_
    exact ⟨rfl, HD.out.put7 (.inr (Nat.le_succ _)) _ _ _ _ _ _ _⟩
  · subst h h1 h2
    go_enter Tryz.func22, Tryz.ntmps22
    go_upto_region 1 with fail
    rw [HW.out]
    go_upto_region 2 with (first | (go_at_call 51; refine HE.out.mono ?_; rintro r w2 ⟨rfl, hw⟩; have hw2 := hw.symm; subst hw2) | (go_at_call 52; refine (HBB.out _).mono ?_; rintro r w3 ⟨rfl, hc3⟩; have HC3 := Lib.hid hc3; clear hc3) | fail)
    have HQ := Lib.hid (HFIN.out _ HC3.out)
    have HD := Lib.hid (HC.out.trans HC3.out)
    have hq := HQ.out
    have d0 := hq.cell 0
    have f0 := hq.frozen 0
    have d1 := hq.cell 1
    have f1 := hq.frozen 1
    have d2 := hq.cell 2
    have f2 := hq.frozen 2
    have d3 := hq.cell 3
    have f3 := hq.frozen 3
    have d4 := hq.cell 4
    have f4 := hq.frozen 4
    have d5 := hq.cell 5
    have f5 := hq.frozen 5
    have d6 := hq.cell 6
    have f6 := hq.frozen 6
    simp at d0 d1 d2 d3 d4 d5 d6
    clear hq
    go_wp2_with fail
    have H9 := Lib.hid (Own.put7 HQ.out (.int .i64 0) (.int .i64 0) (.int .i64 0) (.int .i64 0) (.int .u64 0) (.slice none 0 0) (.int .i64 0))
    refine bodyPost_ret (results_row_tmp Tryz.results22 _ _ (w.heap.size + 1) 62 _ (0, 0) _ rfl H9.out Tryz.underlying62 rfl (by kernel_rfl)) rfl ?_
    exact ⟨rfl, HD.out.put7 (.inr (Nat.le_succ _)) _ _ _ _ _ _ _⟩
end Go.Proofs.YtihbinphmlgjoaaGreat
