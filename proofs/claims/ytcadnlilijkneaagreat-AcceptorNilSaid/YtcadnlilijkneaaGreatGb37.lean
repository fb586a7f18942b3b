/-
  Sorting of uint64: the partial insertion sort. No claim of their own.
-/
import Derived.Test.YtcadnlilijkneaaGreatGb36
import Derived.Test.YtcadnlilijkneaaGreatGb7
namespace Go.Proofs.YtcadnlilijkneaaGreat
open Go.RowKit Go.Sort
set_option linter.unusedVariables false
set_option linter.unusedSimpArgs false

theorem size_shiftDown : ∀ (j : Nat) (d : Array Int), (shiftDown ltInt j d).size = d.size
  | 0, d => by rw [shiftDown]
  | j + 1, d => by
    rw [shiftDown]
    split
    · rfl
    · rw [size_shiftDown j, size_swp2]
theorem size_shiftUp (b : Nat) : ∀ (n j : Nat) (d : Array Int), b - j ≤ n → (shiftUp ltInt b j d).size = d.size
  | 0, j, d, h => by rw [shiftUp, if_neg (by omega)]
  | n + 1, j, d, h => by
    rw [shiftUp]
    split
    · split
      · rfl
      · rw [size_shiftUp b n (j + 1) _ (by omega), size_swp2]
    · rfl
theorem size_fixDown (a i : Nat) (d : Array Int) : (fixDown ltInt a i d).size = d.size := by
  unfold fixDown
  split
  · exact size_shiftDown _ _
  · rfl
theorem size_fixUp (b i : Nat) (d : Array Int) : (fixUp ltInt b i d).size = d.size := by
  unfold fixUp
  split
  · exact size_shiftUp b _ _ _ (Nat.le_refl _)
  · rfl
set_option maxHeartbeats 8000000 in
set_option maxRecDepth 1000000 in
theorem partialIns_any (w : World) (g N c a b : Nat) (d : Array Int) (z : List Value) (h : Uw w g d z) (hN : d.size = N) (hab : a < b) (hb : b ≤ N) (hsz : N < 1000000000) :
    Calls Tryz.prog 282 #[.slice (some ⟨g, 0, none⟩) N c, .int .i64 (a : Int), .int .i64 (b : Int)] w fun e w' => e = .returned (.bool (partialInsertionSort ltInt d a b).2) ∧ Hid (Sd w g (partialInsertionSort ltInt d a b).1 z w') := by
  have HS0 := Lib.hid (Sd.refl h)
  clear h
  obtain ⟨R, hR⟩ : ∃ R, Hid (partialInsertionSort ltInt d a b = R) := ⟨_, Lib.hid rfl⟩
  obtain ⟨L, hL⟩ : ∃ L, Hid (b - a = L) := ⟨_, Lib.hid rfl⟩
  have eL : IntKind.i64.wrap ((b : Int) - (a : Int)) = (L : Int) := wrapN (by have := hL.out; omega) (by have := hL.out; omega)
  have has : (a : Int) < 1000000000 := by omega
  rw [hR.out]
  go_enter Tryz.func282, Tryz.ntmps282
  go_wp2_with fail
  go_loopw [7, 8] (fun v7 v8 wr => ∃ (i s : Nat) (dk : Array Int), v7 = .int .i64 i ∧ v8 = .int .i64 s ∧ a < i ∧ i ≤ b ∧ s ≤ 5 ∧ dk.size = N ∧ Hid (Sd w g dk z wr) ∧ Hid (partialIns ltInt a b (5 - s) i dk = R)) (fun _ v8 _ => 5 - (intOf v8).toNat)
  case atStart => exact ⟨a + 1, 0, d, by go_num, rfl, by omega, by omega, by omega, hN, HS0, hR⟩
  case round =>
    obtain ⟨i, s, dk, rfl, rfl, hai, hib, hs5, hsk, HW, HE⟩ := hrel
    by_cases hs : s < 5
    · have ds : decide ((s : Int) < 5) = true := decide_eq_true (by omega)
      have hss : (s : Int) < 5 := by omega
      have hss0 : (0 : Int) ≤ (s : Int) := by omega
      go_wp2_with fail
      go_loopw [7] (fun v wr => ∃ (i1 : Nat), v = .int .i64 i1 ∧ i ≤ i1 ∧ i1 ≤ b ∧ Hid (Sd w g dk z wr) ∧ Hid (scanSorted ltInt dk b i1 = scanSorted ltInt dk b i)) (fun v _ => b - (intOf v).toNat)
      case atStart => exact ⟨i, rfl, Nat.le_refl _, hib, HW, Lib.hid rfl⟩
      case round =>
        obtain ⟨i1, rfl, hii, hib1, HSu, HSC⟩ := hrel
        obtain ⟨k, hk⟩ : ∃ k, i1 = k + 1 := ⟨i1 - 1, by omega⟩
        obtain ⟨x, hx⟩ : ∃ x, Hid (dk[i1]! = x) := ⟨_, Lib.hid rfl⟩
        obtain ⟨y, hy⟩ : ∃ x, Hid (dk[k]! = x) := ⟨_, Lib.hid rfl⟩
        obtain ⟨B, hB⟩ : ∃ B : Bool, Hid ((decide (i1 < b) && (!ltInt x y)) = B) := ⟨_, Lib.hid rfl⟩
        have ek : IntKind.i64.wrap ((i1 : Int) - 1) = (k : Int) := wrapN (by omega) (by omega)
        have his : (i1 : Int) < 1000000000 := by omega
        have HK := Lib.hid hk
        clear hk
        go_upto_region 5 with fail
        go_cut [32] from 17 to 34 (fun v wx => v = .bool B ∧ Hid (Sd w g dk z wx))
        case first =>
          by_cases hg : i1 < b
          · have hd : decide (i1 < b) = true := decide_eq_true hg
            have q0 := HSu.out.1.cell i1 (by omega)
            rw [hx.out] at q0
            have q1 := HSu.out.1.cell k (by have := HK.out; omega)
            rw [hy.out] at q1
            have n0 : (0 : Int) ≤ (i1 : Int) := by omega
            have n1 : (0 : Int) ≤ (k : Int) := by omega
            have b0 : (i1 : Int) < (N : Int) := by omega
            have b1 : (k : Int) < (N : Int) := by have := HK.out; omega
            have hB2 := Lib.hid (show (!ltInt x y) = B by rw [← hB.out, hd]; rfl)
            clear hg
            go_wp2_with fail
            go_quiet ((go_at_call 283; exact Calls.quiet_of_same (Less_any _ _ _)))
            go_wp2_with fail
            go_meet
            case rel => exact ⟨by rw [← hB2.out], Lib.hid (HSu.out.drewN _)⟩
          · have hd : decide (i1 < b) = false := decide_eq_false hg
            have hB2 := Lib.hid (show false = B by rw [← hB.out, hd]; rfl)
            clear hg
            go_wp2_with fail
            go_quiet ((go_at_call 283; exact Calls.quiet_of_same (Less_any _ _ _)))
            go_wp2_with fail
            go_meet
            case rel => exact ⟨by rw [← hB2.out], Lib.hid (HSu.out.drewN _)⟩
        case rest =>
          clear HSu
          obtain ⟨rfl, HSu⟩ := hcut
          cases B with
          | true =>
            have hbb := hB.out
            rw [Bool.and_eq_true, decide_eq_true_eq, Bool.not_eq_true'] at hbb
            have HR := Lib.hid ((scanSorted_go ltInt dk b i1 hbb.1 (by rw [show i1 - 1 = k by have := HK.out; omega, hx.out, hy.out]; exact hbb.2)).symm.trans HSC.out)
            have HB := Lib.hid hbb.1
            clear hbb
            go_wp2_with fail
            go_roundw
            case rel => exact ⟨i1 + 1, by go_num, by omega, by have := HB.out; omega, HSu, HR⟩
            case measure => have := HB.out; simp [intOf]; omega
          | false =>
            have HK2 := Lib.hid (show scanSorted ltInt dk b i = i1 from HSC.out.symm.trans (scanSorted_stop ltInt dk b i1 (by
              rcases Nat.lt_or_ge i1 b with h | h
              · refine .inr ?_
                have hbb := hB.out
                rw [decide_eq_true h, Bool.true_and, Bool.not_eq_false'] at hbb
                rw [show i1 - 1 = k by have := HK.out; omega, hx.out, hy.out]
                exact hbb
              · exact .inl (by omega))))
            clear HSC hB hx hy
            by_cases hib2 : i1 = b
            · have he : ((i1 : Int) == (b : Int)) = true := by simp; omega
              have HR := Lib.hid ((pi_true ltInt a b s i dk hs (by rw [HK2.out]; exact hib2)).symm.trans HE.out)
              clear hib2 hib1 hii
              go_wp2_with fail
              go_ret
              rw [← HR.out]
              exact ⟨rfl, HSu⟩
            · have he : ((i1 : Int) == (b : Int)) = false := beq_eq_false_iff_ne.2 (by omega)
              have hibl : i1 < b := by omega
              by_cases h50 : L < 50
              · have d50 : decide ((L : Int) < 50) = true := decide_eq_true (by omega)
                have HR := Lib.hid ((pi_short ltInt a b s i dk hs (by rw [HK2.out]; exact hib2) (by rw [hL.out]; exact h50)).symm.trans HE.out)
                clear hib2 hib1 hii h50
                go_wp2_with fail
                go_ret
                rw [← HR.out]
                exact ⟨rfl, HSu⟩
              · have d50 : decide ((L : Int) < 50) = false := decide_eq_false (by omega)
                have HR := Lib.hid ((pi_go ltInt a b s i i1 dk hs HK2.out hib2 (by rw [hL.out]; exact h50)).symm.trans HE.out)
                rw [show i1 - 1 = k by have := HK.out; omega] at HR
                rename World => W3
                have hkN : k < N := by have := HK.out; omega
                have hkk := HK.out
                have q0 := HSu.out.1.cell i1 (by omega)
                have q1 := HSu.out.1.cell k (by omega)
                have f0 := Own.frozen HSu.out.1 i1
                have f1 := Own.frozen HSu.out.1 k
                have hgl := Own.lt HSu.out.1
                obtain ⟨xi, hxi⟩ : ∃ x, Hid (dk[i1]! = x) := ⟨_, Lib.hid rfl⟩
                obtain ⟨xk, hxk⟩ : ∃ x, Hid (dk[k]! = x) := ⟨_, Lib.hid rfl⟩
                rw [hxi.out] at q0
                rw [hxk.out] at q1
                have n0 : (0 : Int) ≤ (i1 : Int) := by omega
                have n1 : (0 : Int) ≤ (k : Int) := by omega
                have b0 : (i1 : Int) < (N : Int) := by omega
                have b1 : (k : Int) < (N : Int) := by omega
                have hne : i1 ≠ k := by omega
                have hne' : k ≠ i1 := by omega
                obtain ⟨d2, hd2⟩ : ∃ x, Hid (swp dk i1 k = x) := ⟨_, Lib.hid rfl⟩
                obtain ⟨d3, hd3⟩ : ∃ x, Hid (fixDown ltInt a i1 d2 = x) := ⟨_, Lib.hid rfl⟩
                obtain ⟨d4, hd4⟩ : ∃ x, Hid (fixUp ltInt b i1 d3 = x) := ⟨_, Lib.hid rfl⟩
                rw [hd2.out, hd3.out, hd4.out] at HR
                have hk2 : d2.size = N := by rw [← hd2.out, size_swp2]; exact hsk
                have hk3 : d3.size = N := by rw [← hd3.out, size_fixDown]; exact hk2
                have hk4 : d4.size = N := by rw [← hd4.out, size_fixUp]; exact hk3
                have HS2 := Lib.hid (show Sd w g d2 z (((W3.setCell ⟨g, i1, none⟩ (.int .u64 xk)).setCell ⟨g, k, none⟩ (.int .u64 xi)).drew) from by rw [← hd2.out]; exact (HSu.out.swap i1 k (by omega) (by omega) hxi.out hxk.out).drew)
                have hgeq : i1 - a + a = i1 := by omega
                obtain ⟨u, hu⟩ : ∃ u, Hid (i1 - a = u) := ⟨_, Lib.hid rfl⟩
                obtain ⟨v, hv⟩ : ∃ v, Hid (b - i1 = v) := ⟨_, Lib.hid rfl⟩
                have eu : IntKind.i64.wrap ((i1 : Int) - (a : Int)) = (u : Int) := wrapN (by have := hu.out; omega) (by have := hu.out; omega)
                have ev : IntKind.i64.wrap ((b : Int) - (i1 : Int)) = (v : Int) := wrapN (by have := hv.out; omega) (by have := hv.out; omega)
                clear hkk hgeq hib2 hib1 h50
                go_wp2_with fail
                go_region
                by_cases hu2 : 2 ≤ u
                · have du : decide (2 ≤ (u : Int)) = true := decide_eq_true (by omega)
                  have HF := Lib.hid (show d3 = shiftDown ltInt k d2 by rw [← hd3.out]; unfold fixDown; rw [hu.out, if_pos hu2, show i1 - 1 = k by have := HK.out; omega])
                  clear hu2 q0 q1 f0 f1 hgl n0 n1 b0 b1 hne hne' hxi hxk HSu
                  go_wp2_with fail
                  go_loopw [9] (fun v wr => ∃ (j : Nat) (dj : Array Int), v = .int .i64 j ∧ j ≤ k ∧ dj.size = N ∧ Hid (Sd w g dj z wr) ∧ Hid (shiftDown ltInt j dj = d3)) (fun v _ => (intOf v).toNat)
                  case atStart => exact ⟨k, d2, rfl, Nat.le_refl _, hk2, HS2, Lib.hid HF.out.symm⟩
                  case round =>
                    obtain ⟨j, dj, rfl, hjk, hsj, HSj, HJ⟩ := hrel
                    by_cases hj1 : 1 ≤ j
                    · have dj1 : decide (1 ≤ (j : Int)) = true := decide_eq_true (by omega)
                      obtain ⟨m, hm⟩ : ∃ m, j = m + 1 := ⟨j - 1, by omega⟩
                      have em : IntKind.i64.wrap ((j : Int) - 1) = (m : Int) := wrapN (by omega) (by omega)
                      rename World => W4
                      have q0 := HSj.out.1.cell j (by omega)
                      have q1 := HSj.out.1.cell m (by omega)
                      have f0 := Own.frozen HSj.out.1 j
                      have f1 := Own.frozen HSj.out.1 m
                      have hgl := Own.lt HSj.out.1
                      obtain ⟨xj, hxj⟩ : ∃ x, Hid (dj[j]! = x) := ⟨_, Lib.hid rfl⟩
                      obtain ⟨xm, hxm⟩ : ∃ x, Hid (dj[m]! = x) := ⟨_, Lib.hid rfl⟩
                      rw [hxj.out] at q0
                      rw [hxm.out] at q1
                      have n0 : (0 : Int) ≤ (j : Int) := by omega
                      have n1 : (0 : Int) ≤ (m : Int) := by omega
                      have b0 : (j : Int) < (N : Int) := by omega
                      have b1 : (m : Int) < (N : Int) := by omega
                      have hne : j ≠ m := by omega
                      have hne' : m ≠ j := by omega
                      have SG := Lib.hid (shiftDown_go ltInt j dj hj1)
                      have SS := Lib.hid (fun hh => shiftDown_stop ltInt j dj (.inr hh))
                      rw [show j - 1 = m by omega, hxj.out, hxm.out] at SG SS
                      have HM := Lib.hid hm
                      clear hm hj1
                      cases hl : ltInt xj xm with
                      | true =>
                        have HR3 := Lib.hid ((SG.out hl).symm.trans HJ.out)
                        go_wp2_with fail
                        go_quiet ((go_at_call 283; exact Calls.quiet_of_same (Less_t hl _)))
                        go_wp2_with fail
                        have r0 : (W4.drewN nq).cell? ⟨g, j, none⟩ = _ := q0
                        have r1 : (W4.drewN nq).cell? ⟨g, m, none⟩ = _ := q1
                        have s0 : (W4.drewN nq).frozen? ⟨g, j, none⟩ = false := f0
                        have s1 : (W4.drewN nq).frozen? ⟨g, m, none⟩ = false := f1
                        have HSq := Lib.hid (HSj.out.drewN nq)
                        clear q0 q1 f0 f1 hgl HSj
                        generalize W4.drewN nq = W5 at *
                        go_region
                        go_wp2_with fail
                        go_roundw
                        case rel => exact ⟨m, swp dj j m, rfl, by have := HM.out; omega, by rw [size_swp2]; exact hsj, Lib.hid ((HSq.out.qt ⟨_, rfl⟩).swap j m (by omega) (by have := HM.out; omega) hxj.out hxm.out), HR3⟩
                        case measure => have := HM.out; simp [intOf]; omega
                      | false =>
                        have HR3 := Lib.hid ((SS.out hl).symm.trans HJ.out)
                        go_wp2_with fail
                        go_quiet ((go_at_call 283; exact Calls.quiet_of_same (Less_f hl _)))
                        have HS3 := Lib.hid (show Sd w g d3 z (W4.drewN nq) from by rw [← HR3.out]; exact HSj.out.drewN _)
                        clear q0 q1 f0 f1 hgl n0 n1 b0 b1 hne hne' hxj hxm HSj HJ HM SG SS HR3 em
                        generalize W4.drewN nq = W5 at *
                        by_cases hv2 : 2 ≤ v
                        · have dv : decide (2 ≤ (v : Int)) = true := decide_eq_true (by omega)
                          have HF := Lib.hid (show d4 = shiftUp ltInt b (i1 + 1) d3 by rw [← hd4.out]; unfold fixUp; rw [hv.out, if_pos hv2])
                          clear hv2
                          go_wp2_with fail
                          go_loopw [10] (fun v wr => ∃ (j : Nat) (dj : Array Int), v = .int .i64 j ∧ 1 ≤ j ∧ j ≤ b ∧ dj.size = N ∧ Hid (Sd w g dj z wr) ∧ Hid (shiftUp ltInt b j dj = d4)) (fun v _ => b - (intOf v).toNat)
                          case atStart => exact ⟨i1 + 1, d3, by go_num, by omega, by omega, hk3, HS3, Lib.hid HF.out.symm⟩
                          case round =>
                            obtain ⟨j, dj, rfl, hj1, hjb, hsj, HSj, HJ⟩ := hrel
                            by_cases hjl : j < b
                            · have djl : decide (j < b) = true := decide_eq_true hjl
                              obtain ⟨m, hm⟩ : ∃ m, j = m + 1 := ⟨j - 1, by omega⟩
                              have em : IntKind.i64.wrap ((j : Int) - 1) = (m : Int) := wrapN (by omega) (by omega)
                              rename World => W4
                              have q0 := HSj.out.1.cell j (by omega)
                              have q1 := HSj.out.1.cell m (by omega)
                              have f0 := Own.frozen HSj.out.1 j
                              have f1 := Own.frozen HSj.out.1 m
                              have hgl := Own.lt HSj.out.1
                              obtain ⟨xj, hxj⟩ : ∃ x, Hid (dj[j]! = x) := ⟨_, Lib.hid rfl⟩
                              obtain ⟨xm, hxm⟩ : ∃ x, Hid (dj[m]! = x) := ⟨_, Lib.hid rfl⟩
                              rw [hxj.out] at q0
                              rw [hxm.out] at q1
                              have n0 : (0 : Int) ≤ (j : Int) := by omega
                              have n1 : (0 : Int) ≤ (m : Int) := by omega
                              have b0 : (j : Int) < (N : Int) := by omega
                              have b1 : (m : Int) < (N : Int) := by omega
                              have hne : j ≠ m := by omega
                              have hne' : m ≠ j := by omega
                              have SG := Lib.hid (shiftUp_go ltInt b j dj hjl)
                              have SS := Lib.hid (fun hh => shiftUp_stop ltInt b j dj (.inr hh))
                              rw [show j - 1 = m by omega, hxj.out, hxm.out] at SG SS
                              have hjs : (j : Int) < 1000000000 := by omega
                              have HM := Lib.hid (And.intro hm hjl)
                              clear hm hj1 hjl
                              cases hl : ltInt xj xm with
                              | true =>
                                have HR3 := Lib.hid ((SG.out hl).symm.trans HJ.out)
                                go_wp2_with fail
                                go_quiet ((go_at_call 283; exact Calls.quiet_of_same (Less_t hl _)))
                                go_wp2_with fail
                                have r0 : (W4.drewN nq).cell? ⟨g, j, none⟩ = _ := q0
                                have r1 : (W4.drewN nq).cell? ⟨g, m, none⟩ = _ := q1
                                have s0 : (W4.drewN nq).frozen? ⟨g, j, none⟩ = false := f0
                                have s1 : (W4.drewN nq).frozen? ⟨g, m, none⟩ = false := f1
                                have HSq := Lib.hid (HSj.out.drewN nq)
                                clear q0 q1 f0 f1 hgl HSj
                                generalize W4.drewN nq = W5 at *
                                go_region
                                go_wp2_with fail
                                go_roundw
                                case rel => exact ⟨j + 1, swp dj j m, by go_num, by omega, by have := HM.out; omega, by rw [size_swp2]; exact hsj, Lib.hid ((HSq.out.qt ⟨_, rfl⟩).swap j m (by omega) (by have := HM.out; omega) hxj.out hxm.out), HR3⟩
                                case measure => have := HM.out; simp [intOf]; omega
                              | false =>
                                have HR3 := Lib.hid ((SS.out hl).symm.trans HJ.out)
                                go_wp2_with fail
                                go_quiet ((go_at_call 283; exact Calls.quiet_of_same (Less_f hl _)))
                                go_wp2_with fail
                                go_roundw
                                case rel => exact ⟨i1, s + 1, d4, rfl, by go_num, by omega, by omega, by omega, hk4, Lib.hid (by rw [← HR3.out]; exact HSj.out.drewN _), HR⟩
                                case measure => simp [intOf]; omega
                            · have djl : decide (j < b) = false := decide_eq_false hjl
                              have HR3 := Lib.hid ((shiftUp_stop ltInt b j dj (.inl hjl)).symm.trans HJ.out)
                              clear hjl
                              go_wp2_with fail
                              go_roundw
                              case rel => exact ⟨i1, s + 1, d4, rfl, by go_num, by omega, by omega, by omega, hk4, Lib.hid (by rw [← HR3.out]; exact HSj.out), HR⟩
                              case measure => simp [intOf]; omega
                        · have dv : decide (2 ≤ (v : Int)) = false := decide_eq_false (by omega)
                          have HF := Lib.hid (show d4 = d3 by rw [← hd4.out]; unfold fixUp; rw [hv.out, if_neg hv2])
                          clear hv2
                          go_wp2_with fail
                          go_roundw
                          case rel => exact ⟨i1, s + 1, d4, rfl, by go_num, by omega, by omega, by omega, hk4, Lib.hid (by rw [HF.out]; exact HS3.out), HR⟩
                          case measure => simp [intOf]; omega
                    · have dj1 : decide (1 ≤ (j : Int)) = false := decide_eq_false (by omega)
                      have HS3 := Lib.hid (show Sd w g d3 z wr from by rw [← (shiftDown_stop ltInt j dj (.inl (by omega))).symm.trans HJ.out]; exact HSj.out)
                      clear hj1 HSj HJ
                      by_cases hv2 : 2 ≤ v
                      · have dv : decide (2 ≤ (v : Int)) = true := decide_eq_true (by omega)
                        have HF := Lib.hid (show d4 = shiftUp ltInt b (i1 + 1) d3 by rw [← hd4.out]; unfold fixUp; rw [hv.out, if_pos hv2])
                        clear hv2
                        go_wp2_with fail
                        go_loopw [10] (fun v wr => ∃ (j : Nat) (dj : Array Int), v = .int .i64 j ∧ 1 ≤ j ∧ j ≤ b ∧ dj.size = N ∧ Hid (Sd w g dj z wr) ∧ Hid (shiftUp ltInt b j dj = d4)) (fun v _ => b - (intOf v).toNat)
                        case atStart => exact ⟨i1 + 1, d3, by go_num, by omega, by omega, hk3, HS3, Lib.hid HF.out.symm⟩
                        case round =>
                          obtain ⟨j, dj, rfl, hj1, hjb, hsj, HSj, HJ⟩ := hrel
                          by_cases hjl : j < b
                          · have djl : decide (j < b) = true := decide_eq_true hjl
                            obtain ⟨m, hm⟩ : ∃ m, j = m + 1 := ⟨j - 1, by omega⟩
                            have em : IntKind.i64.wrap ((j : Int) - 1) = (m : Int) := wrapN (by omega) (by omega)
                            rename World => W4
                            have q0 := HSj.out.1.cell j (by omega)
                            have q1 := HSj.out.1.cell m (by omega)
                            have f0 := Own.frozen HSj.out.1 j
                            have f1 := Own.frozen HSj.out.1 m
                            have hgl := Own.lt HSj.out.1
                            obtain ⟨xj, hxj⟩ : ∃ x, Hid (dj[j]! = x) := ⟨_, Lib.hid rfl⟩
                            obtain ⟨xm, hxm⟩ : ∃ x, Hid (dj[m]! = x) := ⟨_, Lib.hid rfl⟩
                            rw [hxj.out] at q0
                            rw [hxm.out] at q1
                            have n0 : (0 : Int) ≤ (j : Int) := by omega
                            have n1 : (0 : Int) ≤ (m : Int) := by omega
                            have b0 : (j : Int) < (N : Int) := by omega
                            have b1 : (m : Int) < (N : Int) := by omega
                            have hne : j ≠ m := by omega
                            have hne' : m ≠ j := by omega
                            have SG := Lib.hid (shiftUp_go ltInt b j dj hjl)
                            have SS := Lib.hid (fun hh => shiftUp_stop ltInt b j dj (.inr hh))
                            rw [show j - 1 = m by omega, hxj.out, hxm.out] at SG SS
                            have hjs : (j : Int) < 1000000000 := by omega
                            have HM := Lib.hid (And.intro hm hjl)
                            clear hm hj1 hjl
                            cases hl : ltInt xj xm with
                            | true =>
                              have HR3 := Lib.hid ((SG.out hl).symm.trans HJ.out)
                              go_wp2_with fail
                              go_quiet ((go_at_call 283; exact Calls.quiet_of_same (Less_t hl _)))
                              go_wp2_with fail
                              have r0 : (W4.drewN nq).cell? ⟨g, j, none⟩ = _ := q0
                              have r1 : (W4.drewN nq).cell? ⟨g, m, none⟩ = _ := q1
                              have s0 : (W4.drewN nq).frozen? ⟨g, j, none⟩ = false := f0
                              have s1 : (W4.drewN nq).frozen? ⟨g, m, none⟩ = false := f1
                              have HSq := Lib.hid (HSj.out.drewN nq)
                              clear q0 q1 f0 f1 hgl HSj
                              generalize W4.drewN nq = W5 at *
                              go_region
                              go_wp2_with fail
                              go_roundw
                              case rel => exact ⟨j + 1, swp dj j m, by go_num, by omega, by have := HM.out; omega, by rw [size_swp2]; exact hsj, Lib.hid ((HSq.out.qt ⟨_, rfl⟩).swap j m (by omega) (by have := HM.out; omega) hxj.out hxm.out), HR3⟩
                              case measure => have := HM.out; simp [intOf]; omega
                            | false =>
                              have HR3 := Lib.hid ((SS.out hl).symm.trans HJ.out)
                              go_wp2_with fail
                              go_quiet ((go_at_call 283; exact Calls.quiet_of_same (Less_f hl _)))
                              go_wp2_with fail
                              go_roundw
                              case rel => exact ⟨i1, s + 1, d4, rfl, by go_num, by omega, by omega, by omega, hk4, Lib.hid (by rw [← HR3.out]; exact HSj.out.drewN _), HR⟩
                              case measure => simp [intOf]; omega
                          · have djl : decide (j < b) = false := decide_eq_false hjl
                            have HR3 := Lib.hid ((shiftUp_stop ltInt b j dj (.inl hjl)).symm.trans HJ.out)
                            clear hjl
                            go_wp2_with fail
                            go_roundw
                            case rel => exact ⟨i1, s + 1, d4, rfl, by go_num, by omega, by omega, by omega, hk4, Lib.hid (by rw [← HR3.out]; exact HSj.out), HR⟩
                            case measure => simp [intOf]; omega
                      · have dv : decide (2 ≤ (v : Int)) = false := decide_eq_false (by omega)
                        have HF := Lib.hid (show d4 = d3 by rw [← hd4.out]; unfold fixUp; rw [hv.out, if_neg hv2])
                        clear hv2
                        go_wp2_with fail
                        go_roundw
                        case rel => exact ⟨i1, s + 1, d4, rfl, by go_num, by omega, by omega, by omega, hk4, Lib.hid (by rw [HF.out]; exact HS3.out), HR⟩
                        case measure => simp [intOf]; omega
                · have du : decide (2 ≤ (u : Int)) = false := decide_eq_false (by omega)
                  have HF := Lib.hid (show d3 = d2 by rw [← hd3.out]; unfold fixDown; rw [hu.out, if_neg hu2])
                  have HS3 := HS2
                  rw [← HF.out] at HS3
                  clear hu2 HS2 q0 q1 f0 f1 hgl n0 n1 b0 b1 hne hne' hxi hxk HSu
                  by_cases hv2 : 2 ≤ v
                  · have dv : decide (2 ≤ (v : Int)) = true := decide_eq_true (by omega)
                    have HF := Lib.hid (show d4 = shiftUp ltInt b (i1 + 1) d3 by rw [← hd4.out]; unfold fixUp; rw [hv.out, if_pos hv2])
                    clear hv2
                    go_wp2_with fail
                    go_loopw [10] (fun v wr => ∃ (j : Nat) (dj : Array Int), v = .int .i64 j ∧ 1 ≤ j ∧ j ≤ b ∧ dj.size = N ∧ Hid (Sd w g dj z wr) ∧ Hid (shiftUp ltInt b j dj = d4)) (fun v _ => b - (intOf v).toNat)
                    case atStart => exact ⟨i1 + 1, d3, by go_num, by omega, by omega, hk3, HS3, Lib.hid HF.out.symm⟩
                    case round =>
                      obtain ⟨j, dj, rfl, hj1, hjb, hsj, HSj, HJ⟩ := hrel
                      by_cases hjl : j < b
                      · have djl : decide (j < b) = true := decide_eq_true hjl
                        obtain ⟨m, hm⟩ : ∃ m, j = m + 1 := ⟨j - 1, by omega⟩
                        have em : IntKind.i64.wrap ((j : Int) - 1) = (m : Int) := wrapN (by omega) (by omega)
                        rename World => W4
                        have q0 := HSj.out.1.cell j (by omega)
                        have q1 := HSj.out.1.cell m (by omega)
                        have f0 := Own.frozen HSj.out.1 j
                        have f1 := Own.frozen HSj.out.1 m
                        have hgl := Own.lt HSj.out.1
                        obtain ⟨xj, hxj⟩ : ∃ x, Hid (dj[j]! = x) := ⟨_, Lib.hid rfl⟩
                        obtain ⟨xm, hxm⟩ : ∃ x, Hid (dj[m]! = x) := ⟨_, Lib.hid rfl⟩
                        rw [hxj.out] at q0
                        rw [hxm.out] at q1
                        have n0 : (0 : Int) ≤ (j : Int) := by omega
                        have n1 : (0 : Int) ≤ (m : Int) := by omega
                        have b0 : (j : Int) < (N : Int) := by omega
                        have b1 : (m : Int) < (N : Int) := by omega
                        have hne : j ≠ m := by omega
                        have hne' : m ≠ j := by omega
                        have SG := Lib.hid (shiftUp_go ltInt b j dj hjl)
                        have SS := Lib.hid (fun hh => shiftUp_stop ltInt b j dj (.inr hh))
                        rw [show j - 1 = m by omega, hxj.out, hxm.out] at SG SS
                        have hjs : (j : Int) < 1000000000 := by omega
                        have HM := Lib.hid (And.intro hm hjl)
                        clear hm hj1 hjl
                        cases hl : ltInt xj xm with
                        | true =>
                          have HR3 := Lib.hid ((SG.out hl).symm.trans HJ.out)
                          go_wp2_with fail
                          go_quiet ((go_at_call 283; exact Calls.quiet_of_same (Less_t hl _)))
                          go_wp2_with fail
                          have r0 : (W4.drewN nq).cell? ⟨g, j, none⟩ = _ := q0
                          have r1 : (W4.drewN nq).cell? ⟨g, m, none⟩ = _ := q1
                          have s0 : (W4.drewN nq).frozen? ⟨g, j, none⟩ = false := f0
                          have s1 : (W4.drewN nq).frozen? ⟨g, m, none⟩ = false := f1
                          have HSq := Lib.hid (HSj.out.drewN nq)
                          clear q0 q1 f0 f1 hgl HSj
                          generalize W4.drewN nq = W5 at *
                          go_region
                          go_wp2_with fail
                          go_roundw
                          case rel => exact ⟨j + 1, swp dj j m, by go_num, by omega, by have := HM.out; omega, by rw [size_swp2]; exact hsj, Lib.hid ((HSq.out.qt ⟨_, rfl⟩).swap j m (by omega) (by have := HM.out; omega) hxj.out hxm.out), HR3⟩
                          case measure => have := HM.out; simp [intOf]; omega
                        | false =>
                          have HR3 := Lib.hid ((SS.out hl).symm.trans HJ.out)
                          go_wp2_with fail
                          go_quiet ((go_at_call 283; exact Calls.quiet_of_same (Less_f hl _)))
                          go_wp2_with fail
                          go_roundw
                          case rel => exact ⟨i1, s + 1, d4, rfl, by go_num, by omega, by omega, by omega, hk4, Lib.hid (by rw [← HR3.out]; exact HSj.out.drewN _), HR⟩
                          case measure => simp [intOf]; omega
                      · have djl : decide (j < b) = false := decide_eq_false hjl
                        have HR3 := Lib.hid ((shiftUp_stop ltInt b j dj (.inl hjl)).symm.trans HJ.out)
                        clear hjl
                        go_wp2_with fail
                        go_roundw
                        case rel => exact ⟨i1, s + 1, d4, rfl, by go_num, by omega, by omega, by omega, hk4, Lib.hid (by rw [← HR3.out]; exact HSj.out), HR⟩
                        case measure => simp [intOf]; omega
                  · have dv : decide (2 ≤ (v : Int)) = false := decide_eq_false (by omega)
                    have HF := Lib.hid (show d4 = d3 by rw [← hd4.out]; unfold fixUp; rw [hv.out, if_neg hv2])
                    clear hv2
                    go_wp2_with fail
                    go_roundw
                    case rel => exact ⟨i1, s + 1, d4, rfl, by go_num, by omega, by omega, by omega, hk4, Lib.hid (by rw [HF.out]; exact HS3.out), HR⟩
                    case measure => simp [intOf]; omega
    · have ds : decide ((s : Int) < 5) = false := decide_eq_false (by omega)
      have HR := Lib.hid (show (dk, false) = R by rw [← HE.out, show s = 5 by omega]; rfl)
      clear hs
      go_wp2_with fail
      go_ret
      rw [← HR.out]
      exact ⟨rfl, HW⟩
end Go.Proofs.YtcadnlilijkneaaGreat
namespace Go.Proofs.YtcadnlilijkneaaGreat
open Go.RowKit Go.Sort Go.Shelf
set_option linter.unusedVariables false
set_option linter.unusedSimpArgs false

def Bp (w1 : World) (g : Nat) (d : Array Int) (z : List Value) (sb : Nat) (r : UInt64) (w' : World) : Prop := Uw w' g d z ∧ Own w' sb 353 [.int .u64 (r.toNat : Int)] ∧ Chg [g, sb] w1 w'
theorem Bp.swap {w1 w' : World} {g : Nat} {d : Array Int} {z : List Value} {sb : Nat} {r : UInt64} (h : Bp w1 g d z sb r w') (hgs : g ≠ sb) (i j : Nat) (hi : i < d.size) (hj : j < d.size) {x y : Int} (hx : d[i]! = x) (hy : d[j]! = y) :
    Bp w1 g (swp d i j) z sb r ((w'.setCell ⟨g, i, none⟩ (.int .u64 y)).setCell ⟨g, j, none⟩ (.int .u64 x)).drew := by
  subst hx hy
  exact ⟨h.1.swap i j hi hj, (h.2.1.far (p := ⟨g, i, none⟩) (fun e => hgs e.symm) _).far (p := ⟨g, j, none⟩) (fun e => hgs e.symm) _, ((h.2.2.setCell (.inl (by simp)) _).setCell (.inl (by simp)) _).drew⟩
set_option maxHeartbeats 4000000 in
set_option maxRecDepth 100000 in
theorem breakPatterns_any (w : World) (g N c a b : Nat) (d : Array Int) (z : List Value) (h : Uw w g d z) (hN : d.size = N) (hab : a + 8 ≤ b) (hb : b ≤ N) (hsz : N < 1000000000) :
    Calls Tryz.prog 279 #[.slice (some ⟨g, 0, none⟩) N c, .int .i64 (a : Int), .int .i64 (b : Int)] w fun e w' => e = .returned (.tuple #[]) ∧ Hid (Sd w g (breakPatterns d a b) z w') := by
  obtain ⟨L, hL⟩ : ∃ L, b = a + L := ⟨b - a, by omega⟩
  obtain ⟨q, hq⟩ : ∃ q, q = L / 4 := ⟨_, rfl⟩
  obtain ⟨q2, hq2⟩ : ∃ q, q = L / 4 * 2 := ⟨_, rfl⟩
  obtain ⟨s, hs⟩ : ∃ q, q = a + q2 := ⟨_, rfl⟩
  obtain ⟨i0, hi0⟩ : ∃ q, q = a + L / 4 * 2 - 1 := ⟨_, rfl⟩
  obtain ⟨top, htop⟩ : ∃ q, q = i0 + 2 := ⟨_, rfl⟩
  have e1 : IntKind.i64.wrap ((b : Int) - (a : Int)) = (L : Int) := wrapN (by omega) (by omega)
  have e2 : (L : Int) / 4 = (q : Int) := by omega
  have e3 : Int.tdiv (L : Int) 4 = (q : Int) := by rw [Int.tdiv_eq_ediv_of_nonneg (by omega)]; omega
  have e4 : IntKind.i64.wrap (q : Int) = (q : Int) := wrapN rfl (by omega)
  have e5 : IntKind.i64.wrap ((q : Int) * 2) = (q2 : Int) := wrapN (by omega) (by omega)
  have e6 : IntKind.i64.wrap ((a : Int) + (q2 : Int)) = (s : Int) := wrapN (by omega) (by omega)
  have e7 : IntKind.i64.wrap ((s : Int) - 1) = (i0 : Int) := wrapN (by omega) (by omega)
  have e8 : IntKind.i64.wrap ((s : Int) + 1) = (top : Int) := wrapN (by omega) (by omega)
  have e9 : IntKind.u64.wrap (L : Int) = (L : Int) := by rw [IntKind.wrap_u64]; omega
  have d8 : decide (8 ≤ (L : Int)) = true := decide_eq_true (by omega)
  obtain ⟨M, hM⟩ : ∃ M : Nat, M = 1 <<< bitsLen L := ⟨_, rfl⟩
  have hM1 : 1 ≤ M := by rw [hM, Nat.one_shiftLeft]; exact Nat.two_pow_pos _
  have hM2 : M ≤ 2 * L := by rw [hM, Nat.one_shiftLeft]; exact two_pow_bitsLen_le (by omega)
  have hNP : ∀ w, Calls Tryz.prog 293 #[.int .i64 (L : Int)] w fun e w' => e = .returned (.int .u64 (M : Int)) ∧ w' = w := by rw [hM]; exact fun w => AnyF.nextPowerOfTwo nextA L (by omega) w
  have HT0 := Lib.hid (show breakPatterns d a b = bpRest a L M i0 3 0 (UInt64.ofNat L, d) by rw [hL, breakPatterns_eq d a L (by omega), hM, hi0])
  rw [HT0.out]
  have HNP := Lib.hid hNP
  clear hNP hM HT0
  obtain ⟨m1, hm1⟩ : ∃ m, M = m + 1 := ⟨M - 1, by omega⟩
  have em : IntKind.u64.wrap ((M : Int) - 1) = (m1 : Int) := by rw [IntKind.wrap_u64]; omega
  have HU := Lib.hid h
  obtain ⟨sb, hsb⟩ : ∃ x, Hid (w.heap.size = x) := ⟨_, Lib.hid rfl⟩
  obtain ⟨w1, HW1⟩ : ∃ W, Hid (w.alloc (.cells #[.int .u64 (L : Int)] 353) = W) := ⟨_, Lib.hid rfl⟩
  have HI0 := Lib.hid (show Bp w1 g d z sb (UInt64.ofNat L) w1 from ⟨by rw [← HW1.out]; exact Own.alloc h _, by rw [← HW1.out, ← hsb.out, show (UInt64.ofNat L).toNat = L from by simp; omega]; exact Own.new w _ _, Chg.refl _ _⟩)
  have HC := Lib.hid (show Chg [] w w1 from by rw [← HW1.out]; exact (Chg.refl [] w).alloc _)
  have hgs : g ≠ sb := by have := Own.lt h; have := hsb.out; omega
  have HH := Lib.hid (show b = a + L ∧ i0 + 2 < a + L ∧ M ≤ 2 * L ∧ M = m1 + 1 ∧ top = i0 + 2 ∧ 8 ≤ L from ⟨hL, by omega, hM2, hm1, htop, by omega⟩)
  have hbN : a + L ≤ N := by omega
  have haL : L < 1000000000 := by omega
  clear h hL hq hq2 hs hi0 htop hM1 hM2 hm1 hab hb
  go_enter Tryz.func279, Tryz.ntmps279
  go_wp2_with fail
  rw [HW1.out, hsb.out]
  refine (HNP.out _).mono ?_
  rintro e w' ⟨rfl, rfl⟩
  go_wp2_with fail
  go_loopw [9, 10] (fun v _ wr => ∃ (t p : Nat) (r : UInt64) (dk : Array Int), v = .int .i64 (p : Int) ∧ p = i0 + t ∧ t ≤ 3 ∧ dk.size = N ∧ Hid (Bp w' g dk z sb r wr) ∧ Hid (bpRest a L M i0 (3 - t) t (r, dk) = bpRest a L M i0 3 0 (UInt64.ofNat L, d))) (fun v _ _ => i0 + 3 - (intOf v).toNat)
  case atStart => exact ⟨0, i0, UInt64.ofNat L, d, rfl, rfl, by omega, hN, HI0, Lib.hid rfl⟩
  case round =>
    obtain ⟨t, p, r, dk, rfl, hp, ht, hsk, HI, HR⟩ := hrel
    have HP := Lib.hid hp
    clear hp
    by_cases ht3 : t < 3
    · have dt : decide (p ≤ top) = true := decide_eq_true (by have := HP.out; have := HH.out; omega)
      obtain ⟨R', hR'⟩ : ∃ R' : Nat, R' = xorNextN r.toNat := ⟨_, rfl⟩
      have lR' : R' < 18446744073709551616 := by rw [hR']; exact xorNextN_lt _ r.toNat_lt
      obtain ⟨O, hO⟩ : ∃ O : Nat, O = R' &&& m1 := ⟨_, rfl⟩
      have lO : O ≤ m1 := by rw [hO]; exact Nat.and_le_right
      have eAnd : bits .and .u64 (R' : Int) (m1 : Int) = (O : Int) := by
        rw [bits_and_u64_nat _ _ lR' (by have := HH.out; omega), hO]
      have eO : IntKind.i64.wrap (O : Int) = (O : Int) := wrapN rfl (by have := HH.out; omega)
      have hRe : R' = (xorNext r).toNat := by rw [hR', xorNext_toNat]
      have cR : wr.cell? ⟨sb, 0, none⟩ = some (.int .u64 (r.toNat : Int)) := by rw [HI.out.2.1.cell]; rfl
      have HX := Lib.hid (show Calls Tryz.prog 294 #[.pointer (some ⟨sb, 0, none⟩)] wr fun e w' => e = .returned (.int .u64 (R' : Int)) ∧ w' = (wr.setCell ⟨sb, 0, none⟩ (.int .u64 (R' : Int))).drewN 3 from by rw [hR']; exact AnyF.xorshift_Next xorA sb 0 r.toNat r.toNat_lt wr cR (HI.out.2.1.frozen 0))
      obtain ⟨W4, HW4⟩ : ∃ W, Hid ((wr.setCell ⟨sb, 0, none⟩ (.int .u64 (R' : Int))).drewN 3 = W) := ⟨_, Lib.hid rfl⟩
      have HI4 := Lib.hid (show Bp w' g dk z sb (xorNext r) W4 from by
        rw [← HW4.out]
        refine ⟨(HI.out.1.far (p := ⟨sb, 0, none⟩) hgs _), ?_, (HI.out.2.2.setCell (.inl (by simp)) _).drewN 3⟩
        have := HI.out.2.1.set 0 (.int .u64 (R' : Int))
        rw [hRe] at this ⊢
        exact this)
      rw [HW4.out] at HX
      have STEP := Lib.hid (fun o => bp_step (α := Int) a L M i0 t r dk o ht3)
      rw [← hRe, show M - 1 = m1 by have := HH.out; omega, ← hO] at STEP
      have HT := Lib.hid (And.intro HP.out (And.intro ht3 lR'))
      have hpN : p < N := by have := HP.out; have := HH.out; omega
      have hps : (p : Int) < 1000000000 := by omega
      have lO2 : O < 2000000000 := by have := HH.out; omega
      clear HI hR' hO hRe cR ht3
      rename World => wOld
      by_cases hLO : L ≤ O
      · have dLO : decide ((L : Int) ≤ (O : Int)) = true := decide_eq_true (by omega)
        have dLO' : decide (L ≤ O) = true := decide_eq_true hLO
        obtain ⟨O2, hO2⟩ : ∃ x, x = O - L := ⟨_, rfl⟩
        obtain ⟨e, he⟩ : ∃ x, x = a + O2 := ⟨_, rfl⟩
        have eS : IntKind.i64.wrap ((O : Int) - (L : Int)) = (O2 : Int) := wrapN (by omega) (by omega)
        have eE : IntKind.i64.wrap ((a : Int) + (O2 : Int)) = (e : Int) := wrapN (by omega) (by have := HH.out; omega)
        have HRR := Lib.hid ((STEP.out O2 (by rw [if_pos (show O ≥ L from hLO), hO2])).symm.trans HR.out)
        rw [← HP.out, ← he] at HRR
        have heN : e < N := by have := HH.out; omega
        have HI := HI4
        clear hLO hO2 he STEP HR HI4
        go_wp2_with fail
        refine HX.out.mono ?_
        rintro e4 w4 ⟨rfl, rfl⟩
        have q0 := HI.out.1.cell p (by omega)
        have q1 := HI.out.1.cell e (by omega)
        have f0 := Own.frozen HI.out.1 p
        have f1 := Own.frozen HI.out.1 e
        have hgl := Own.lt HI.out.1
        obtain ⟨xi, hxi⟩ : ∃ x, Hid (dk[p]! = x) := ⟨_, Lib.hid rfl⟩
        obtain ⟨xe, hxe⟩ : ∃ x, Hid (dk[e]! = x) := ⟨_, Lib.hid rfl⟩
        rw [hxi.out] at q0
        rw [hxe.out] at q1
        have n0 : (0 : Int) ≤ (p : Int) := by omega
        have n1 : (0 : Int) ≤ (e : Int) := by omega
        have b0 : (p : Int) < (N : Int) := by omega
        have b1 : (e : Int) < (N : Int) := by omega
        obtain ⟨v3, hy3⟩ := cell?_setCell_some (w := w4) (p := ⟨g, p, none⟩) (x := .int .u64 xe) (q := ⟨g, e, none⟩) q1
        go_wp2_with fail
        go_region
        go_wp2_with fail
        go_roundw
        case rel => exact ⟨t + 1, p + 1, xorNext r, swp dk p e, by go_num, by have := HT.out; omega, by have := HT.out; omega, by rw [size_swp2]; exact hsk, Lib.hid (HI.out.swap hgs p e (by omega) (by omega) hxi.out hxe.out), HRR⟩
        case measure => simp [intOf]; have := HT.out; omega
      · have dLO : decide ((L : Int) ≤ (O : Int)) = false := decide_eq_false (by omega)
        have dLO' : decide (L ≤ O) = false := decide_eq_false hLO
        obtain ⟨e, he⟩ : ∃ x, x = a + O := ⟨_, rfl⟩
        have eE : IntKind.i64.wrap ((a : Int) + (O : Int)) = (e : Int) := wrapN (by omega) (by have := HH.out; omega)
        have HRR := Lib.hid ((STEP.out O (by rw [if_neg (show ¬ O ≥ L from hLO)])).symm.trans HR.out)
        rw [← HP.out, ← he] at HRR
        have heN : e < N := by have := HH.out; omega
        have HI := HI4
        clear hLO he STEP HR HI4
        go_wp2_with fail
        refine HX.out.mono ?_
        rintro e4 w4 ⟨rfl, rfl⟩
        have q0 := HI.out.1.cell p (by omega)
        have q1 := HI.out.1.cell e (by omega)
        have f0 := Own.frozen HI.out.1 p
        have f1 := Own.frozen HI.out.1 e
        have hgl := Own.lt HI.out.1
        obtain ⟨xi, hxi⟩ : ∃ x, Hid (dk[p]! = x) := ⟨_, Lib.hid rfl⟩
        obtain ⟨xe, hxe⟩ : ∃ x, Hid (dk[e]! = x) := ⟨_, Lib.hid rfl⟩
        rw [hxi.out] at q0
        rw [hxe.out] at q1
        have n0 : (0 : Int) ≤ (p : Int) := by omega
        have n1 : (0 : Int) ≤ (e : Int) := by omega
        have b0 : (p : Int) < (N : Int) := by omega
        have b1 : (e : Int) < (N : Int) := by omega
        obtain ⟨v3, hy3⟩ := cell?_setCell_some (w := w4) (p := ⟨g, p, none⟩) (x := .int .u64 xe) (q := ⟨g, e, none⟩) q1
        go_wp2_with fail
        go_region
        go_wp2_with fail
        go_roundw
        case rel => exact ⟨t + 1, p + 1, xorNext r, swp dk p e, by go_num, by have := HT.out; omega, by have := HT.out; omega, by rw [size_swp2]; exact hsk, Lib.hid (HI.out.swap hgs p e (by omega) (by omega) hxi.out hxe.out), HRR⟩
        case measure => simp [intOf]; have := HT.out; omega
    · have dt : decide (p ≤ top) = false := decide_eq_false (by have := HP.out; have := HH.out; omega)
      have HRR := Lib.hid (show dk = bpRest a L M i0 3 0 (UInt64.ofNat L, d) by rw [← HR.out, show t = 3 by omega]; rfl)
      clear ht3
      go_wp2_with fail
      go_end0
      refine ⟨rfl, Lib.hid ?_⟩
      rw [← HRR.out]
      exact ⟨HI.out.1, (HC.out.mono (by simp)).then HI.out.2.2 (by simp; exact .inr (by rw [hsb.out]; exact Nat.le_refl _))⟩
end Go.Proofs.YtcadnlilijkneaaGreat
