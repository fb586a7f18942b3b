/-
  Sorting of uint64: the partial insertion sort. No claim of their own.
-/
import Derived.Test.YtmpajlpemabniaaGreatJ24
namespace Go.Proofs.YtmpajlpemabniaaGreat
open Go.RowKit Go.Sort
set_option linter.unusedVariables false
set_option linter.unusedSimpArgs false

theorem size_shiftDown : ∀ (j : Nat) (d : Array Int), (shiftDown ltInt j d).size = d.size
  | 0, d => by rw [shiftDown]
  | j + 1, d => by
    rw [shiftDown]
    split
    · rfl
    · rw [size_shiftDown j, size_swp2]
theorem size_shiftUp (b : Nat) : ∀ (n j : Nat) (d : Array Int), b - j ≤ n → (shiftUp ltInt b j d).size = d.size
  | 0, j, d, h => by rw [shiftUp, if_neg (by omega)]
  | n + 1, j, d, h => by
    rw [shiftUp]
    split
    · split
      · rfl
      · rw [size_shiftUp b n (j + 1) _ (by omega), size_swp2]
    · rfl
theorem size_fixDown (a i : Nat) (d : Array Int) : (fixDown ltInt a i d).size = d.size := by
  unfold fixDown
  split
  · exact size_shiftDown _ _
  · rfl
theorem size_fixUp (b i : Nat) (d : Array Int) : (fixUp ltInt b i d).size = d.size := by
  unfold fixUp
  split
  · exact size_shiftUp b _ _ _ (Nat.le_refl _)
  · rfl
set_option maxHeartbeats 8000000 in
set_option maxRecDepth 1000000 in
theorem partialIns_any (w : World) (g N c a b : Nat) (d : Array Int) (z : List Value) (h : Uw w g d z) (hN : d.size = N) (hab : a < b) (hb : b ≤ N) (hsz : N < 1000000000) :
    Calls Tryz.prog 256 #[.slice (some ⟨g, 0, none⟩) N c, .int .i64 (a : Int), .int .i64 (b : Int)] w fun e w' => e = .returned (.bool (partialInsertionSort ltInt d a b).2) ∧ Hid (Sd w g (partialInsertionSort ltInt d a b).1 z w') := by
  have HS0 := Lib.hid (Sd.refl h)
  clear h
  obtain ⟨R, hR⟩ : ∃ R, Hid (partialInsertionSort ltInt d a b = R) := ⟨_, Lib.hid rfl⟩
  obtain ⟨L, hL⟩ : ∃ L, Hid (b - a = L) := ⟨_, Lib.hid rfl⟩
  have eL : IntKind.i64.wrap ((b : Int) - (a : Int)) = (L : Int) := wrapN (by have := hL.out; omega) (by have := hL.out; omega)
  have has : (a : Int) < 1000000000 := by omega
  rw [hR.out]
  go_enter Tryz.func256, Tryz.ntmps256
  go_wp2_with fail
  go_loopw [7, 8] (fun v7 v8 wr => ∃ (i s : Nat) (dk : Array Int), v7 = .int .i64 i ∧ v8 = .int .i64 s ∧ a < i ∧ i ≤ b ∧ s ≤ 5 ∧ dk.size = N ∧ Hid (Sd w g dk z wr) ∧ Hid (partialIns ltInt a b (5 - s) i dk = R)) (fun _ v8 _ => 5 - (intOf v8).toNat)
  case atStart => exact ⟨a + 1, 0, d, by go_num, rfl, by omega, by omega, by omega, hN, HS0, hR⟩
  case round =>
    obtain ⟨i, s, dk, rfl, rfl, hai, hib, hs5, hsk, HW, HE⟩ := hrel
    by_cases hs : s < 5
    · have ds : decide ((s : Int) < 5) = true := decide_eq_true (by omega)
      have hss : (s : Int) < 5 := by omega
      have hss0 : (0 : Int) ≤ (s : Int) := by omega
      go_wp2_with fail
      go_loopw [7] (fun v wr => ∃ (i1 : Nat), v = .int .i64 i1 ∧ i ≤ i1 ∧ i1 ≤ b ∧ Hid (Sd w g dk z wr) ∧ Hid (scanSorted ltInt dk b i1 = scanSorted ltInt dk b i)) (fun v _ => b - (intOf v).toNat)
      case atStart => exact ⟨i, rfl, Nat.le_refl _, hib, HW, Lib.hid rfl⟩
      case round =>
        obtain ⟨i1, rfl, hii, hib1, HSu, HSC⟩ := hrel
        obtain ⟨k, hk⟩ : ∃ k, i1 = k + 1 := ⟨i1 - 1, by omega⟩
        obtain ⟨x, hx⟩ : ∃ x, Hid (dk[i1]! = x) := ⟨_, Lib.hid rfl⟩
        obtain ⟨y, hy⟩ : ∃ x, Hid (dk[k]! = x) := ⟨_, Lib.hid rfl⟩
        obtain ⟨B, hB⟩ : ∃ B : Bool, Hid ((decide (i1 < b) && (!ltInt x y)) = B) := ⟨_, Lib.hid rfl⟩
        have ek : IntKind.i64.wrap ((i1 : Int) - 1) = (k : Int) := wrapN (by omega) (by omega)
        have his : (i1 : Int) < 1000000000 := by omega
        have HK := Lib.hid hk
        clear hk
        go_upto_region 5 with fail
        go_cut [32] from 17 to 34 (fun v wx => v = .bool B ∧ Hid (Sd w g dk z wx))
        case first =>
          by_cases hg : i1 < b
          · have hd : decide (i1 < b) = true := decide_eq_true hg
            have q0 := HSu.out.1.cell i1 (by omega)
            rw [hx.out] at q0
            have q1 := HSu.out.1.cell k (by have := HK.out; omega)
            rw [hy.out] at q1
            have n0 : (0 : Int) ≤ (i1 : Int) := by omega
            have n1 : (0 : Int) ≤ (k : Int) := by omega
            have b0 : (i1 : Int) < (N : Int) := by omega
            have b1 : (k : Int) < (N : Int) := by have := HK.out; omega
            have hB2 := Lib.hid (show (!ltInt x y) = B by rw [← hB.out, hd]; rfl)
            clear hg
            go_wp2_with fail
            go_quiet ((go_at_call 257; exact Calls.quiet_of_same (Less_any _ _ _)))
            go_wp2_with fail
            go_meet
            case rel => exact ⟨by rw [← hB2.out], Lib.hid (HSu.out.drewN _)⟩
          · have hd : decide (i1 < b) = false := decide_eq_false hg
            have hB2 := Lib.hid (show false = B by rw [← hB.out, hd]; rfl)
            clear hg
            go_wp2_with fail
            go_quiet ((go_at_call 257; exact Calls.quiet_of_same (Less_any _ _ _)))
            go_wp2_with fail
            go_meet
            case rel => exact ⟨by rw [← hB2.out], Lib.hid (HSu.out.drewN _)⟩
        case rest =>
          clear HSu
          obtain ⟨rfl, HSu⟩ := hcut
          cases B with
          | true =>
            have hbb := hB.out
            rw [Bool.and_eq_true, decide_eq_true_eq, Bool.not_eq_true'] at hbb
            have HR := Lib.hid ((scanSorted_go ltInt dk b i1 hbb.1 (by rw [show i1 - 1 = k by have := HK.out; omega, hx.out, hy.out]; exact hbb.2)).symm.trans HSC.out)
            have HB := Lib.hid hbb.1
            clear hbb
            go_wp2_with fail
            go_roundw
            case rel => exact ⟨i1 + 1, by go_num, by omega, by have := HB.out; omega, HSu, HR⟩
            case measure => have := HB.out; simp [intOf]; omega
          | false =>
            have HK2 := Lib.hid (show scanSorted ltInt dk b i = i1 from HSC.out.symm.trans (scanSorted_stop ltInt dk b i1 (by
              rcases Nat.lt_or_ge i1 b with h | h
              · refine .inr ?_
                have hbb := hB.out
                rw [decide_eq_true h, Bool.true_and, Bool.not_eq_false'] at hbb
                rw [show i1 - 1 = k by have := HK.out; omega, hx.out, hy.out]
                exact hbb
              · exact .inl (by omega))))
            clear HSC hB hx hy
            by_cases hib2 : i1 = b
            · have he : ((i1 : Int) == (b : Int)) = true := by simp; omega
              have HR := Lib.hid ((pi_true ltInt a b s i dk hs (by rw [HK2.out]; exact hib2)).symm.trans HE.out)
              clear hib2 hib1 hii
              go_wp2_with fail
              go_ret
              rw [← HR.out]
              exact ⟨rfl, HSu⟩
            · have he : ((i1 : Int) == (b : Int)) = false := beq_eq_false_iff_ne.2 (by omega)
              have hibl : i1 < b := by omega
              by_cases h50 : L < 50
              · have d50 : decide ((L : Int) < 50) = true := decide_eq_true (by omega)
                have HR := Lib.hid ((pi_short ltInt a b s i dk hs (by rw [HK2.out]; exact hib2) (by rw [hL.out]; exact h50)).symm.trans HE.out)
                clear hib2 hib1 hii h50
                go_wp2_with fail
                go_ret
                rw [← HR.out]
                exact ⟨rfl, HSu⟩
              · have d50 : decide ((L : Int) < 50) = false := decide_eq_false (by omega)
                have HR := Lib.hid ((pi_go ltInt a b s i i1 dk hs HK2.out hib2 (by rw [hL.out]; exact h50)).symm.trans HE.out)
                rw [show i1 - 1 = k by have := HK.out; omega] at HR
                rename World => W3
                have hkN : k < N := by have := HK.out; omega
                have hkk := HK.out
                have q0 := HSu.out.1.cell i1 (by omega)
                have q1 := HSu.out.1.cell k (by omega)
                have f0 := Own.frozen HSu.out.1 i1
                have f1 := Own.frozen HSu.out.1 k
                have hgl := Own.lt HSu.out.1
                obtain ⟨xi, hxi⟩ : ∃ x, Hid (dk[i1]! = x) := ⟨_, Lib.hid rfl⟩
                obtain ⟨xk, hxk⟩ : ∃ x, Hid (dk[k]! = x) := ⟨_, Lib.hid rfl⟩
                rw [hxi.out] at q0
                rw [hxk.out] at q1
                have n0 : (0 : Int) ≤ (i1 : Int) := by omega
                have n1 : (0 : Int) ≤ (k : Int) := by omega
                have b0 : (i1 : Int) < (N : Int) := by omega
                have b1 : (k : Int) < (N : Int) := by omega
                have hne : i1 ≠ k := by omega
                have hne' : k ≠ i1 := by omega
                obtain ⟨d2, hd2⟩ : ∃ x, Hid (swp dk i1 k = x) := ⟨_, Lib.hid rfl⟩
                obtain ⟨d3, hd3⟩ : ∃ x, Hid (fixDown ltInt a i1 d2 = x) := ⟨_, Lib.hid rfl⟩
                obtain ⟨d4, hd4⟩ : ∃ x, Hid (fixUp ltInt b i1 d3 = x) := ⟨_, Lib.hid rfl⟩
                rw [hd2.out, hd3.out, hd4.out] at HR
                have hk2 : d2.size = N := by rw [← hd2.out, size_swp2]; exact hsk
                have hk3 : d3.size = N := by rw [← hd3.out, size_fixDown]; exact hk2
                have hk4 : d4.size = N := by rw [← hd4.out, size_fixUp]; exact hk3
                have HS2 := Lib.hid (show Sd w g d2 z (((W3.setCell ⟨g, i1, none⟩ (.int .u64 xk)).setCell ⟨g, k, none⟩ (.int .u64 xi)).drew) from by rw [← hd2.out]; exact (HSu.out.swap i1 k (by omega) (by omega) hxi.out hxk.out).drew)
                have hgeq : i1 - a + a = i1 := by omega
                obtain ⟨u, hu⟩ : ∃ u, Hid (i1 - a = u) := ⟨_, Lib.hid rfl⟩
                obtain ⟨v, hv⟩ : ∃ v, Hid (b - i1 = v) := ⟨_, Lib.hid rfl⟩
                have eu : IntKind.i64.wrap ((i1 : Int) - (a : Int)) = (u : Int) := wrapN (by have := hu.out; omega) (by have := hu.out; omega)
                have ev : IntKind.i64.wrap ((b : Int) - (i1 : Int)) = (v : Int) := wrapN (by have := hv.out; omega) (by have := hv.out; omega)
                clear hkk hgeq hib2 hib1 h50
                go_wp2_with fail
                go_region
                by_cases hu2 : 2 ≤ u
                · have du : decide (2 ≤ (u : Int)) = true := decide_eq_true (by omega)
                  have HF := Lib.hid (show d3 = shiftDown ltInt k d2 by rw [← hd3.out]; unfold fixDown; rw [hu.out, if_pos hu2, show i1 - 1 = k by have := HK.out; omega])
                  clear hu2 q0 q1 f0 f1 hgl n0 n1 b0 b1 hne hne' hxi hxk HSu
                  go_wp2_with fail
                  go_loopw [9] (fun v wr => ∃ (j : Nat) (dj : Array Int), v = .int .i64 j ∧ j ≤ k ∧ dj.size = N ∧ Hid (Sd w g dj z wr) ∧ Hid (shiftDown ltInt j dj = d3)) (fun v _ => (intOf v).toNat)
                  case atStart => exact ⟨k, d2, rfl, Nat.le_refl _, hk2, HS2, Lib.hid HF.out.symm⟩
                  case round =>
                    obtain ⟨j, dj, rfl, hjk, hsj, HSj, HJ⟩ := hrel
                    by_cases hj1 : 1 ≤ j
                    · have dj1 : decide (1 ≤ (j : Int)) = true := decide_eq_true (by omega)
                      obtain ⟨m, hm⟩ : ∃ m, j = m + 1 := ⟨j - 1, by omega⟩
                      have em : IntKind.i64.wrap ((j : Int) - 1) = (m : Int) := wrapN (by omega) (by omega)
                      rename World => W4
                      have q0 := HSj.out.1.cell j (by omega)
                      have q1 := HSj.out.1.cell m (by omega)
                      have f0 := Own.frozen HSj.out.1 j
                      have f1 := Own.frozen HSj.out.1 m
                      have hgl := Own.lt HSj.out.1
                      obtain ⟨xj, hxj⟩ : ∃ x, Hid (dj[j]! = x) := ⟨_, Lib.hid rfl⟩
                      obtain ⟨xm, hxm⟩ : ∃ x, Hid (dj[m]! = x) := ⟨_, Lib.hid rfl⟩
                      rw [hxj.out] at q0
                      rw [hxm.out] at q1
                      have n0 : (0 : Int) ≤ (j : Int) := by omega
                      have n1 : (0 : Int) ≤ (m : Int) := by omega
                      have b0 : (j : Int) < (N : Int) := by omega
                      have b1 : (m : Int) < (N : Int) := by omega
                      have hne : j ≠ m := by omega
                      have hne' : m ≠ j := by omega
                      have SG := Lib.hid (shiftDown_go ltInt j dj hj1)
                      have SS := Lib.hid (fun hh => shiftDown_stop ltInt j dj (.inr hh))
                      rw [show j - 1 = m by omega, hxj.out, hxm.out] at SG SS
                      have HM := Lib.hid hm
                      clear hm hj1
                      cases hl : ltInt xj xm with
                      | true =>
                        have HR3 := Lib.hid ((SG.out hl).symm.trans HJ.out)
                        go_wp2_with fail
                        go_quiet ((go_at_call 257; exact Calls.quiet_of_same (Less_t hl _)))
                        go_wp2_with fail
                        have r0 : (W4.drewN nq).cell? ⟨g, j, none⟩ = _ := q0
                        have r1 : (W4.drewN nq).cell? ⟨g, m, none⟩ = _ := q1
                        have s0 : (W4.drewN nq).frozen? ⟨g, j, none⟩ = false := f0
                        have s1 : (W4.drewN nq).frozen? ⟨g, m, none⟩ = false := f1
                        have HSq := Lib.hid (HSj.out.drewN nq)
                        clear q0 q1 f0 f1 hgl HSj
                        generalize W4.drewN nq = W5 at *
                        go_region
                        go_wp2_with fail
                        go_roundw
                        case rel => exact ⟨m, swp dj j m, rfl, by have := HM.out; omega, by rw [size_swp2]; exact hsj, Lib.hid ((HSq.out.qt ⟨_, rfl⟩).swap j m (by omega) (by have := HM.out; omega) hxj.out hxm.out), HR3⟩
                        case measure => have := HM.out; simp [intOf]; omega
                      | false =>
                        have HR3 := Lib.hid ((SS.out hl).symm.trans HJ.out)
                        go_wp2_with fail
                        go_quiet ((go_at_call 257; exact Calls.quiet_of_same (Less_f hl _)))
                        have HS3 := Lib.hid (show Sd w g d3 z (W4.drewN nq) from by rw [← HR3.out]; exact HSj.out.drewN _)
                        clear q0 q1 f0 f1 hgl n0 n1 b0 b1 hne hne' hxj hxm HSj HJ HM SG SS HR3 em
                        generalize W4.drewN nq = W5 at *
                        by_cases hv2 : 2 ≤ v
                        · have dv : decide (2 ≤ (v : Int)) = true := decide_eq_true (by omega)
                          have HF := Lib.hid (show d4 = shiftUp ltInt b (i1 + 1) d3 by rw [← hd4.out]; unfold fixUp; rw [hv.out, if_pos hv2])
                          clear hv2
                          go_wp2_with fail
                          go_loopw [10] (fun v wr => ∃ (j : Nat) (dj : Array Int), v = .int .i64 j ∧ 1 ≤ j ∧ j ≤ b ∧ dj.size = N ∧ Hid (Sd w g dj z wr) ∧ Hid (shiftUp ltInt b j dj = d4)) (fun v _ => b - (intOf v).toNat)
                          case atStart => exact ⟨i1 + 1, d3, by go_num, by omega, by omega, hk3, HS3, Lib.hid HF.out.symm⟩
                          case round =>
                            obtain ⟨j, dj, rfl, hj1, hjb, hsj, HSj, HJ⟩ := hrel
                            by_cases hjl : j < b
                            · have djl : decide (j < b) = true := decide_eq_true hjl
                              obtain ⟨m, hm⟩ : ∃ m, j = m + 1 := ⟨j - 1, by omega⟩
                              have em : IntKind.i64.wrap ((j : Int) - 1) = (m : Int) := wrapN (by omega) (by omega)
                              rename World => W4
                              have q0 := HSj.out.1.cell j (by omega)
                              have q1 := HSj.out.1.cell m (by omega)
                              have f0 := Own.frozen HSj.out.1 j
                              have f1 := Own.frozen HSj.out.1 m
                              have hgl := Own.lt HSj.out.1
                              obtain ⟨xj, hxj⟩ : ∃ x, Hid (dj[j]! = x) := ⟨_, Lib.hid rfl⟩
                              obtain ⟨xm, hxm⟩ : ∃ x, Hid (dj[m]! = x) := ⟨_, Lib.hid rfl⟩
                              rw [hxj.out] at q0
                              rw [hxm.out] at q1
                              have n0 : (0 : Int) ≤ (j : Int) := by omega
                              have n1 : (0 : Int) ≤ (m : Int) := by omega
                              have b0 : (j : Int) < (N : Int) := by omega
                              have b1 : (m : Int) < (N : Int) := by omega
                              have hne : j ≠ m := by omega
                              have hne' : m ≠ j := by omega
                              have SG := Lib.hid (shiftUp_go ltInt b j dj hjl)
                              have SS := Lib.hid (fun hh => shiftUp_stop ltInt b j dj (.inr hh))
                              rw [show j - 1 = m by omega, hxj.out, hxm.out] at SG SS
                              have hjs : (j : Int) < 1000000000 := by omega
                              have HM := Lib.hid (And.intro hm hjl)
                              clear hm hj1 hjl
                              cases hl : ltInt xj xm with
                              | true =>
                                have HR3 := Lib.hid ((SG.out hl).symm.trans HJ.out)
                                go_wp2_with fail
                                go_quiet ((go_at_call 257; exact Calls.quiet_of_same (Less_t hl _)))
                                go_wp2_with fail
                                have r0 : (W4.drewN nq).cell? ⟨g, j, none⟩ = _ := q0
                                have r1 : (W4.drewN nq).cell? ⟨g, m, none⟩ = _ := q1
                                have s0 : (W4.drewN nq).frozen? ⟨g, j, none⟩ = false := f0
                                have s1 : (W4.drewN nq).frozen? ⟨g, m, none⟩ = false := f1
                                have HSq := Lib.hid (HSj.out.drewN nq)
                                clear q0 q1 f0 f1 hgl HSj
                                generalize W4.drewN nq = W5 at *
                                go_region
                                go_wp2_with fail
                                go_roundw
                                case rel => exact ⟨j + 1, swp dj j m, by go_num, by omega, by have := HM.out; omega, by rw [size_swp2]; exact hsj, Lib.hid ((HSq.out.qt ⟨_, rfl⟩).swap j m (by omega) (by have := HM.out; omega) hxj.out hxm.out), HR3⟩
                                case measure => have := HM.out; simp [intOf]; omega
                              | false =>
                                have HR3 := Lib.hid ((SS.out hl).symm.trans HJ.out)
                                go_wp2_with fail
                                go_quiet ((go_at_call 257; exact Calls.quiet_of_same (Less_f hl _)))
                                go_wp2_with fail
                                go_roundw
                                case rel => exact ⟨i1, s + 1, d4, rfl, by go_num, by omega, by omega, by omega, hk4, Lib.hid (by rw [← HR3.out]; exact HSj.out.drewN _), HR⟩
                                case measure => simp [intOf]; omega
                            · have djl : decide (j < b) = false := decide_eq_false hjl
                              have HR3 := Lib.hid ((shiftUp_stop ltInt b j dj (.inl hjl)).symm.trans HJ.out)
                              clear hjl
                              go_wp2_with fail
                              go_roundw
                              case rel => exact ⟨i1, s + 1, d4, rfl, by go_num, by omega, by omega, by omega, hk4, Lib.hid (by rw [← HR3.out]; exact HSj.out), HR⟩
                              case measure => simp [intOf]; omega
                        · have dv : decide (2 ≤ (v : Int)) = false := decide_eq_false (by omega)
                          have HF := Lib.hid (show d4 = d3 by rw [← hd4.out]; unfold fixUp; rw [hv.out, if_neg hv2])
                          clear hv2
                          go_wp2_with fail
                          go_roundw
                          case rel => exact ⟨i1, s + 1, d4, rfl, by go_num, by omega, by omega, by omega, hk4, Lib.hid (by rw [HF.out]; exact HS3.out), HR⟩
                          case measure => simp [intOf]; omega
                    · have dj1 : decide (1 ≤ (j : Int)) = false := decide_eq_false (by omega)
                      have HS3 := Lib.hid (show Sd w g d3 z wr from by rw [← (shiftDown_stop ltInt j dj (.inl (by omega))).symm.trans HJ.out]; exact HSj.out)
                      clear hj1 HSj HJ
                      by_cases hv2 : 2 ≤ v
                      · have dv : decide (2 ≤ (v : Int)) = true := decide_eq_true (by omega)
                        have HF := Lib.hid (show d4 = shiftUp ltInt b (i1 + 1) d3 by rw [← hd4.out]; unfold fixUp; rw [hv.out, if_pos hv2])
                        clear hv2
                        go_wp2_with fail
                        go_loopw [10] (fun v wr => ∃ (j : Nat) (dj : Array Int), v = .int .i64 j ∧ 1 ≤ j ∧ j ≤ b ∧ dj.size = N ∧ Hid (Sd w g dj z wr) ∧ Hid (shiftUp ltInt b j dj = d4)) (fun v _ => b - (intOf v).toNat)
                        case atStart => exact ⟨i1 + 1, d3, by go_num, by omega, by omega, hk3, HS3, Lib.hid HF.out.symm⟩
                        case round =>
                          obtain ⟨j, dj, rfl, hj1, hjb, hsj, HSj, HJ⟩ := hrel
                          by_cases hjl : j < b
                          · have djl : decide (j < b) = true := decide_eq_true hjl
                            obtain ⟨m, hm⟩ : ∃ m, j = m + 1 := ⟨j - 1, by omega⟩
                            have em : IntKind.i64.wrap ((j : Int) - 1) = (m : Int) := wrapN (by omega) (by omega)
                            rename World => W4
                            have q0 := HSj.out.1.cell j (by omega)
                            have q1 := HSj.out.1.cell m (by omega)
                            have f0 := Own.frozen HSj.out.1 j
                            have f1 := Own.frozen HSj.out.1 m
                            have hgl := Own.lt HSj.out.1
                            obtain ⟨xj, hxj⟩ : ∃ x, Hid (dj[j]! = x) := ⟨_, Lib.hid rfl⟩
                            obtain ⟨xm, hxm⟩ : ∃ x, Hid (dj[m]! = x) := ⟨_, Lib.hid rfl⟩
                            rw [hxj.out] at q0
                            rw [hxm.out] at q1
                            have n0 : (0 : Int) ≤ (j : Int) := by omega
                            have n1 : (0 : Int) ≤ (m : Int) := by omega
                            have b0 : (j : Int) < (N : Int) := by omega
                            have b1 : (m : Int) < (N : Int) := by omega
                            have hne : j ≠ m := by omega
                            have hne' : m ≠ j := by omega
                            have SG := Lib.hid (shiftUp_go ltInt b j dj hjl)
                            have SS := Lib.hid (fun hh => shiftUp_stop ltInt b j dj (.inr hh))
                            rw [show j - 1 = m by omega, hxj.out, hxm.out] at SG SS
                            have hjs : (j : Int) < 1000000000 := by omega
                            have HM := Lib.hid (And.intro hm hjl)
                            clear hm hj1 hjl
                            cases hl : ltInt xj xm with
                            | true =>
                              have HR3 := Lib.hid ((SG.out hl).symm.trans HJ.out)
                              go_wp2_with fail
                              go_quiet ((go_at_call 257; exact Calls.quiet_of_same (Less_t hl _)))
                              go_wp2_with fail
                              have r0 : (W4.drewN nq).cell? ⟨g, j, none⟩ = _ := q0
                              have r1 : (W4.drewN nq).cell? ⟨g, m, none⟩ = _ := q1
                              have s0 : (W4.drewN nq).frozen? ⟨g, j, none⟩ = false := f0
                              have s1 : (W4.drewN nq).frozen? ⟨g, m, none⟩ = false := f1
                              have HSq := Lib.hid (HSj.out.drewN nq)
                              clear q0 q1 f0 f1 hgl HSj
                              generalize W4.drewN nq = W5 at *
                              go_region
                              go_wp2_with fail
                              go_roundw
                              case rel => exact ⟨j + 1, swp dj j m, by go_num, by omega, by have := HM.out; omega, by rw [size_swp2]; exact hsj, Lib.hid ((HSq.out.qt ⟨_, rfl⟩).swap j m (by omega) (by have := HM.out; omega) hxj.out hxm.out), HR3⟩
                              case measure => have := HM.out; simp [intOf]; omega
                            | false =>
                              have HR3 := Lib.hid ((SS.out hl).symm.trans HJ.out)
                              go_wp2_with fail
                              go_quiet ((go_at_call 257; exact Calls.quiet_of_same (Less_f hl _)))
                              go_wp2_with fail
                              go_roundw
                              case rel => exact ⟨i1, s + 1, d4, rfl, by go_num, by omega, by omega, by omega, hk4, Lib.hid (by rw [← HR3.out]; exact HSj.out.drewN _), HR⟩
                              case measure => simp [intOf]; omega
                          · have djl : decide (j < b) = false := decide_eq_false hjl
                            have HR3 := Lib.hid ((shiftUp_stop ltInt b j dj (.inl hjl)).symm.trans HJ.out)
                            clear hjl
                            go_wp2_with fail
                            go_roundw
                            case rel => exact ⟨i1, s + 1, d4, rfl, by go_num, by omega, by omega, by omega, hk4, Lib.hid (by rw [← HR3.out]; exact HSj.out), HR⟩
                            case measure => simp [intOf]; omega
                      · have dv : decide (2 ≤ (v : Int)) = false := decide_eq_false (by omega)
                        have HF := Lib.hid (show d4 = d3 by rw [← hd4.out]; unfold fixUp; rw [hv.out, if_neg hv2])
                        clear hv2
                        go_wp2_with fail
                        go_roundw
                        case rel => exact ⟨i1, s + 1, d4, rfl, by go_num, by omega, by omega, by omega, hk4, Lib.hid (by rw [HF.out]; exact HS3.out), HR⟩
                        case measure => simp [intOf]; omega
                · have du : decide (2 ≤ (u : Int)) = false := decide_eq_false (by omega)
                  have HF := Lib.hid (show d3 = d2 by rw [← hd3.out]; unfold fixDown; rw [hu.out, if_neg hu2])
                  have HS3 := HS2
                  rw [← HF.out] at HS3
                  clear hu2 HS2 q0 q1 f0 f1 hgl n0 n1 b0 b1 hne hne' hxi hxk HSu
                  by_cases hv2 : 2 ≤ v
                  · have dv : decide (2 ≤ (v : Int)) = true := decide_eq_true (by omega)
                    have HF := Lib.hid (show d4 = shiftUp ltInt b (i1 + 1) d3 by rw [← hd4.out]; unfold fixUp; rw [hv.out, if_pos hv2])
                    clear hv2
                    go_wp2_with fail
                    go_loopw [10] (fun v wr => ∃ (j : Nat) (dj : Array Int), v = .int .i64 j ∧ 1 ≤ j ∧ j ≤ b ∧ dj.size = N ∧ Hid (Sd w g dj z wr) ∧ Hid (shiftUp ltInt b j dj = d4)) (fun v _ => b - (intOf v).toNat)
                    case atStart => exact ⟨i1 + 1, d3, by go_num, by omega, by omega, hk3, HS3, Lib.hid HF.out.symm⟩
                    case round =>
                      obtain ⟨j, dj, rfl, hj1, hjb, hsj, HSj, HJ⟩ := hrel
                      by_cases hjl : j < b
                      · have djl : decide (j < b) = true := decide_eq_true hjl
                        obtain ⟨m, hm⟩ : ∃ m, j = m + 1 := ⟨j - 1, by omega⟩
                        have em : IntKind.i64.wrap ((j : Int) - 1) = (m : Int) := wrapN (by omega) (by omega)
                        rename World => W4
                        have q0 := HSj.out.1.cell j (by omega)
                        have q1 := HSj.out.1.cell m (by omega)
                        have f0 := Own.frozen HSj.out.1 j
                        have f1 := Own.frozen HSj.out.1 m
                        have hgl := Own.lt HSj.out.1
                        obtain ⟨xj, hxj⟩ : ∃ x, Hid (dj[j]! = x) := ⟨_, Lib.hid rfl⟩
                        obtain ⟨xm, hxm⟩ : ∃ x, Hid (dj[m]! = x) := ⟨_, Lib.hid rfl⟩
                        rw [hxj.out] at q0
                        rw [hxm.out] at q1
                        have n0 : (0 : Int) ≤ (j : Int) := by omega
                        have n1 : (0 : Int) ≤ (m : Int) := by omega
                        have b0 : (j : Int) < (N : Int) := by omega
                        have b1 : (m : Int) < (N : Int) := by omega
                        have hne : j ≠ m := by omega
                        have hne' : m ≠ j := by omega
                        have SG := Lib.hid (shiftUp_go ltInt b j dj hjl)
                        have SS := Lib.hid (fun hh => shiftUp_stop ltInt b j dj (.inr hh))
                        rw [show j - 1 = m by omega, hxj.out, hxm.out] at SG SS
                        have hjs : (j : Int) < 1000000000 := by omega
                        have HM := Lib.hid (And.intro hm hjl)
                        clear hm hj1 hjl
                        cases hl : ltInt xj xm with
                        | true =>
                          have HR3 := Lib.hid ((SG.out hl).symm.trans HJ.out)
                          go_wp2_with fail
                          go_quiet ((go_at_call 257; exact Calls.quiet_of_same (Less_t hl _)))
                          go_wp2_with fail
                          have r0 : (W4.drewN nq).cell? ⟨g, j, none⟩ = _ := q0
                          have r1 : (W4.drewN nq).cell? ⟨g, m, none⟩ = _ := q1
                          have s0 : (W4.drewN nq).frozen? ⟨g, j, none⟩ = false := f0
                          have s1 : (W4.drewN nq).frozen? ⟨g, m, none⟩ = false := f1
                          have HSq := Lib.hid (HSj.out.drewN nq)
                          clear q0 q1 f0 f1 hgl HSj
                          generalize W4.drewN nq = W5 at *
                          go_region
                          go_wp2_with fail
                          go_roundw
                          case rel => exact ⟨j + 1, swp dj j m, by go_num, by omega, by have := HM.out; omega, by rw [size_swp2]; exact hsj, Lib.hid ((HSq.out.qt ⟨_, rfl⟩).swap j m (by omega) (by have := HM.out; omega) hxj.out hxm.out), HR3⟩
                          case measure => have := HM.out; simp [intOf]; omega
                        | false =>
                          have HR3 := Lib.hid ((SS.out hl).symm.trans HJ.out)
                          go_wp2_with fail
                          go_quiet ((go_at_call 257; exact Calls.quiet_of_same (Less_f hl _)))
                          go_wp2_with fail
                          go_roundw
                          case rel => exact ⟨i1, s + 1, d4, rfl, by go_num, by omega, by omega, by omega, hk4, Lib.hid (by rw [← HR3.out]; exact HSj.out.drewN _), HR⟩
                          case measure => simp [intOf]; omega
                      · have djl : decide (j < b) = false := decide_eq_false hjl
                        have HR3 := Lib.hid ((shiftUp_stop ltInt b j dj (.inl hjl)).symm.trans HJ.out)
                        clear hjl
                        go_wp2_with fail
                        go_roundw
                        case rel => exact ⟨i1, s + 1, d4, rfl, by go_num, by omega, by omega, by omega, hk4, Lib.hid (by rw [← HR3.out]; exact HSj.out), HR⟩
                        case measure => simp [intOf]; omega
                  · have dv : decide (2 ≤ (v : Int)) = false := decide_eq_false (by omega)
                    have HF := Lib.hid (show d4 = d3 by rw [← hd4.out]; unfold fixUp; rw [hv.out, if_neg hv2])
                    clear hv2
                    go_wp2_with fail
                    go_roundw
                    case rel => exact ⟨i1, s + 1, d4, rfl, by go_num, by omega, by omega, by omega, hk4, Lib.hid (by rw [HF.out]; exact HS3.out), HR⟩
                    case measure => simp [intOf]; omega
    · have ds : decide ((s : Int) < 5) = false := decide_eq_false (by omega)
      have HR := Lib.hid (show (dk, false) = R by rw [← HE.out, show s = 5 by omega]; rfl)
      clear hs
      go_wp2_with fail
      go_ret
      rw [← HR.out]
      exact ⟨rfl, HW⟩
end Go.Proofs.YtmpajlpemabniaaGreat
