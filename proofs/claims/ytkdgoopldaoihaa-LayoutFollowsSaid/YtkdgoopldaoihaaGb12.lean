/-
  What chains may be, unit by unit: plain lemmas for the document's way of asking. Lemmas, no claim of their own.
-/
import Derived.Test.YtkdgoopldaoihaaGb11
import Derived.Test.YtkdgoopldaoihaaGb6
import Derived.Test.YtkdgoopldaoihaaGb8
import Derived.Test.YtkdgoopldaoihaaGb9
import Derived.Test.YtkdgoopldaoihaaGb4
namespace Go.Proofs.Ytkdgoopldaoihaa
open Go.RowKit Go.Deep
set_option linter.unusedVariables false
set_option linter.unusedSimpArgs false

theorem nodup_sub_le' {α : Type} : ∀ {l K : List α}, l.Nodup → (∀ x ∈ l, x ∈ K) → l.length ≤ K.length
  | [], _, _, _ => by simp
  | x :: l, K, hn, h => by
    obtain ⟨h1, h2⟩ := List.nodup_cons.1 hn
    obtain ⟨A, B, rfl⟩ := List.append_of_mem (h x (by simp))
    have := nodup_sub_le' (l := l) (K := A ++ B) h2 (fun y hy => by
      have := h y (by simp [hy])
      rcases List.mem_append.1 this with h3 | h3
      · exact List.mem_append.2 (.inl h3)
      · rcases List.mem_cons.1 h3 with rfl | h3
        · exact absurd hy h1
        · exact List.mem_append.2 (.inr h3))
    simp only [List.length_cons, List.length_append] at *
    omega
/-- units, each one once -/
def UsI (us : List Int) : Prop := (∀ u ∈ us, 0 ≤ u ∧ u < 32) ∧ us.Nodup
theorem UsI.nil : UsI [] := ⟨by simp, by simp⟩
theorem UsI.len {us : List Int} (h : UsI us) : us.length ≤ 32 := by
  have := nodup_sub_le' (l := us) (K := (List.range 32).map fun k : Nat => (k : Int)) h.2 (fun u hu => by
    have := h.1 u hu
    exact List.mem_map.2 ⟨u.toNat, by simp; omega, by omega⟩)
  simpa using this
theorem UsI.more {us : List Int} {u : Int} (h : UsI us) (h1 : 0 ≤ u ∧ u < 32) (h2 : u ∉ us) : UsI (us ++ [u]) :=
  ⟨fun x hx => by
    rcases List.mem_append.1 hx with hx | hx
    · exact h.1 x hx
    · simp only [List.mem_singleton] at hx
      subst hx
      exact h1, by rw [List.nodup_append]; exact ⟨h.2, by simp, fun a ha b hb => by simp at hb; subst hb; intro e; subst e; exact h2 ha⟩⟩
/-- all units of the chains ahead of the k-th, and j of the k-th one's -/
def usN (L : List (List Int)) (k j : Nat) : List Int := (L.take k).flatten ++ (cx L k).take j
theorem usN_zero (L : List (List Int)) : usN L 0 0 = [] := by simp [usN]
theorem usN_next {L : List (List Int)} {k : Nat} (hk : k < L.length) : usN L k (cx L k).length = usN L (k + 1) 0 := by
  unfold usN
  rw [cx_take hk]
  simp
theorem usN_step {L : List (List Int)} {k j : Nat} (hj : j < (cx L k).length) : usN L k (j + 1) = usN L k j ++ [(cx L k).getD j 0] := by
  unfold usN
  have e : (cx L k).getD j 0 = (cx L k)[j] := by simp [List.getD, hj]
  rw [List.take_succ_eq_append_getElem hj, e, List.append_assoc]
theorem flat_split {L : List (List Int)} {k j : Nat} (hk : k < L.length) (hj : j < (cx L k).length) : ∃ R, L.flatten = usN L k j ++ (cx L k).getD j 0 :: R := by
  refine ⟨(cx L k).drop (j + 1) ++ (L.drop (k + 1)).flatten, ?_⟩
  have e : (cx L k).getD j 0 = (cx L k)[j] := by simp [List.getD, hj]
  have e2 : cx L k = L[k] := by simp [cx, List.getD, hk]
  have e3 : L = L.take k ++ cx L k :: L.drop (k + 1) := by rw [e2]; simp
  have e4 : ∀ D : List Int, cx L k ++ D = (cx L k).take j ++ ((cx L k)[j] :: ((cx L k).drop (j + 1) ++ D)) := fun D => by
    rw [← List.cons_append, ← List.append_assoc, ← List.drop_eq_getElem_cons hj, List.take_append_drop]
  have e5 : L.flatten = (L.take k).flatten ++ (cx L k ++ (L.drop (k + 1)).flatten) := by
    conv => lhs; rw [e3]
    rw [List.flatten_append, List.flatten_cons]
  rw [e, e5, e4]
  unfold usN
  rw [List.append_assoc]
theorem chOk_short {L : List (List Int)} {k : Nat} (hk : k < L.length) (h : ¬ (1 ≤ (cx L k).length ∧ (cx L k).length ≤ 4)) : chOk L = false := by
  cases e : chOk L with
  | false => rfl
  | true => exact absurd ((chOk_iff.1 e).2.1 _ (cx_mem hk)) h
theorem chOk_unit {L : List (List Int)} {k j : Nat} (hk : k < L.length) (hj : j < (cx L k).length) (h : (cx L k).getD j 0 < 0 ∨ 32 ≤ (cx L k).getD j 0 ∨ (cx L k).getD j 0 ∈ usN L k j) : chOk L = false := by
  cases e : chOk L with
  | false => rfl
  | true =>
    obtain ⟨_, _, h3, h4⟩ := chOk_iff.1 e
    obtain ⟨R, hR⟩ := flat_split hk hj
    rw [hR] at h3 h4
    have := h3 ((cx L k).getD j 0) (by simp)
    rw [List.nodup_append] at h4
    rcases h with h | h | h
    · omega
    · omega
    · exact absurd rfl (h4.2.2 _ h _ (by simp))
theorem chOk_all {L : List (List Int)} (h1 : ∀ k, k < L.length → 1 ≤ (cx L k).length ∧ (cx L k).length ≤ 4) (h2 : UsI (usN L L.length 0)) : chOk L = isLen L.length := by
  have e : usN L L.length 0 = L.flatten := by simp [usN]
  rw [e] at h2
  rw [Bool.eq_iff_iff, chOk_iff, isLen_iff]
  refine ⟨fun h => h.1, fun h => ⟨h, fun c hc => ?_, h2.1, h2.2⟩⟩
  obtain ⟨i, hi, rfl⟩ := mem_cx hc
  exact h1 i hi
end Go.Proofs.Ytkdgoopldaoihaa
namespace Go.Proofs.Ytkdgoopldaoihaa
open Go.RowKit Go.Deep
set_option linter.unusedVariables false
set_option linter.unusedSimpArgs false

set_option maxHeartbeats 8000000 in
set_option maxRecDepth 100000 in
theorem dseg_any (A : SgT) (B : Nat) (w : World) (h1 : Ro w B A.a (chv A.ch)) (h2 : ChIn w B A.ch) (hB : B ≤ w.heap.size) (hf : ChFit A.ch) :
    Calls Try.prog 42 #[A.val] w fun e w' => e = .returned (.bool (chOk (chx A.ch) && decide (A.f < 1048576))) ∧ Chg [] w w' := by
  obtain ⟨f, a, c, L⟩ := A
  simp only [SgT.val] at *
  obtain ⟨W, HWW⟩ : ∃ W, Hid (w.alloc (.cells #[.int .u64 (f : Int), .slice a L.length c] 49) = W) := ⟨_, Lib.hid rfl⟩
  have HC : Hid (Chg [] w W) := Lib.hid (by rw [← HWW.out]; exact (Chg.refl [] w).alloc _)
  have HO : Hid (Own W w.heap.size 49 [.int .u64 (f : Int), .slice a L.length c]) := Lib.hid (by rw [← HWW.out]; exact Own.new w _ _)
  have HIN := Lib.hid (And.intro h1 (And.intro h2 hB))
  have HF := Lib.hid hf.2
  have hl := hf.1
  obtain ⟨n, hn⟩ : ∃ n, L.length = n := ⟨_, rfl⟩
  have HN := Lib.hid hn
  rw [hn] at HO HWW hl ⊢
  obtain ⟨st, hst⟩ : ∃ st, chOk (chx L) = st := ⟨_, rfl⟩
  have HST := Lib.hid hst
  rw [hst]
  obtain ⟨q, hq⟩ : ∃ q, decide (f < 1048576) = q := ⟨_, rfl⟩
  have g3 : decide ((f : Int) < 1048576) = q := by rw [← hq, decide_eq_decide]; omega
  rw [hq]
  clear h1 h2 hB hf hn hst hq
  go_enter Try.func42, Try.ntmps42
  go_upto_region 1 with fail
  rw [HWW.out]
  go_wp2_with fail
  go_loopw [3, 4] (fun v i wr => ∃ (k : Nat) (al : Option Addr) (nl cl : Nat), k ≤ n ∧ i = .int .i64 (k : Int) ∧ v = .slice al nl cl ∧ Hid (Lst wr (w.heap.size + 1) 3 (.slice al nl cl) (i64s (usN (chx L) k 0))) ∧ Hid (UsI (usN (chx L) k 0)) ∧ Hid (∀ j, j < k → 1 ≤ (cx (chx L) j).length ∧ (cx (chx L) j).length ≤ 4) ∧ Hid (Chg [] w wr) ∧ Hid (Own wr w.heap.size 49 [.int .u64 (f : Int), .slice a n c])) (fun _ i _ => n - (intOf i).toNat)
  case atStart => exact ⟨0, none, 0, 0, Nat.zero_le _, rfl, rfl, Lib.hid (by rw [usN_zero]; exact Lst.nil _ _ _), Lib.hid (by rw [usN_zero]; exact UsI.nil), Lib.hid (fun j hj => by omega), HC, HO⟩
  case round =>
    obtain ⟨k, al, nl, cl, hk, rfl, rfl, HLS, HUS, HSH, HC6, HO6⟩ := hrel
    rename World => w6
    have c0 := HO6.out.cell 0
    have c1 := HO6.out.cell 1
    have hz := HO6.out.lt
    simp at c0 c1
    by_cases hlt : k < n
    · have hkL : k < L.length := by rw [HN.out]; exact hlt
      have HB6 := Lib.hid (HC6.out.below HIN.out.2.2 (by simp))
      obtain ⟨b, off, rfl, hb, hc⟩ := (HIN.out.1.below HB6.out (Nat.le_refl _)).ch (show 0 < L.length by omega)
      have e1 := hc k hkL
      clear hc
      have HMC := Lib.hid (ct_mem hkL)
      have HCX : Hid (cx (chx L) k = (ct L k).u) := Lib.hid (cx_chx L k)
      have HKX : Hid (k < (chx L).length) := Lib.hid (by rw [chx_length]; exact hkL)
      have HFT := Lib.hid (HF.out _ HMC.out)
      have HRC := Lib.hid (HIN.out.2.1 _ HMC.out)
      generalize ct L k = ck at *
      obtain ⟨ca, cc, cu⟩ := ck
      simp only at HCX e1 HFT HRC
      obtain ⟨m, hm⟩ : ∃ m, cu.length = m := ⟨_, rfl⟩
      have HM := Lib.hid hm
      rw [hm] at e1 HFT
      have hmf := HFT.out
      have hk0 : (0 : Int) ≤ (k : Int) := by omega
      have hk1 : (k : Int) < (n : Int) := by omega
      clear hm
      by_cases hmm : 1 ≤ m ∧ m ≤ 4
      · have g1 : decide ((m : Int) < 1) = false := decide_eq_false (by omega)
        have g2 : decide (4 < (m : Int)) = false := decide_eq_false (by omega)
        have HMM := Lib.hid hmm
        clear hmm
        go_wp2_with fail
        go_loopw [3, 6] (fun v i wr => ∃ (j : Nat) (al : Option Addr) (nl cl : Nat), j ≤ m ∧ i = .int .i64 (j : Int) ∧ v = .slice al nl cl ∧ Hid (Lst wr (w.heap.size + 1) 3 (.slice al nl cl) (i64s (usN (chx L) k j))) ∧ Hid (UsI (usN (chx L) k j)) ∧ Hid (Chg [] w wr) ∧ Hid (Own wr w.heap.size 49 [.int .u64 (f : Int), .slice (some ⟨b, off, none⟩) n c])) (fun _ i _ => m - (intOf i).toNat)
        case atStart => exact ⟨0, al, nl, cl, Nat.zero_le _, rfl, rfl, HLS, HUS, HC6, HO6⟩
        case round =>
          obtain ⟨j, al2, nl2, cl2, hj, rfl, rfl, HLS2, HUS2, HC7, HO7⟩ := hrel
          rename World => w7
          by_cases hlt2 : j < m
          · have hjL : j < cu.length := by rw [HM.out]; exact hlt2
            have HB7 := Lib.hid (HC7.out.below HIN.out.2.2 (by simp))
            obtain ⟨b2, off2, rfl, hb2, hc2⟩ := (HRC.out.below HB7.out (Nat.le_refl _)).i64 (show 0 < cu.length by omega)
            have e2 := hc2 j hjL
            clear hc2
            have HUX : Hid ((cx (chx L) k).getD j 0 = cu.getD j 0) := Lib.hid (by rw [HCX.out])
            have HJX : Hid (j < (cx (chx L) k).length) := Lib.hid (by rw [HCX.out]; exact hjL)
            have HBAD : Hid ((cu.getD j 0 < 0 ∨ 32 ≤ cu.getD j 0 ∨ cu.getD j 0 ∈ usN (chx L) k j) → st = false) := Lib.hid (fun h => by rw [← HST.out]; refine chOk_unit HKX.out HJX.out ?_; rw [HUX.out]; exact h)
            have HSTP := Lib.hid (usN_step HJX.out)
            rw [HUX.out] at HSTP
            have HLN := Lib.hid HUS2.out.len
            obtain ⟨a3, c3, hv3, hr3, _, _⟩ := HLS2.out.form
            rw [i64s_length] at hv3
            injection hv3 with e3 e4 e5
            have HE4 := Lib.hid e4
            have HHAS := Lib.hid (dhas_any (usN (chx L) k j) (cu.getD j 0) al2 cl2 w7.heap.size w7 (by rw [e3]; exact hr3) (Nat.le_refl _) (by have := HLN.out; omega))
            rw [← e4] at HHAS
            obtain ⟨hs, hhs⟩ : ∃ t, decide (cu.getD j 0 ∈ usN (chx L) k j) = t := ⟨_, rfl⟩
            have HHS := Lib.hid hhs
            rw [hhs] at HHAS
            have hj0 : (0 : Int) ≤ (j : Int) := by omega
            have hj1 : (j : Int) < (m : Int) := by omega
            generalize cu.getD j 0 = u at *
            clear e3 e4 e5 hr3 hhs
            obtain ⟨b1, hb1⟩ : ∃ t, decide (u < 0) = t := ⟨_, rfl⟩
            obtain ⟨b3, hb3⟩ : ∃ t, decide (32 ≤ u) = t := ⟨_, rfl⟩
            have HB1 := Lib.hid hb1
            have HB3 := Lib.hid hb3
            cases b1 with
            | true =>
              go_wp2_with fail
              go_ret
              refine ⟨?_, HC7.out⟩
              rw [HBAD.out (.inl (by simpa using HB1.out)), Bool.false_and]; rfl
            | false =>
              cases b3 with
              | true =>
                go_wp2_with fail
                go_ret
                refine ⟨?_, HC7.out⟩
                rw [HBAD.out (.inr (.inl (by simpa using HB3.out))), Bool.false_and]; rfl
              | false =>
                go_wp2_with fail
                refine HHAS.out.mono ?_
                rintro e w8 ⟨rfl, hc8⟩
                cases hs with
                | true =>
                  have HC8 := Lib.hid (HC7.out.trans hc8)
                  clear hc8
                  go_wp2_with fail
                  go_ret
                  refine ⟨?_, HC8.out⟩
                  rw [HBAD.out (.inr (.inr (by simpa using HHS.out))), Bool.false_and]; rfl
                | false =>
                  have HLS8 := Lib.hid (HLS2.out.below hc8.low (Nat.le_refl _))
                  have e28 := hc8.cell e2 (by simp)
                  have HC8 := Lib.hid (HC7.out.trans hc8)
                  have HO8 := Lib.hid (HO7.out.chg hc8 (by simp))
                  have HSZ : Hid (w.heap.size + 1 ≤ w8.heap.size) := Lib.hid (by have := HO8.out.lt; omega)
                  clear hc8 e2
                  go_wp2_with (at_builtin; refine wpList_app1g rfl (.tmp 53) (.tmp 58) 36 rfl (w.heap.size + 1) 3 (.int .i64 0) 8 Try.underlying36 Try.info_i64 rfl (.int .i64 u) rfl _ (i64s (usN (chx L) k j)) rfl HLS8.out rfl (by have := HLN.out; simp; omega) (by have := HLN.out; simp; omega) HSZ.out ?_)
                  intro v9 w9 hl9 hc9
                  have HRW := Lib.hid HLS8.out.row
                  have HC9 : Hid (Chg [] w w9) := Lib.hid (HC8.out.then hc9 (fun x hx => .inr (by have := (HRW.out x hx).1; omega)))
                  have HO9 := Lib.hid (HO8.out.chg hc9 (HLS8.out.ownT HO8.out (by decide)))
                  obtain ⟨a9, k9, hv9, _, _⟩ := hl9.out.form
                  generalize (i64s (usN (chx L) k j) ++ [Value.int .i64 u]).length = n9 at hv9
                  subst hv9
                  have HL9 : Hid (Lst w9 (w.heap.size + 1) 3 (.slice a9 n9 k9) (i64s (usN (chx L) k (j + 1)))) := Lib.hid (by rw [HSTP.out]; have := hl9.out; simpa [i64s] using this)
                  have HU9 : Hid (UsI (usN (chx L) k (j + 1))) := Lib.hid (by rw [HSTP.out]; exact HUS2.out.more ⟨by have := HB1.out; simp at this; omega, by have := HB3.out; simp at this; omega⟩ (by simpa using HHS.out))
                  clear hl9 hc9
                  go_wp2_with fail
                  go_roundw
                  case rel => exact ⟨j + 1, a9, n9, k9, by omega, by go_num, rfl, HL9, HU9, HC9, HO9⟩
                  case measure => simp [intOf]; omega
          · obtain rfl : j = m := by omega
            have HNX := Lib.hid (usN_next HKX.out)
            rw [HCX.out, HM.out] at HNX
            rw [HNX.out] at HLS2 HUS2
            go_wp2_with fail
            go_roundw
            case rel => exact ⟨k + 1, al2, nl2, cl2, by omega, by go_num, rfl, HLS2, HUS2, Lib.hid (fun i hi => by
              rcases Nat.lt_or_ge i k with h | h
              · exact HSH.out i h
              · obtain rfl : i = k := by omega
                rw [HCX.out, HM.out]; exact HMM.out), HC7, HO7⟩
            case measure => simp [intOf]; omega
      · have HR : Hid (st = false) := Lib.hid (by rw [← HST.out]; refine chOk_short HKX.out ?_; rw [HCX.out, HM.out]; exact hmm)
        by_cases hm1 : m < 1
        · have g1 : decide ((m : Int) < 1) = true := decide_eq_true (by omega)
          clear hmm hm1
          go_wp2_with fail
          go_ret
          refine ⟨?_, HC6.out⟩
          rw [HR.out, Bool.false_and]; rfl
        · have g1 : decide ((m : Int) < 1) = false := decide_eq_false (by omega)
          have g2 : decide (4 < (m : Int)) = true := decide_eq_true (by omega)
          clear hmm hm1
          go_wp2_with fail
          go_ret
          refine ⟨?_, HC6.out⟩
          rw [HR.out, Bool.false_and]; rfl
    · obtain rfl : k = n := by omega
      have HE : Hid (st = isLen k) := Lib.hid (by
        have h1 := chOk_all (L := chx L) (fun i hi => HSH.out i (by rw [chx_length, HN.out] at hi; exact hi)) (by rw [chx_length, HN.out]; exact HUS.out)
        rw [chx_length, HN.out] at h1
        rw [← HST.out, h1])
      by_cases h1 : 1 ≤ k
      · have g1 : decide ((1 : Int) ≤ (k : Int)) = true := decide_eq_true (by omega)
        by_cases h4 : k ≤ 4
        · have g2 : decide ((k : Int) ≤ 4) = true := decide_eq_true (by omega)
          have he : st = true := by rw [HE.out, isLen_iff]; exact ⟨h1, h4⟩
          have HE1 := Lib.hid he
          clear he h1 h4
          go_wp2_with fail
          go_ret
          refine ⟨?_, HC6.out⟩
          rw [HE1.out, Bool.true_and]; rfl
        · have g2 : decide ((k : Int) ≤ 4) = false := decide_eq_false (by omega)
          have he : st = false := by rw [HE.out]; cases h : isLen k; rfl; exact absurd (isLen_iff.1 h).2 h4
          have HE1 := Lib.hid he
          clear he
          go_wp2_with fail
          go_ret
          refine ⟨?_, HC6.out⟩
          rw [HE1.out, Bool.false_and]; rfl
      · have g1 : decide ((1 : Int) ≤ (k : Int)) = false := decide_eq_false (by omega)
        have he : st = false := by rw [HE.out]; cases h : isLen k; rfl; exact absurd (isLen_iff.1 h).1 h1
        have HE1 := Lib.hid he
        clear he
        go_wp2_with fail
        go_ret
        refine ⟨?_, HC6.out⟩
        rw [HE1.out, Bool.false_and]; rfl
end Go.Proofs.Ytkdgoopldaoihaa
namespace Go.Proofs.Ytkdgoopldaoihaa
open Go.RowKit Go.Deep
set_option linter.unusedVariables false
set_option linter.unusedSimpArgs false

/-- all segments ahead of the k-th are in their places -/
def SgA (L : List Sg) (k : Nat) : Prop := ∀ j, j < k → (sx L j).1 < 1048576 ∧ chOk (sx L j).2 = true ∧ (0 < j → (sx L (j - 1)).1 < (sx L j).1)
theorem SgA.step {L : List Sg} {k : Nat} (h : SgA L k) (h1 : (chOk (sx L k).2 && decide ((sx L k).1 < 1048576)) = true) (h2 : 0 < k → (sx L (k - 1)).1 < (sx L k).1) : SgA L (k + 1) := by
  intro j hj
  rcases Nat.lt_or_ge j k with h3 | h3
  · exact h j h3
  · obtain rfl : j = k := by omega
    rw [Bool.and_eq_true, decide_eq_true_eq] at h1
    exact ⟨h1.2, h1.1, h2⟩
theorem SgA.all {x : Ly} (h1 : 1 ≤ x.e ∧ x.e ≤ 1048576) (h2 : 0 ≤ x.q ∧ x.q < 32) (h3 : 1 ≤ x.s.length ∧ x.s.length ≤ 4) (h4 : (sx x.s 0).1 = 0) (h5 : SgA x.s x.s.length) : lright x = true :=
  lright_iff.2 ⟨h1, h2, sgOk_iff.2 ⟨h3, h4, fun i hi => ⟨(h5 i hi).1, (h5 i hi).2.1⟩, fun i hi => (h5 (i + 1) hi).2.2 (by omega)⟩⟩
theorem lright_no {x : Ly} (h : ¬ (lright x = true)) : lright x = false := by cases e : lright x; rfl; exact absurd e h
theorem lright_seg {x : Ly} {k : Nat} (hk : k < x.s.length) (h : (chOk (sx x.s k).2 && decide ((sx x.s k).1 < 1048576)) = false) : lright x = false := lright_no fun e => by
  have := ((sgOk_iff.1 (lright_iff.1 e).2.2).2.2.1 k hk)
  rw [this.2, decide_eq_true this.1] at h
  cases h
theorem lright_ord {x : Ly} {k : Nat} (hk : k + 1 < x.s.length) (h : (sx x.s (k + 1)).1 ≤ (sx x.s k).1) : lright x = false := lright_no fun e => by
  have := (sgOk_iff.1 (lright_iff.1 e).2.2).2.2.2 k hk
  omega
set_option maxHeartbeats 8000000 in
set_option maxRecDepth 100000 in
theorem dlright_any (A : LyT) (B : Nat) (w : World) (h : LyIn w B A) (hB : B ≤ w.heap.size) (hf : SgFit A.sg) :
    Calls Try.prog 18 #[A.val] w fun e w' => e = .returned (.bool (lright A.x)) ∧ Chg [] w w' := by
  have hxs : A.x.s = sgx A.sg := rfl
  have hxe : A.x.e = A.e := rfl
  have hxq : A.x.q = A.q := rfl
  obtain ⟨x, hx⟩ : ∃ x, A.x = x := ⟨_, rfl⟩
  rw [hx] at hxs hxe hxq ⊢
  obtain ⟨ep, a, c, L, q⟩ := A
  simp only [LyT.val] at *
  obtain ⟨W, HWW⟩ : ∃ W, Hid (w.alloc (.cells #[.int .u64 (ep : Int), .slice a L.length c, .int .i64 q] 25) = W) := ⟨_, Lib.hid rfl⟩
  have HC : Hid (Chg [] w W) := Lib.hid (by rw [← HWW.out]; exact (Chg.refl [] w).alloc _)
  have HO : Hid (Own W w.heap.size 25 [.int .u64 (ep : Int), .slice a L.length c, .int .i64 q]) := Lib.hid (by rw [← HWW.out]; exact Own.new w _ _)
  have HIN := Lib.hid (And.intro h.1 (And.intro h.2 hB))
  have HF := Lib.hid hf.2
  have hl := hf.1
  have HXS := Lib.hid hxs
  have HXL : Hid (x.s.length = L.length) := Lib.hid (by rw [hxs, sgx_length])
  obtain ⟨n, hn⟩ : ∃ n, L.length = n := ⟨_, rfl⟩
  have HN := Lib.hid hn
  rw [hn] at HO HWW hl HXL ⊢
  obtain ⟨rr, hst⟩ : ∃ rr, lright x = rr := ⟨_, rfl⟩
  have HST := Lib.hid hst
  rw [hst]
  have HXE := Lib.hid hxe
  have HXQ := Lib.hid hxq
  have c0 := HO.out.cell 0
  have c1 := HO.out.cell 1
  have c2 := HO.out.cell 2
  have hz := HO.out.lt
  simp at c0 c1 c2
  have HNO : Hid (¬ (lright x = true) → rr = false) := Lib.hid (fun h => by rw [← HST.out]; exact lright_no h)
  clear h hB hf hn hst hx hxs hxe hxq
  obtain ⟨b1, h1⟩ : ∃ t, decide ((ep : Int) < 1) = t := ⟨_, rfl⟩
  obtain ⟨b2, h2⟩ : ∃ t, decide (1048576 < (ep : Int)) = t := ⟨_, rfl⟩
  obtain ⟨b3, h3⟩ : ∃ t, decide ((n : Int) < 1) = t := ⟨_, rfl⟩
  obtain ⟨b4, h4⟩ : ∃ t, decide (4 < (n : Int)) = t := ⟨_, rfl⟩
  obtain ⟨b5, h5⟩ : ∃ t, decide (q < 0) = t := ⟨_, rfl⟩
  obtain ⟨b6, h6⟩ : ∃ t, decide (32 ≤ q) = t := ⟨_, rfl⟩
  have H1 := Lib.hid h1
  have H2 := Lib.hid h2
  have H3 := Lib.hid h3
  have H4 := Lib.hid h4
  have H5 := Lib.hid h5
  have H6 := Lib.hid h6
  have BAD : ∀ st : Bool, st = false → (Ending.returned (.bool st) = Ending.returned (.bool false)) := fun st h => by rw [h]
  have HBAD := Lib.hid BAD
  clear BAD
  go_enter Try.func18, Try.ntmps18
  go_upto_region 1 with fail
  rw [HWW.out]
  cases b1 with
  | true =>
    have HR := Lib.hid (HNO.out (fun h => by have := (lright_iff.1 h).1; rw [HXE.out] at this; have := H1.out; simp at this; omega))
    go_wp2_with fail
    go_ret
    exact ⟨(HBAD.out _ HR.out).symm, HC.out⟩
  | false =>
  cases b2 with
  | true =>
    have HR := Lib.hid (HNO.out (fun h => by have := (lright_iff.1 h).1; rw [HXE.out] at this; have := H2.out; simp at this; omega))
    go_wp2_with fail
    go_ret
    exact ⟨(HBAD.out _ HR.out).symm, HC.out⟩
  | false =>
  cases b3 with
  | true =>
    have HR := Lib.hid (HNO.out (fun h => by have := (sgOk_iff.1 (lright_iff.1 h).2.2).1; rw [HXL.out] at this; have := H3.out; simp at this; omega))
    go_wp2_with fail
    go_ret
    exact ⟨(HBAD.out _ HR.out).symm, HC.out⟩
  | false =>
  cases b4 with
  | true =>
    have HR := Lib.hid (HNO.out (fun h => by have := (sgOk_iff.1 (lright_iff.1 h).2.2).1; rw [HXL.out] at this; have := H4.out; simp at this; omega))
    go_wp2_with fail
    go_ret
    exact ⟨(HBAD.out _ HR.out).symm, HC.out⟩
  | false =>
  cases b5 with
  | true =>
    have HR := Lib.hid (HNO.out (fun h => by have := (lright_iff.1 h).2.1; rw [HXQ.out] at this; have := H5.out; simp at this; omega))
    go_wp2_with fail
    go_ret
    exact ⟨(HBAD.out _ HR.out).symm, HC.out⟩
  | false =>
  cases b6 with
  | true =>
    have HR := Lib.hid (HNO.out (fun h => by have := (lright_iff.1 h).2.1; rw [HXQ.out] at this; have := H6.out; simp at this; omega))
    go_wp2_with fail
    go_ret
    exact ⟨(HBAD.out _ HR.out).symm, HC.out⟩
  | false =>
  have hn1 : (0 : Int) < (n : Int) := by have := H3.out; simp at this; omega
  have hn0 : 0 < n := by omega
  have hn4 : n ≤ 4 := by have := H4.out; simp at this; omega
  have HB6 := Lib.hid (HC.out.below HIN.out.2.2 (by simp))
  obtain ⟨b, off, rfl, hb, hc⟩ := (HIN.out.1.below HB6.out (Nat.le_refl _)).sg (show 0 < L.length by rw [HN.out]; exact hn0)
  obtain ⟨e1, _⟩ := hc 0 (by rw [HN.out]; exact hn0)
  clear hc
  simp only [Nat.zero_mul, Nat.add_zero] at e1
  have HS0 : Hid ((sx x.s 0).1 = (st L 0).f) := Lib.hid (by rw [HXS.out, sx_sgx]; rfl)
  generalize (st L 0).f = f0 at *
  obtain ⟨b7, h7⟩ : ∃ t, ((f0 : Int) != 0) = t := ⟨_, rfl⟩
  have H7 := Lib.hid h7
  cases b7 with
  | true =>
    have HR := Lib.hid (HNO.out (fun h => by
      have h8 := (sgOk_iff.1 (lright_iff.1 h).2.2).2.1
      rw [HS0.out] at h8
      have := H7.out
      rw [h8] at this
      simp at this))
    go_wp2_with fail
    go_ret
    exact ⟨(HBAD.out _ HR.out).symm, HC.out⟩
  | false =>
  have HF0 : Hid ((sx x.s 0).1 = 0) := Lib.hid (by rw [HS0.out]; have := H7.out; simp at this; omega)
  have hl4 : (n : Int) ≤ 4 := by omega
  go_wp2_with fail
  go_loopw [4] (fun i wr => ∃ k : Nat, k ≤ n ∧ i = .int .i64 (k : Int) ∧ Hid (SgA x.s k) ∧ Hid (Chg [] w wr) ∧ Hid (Own wr w.heap.size 25 [.int .u64 (ep : Int), .slice (some ⟨b, off, none⟩) n c, .int .i64 q])) (fun i _ => n - (intOf i).toNat)
  case atStart => exact ⟨0, Nat.zero_le _, rfl, Lib.hid (fun j hj => by omega), HC, HO⟩
  case round =>
    obtain ⟨k, hk, rfl, HU, HC6, HO6⟩ := hrel
    rename World => w6
    have d1 := HO6.out.cell 1
    have hz6 := HO6.out.lt
    simp at d1
    by_cases hlt : k < n
    · have hkL : k < L.length := by rw [HN.out]; exact hlt
      have HB7 := Lib.hid (HC6.out.below HIN.out.2.2 (by simp))
      obtain ⟨bb, oo, hbo, _, hc⟩ := (HIN.out.1.below HB7.out (Nat.le_refl _)).sg (show 0 < L.length by omega)
      injection hbo with hbo
      injection hbo with hbo1 hbo2 _
      subst hbo1 hbo2
      obtain ⟨e3, e4⟩ := hc k hkL
      have HMS := st_mem hkL
      have HSX : Hid (sx x.s k = (st L k).x) := Lib.hid (by rw [HXS.out, sx_sgx])
      have HDS := Lib.hid (fun (W' : World) (hW : Below B w W') (hB' : B ≤ W'.heap.size) => dseg_any (st L k) B W' ((HIN.out.2.1 _ HMS).1.below hW (Nat.le_refl _)) ((HIN.out.2.1 _ HMS).2.below hW (Nat.le_refl _)) hB' (HF.out _ HMS))
      obtain ⟨sg, hsg⟩ : ∃ t, (chOk (chx (st L k).ch) && decide ((st L k).f < 1048576)) = t := ⟨_, rfl⟩
      have HSG : Hid ((chOk (sx x.s k).2 && decide ((sx x.s k).1 < 1048576)) = sg) := Lib.hid (by rw [HSX.out]; exact hsg)
      have HSF : Hid ((sx x.s k).1 = (st L k).f) := Lib.hid (by rw [HSX.out]; rfl)
      rw [hsg] at HDS
      have HKL : Hid (k < x.s.length) := Lib.hid (by rw [HXL.out]; exact hlt)
      have j0 : (0 : Int) ≤ (k : Int) := by omega
      have j1 : (k : Int) < (n : Int) := by omega
      have HLT := Lib.hid hlt
      rcases k with _ | k
      · have hval : (st L 0).val = .agg #[.int .u64 ((st L 0).f : Int), .slice (st L 0).a (st L 0).ch.length (st L 0).c] := rfl
        rw [hval] at HDS
        generalize (st L 0).f = f1 at *
        generalize (st L 0).a = a1 at *
        generalize (st L 0).ch.length = n1 at *
        generalize (st L 0).c = c1' at *
        simp only [Nat.zero_mul, Nat.add_zero] at e3 e4
        clear hc hkL HMS hsg hval hk hlt e1
        go_wp2_with fail
        refine (HDS.out w6 HB7.out (Nat.le_trans HIN.out.2.2 HC6.out.size)).mono ?_
        rintro e w7 ⟨rfl, hc7⟩
        have HC7 := Lib.hid (HC6.out.trans hc7)
        have HO7 := Lib.hid (HO6.out.chg hc7 (by simp))
        have d1' := HO7.out.cell 1
        have hz7 := HO7.out.lt
        simp at d1'
        clear hc7 d1 e3 e4
        cases sg
        all_goals
          go_wp2_with fail
          go_quiet (fail)
          go_wp2_with fail
          first
            | (go_roundw
               case rel => have := HLT.out; exact ⟨1, by omega, by go_num, Lib.hid (HU.out.step HSG.out (fun h => absurd h (by omega))), Lib.hid (HC7.out.drewN _), Lib.hid HO7.out⟩
               case measure => have := HLT.out; simp [intOf]; omega)
            | (go_ret
               exact ⟨(HBAD.out _ (by rw [← HST.out]; exact lright_seg HKL.out HSG.out)).symm, HC7.out.drewN _⟩)
      · have hkL0 : k < L.length := by omega
        obtain ⟨z3, _⟩ := hc k hkL0
        have HSF0 : Hid ((sx x.s k).1 = (st L k).f) := Lib.hid (by rw [HXS.out, sx_sgx]; rfl)
        have hval : (st L (k + 1)).val = .agg #[.int .u64 ((st L (k + 1)).f : Int), .slice (st L (k + 1)).a (st L (k + 1)).ch.length (st L (k + 1)).c] := rfl
        rw [hval] at HDS
        generalize (st L (k + 1)).f = f1 at *
        generalize (st L (k + 1)).a = a1 at *
        generalize (st L (k + 1)).ch.length = n1 at *
        generalize (st L (k + 1)).c = c1' at *
        generalize (st L k).f = f2 at *
        obtain ⟨b3, h3'⟩ : ∃ t, decide ((f1 : Int) ≤ (f2 : Int)) = t := ⟨_, rfl⟩
        have HB3 := Lib.hid h3'
        have h3n : decide (f1 ≤ f2) = b3 := by rw [← h3', decide_eq_decide]; omega
        obtain ⟨qq, hq⟩ : ∃ qq, k + 1 = qq := ⟨_, rfl⟩
        rw [hq] at e3 e4 HSX HSG HSF HKL HLT hlt hk hkL j0 j1 ⊢
        have HQ := Lib.hid hq
        have k0 : (0 : Int) < (qq : Int) := by omega
        have k9 : decide (0 < qq) = true := decide_eq_true (by omega)
        have k5 : (qq : Int) - 1 = (k : Int) := by omega
        have k6 : IntKind.i64.wrap ((qq : Int) - 1) = (k : Int) := by rw [IntWalk.i64_in _ (by omega)]; omega
        have j2 : (k : Int) < (n : Int) := by omega
        have j3 : (0 : Int) ≤ (k : Int) := by omega
        have HU1 := Lib.hid (fun h => HU.out.step (k := k + 1) h)
        clear hc hkL hkL0 HMS hsg hval hk hlt e1 hq
        go_wp2_with fail
        refine (HDS.out w6 HB7.out (Nat.le_trans HIN.out.2.2 HC6.out.size)).mono ?_
        rintro e w7 ⟨rfl, hc7⟩
        have HC7 := Lib.hid (HC6.out.trans hc7)
        have HO7 := Lib.hid (HO6.out.chg hc7 (by simp))
        have d1' := HO7.out.cell 1
        have hz7 := HO7.out.lt
        simp at d1'
        have e7 := hc7.cell e3 (by simp)
        have z7 := hc7.cell z3 (by simp)
        clear hc7 d1 e3 e4 z3
        cases sg <;> cases b3
        all_goals
          go_wp2_with fail
          go_quiet (fail)
          go_wp2_with fail
          first
            | (go_roundw
               case rel =>
                 have := HLT.out
                 refine ⟨qq + 1, by omega, by go_num, Lib.hid ?_, Lib.hid (HC7.out.drewN _), Lib.hid HO7.out⟩
                 rw [← HQ.out] at HSG HSF ⊢
                 refine HU.out.step HSG.out (fun _ => ?_)
                 rw [Nat.add_sub_cancel, HSF.out, HSF0.out]
                 have h := HB3.out
                 simp at h
                 omega
               case measure => have := HLT.out; simp [intOf]; omega)
            | (go_ret
               exact ⟨(HBAD.out _ (by rw [← HST.out]; exact lright_seg HKL.out HSG.out)).symm, HC7.out.drewN _⟩)
            | (go_ret
               exact ⟨(HBAD.out _ (by
                 rw [← HST.out]
                 rw [← HQ.out] at HKL HSF
                 refine lright_ord HKL.out ?_
                 rw [HSF.out, HSF0.out]
                 have h := HB3.out
                 simp at h
                 omega)).symm, HC7.out.drewN _⟩)
    · obtain rfl : k = n := by omega
      have HE : Hid (rr = true) := Lib.hid (by
        rw [← HST.out]
        refine SgA.all ?_ ?_ ?_ HF0.out (by rw [HXL.out]; exact HU.out)
        · rw [HXE.out]; have g1 := H1.out; have g2 := H2.out; simp at g1 g2; omega
        · rw [HXQ.out]; have g1 := H5.out; have g2 := H6.out; simp at g1 g2; omega
        · rw [HXL.out]; omega)
      go_wp2_with fail
      go_ret
      refine ⟨?_, HC6.out⟩
      rw [HE.out]
      rfl
end Go.Proofs.Ytkdgoopldaoihaa
namespace Go.Proofs.Ytkdgoopldaoihaa
open Go.RowKit Go.Deep
set_option linter.unusedVariables false
set_option linter.unusedSimpArgs false

def eLy (bs : List UInt8) : Nat := (rep (pSg bs) (tkN bs 26 2 + 1) 28).2
theorem eLy_rd {bs : List UInt8} {x : Ly} (h : lright x = true) (hr : Rd bs 0 (fLy x)) : eLy bs = fsum (fLy x) := by
  obtain ⟨h1, h2, h3⟩ := lright_iff.1 h
  have h4 := (sgOk_iff.1 h3).1
  obtain ⟨r1, r2, r3, r4⟩ := hr
  simp only [Nat.zero_add, Nat.reduceAdd] at r1 r2 r3 r4
  have := rep_ok (p := pSg bs) (f := fSg) (fun s hm k hr => pSg_ok (seg_ok h hm).1 hr) r4
  unfold eLy
  rw [r3, show x.s.length - 1 + 1 = x.s.length by omega, this]
  simp only [fLy, fsum_cons]
  omega
theorem eLy_all {bs : List UInt8} (h : lright (pLy bs) = true) (he : IsLE (pLy bs) bs) : eLy bs ≤ 8 * bs.length := by
  have hr := rd_of_pack (fLy_ok h) he []
  rw [List.append_nil] at hr
  have hlen := he.1
  rw [nat_fw_sum] at hlen
  rw [eLy_rd h hr]
  omega
end Go.Proofs.Ytkdgoopldaoihaa
namespace Go.Proofs.Ytkdgoopldaoihaa
open Go.RowKit Go.Deep
set_option linter.unusedVariables false
set_option linter.unusedSimpArgs false

/-- the widths W and the numbers V, each in a slice of the call's own -/
def FlI (w : World) (base : Nat) (v1 v2 : Value) (W : List Int) (V : List Nat) : Prop := Lst w base 3 v1 (i64s W) ∧ Lst w base 22 v2 (u64s V)
theorem FlI.alloc {w : World} {base : Nat} {v1 v2 : Value} {W : List Int} {V : List Nat} (h : FlI w base v1 v2 W V) (o : Obj) : FlI (w.alloc o) base v1 v2 W V := ⟨h.1.alloc o, h.2.alloc o⟩
theorem FlI.below {w w' : World} {base : Nat} {v1 v2 : Value} {W : List Int} {V : List Nat} (h : FlI w base v1 v2 W V) (hb : Below w.heap.size w w') : FlI w' base v1 v2 W V := ⟨h.1.below hb (Nat.le_refl _), h.2.below hb (Nat.le_refl _)⟩
theorem u64s_cellA (l : List Nat) : ∀ v ∈ u64s l, v.oneCell' = true := by
  intro v hv
  simp only [u64s, List.mem_map] at hv
  obtain ⟨x, _, rfl⟩ := hv
  rfl
theorem i64s_app (A B : List Int) : i64s (A ++ B) = i64s A ++ i64s B := by simp [i64s]
theorem u64s_app (A B : List Nat) : u64s (A ++ B) = u64s A ++ u64s B := by simp [u64s]
/-- some widths more -/
theorem wpList_appW {ops : Array Oper} {rest : List Oper} {o : Oper} {a : Act} {w : World} {Q : Exit → Act → World → Prop} (hgd : o.guard = none) (s x : Operand)
    (ho : o.op = .call { callee := .builtin .append, args := #[s, x], argTypes := #[36, 36] })
    (base : Nat) (v1 v2 : Value) (W : List Int) (V : List Nat) (hs : a.eval s = v1) (h : FlI w base v1 v2 W V) (us : List Int) (cs : Array Value) (hcs : cs.toList = i64s us)
    (hx : a.eval x = .slice (some ⟨w.heap.size, 0, none⟩) us.length us.length) (hlen : W.length + us.length ≤ 100000) (hbase : base ≤ w.heap.size)
    (K : ∀ (a1 : Option Addr) (n1 c1 : Nat) (w' : World), Hid (FlI w' base (.slice a1 n1 c1) v2 (W ++ us) V) → Hid (Fc base base w w') → wpList Try.prog ops Q rest (a.put o.dst (.slice a1 n1 c1)) w') : wpList Try.prog ops Q (o :: rest) a (w.alloc (.cells cs 3)) := by
  have hro : Ro (w.alloc (.cells cs 3)) (w.heap.size + 1) (some ⟨w.heap.size, 0, none⟩) (i64s us) := by
    have := (Own.new w 3 cs.toList).ro (w.heap.size + 1) (by omega)
    rw [hcs] at this
    have e : (i64s us).toArray = cs := by rw [← hcs]
    rw [e] at this
    exact this
  refine wpList_app hgd s x 36 ho base 3 (.int .i64 0) 8 Try.underlying36 Try.info_i64 rfl v1 (i64s W) hs (h.1.alloc _) (some ⟨w.heap.size, 0, none⟩) (w.heap.size + 1) us.length us.length (i64s us) hx (by simp) hro (i64s_cell1 _) (by rw [i64s_length]; omega) (by rw [i64s_length]; omega) (by simp; omega) ?_
  intro v' w' h2 h3
  obtain ⟨a1, c1, hv, _, _⟩ := h2.out.form
  have hc : Chg (rowOf v1) w w' := ((Chg.refl _ w).alloc _).trans (grown_chg h3)
  have hl := h2.out
  rw [← i64s_app] at hl
  rw [hv] at hl ⊢
  exact K a1 _ c1 w' (Lib.hid ⟨hl, h.2.chg hc (h.2.otherT h.1 (by decide))⟩) (Lib.hid (Fc.row h.1 hc (.inl rfl)))
/-- some numbers more -/
theorem wpList_appV {ops : Array Oper} {rest : List Oper} {o : Oper} {a : Act} {w : World} {Q : Exit → Act → World → Prop} (hgd : o.guard = none) (s x : Operand)
    (ho : o.op = .call { callee := .builtin .append, args := #[s, x], argTypes := #[50, 50] })
    (base : Nat) (v1 v2 : Value) (W : List Int) (V : List Nat) (hs : a.eval s = v2) (h : FlI w base v1 v2 W V) (us : List Nat) (cs : Array Value) (hcs : cs.toList = u64s us)
    (hx : a.eval x = .slice (some ⟨w.heap.size, 0, none⟩) us.length us.length) (hlen : V.length + us.length ≤ 100000) (hbase : base ≤ w.heap.size)
    (K : ∀ (a1 : Option Addr) (n1 c1 : Nat) (w' : World), Hid (FlI w' base v1 (.slice a1 n1 c1) W (V ++ us)) → Hid (Fc base base w w') → wpList Try.prog ops Q rest (a.put o.dst (.slice a1 n1 c1)) w') : wpList Try.prog ops Q (o :: rest) a (w.alloc (.cells cs 22)) := by
  have hro : Ro (w.alloc (.cells cs 22)) (w.heap.size + 1) (some ⟨w.heap.size, 0, none⟩) (u64s us) := by
    have := (Own.new w 22 cs.toList).ro (w.heap.size + 1) (by omega)
    rw [hcs] at this
    have e : (u64s us).toArray = cs := by rw [← hcs]
    rw [e] at this
    exact this
  refine wpList_app hgd s x 50 ho base 22 (.int .u64 0) 8 Try.underlying50 Try.info_u64 rfl v2 (u64s V) hs (h.2.alloc _) (some ⟨w.heap.size, 0, none⟩) (w.heap.size + 1) us.length us.length (u64s us) hx (by simp) hro (u64s_cellA _) (by rw [u64s_length]; omega) (by rw [u64s_length]; omega) (by simp; omega) ?_
  intro v' w' h2 h3
  obtain ⟨a1, c1, hv, _, _⟩ := h2.out.form
  have hc : Chg (rowOf v2) w w' := ((Chg.refl _ w).alloc _).trans (grown_chg h3)
  have hl := h2.out
  rw [← u64s_app] at hl
  rw [hv] at hl ⊢
  exact K a1 _ c1 w' (Lib.hid ⟨h.1.chg hc (h.1.otherT h.2 (by decide)), hl⟩) (Lib.hid (Fc.row h.2 hc (.inr rfl)))
/-- the literals that both begin with -/
theorem FlI.two (w w1 : World) (base : Nat) (c1 c2 : Array Value) (W : List Int) (V : List Nat) (h1 : c1.toList = i64s W) (h2 : c2.toList = u64s V) (hb : base ≤ w.heap.size) (hw : w1 = (w.alloc (.cells c1 3)).alloc (.cells c2 22)) (l1 : W.length ≤ 1000) (l2 : V.length ≤ 1000) :
    FlI w1 base (.slice (some ⟨w.heap.size, 0, none⟩) W.length W.length) (.slice (some ⟨w.heap.size + 1, 0, none⟩) V.length V.length) W V := by
  have s1 : c1.size = W.length := by rw [← Array.length_toList, h1, i64s_length]
  have s2 : c2.size = V.length := by rw [← Array.length_toList, h2, u64s_length]
  subst hw
  have g1 := Lst.lit w base 3 c1 hb (by unfold maxLen; omega)
  have g2 := Lst.lit (w.alloc (.cells c1 3)) base 22 c2 (by simp; omega) (by unfold maxLen; omega)
  rw [h1, s1] at g1
  rw [h2, s2] at g2
  simp only [World.size_alloc] at g2
  exact ⟨g1.alloc _, g2⟩
end Go.Proofs.Ytkdgoopldaoihaa
