/-
  What Right of package message calls, by its contracts. No claim of its own.
-/
import Derived.Test.YtdblplkaobeimaaGa5
import Derived.Test.YtdblplkaobeimaaGa7
import Derived.Test.YtdblplkaobeimaaGa4
import Derived.Test.YtdblplkaobeimaaGa2
import Derived.Test.YtdblplkaobeimaaGa6
import Derived.Deep.Cut
import Derived.Deep.RegionLaw
namespace Go.Proofs.Ytdblplkaobeimaa
open Go.RowKit Go.Deep Go.Shelf
set_option linter.unusedVariables false
set_option linter.unusedSimpArgs false

set_option maxHeartbeats 1000000 in
theorem index_backL (S : Nat → World → Prop) (p : Nat → Bool) (g : Nat) (lb : Array Value) (eg : ∀ args w, (callFunc g args).run Try.prog w = .ok (.enter g args) w)
    (L : List Bk) (a : Option Addr) (c B : Nat) (w : World) (hl : L.length ≤ 9223372036854775807)
    (hro : ∀ k W, S k W → Ro W B a (bcs L)) (h0 : S 0 w)
    (hf : ∀ k W, k < L.length → S k W → Calls Try.prog g (#[bkv (bk L k)] ++ lb) W fun e w' => e = .returned (.bool (p k)) ∧ S (k + 1) w') :
    Calls Try.prog 47 #[.slice a L.length c, .func (.func g) #[] lb] w fun e w' => e = .returned (.int .i64 (fx p L.length)) ∧ ∃ k, S k w' := by
  obtain ⟨n, HN⟩ : ∃ n, Hid (L.length = n) := ⟨_, Lib.hid rfl⟩
  have HR := Lib.hid hro
  have HF := Lib.hid hf
  have H0 := Lib.hid h0
  clear hro hf h0
  rw [HN.out] at hl ⊢
  go_enter Try.func47, Try.ntmps47
  go_wp2_with fail
  go_loopw [8] (fun i wr => ∃ k : Nat, k ≤ n ∧ i = .int .i64 (k : Int) ∧ Hid (S k wr) ∧ Hid (∀ j, j < k → p j = false)) (fun i _ => n - (intOf i).toNat)
  case atStart => exact ⟨0, Nat.zero_le _, rfl, H0, Lib.hid (by omega)⟩
  case round =>
    obtain ⟨k, hk, rfl, HS, HP⟩ := hrel
    by_cases hlt : k < n
    · have hkL : k < L.length := by rw [HN.out]; exact hlt
      obtain ⟨b, off, rfl, hb, hc⟩ := (HR.out k wr HS.out).bk (by omega)
      obtain ⟨c1, c2, c3⟩ := hc k hkL
      have HC := Lib.hid (HF.out k wr hkL HS.out)
      clear hc
      have hk0 : (0 : Int) ≤ (k : Int) := by omega
      have hk1 : (k : Int) < (n : Int) := by omega
      generalize bk L k = x at *
      cases hq : p k with
      | true =>
        have HQ := Lib.hid hq
        clear hq
        go_wp2_with fail
        refine HC.out.mono ?_
        rintro e w' ⟨rfl, hs⟩
        rw [HQ.out]
        have HS2 := Lib.hid hs
        clear hs
        go_wp2_with fail
        go_ret
        exact ⟨ret_int (fx_hit p n k hlt HQ.out HP.out).symm, _, HS2.out⟩
      | false =>
        have HQ := Lib.hid hq
        clear hq
        go_wp2_with fail
        refine HC.out.mono ?_
        rintro e w' ⟨rfl, hs⟩
        rw [HQ.out]
        have HS2 := Lib.hid hs
        clear hs
        go_wp2_with fail
        go_roundw
        case rel =>
          refine ⟨k + 1, by omega, by go_num, HS2, Lib.hid fun j hj => ?_⟩
          by_cases e : j = k
          · subst e; exact HQ.out
          · exact HP.out j (by omega)
        case measure => simp [intOf]; omega
    · obtain rfl : k = n := by omega
      go_wp2_with fail
      go_ret
      exact ⟨ret_int (fx_miss p k HP.out).symm, _, HS.out⟩

set_option maxHeartbeats 1000000 in
theorem contains_backL (S : Nat → World → Prop) (p : Nat → Bool) (g : Nat) (lb : Array Value) (eg : ∀ args w, (callFunc g args).run Try.prog w = .ok (.enter g args) w)
    (L : List Bk) (a : Option Addr) (c B : Nat) (w : World) (hl : L.length ≤ 9223372036854775807)
    (hro : ∀ k W, S k W → Ro W B a (bcs L)) (h0 : S 0 w)
    (hf : ∀ k W, k < L.length → S k W → Calls Try.prog g (#[bkv (bk L k)] ++ lb) W fun e w' => e = .returned (.bool (p k)) ∧ S (k + 1) w') :
    Calls Try.prog 34 #[.slice a L.length c, .func (.func g) #[] lb] w fun e w' => e = .returned (.bool (anyN p L.length)) ∧ ∃ k, S k w' := by
  have HC := Lib.hid (index_backL S p g lb eg L a c B w hl hro h0 hf)
  clear hro h0 hf
  obtain ⟨z, hz⟩ : ∃ z, z = fx p L.length := ⟨_, rfl⟩
  unfold anyN
  rw [← hz] at HC ⊢
  clear hz
  go_enter Try.func34, Try.ntmps34
  go_wp2_with fail
  refine HC.out.mono ?_
  rintro e w' ⟨rfl, hs⟩
  have HS := Lib.hid hs
  clear hs
  go_wp2_with fail
  go_ret
  exact ⟨rfl, HS.out⟩

theorem below_any (n l : Int) (w : World) :
    Calls Try.prog 17 #[.int .i64 n, .int .i64 l] w fun e w' => e = .returned (.bool (blw n l)) ∧ w' = w := by
  unfold blw
  by_cases h0 : 0 ≤ n
  · have e0 : decide (0 ≤ n) = true := by simpa using h0
    rw [e0, Bool.true_and]
    go_enter Try.func17, Try.ntmps17
    go_wp2_with fail
    go_ret
    exact ⟨rfl, rfl⟩
  · have e0 : decide (0 ≤ n) = false := by simpa using h0
    rw [e0, Bool.false_and]
    have h1 : n < 0 := by omega
    clear h0
    go_enter Try.func17, Try.ntmps17
    go_wp2_with fail
    go_ret
    exact ⟨rfl, rfl⟩
theorem isReq_any (k : Int) (w : World) :
    Calls Try.prog 31 #[.int .i64 k] w fun e w' => e = .returned (.bool (isReq k)) ∧ w' = w := by
  unfold isReq
  by_cases h0 : 1 ≤ k
  · have e0 : decide (1 ≤ k) = true := by simpa using h0
    rw [e0, Bool.true_and]
    go_enter Try.func31, Try.ntmps31
    go_wp2_with fail
    go_ret
    exact ⟨rfl, rfl⟩
  · have e0 : decide (1 ≤ k) = false := by simpa using h0
    rw [e0, Bool.false_and]
    go_enter Try.func31, Try.ntmps31
    go_wp2_with fail
    go_ret
    exact ⟨rfl, rfl⟩
theorem rkinds_any (k f : Int) (w : World) :
    Calls Try.prog 15 #[.int .i64 k, .int .i64 f] w fun e w' => e = .returned (.bool (kindsOk k f)) ∧ w' = w := by
  unfold kindsOk
  have H1 := Lib.hid (isReq_any k w)
  have H2 := Lib.hid (isReq_any f w)
  by_cases h : k = 14
  · subst h
    rw [if_pos rfl]
    generalize isReq f = t at *
    go_enter Try.func15, Try.ntmps15
    go_wp2_with fail
    refine H2.out.mono ?_
    rintro e w' ⟨rfl, rfl⟩
    go_wp2_with fail
    go_ret
    exact ⟨rfl, rfl⟩
  · rw [if_neg h]
    have e0 : (k == 14) = false := by rw [beq_eq_false_iff_ne]; exact h
    generalize isReq k = t at *
    clear h
    cases t with
    | true =>
      go_enter Try.func15, Try.ntmps15
      go_wp2_with fail
      refine H1.out.mono ?_
      rintro e w' ⟨rfl, rfl⟩
      go_wp2_with fail
      go_ret
      exact ⟨ret_bool (by rw [Bool.true_and]; rfl), rfl⟩
    | false =>
      go_enter Try.func15, Try.ntmps15
      go_wp2_with fail
      refine H1.out.mono ?_
      rintro e w' ⟨rfl, rfl⟩
      go_wp2_with fail
      go_ret
      exact ⟨rfl, rfl⟩
theorem rplace_any (p : Int × Int) (w : World) :
    Calls Try.prog 16 #[.agg #[.int .i64 p.1, .int .i64 p.2]] w fun e w' => e = .returned (.bool (plOk p)) ∧ Below w.heap.size w w' := by
  obtain ⟨r, n⟩ := p
  simp only
  have HB := Lib.hid ((Below.refl w.heap.size w).alloc (Nat.le_refl _) (.cells #[.int .i64 r, .int .i64 n] 25))
  have HK := Lib.hid (fun l => below_any n l (w.alloc (.cells #[.int .i64 r, .int .i64 n] 25)))
  unfold plOk plMost
  simp only
  by_cases h1 : r = 1
  · subst h1
    rw [if_pos (by simp)]
    have HK32 := Lib.hid (HK.out 32)
    generalize blw n 32 = t at *
    clear HK
    go_enter Try.func16, Try.ntmps16
    go_wp2_with fail
    refine HK32.out.mono ?_
    rintro e w' ⟨rfl, rfl⟩
    go_wp2_with fail
    go_ret
    exact ⟨rfl, HB.out⟩
  by_cases h2 : r = 2
  · subst h2
    rw [if_pos (by simp)]
    clear h1
    have HK32 := Lib.hid (HK.out 32)
    generalize blw n 32 = t at *
    clear HK
    go_enter Try.func16, Try.ntmps16
    go_wp2_with fail
    refine HK32.out.mono ?_
    rintro e w' ⟨rfl, rfl⟩
    go_wp2_with fail
    go_ret
    exact ⟨rfl, HB.out⟩
  by_cases h3 : r = 3
  · subst h3
    rw [if_neg (by omega), if_pos rfl]
    clear h1 h2
    have HK3 := Lib.hid (HK.out 3)
    generalize blw n 3 = t at *
    clear HK
    go_enter Try.func16, Try.ntmps16
    go_wp2_with fail
    refine HK3.out.mono ?_
    rintro e w' ⟨rfl, rfl⟩
    go_wp2_with fail
    go_ret
    exact ⟨rfl, HB.out⟩
  by_cases h4 : r = 4
  · subst h4
    rw [if_neg (by omega), if_neg (by omega), if_pos rfl]
    clear h1 h2 h3
    have HK4 := Lib.hid (HK.out 4)
    generalize blw n 4 = t at *
    clear HK
    go_enter Try.func16, Try.ntmps16
    go_wp2_with fail
    refine HK4.out.mono ?_
    rintro e w' ⟨rfl, rfl⟩
    go_wp2_with fail
    go_ret
    exact ⟨rfl, HB.out⟩
  · rw [if_neg (by omega), if_neg h3, if_neg h4]
    have e0 : blw n 0 = false := by unfold blw; by_cases h : 0 ≤ n <;> simp [h] <;> omega
    have e1 : (r == 1) = false := by rw [beq_eq_false_iff_ne]; exact h1
    have e2 : (r == 2) = false := by rw [beq_eq_false_iff_ne]; exact h2
    have e3 : (r == 3) = false := by rw [beq_eq_false_iff_ne]; exact h3
    have e4 : (r == 4) = false := by rw [beq_eq_false_iff_ne]; exact h4
    rw [e0]
    clear h1 h2 h3 h4 e0
    go_enter Try.func16, Try.ntmps16
    go_wp2_with fail
    go_ret
    exact ⟨rfl, HB.out⟩
theorem rballot_any (p : Int × Int) (w : World) :
    Calls Try.prog 18 #[.agg #[.int .i64 p.1, .int .i64 p.2]] w fun e w' => e = .returned (.bool (baOk p)) ∧ Below w.heap.size w w' := by
  obtain ⟨r, n⟩ := p
  simp only
  have HB := Lib.hid ((Below.refl w.heap.size w).alloc (Nat.le_refl _) (.cells #[.int .i64 r, .int .i64 n] 35))
  have HK := Lib.hid (below_any r 65536 (w.alloc (.cells #[.int .i64 r, .int .i64 n] 35)))
  have HL := Lib.hid (below_any n 4 (w.alloc (.cells #[.int .i64 r, .int .i64 n] 35)))
  unfold baOk
  simp only
  generalize blw r 65536 = t at *
  generalize blw n 4 = u at *
  cases t with
  | true =>
    go_enter Try.func18, Try.ntmps18
    go_wp2_with fail
    refine HK.out.mono ?_
    rintro e w' ⟨rfl, rfl⟩
    go_wp2_with fail
    refine HL.out.mono ?_
    rintro e w' ⟨rfl, rfl⟩
    go_wp2_with fail
    go_ret
    exact ⟨rfl, HB.out⟩
  | false =>
    go_enter Try.func18, Try.ntmps18
    go_wp2_with fail
    refine HK.out.mono ?_
    rintro e w' ⟨rfl, rfl⟩
    go_wp2_with fail
    go_ret
    exact ⟨rfl, HB.out⟩
theorem mis1_any (s m : Int) (g : Nat) (w : World) (h : Own w g 3 [.int .i64 m]) :
    Calls Try.prog 52 #[.int .i64 s, .pointer (some ⟨g, 0, none⟩)] w fun e w' => e = .returned (.bool (mis m s)) ∧ w' = w.setCell ⟨g, 0, none⟩ (.int .i64 (wrap64 (s + 1))) := by
  have hc := h.cell 0
  have hf := h.frozen 0
  have hz := h.lt
  simp at hc
  unfold mis
  clear h
  by_cases h0 : s < m
  · have e0 : decide (s < m) = true := by simpa using h0
    rw [e0, Bool.true_or]
    go_enter Try.func52, Try.ntmps52
    go_wp2_with fail
    go_ret
    exact ⟨rfl, rfl⟩
  · have e0 : decide (s < m) = false := by simpa using h0
    rw [e0, Bool.false_or]
    go_enter Try.func52, Try.ntmps52
    go_wp2_with fail
    go_ret
    exact ⟨rfl, rfl⟩
theorem misplaced_any (w : World) :
    Calls Try.prog 33 #[] w fun e w' => e = .returned (.func (.func 52) #[] #[.pointer (some ⟨w.heap.size, 0, none⟩)]) ∧ w' = w.alloc (.cells #[.int .i64 0] 3) := by
  go_enter Try.func33, Try.ntmps33
  go_wp2_with fail
  go_ret
  exact ⟨rfl, rfl⟩

set_option maxHeartbeats 1000000 in
theorem rstreams_any (L : List Int) (a : Option Addr) (c B : Nat) (w : World) (hro : Ro w B a (i64s L)) (hB : B ≤ w.heap.size) (hl : L.length ≤ 9223372036854775807) :
    Calls Try.prog 19 #[.slice a L.length c] w fun e w' => e = .returned (.bool (stOk L)) ∧ Below w.heap.size w w' := by
  have eg : ∀ args w, (callFunc 52 args).run Try.prog w = .ok (.enter 52 args) w := enters_of Try.func52 (by kernel_rfl) rfl
  obtain ⟨t, ht⟩ : ∃ t, t = anyN (fun k => mis (leastI L k) (L.getD k 0)) L.length := ⟨_, rfl⟩
  have HC : Hid (L.length ≤ 4 → Calls Try.prog 32 #[.slice a L.length c, .func (.func 52) #[] #[.pointer (some ⟨w.heap.size, 0, none⟩)]] (w.alloc (.cells #[.int .i64 0] 3)) fun e w' => e = .returned (.bool t) ∧ Below w.heap.size w w') := by
    apply Lib.hid
    intro h4
    refine (contains_int (fun k W => Own W w.heap.size 3 [.int .i64 (leastI L k)] ∧ Below w.heap.size w W) (fun W => Below w.heap.size w W) (fun k => mis (leastI L k) (L.getD k 0)) 52 #[.pointer (some ⟨w.heap.size, 0, none⟩)] eg L a c B _ (by omega) (fun k W' h => hro.below h.2 hB) ⟨Own.new w _ _, (Below.refl _ _).alloc (Nat.le_refl _) _⟩ (fun k W' hk h => ?_)).mono ?_
    · obtain ⟨o1, o2⟩ := h
      refine (mis1_any (L.getD k 0) (leastI L k) w.heap.size W' o1).mono ?_
      rintro e w' ⟨rfl, rfl⟩
      refine ⟨rfl, fun _ => o2.setCell (Nat.le_refl _) _, fun _ => ⟨?_, o2.setCell (Nat.le_refl _) _⟩⟩
      have := o1.set 0 (.int .i64 (wrap64 (L.getD k 0 + 1)))
      simpa [leastI] using this
    · rintro e w' ⟨rfl, h⟩
      rw [ht]
      exact ⟨rfl, by rcases h with h | h; exact h; exact h.2⟩
  unfold stOk
  rw [← ht]
  generalize L.length = n at *
  clear ht hro
  by_cases h4 : n ≤ 4
  · have e0 : decide (n ≤ 4) = true := by simpa using h4
    have HM := Lib.hid (misplaced_any w)
    have HC4 := Lib.hid (HC.out h4)
    rw [e0, Bool.true_and]
    go_enter Try.func19, Try.ntmps19
    go_wp2_with fail
    refine HM.out.mono ?_
    rintro e w' ⟨rfl, rfl⟩
    go_wp2_with fail
    refine HC4.out.mono ?_
    rintro e w' ⟨rfl, hb⟩
    have HB := Lib.hid hb
    clear hb
    go_wp2_with fail
    go_ret
    exact ⟨rfl, HB.out⟩
  · have e0 : decide (n ≤ 4) = false := by simpa using h4
    rw [e0, Bool.false_and]
    clear HC
    go_enter Try.func19, Try.ntmps19
    go_wp2_with fail
    go_ret
    exact ⟨rfl, Below.refl _ _⟩

set_option maxHeartbeats 1000000 in
theorem mb1_any (b : Bk) (m : Int) (g p : Nat) (w : World) (h : Own w g 3 [.int .i64 m]) (hp : w.cell? ⟨p, 0, none⟩ = some (.func (.func 52) #[] #[.pointer (some ⟨g, 0, none⟩)])) (hpg : g < p) :
    Calls Try.prog 35 #[bkv b, .pointer (some ⟨p, 0, none⟩)] w fun e w' => e = .returned (.bool (mbad m b)) ∧ Own w' g 3 [.int .i64 (wrap64 (b.1 + 1))] ∧ w'.cell? ⟨p, 0, none⟩ = some (.func (.func 52) #[] #[.pointer (some ⟨g, 0, none⟩)]) ∧ Below g w w' := by
  have eg : ∀ args w, (callFunc 52 args).run Try.prog w = .ok (.enter 52 args) w := enters_of Try.func52 (by kernel_rfl) rfl
  obtain ⟨W, HWW⟩ : ∃ W, Hid (w.alloc (.cells #[.int .i64 b.1, .int .u64 (b.2.1 : Int), .int .u64 (b.2.2 : Int)] 54) = W) := ⟨_, Lib.hid rfl⟩
  have hWc : Chg [] w W := by rw [← HWW.out]; exact (Chg.refl [] w).alloc _
  have HO : Hid (Own W w.heap.size 54 [.int .i64 b.1, .int .u64 (b.2.1 : Int), .int .u64 (b.2.2 : Int)]) := Lib.hid (by rw [← HWW.out]; exact Own.new w _ _)
  have HG : Hid (Own W g 3 [.int .i64 m]) := Lib.hid (h.chg hWc (by simp))
  have HP := Lib.hid (hWc.cell hp (by simp))
  have HGZ := Lib.hid h.lt
  have HPZ := Lib.hid (World.block_lt_of_cell? _ _ hp)
  have HPG := Lib.hid hpg
  have HM := Lib.hid (mis1_any b.1 m g W HG.out)
  have HB := Lib.hid (hWc.low.mono (Nat.le_of_lt h.lt))
  unfold mbad
  obtain ⟨t, HT⟩ : ∃ t, Hid (mis m b.1 = t) := ⟨_, Lib.hid rfl⟩
  obtain ⟨u, HU⟩ : ∃ u, Hid (right ⟨1, [], [b]⟩ = u) := ⟨_, Lib.hid rfl⟩
  rw [HT.out] at HM ⊢
  rw [HU.out]
  have c0 := HP.out
  have d0 := HO.out.cell 0
  have d1 := HO.out.cell 1
  have d2 := HO.out.cell 2
  simp at d0 d1 d2
  clear h hp hWc hpg
  obtain ⟨s, q, r⟩ := b
  simp only at *
  cases t with
  | true =>
    go_enter Try.func35, Try.ntmps35
    go_upto_region 1 with fail
    rw [HWW.out]
    go_wp2_with fail
    refine HM.out.mono ?_
    rintro e w' ⟨rfl, rfl⟩
    go_wp2_with fail
    go_ret
    exact ⟨rfl, by simpa using HG.out.set 0 _, (Chg.cell (l := [g]) ((Chg.refl [g] W).setCell (by simp) _) HP.out (by have := HPG.out; simp; omega)), HB.out.setCell (Nat.le_refl _) _⟩
  | false =>
    go_enter Try.func35, Try.ntmps35
    go_upto_region 1 with fail
    rw [HWW.out]
    go_wp2_with fail
    refine HM.out.mono ?_
    rintro e w' ⟨rfl, rfl⟩
    have hsc : Chg [g] W (W.setCell ⟨g, 0, none⟩ (.int .i64 (wrap64 (s + 1)))) := (Chg.refl [g] W).setCell (by simp) _
    have HO2 := Lib.hid (HO.out.chg hsc (by have := HGZ.out; simp; omega))
    have HG2 : Hid (Own (W.setCell ⟨g, 0, none⟩ (.int .i64 (wrap64 (s + 1)))) g 3 [.int .i64 (wrap64 (s + 1))]) := Lib.hid (by simpa using HG.out.set 0 (.int .i64 (wrap64 (s + 1))))
    have HP2 := Lib.hid (hsc.cell HP.out (by have := HPG.out; simp; omega))
    have HB2 : Hid (Below g w (W.setCell ⟨g, 0, none⟩ (.int .i64 (wrap64 (s + 1))))) := Lib.hid (HB.out.setCell (Nat.le_refl _) _)
    have HG3 := Lib.hid HG2.out.lt
    generalize W.setCell ⟨g, 0, none⟩ (.int .i64 (wrap64 (s + 1))) = W2 at *
    clear hsc c0 d0 d1 d2
    have d0 := HO2.out.cell 0
    have d1 := HO2.out.cell 1
    have d2 := HO2.out.cell 2
    simp at d0 d1 d2
    have HRO : Hid (Ro (W2.alloc (.cells #[.int .i64 s, .int .u64 (q : Int), .int .u64 (r : Int)] 54)) (W2.heap.size + 1) (some ⟨W2.heap.size, 0, none⟩) (bcs [(s, q, r)])) := Lib.hid ((Own.new W2 54 [.int .i64 s, .int .u64 (q : Int), .int .u64 (r : Int)]).ro _ (by omega))
    have HR := Lib.hid (right_any ⟨1, [], [(s, q, r)]⟩ none 0 (some ⟨W2.heap.size, 0, none⟩) 1 (W2.heap.size + 1) _ HRO.out (by simp) (by simp) (by simp))
    rw [HU.out] at HR
    simp only [List.length_cons, List.length_nil, Nat.zero_add] at HR
    go_wp2_with fail
    refine HR.out.mono ?_
    rintro e w3 ⟨rfl, hb⟩
    have HB3 := Lib.hid hb
    clear hb d0 d1 d2
    go_wp2_with fail
    go_ret
    have hb2 : Below W2.heap.size W2 w3 := ((Below.refl _ _).alloc (Nat.le_refl _) _).trans (HB3.out.mono (by simp))
    exact ⟨rfl, HG2.out.below hb2 HG3.out, cell_keep hb2 HP2.out (World.block_lt_of_cell? _ _ HP2.out), HB2.out.trans (hb2.mono (by have := HG3.out; omega))⟩

set_option maxHeartbeats 1000000 in
theorem rbacks_any (L : List Bk) (a : Option Addr) (c B : Nat) (w : World) (hro : Ro w B a (bcs L)) (hB : B ≤ w.heap.size) (hl : L.length ≤ 9223372036854775807) :
    Calls Try.prog 20 #[.slice a L.length c] w fun e w' => e = .returned (.bool (mbOk L)) ∧ Below w.heap.size w w' := by
  have eg : ∀ args w, (callFunc 35 args).run Try.prog w = .ok (.enter 35 args) w := enters_of Try.func35 (by kernel_rfl) rfl
  obtain ⟨t, ht⟩ : ∃ t, t = anyN (fun k => mbad (least L k) (bk L k)) L.length := ⟨_, rfl⟩
  obtain ⟨FV, hFV⟩ : ∃ FV : Value, FV = .func (.func 52) #[] #[.pointer (some ⟨w.heap.size, 0, none⟩)] := ⟨_, rfl⟩
  obtain ⟨W, HWW⟩ : ∃ W, Hid ((w.alloc (.cells #[.int .i64 0] 3)).alloc (.cells #[.func (.func 52) #[] #[.pointer (some ⟨w.heap.size, 0, none⟩)]] 72) = W) := ⟨_, Lib.hid rfl⟩
  have hWc : Chg [] w W := by rw [← HWW.out]; exact ((Chg.refl [] w).alloc _).alloc _
  have o1 : Own W w.heap.size 3 [.int .i64 0] := by rw [← HWW.out]; exact (Own.new w _ _).alloc _
  have o2 : Own W (w.heap.size + 1) 72 [.func (.func 52) #[] #[.pointer (some ⟨w.heap.size, 0, none⟩)]] := by
    rw [← HWW.out]
    have := Own.new (w.alloc (.cells #[.int .i64 0] 3)) 72 [.func (.func 52) #[] #[.pointer (some ⟨w.heap.size, 0, none⟩)]]
    simpa using this
  have c2 := o2.cell 0
  simp at c2
  have HC : Hid (Calls Try.prog 34 #[.slice a L.length c, .func (.func 35) #[] #[.pointer (some ⟨w.heap.size + 1, 0, none⟩)]] W fun e w' => e = .returned (.bool t) ∧ Below w.heap.size w w') := by
    apply Lib.hid
    refine (contains_backL (fun k W => Own W w.heap.size 3 [.int .i64 (least L k)] ∧ W.cell? ⟨w.heap.size + 1, 0, none⟩ = some (.func (.func 52) #[] #[.pointer (some ⟨w.heap.size, 0, none⟩)]) ∧ Below w.heap.size w W) (fun k => mbad (least L k) (bk L k)) 35 #[.pointer (some ⟨w.heap.size + 1, 0, none⟩)] eg L a c B _ hl (fun k W' h => hro.below h.2.2 hB) ⟨o1, c2, hWc.low⟩ (fun k W' hk h => ?_)).mono ?_
    · obtain ⟨o1, o2, o3⟩ := h
      refine (mb1_any (bk L k) (least L k) w.heap.size (w.heap.size + 1) W' o1 o2 (Nat.lt_succ_self _)).mono ?_
      rintro e w' ⟨rfl, o4, o5, o6⟩
      exact ⟨rfl, by simpa [least] using o4, o5, o3.trans o6⟩
    · rintro e w' ⟨rfl, k, hk⟩
      rw [ht]
      exact ⟨rfl, hk.2.2⟩
  unfold mbOk
  rw [← ht]
  have HM := Lib.hid (misplaced_any w)
  generalize L.length = n at *
  clear ht hro hWc o1 o2 c2 hFV
  go_enter Try.func20, Try.ntmps20
  go_wp2_with fail
  refine HM.out.mono ?_
  rintro e w' ⟨rfl, rfl⟩
  go_upto_region 2 with fail
  rw [HWW.out]
  go_wp2_with fail
  refine HC.out.mono ?_
  rintro e w' ⟨rfl, hb⟩
  have HB := Lib.hid hb
  clear hb
  go_wp2_with fail
  go_ret
  exact ⟨rfl, HB.out⟩
end Go.Proofs.Ytdblplkaobeimaa
namespace Go.Proofs.Ytdblplkaobeimaa
open Go.RowKit Go.Deep Go.Shelf
set_option linter.unusedVariables false
set_option linter.unusedSimpArgs false

theorem rcell_any (x : Ce) (a : Option Addr) (c : Nat) (a2 : Option Addr) (c2 B : Nat) (w : World) (hro : Ro w B a (u8s x.d)) (hro2 : Ro w B a2 (bcs x.b)) (hB : B ≤ w.heap.size) (hl : x.b.length ≤ 9223372036854775807) (hl2 : x.d.length ≤ 9223372036854775807) :
    Calls Try.prog 21 #[cev x.k a x.d.length c a2 x.b.length c2] w fun e w' => e = .returned (.bool (mcOk x)) ∧ Below w.heap.size w w' := by
  obtain ⟨W, HWW⟩ : ∃ W, Hid (w.alloc (.cells #[.int .i64 x.k, .slice a x.d.length c, .slice a2 x.b.length c2] 32) = W) := ⟨_, Lib.hid rfl⟩
  have hWb : Below w.heap.size w W := by rw [← HWW.out]; exact (Below.refl _ _).alloc (Nat.le_refl _) _
  have HO : Hid (Own W w.heap.size 32 [.int .i64 x.k, .slice a x.d.length c, .slice a2 x.b.length c2]) := Lib.hid (by rw [← HWW.out]; exact Own.new w _ _)
  have HR := Lib.hid (right_any x a c a2 c2 B W (hro2.below hWb hB) (Nat.le_trans hB hWb.size) hl hl2)
  have HS := Lib.hid (fun (W' : World) (hb : Below W.heap.size W W') => same_any x noC a c a2 c2 none 0 none 0 B W' (hro.below (hWb.trans (hb.mono hWb.size)) hB) (hro2.below (hWb.trans (hb.mono hWb.size)) hB) (Ro.nil _ _ _) (Ro.nil _ _ _) (Nat.le_trans hB (Nat.le_trans hWb.size hb.size)) hl (by simp [noC]))
  have HB := Lib.hid hWb
  unfold mcOk
  generalize right x = t at *
  generalize alike x noC = u at *
  simp only [noC, List.length_nil] at HS
  have c0 := HO.out.cell 0
  have c1 := HO.out.cell 1
  have c2' := HO.out.cell 2
  have hz := HO.out.lt
  simp at c0 c1 c2'
  clear hWb hro hro2
  generalize x.d.length = n at *
  generalize x.b.length = m at *
  generalize x.k = k at *
  cases t with
  | true =>
    go_enter Try.func21, Try.ntmps21
    go_upto_region 1 with fail
    rw [HWW.out]
    go_wp2_with fail
    refine HR.out.mono ?_
    rintro e w1 ⟨rfl, hb⟩
    have HB1 := Lib.hid (HB.out.trans (hb.mono HB.out.size))
    clear hb
    go_wp2_with fail
    go_ret
    exact ⟨rfl, HB1.out⟩
  | false =>
    go_enter Try.func21, Try.ntmps21
    go_upto_region 1 with fail
    rw [HWW.out]
    go_wp2_with fail
    refine HR.out.mono ?_
    rintro e w1 ⟨rfl, hb⟩
    have HB1 := Lib.hid (HB.out.trans (hb.mono HB.out.size))
    have HBW := Lib.hid hb
    have HO1 := Lib.hid (HO.out.below hb HO.out.lt)
    clear hb c0 c1 c2'
    have c0 := HO1.out.cell 0
    have c1 := HO1.out.cell 1
    have c2' := HO1.out.cell 2
    simp at c0 c1 c2'
    go_wp2_with fail
    refine (HS.out w1 HBW.out).mono ?_
    rintro e w2 ⟨rfl, hb⟩
    have HB2 := Lib.hid (HB1.out.trans (hb.mono HB1.out.size))
    clear hb
    go_wp2_with fail
    go_ret
    exact ⟨rfl, HB2.out⟩
theorem rlayout_any (A : LyT) (B : Nat) (w : World) (h : LyIn w B A) (hB : B ≤ w.heap.size) (hf : SgFit A.sg) :
    Calls Try.prog 22 #[A.val] w fun e w' => e = .returned (.bool (mlOk A.x)) ∧ Below w.heap.size w w' := by
  obtain ⟨W, HWW⟩ : ∃ W, Hid (w.alloc (.cells #[.int .u64 (A.e : Int), .slice A.a A.sg.length A.c, .int .i64 A.q] 38) = W) := ⟨_, Lib.hid rfl⟩
  have hWb : Below w.heap.size w W := by rw [← HWW.out]; exact (Below.refl _ _).alloc (Nat.le_refl _) _
  have HO : Hid (Own W w.heap.size 38 [.int .u64 (A.e : Int), .slice A.a A.sg.length A.c, .int .i64 A.q]) := Lib.hid (by rw [← HWW.out]; exact Own.new w _ _)
  have HR := Lib.hid (lright_any A B W (h.below hWb hB) (Nat.le_trans hB hWb.size) hf)
  have HS := Lib.hid (fun (W' : World) (hb : Below W.heap.size W W') => lsame_any A ⟨0, none, 0, [], 0⟩ B W' (h.below (hWb.trans (hb.mono hWb.size)) hB) ⟨Ro.nil _ _ _, fun s hs => by cases hs⟩ hf ⟨by simp, fun s hs => by cases hs⟩ (Nat.le_trans hB (Nat.le_trans hWb.size hb.size)))
  have HB := Lib.hid hWb
  unfold mlOk
  rw [show noL = LyT.x ⟨0, none, 0, [], 0⟩ from rfl]
  generalize lright A.x = t at *
  generalize lalike A.x (LyT.x ⟨0, none, 0, [], 0⟩) = u at *
  obtain ⟨ep, a, c, L, q⟩ := A
  simp only [LyT.val, List.length_nil] at *
  generalize L.length = n at *
  have c0 := HO.out.cell 0
  have c1 := HO.out.cell 1
  have c2' := HO.out.cell 2
  have hz := HO.out.lt
  simp at c0 c1 c2'
  clear hWb h hf
  cases t with
  | true =>
    go_enter Try.func22, Try.ntmps22
    go_upto_region 1 with fail
    rw [HWW.out]
    go_wp2_with fail
    refine HR.out.mono ?_
    rintro e w1 ⟨rfl, hb⟩
    have HB1 := Lib.hid (HB.out.trans (hb.mono HB.out.size))
    clear hb
    go_wp2_with fail
    go_ret
    exact ⟨rfl, HB1.out⟩
  | false =>
    go_enter Try.func22, Try.ntmps22
    go_upto_region 1 with fail
    rw [HWW.out]
    go_wp2_with fail
    refine HR.out.mono ?_
    rintro e w1 ⟨rfl, hb⟩
    have HB1 := Lib.hid (HB.out.trans (hb.mono HB.out.size))
    have HBW := Lib.hid hb
    have HO1 := Lib.hid (HO.out.below hb HO.out.lt)
    clear hb c0 c1 c2'
    have c0 := HO1.out.cell 0
    have c1 := HO1.out.cell 1
    have c2' := HO1.out.cell 2
    simp at c0 c1 c2'
    go_wp2_with fail
    refine (HS.out w1 HBW.out).mono ?_
    rintro e w2 ⟨rfl, hb⟩
    have HB2 := Lib.hid (HB1.out.trans (hb.mono HB1.out.size))
    clear hb
    go_wp2_with fail
    go_ret
    exact ⟨rfl, HB2.out⟩

set_option maxHeartbeats 8000000 in
set_option maxRecDepth 100000 in
theorem mright_any (A : MgT) (B : Nat) (w : World) (h : MgIn w B A) (hB : B ≤ w.heap.size) (hf : MgFit A) :
    Calls Try.prog 7 #[A.val] w fun e w' => e = .returned (.bool (mright A.x)) ∧ Below w.heap.size w w' := by
  obtain ⟨W, HWW⟩ : ∃ W, Hid (w.alloc (.cells A.cs.toArray 40) = W) := ⟨_, Lib.hid rfl⟩
  have hWb : Below w.heap.size w W := by rw [← HWW.out]; exact (Below.refl _ _).alloc (Nat.le_refl _) _
  have HO0 : Hid (Own W w.heap.size 40 A.cs) := Lib.hid (by rw [← HWW.out]; exact Own.new w _ _)
  have HB := Lib.hid hWb
  have hin := fun (W' : World) (hb : Below w.heap.size w W') => h.below hb hB
  have HSZ := Lib.hid hB
  have H1 := Lib.hid (rkinds_any A.k A.f W)
  have H2 := Lib.hid (fun (W' : World) => rplace_any A.fr W')
  have H3 := Lib.hid (fun (W' : World) => rplace_any A.to W')
  have H4 := Lib.hid (fun (W' : World) => below_any A.id 1048576 W')
  have H7 := Lib.hid (fun (W' : World) => below_any A.er 256 W')
  have H8 := Lib.hid (fun (W' : World) => rballot_any A.ba W')
  have H9 := Lib.hid (fun (W' : World) => rballot_any A.pr W')
  have H10 := Lib.hid (fun (W' : World) (hb : Below w.heap.size w W') => rstreams_any A.st A.sa A.sc B W' (hin W' hb).st (Nat.le_trans hB hb.size) hf.st)
  have H11 := Lib.hid (fun (W' : World) (hb : Below w.heap.size w W') => rbacks_any A.bk A.ka A.kc B W' (hin W' hb).bk (Nat.le_trans hB hb.size) hf.bk)
  have H12 := Lib.hid (fun (W' : World) (hb : Below w.heap.size w W') => rcell_any A.c A.ca A.cc A.ca2 A.cc2 B W' (hin W' hb).d (hin W' hb).b (Nat.le_trans hB hb.size) hf.b hf.d)
  have H13 := Lib.hid (fun (W' : World) (hb : Below w.heap.size w W') => rlayout_any A.ly B W' (hin W' hb).ly (Nat.le_trans hB hb.size) hf.ly)
  obtain ⟨k, ⟨fr1, fr2⟩, ⟨to1, to2⟩, id, f, ep, ad, er, ⟨ck, cd, cb⟩, ca, cc, ca2, cc2, st, sa, sc, bk, ka, kc, ⟨ba1, ba2⟩, ⟨pr1, pr2⟩, ly⟩ := A
  have hM : mright (MgT.x ⟨k, (fr1, fr2), (to1, to2), id, f, ep, ad, er, ⟨ck, cd, cb⟩, ca, cc, ca2, cc2, st, sa, sc, bk, ka, kc, (ba1, ba2), (pr1, pr2), ly⟩) = (kindsOk k f && (plOk (fr1, fr2) && (plOk (to1, to2) && (blw id 1048576 && (decide (ep ≤ 1048576) && (decide (ad ≤ 1048576) && (blw er 256 && (baOk (ba1, ba2) && (baOk (pr1, pr2) && (stOk st && (mbOk bk && (mcOk ⟨ck, cd, cb⟩ && mlOk ly.x)))))))))))) := rfl
  rw [hM]
  clear hM
  simp only [MgT.x, MgT.val, MgT.cs] at *
  generalize kindsOk k f = r1 at *
  generalize plOk (fr1, fr2) = r2 at *
  generalize plOk (to1, to2) = r3 at *
  generalize blw id 1048576 = r4 at *
  generalize blw er 256 = r7 at *
  generalize baOk (ba1, ba2) = r8 at *
  generalize baOk (pr1, pr2) = r9 at *
  generalize stOk st = r10 at *
  generalize mbOk bk = r11 at *
  generalize mcOk ⟨ck, cd, cb⟩ = r12 at *
  generalize mlOk ly.x = r13 at *
  have e5' : decide ((ep : Int) ≤ 1048576) = decide (ep ≤ 1048576) := by rw [decide_eq_decide]; omega
  have e6' : decide ((ad : Int) ≤ 1048576) = decide (ad ≤ 1048576) := by rw [decide_eq_decide]; omega
  generalize decide (ep ≤ 1048576) = r5 at *
  generalize decide (ad ≤ 1048576) = r6 at *
  obtain ⟨le, la, lc, LL, lq⟩ := ly
  simp only [LyT.val] at *
  generalize cd.length = cn at *
  generalize cb.length = cn2 at *
  generalize st.length = sn at *
  generalize bk.length = kn at *
  generalize LL.length = ln at *
  clear hWb hin h hf hB
  go_enter Try.func7, Try.ntmps7
  go_wp2_with fail
  rw [HWW.out]
  refine H1.out.mono ?_
  rintro e w1 ⟨rfl, rfl⟩
  rename World => w1
  have HO1 := HO0
  have HB1 := HB
  cases r1 with
  | false =>
    go_wp2_with fail
    go_ret
    exact ⟨rfl, HB1.out⟩
  | true =>
  have c1 := HO1.out.cell 1
  have c2 := HO1.out.cell 2
  simp at c1 c2
  have hz := HO1.out.lt
  go_wp2_with fail
  refine (H2.out w1).mono ?_
  rintro e w2 ⟨rfl, hb⟩
  have HB2 := Lib.hid (HB1.out.trans (hb.mono HB1.out.size))
  have HO2 := Lib.hid (HO1.out.below hb HO1.out.lt)
  clear hb
  clear hz c1 c2
  cases r2 with
  | false =>
    go_wp2_with fail
    go_ret
    exact ⟨rfl, HB2.out⟩
  | true =>
  have c3 := HO2.out.cell 3
  have c4 := HO2.out.cell 4
  simp at c3 c4
  have hz := HO2.out.lt
  go_wp2_with fail
  refine (H3.out w2).mono ?_
  rintro e w3 ⟨rfl, hb⟩
  have HB3 := Lib.hid (HB2.out.trans (hb.mono HB2.out.size))
  have HO3 := Lib.hid (HO2.out.below hb HO2.out.lt)
  clear hb
  clear hz c3 c4
  cases r3 with
  | false =>
    go_wp2_with fail
    go_ret
    exact ⟨rfl, HB3.out⟩
  | true =>
  have c5 := HO3.out.cell 5
  simp at c5
  have hz := HO3.out.lt
  go_wp2_with fail
  refine (H4.out w3).mono ?_
  rintro e w4 ⟨rfl, rfl⟩
  have HB4 := HB3
  have HO4 := HO3
  rename World => w4
  clear hz c5
  cases r4 with
  | false =>
    go_wp2_with fail
    go_ret
    exact ⟨rfl, HB4.out⟩
  | true =>
  have c7 := HO4.out.cell 7
  have c8 := HO4.out.cell 8
  simp at c7 c8
  have hz := HO4.out.lt
  cases r5 with
  | false =>
    go_wp2_with fail
    go_ret
    exact ⟨rfl, HB4.out⟩
  | true =>
  cases r6 with
  | false =>
    go_wp2_with fail
    go_ret
    exact ⟨rfl, HB4.out⟩
  | true =>
  have c9 := HO4.out.cell 9
  simp at c9
  go_wp2_with fail
  refine (H7.out w4).mono ?_
  rintro e w5 ⟨rfl, rfl⟩
  have HB5 := HB4
  have HO5 := HO4
  rename World => w5
  clear hz c7 c8 c9 e5' e6'
  cases r7 with
  | false =>
    go_wp2_with fail
    go_ret
    exact ⟨rfl, HB5.out⟩
  | true =>
  have c15 := HO5.out.cell 15
  have c16 := HO5.out.cell 16
  simp at c15 c16
  have hz := HO5.out.lt
  go_wp2_with fail
  refine (H8.out w5).mono ?_
  rintro e w6 ⟨rfl, hb⟩
  have HB6 := Lib.hid (HB5.out.trans (hb.mono HB5.out.size))
  have HO6 := Lib.hid (HO5.out.below hb HO5.out.lt)
  clear hb
  clear hz c15 c16
  cases r8 with
  | false =>
    go_wp2_with fail
    go_ret
    exact ⟨rfl, HB6.out⟩
  | true =>
  have c17 := HO6.out.cell 17
  have c18 := HO6.out.cell 18
  simp at c17 c18
  have hz := HO6.out.lt
  go_wp2_with fail
  refine (H9.out w6).mono ?_
  rintro e w7 ⟨rfl, hb⟩
  have HB7 := Lib.hid (HB6.out.trans (hb.mono HB6.out.size))
  have HO7 := Lib.hid (HO6.out.below hb HO6.out.lt)
  clear hb
  clear hz c17 c18
  cases r9 with
  | false =>
    go_wp2_with fail
    go_ret
    exact ⟨rfl, HB7.out⟩
  | true =>
  have c13 := HO7.out.cell 13
  simp at c13
  have hz := HO7.out.lt
  go_wp2_with fail
  refine (H10.out w7 HB7.out).mono ?_
  rintro e w8 ⟨rfl, hb⟩
  have HB8 := Lib.hid (HB7.out.trans (hb.mono HB7.out.size))
  have HO8 := Lib.hid (HO7.out.below hb HO7.out.lt)
  clear hb
  clear hz c13
  cases r10 with
  | false =>
    go_wp2_with fail
    go_ret
    exact ⟨rfl, HB8.out⟩
  | true =>
  have c14 := HO8.out.cell 14
  simp at c14
  have hz := HO8.out.lt
  go_wp2_with fail
  refine (H11.out w8 HB8.out).mono ?_
  rintro e w9 ⟨rfl, hb⟩
  have HB9 := Lib.hid (HB8.out.trans (hb.mono HB8.out.size))
  have HO9 := Lib.hid (HO8.out.below hb HO8.out.lt)
  clear hb
  clear hz c14
  cases r11 with
  | false =>
    go_wp2_with fail
    go_ret
    exact ⟨rfl, HB9.out⟩
  | true =>
  have c10 := HO9.out.cell 10
  have c11 := HO9.out.cell 11
  have c12 := HO9.out.cell 12
  simp at c10 c11 c12
  have hz := HO9.out.lt
  go_wp2_with fail
  refine (H12.out w9 HB9.out).mono ?_
  rintro e w10 ⟨rfl, hb⟩
  have HB10 := Lib.hid (HB9.out.trans (hb.mono HB9.out.size))
  have HO10 := Lib.hid (HO9.out.below hb HO9.out.lt)
  clear hb
  clear hz c10 c11 c12
  cases r12 with
  | false =>
    go_wp2_with fail
    go_ret
    exact ⟨rfl, HB10.out⟩
  | true =>
  have c19 := HO10.out.cell 19
  have c20 := HO10.out.cell 20
  have c21 := HO10.out.cell 21
  simp at c19 c20 c21
  have hz := HO10.out.lt
  go_wp2_with fail
  refine (H13.out w10 HB10.out).mono ?_
  rintro e w11 ⟨rfl, hb⟩
  have HB11 := Lib.hid (HB10.out.trans (hb.mono HB10.out.size))
  have HO11 := Lib.hid (HO10.out.below hb HO10.out.lt)
  clear hb
  clear hz c19 c20 c21
  go_wp2_with fail
  go_ret
  exact ⟨rfl, HB11.out⟩
end Go.Proofs.Ytdblplkaobeimaa
namespace Go.Proofs.Ytdblplkaobeimaa
open Go.RowKit Go.Deep
set_option linter.unusedVariables false
set_option linter.unusedSimpArgs false

/-- no row of int, or of uint64 -/
def Qui (w : World) (k : Nat) : Prop := ∀ cur, w.heap[k]? ≠ some (.cells cur 3 (0, 0)) ∧ w.heap[k]? ≠ some (.cells cur 26 (0, 0))
/-- all blocks stay, but for g, and rows of int and uint64 from base on -/
structure Fc (base g : Nat) (a w : World) : Prop where
  os : w.os = a.os
  tape : w.tape = a.tape
  output : w.output = a.output
  size : a.heap.size ≤ w.heap.size
  block : ∀ k, k < a.heap.size → k ≠ g → (k < base ∨ Qui a k) → w.heap[k]? = a.heap[k]?
theorem Fc.refl (base g : Nat) (w : World) : Fc base g w w := ⟨rfl, rfl, rfl, Nat.le_refl _, fun _ _ _ _ => rfl⟩
theorem Fc.trans {base g : Nat} {a b c : World} (h : Fc base g a b) (k : Fc base g b c) : Fc base g a c :=
  ⟨k.os.trans h.os, k.tape.trans h.tape, k.output.trans h.output, Nat.le_trans h.size k.size, fun i h1 h2 h3 => by
    have e := h.block i h1 h2 h3
    refine (k.block i (Nat.lt_of_lt_of_le h1 h.size) h2 ?_).trans e
    rcases h3 with h3 | h3
    · exact .inl h3
    · exact .inr (fun cur => by rw [e]; exact h3 cur)⟩
theorem Fc.of_chg {base g : Nat} {a b : World} {l : List Nat} (h : Chg l a b) (hl : ∀ x ∈ l, x = g ∨ (base ≤ x ∧ ¬ Qui a x)) : Fc base g a b :=
  ⟨h.os, h.tape, h.output, h.size, fun k h1 h2 h3 => h.block k h1 (fun hm => by
    rcases hl k hm with h4 | ⟨h4, h5⟩
    · exact h2 h4
    · rcases h3 with h3 | h3
      · omega
      · exact h5 h3)⟩
theorem Fc.below {base g B : Nat} {a b : World} (h : Fc base g a b) (hB : B ≤ a.heap.size) (hg : B ≤ g) (hb : B ≤ base) : Below B a b :=
  ⟨h.os, h.tape, h.output, h.size, fun k hk => h.block k (by omega) (by omega) (.inl (by omega))⟩
theorem Fc.of_below {base g : Nat} {a b : World} (h : Below a.heap.size a b) : Fc base g a b := ⟨h.os, h.tape, h.output, h.size, fun k hk _ _ => h.block k hk⟩
theorem Fc.alloc {base g : Nat} {a b : World} (h : Fc base g a b) (o : Obj) : Fc base g a (b.alloc o) := h.trans (.of_below ((Below.refl _ _).alloc (Nat.le_refl _) _))
theorem Own.quiT {w : World} {g : Nat} {t : TypeId} {cs : List Value} (h : Own w g t cs) (h1 : t ≠ 3) (h2 : t ≠ 26) : Qui w g := fun cur => by
  unfold Own at h
  rw [h]
  refine ⟨fun e => ?_, fun e => ?_⟩
  · injection e with e
    injection e with _ e _
    exact h1 e
  · injection e with e
    injection e with _ e _
    exact h2 e
theorem Own.fc {base g k : Nat} {a b : World} {t : TypeId} {cs : List Value} (h : Own a k t cs) (hc : Fc base g a b) (hk : k ≠ g) (h1 : t ≠ 3) (h2 : t ≠ 26) : Own b k t cs :=
  (hc.block k h.lt hk (.inr (h.quiT h1 h2))).trans h
theorem Own.fcl {base g k : Nat} {a b : World} {t : TypeId} {cs : List Value} (h : Own a k t cs) (hc : Fc base g a b) (hk : k ≠ g) (h1 : k < base) : Own b k t cs :=
  (hc.block k h.lt hk (.inl h1)).trans h
/-- a row whose block is no row of int or uint64, and not g -/
def RoQ (w : World) (g : Nat) (a : Option Addr) (vs : List Value) : Prop := vs = [] ∨ ∃ b off, a = some ⟨b, off, none⟩ ∧ b < w.heap.size ∧ b ≠ g ∧ Qui w b ∧ ∀ i, i < vs.length → w.cell? ⟨b, off + i, none⟩ = some (vs.getD i undef)
theorem RoQ.ro {w : World} {g : Nat} {a : Option Addr} {vs : List Value} (h : RoQ w g a vs) : Ro w w.heap.size a vs := by
  rcases h with h | ⟨b, off, h1, h2, _, _, h3⟩
  · exact .inl h
  · exact .inr ⟨b, off, h1, h2, h3⟩
theorem RoQ.fc {base g : Nat} {w w' : World} {a : Option Addr} {vs : List Value} (h : RoQ w g a vs) (hc : Fc base g w w') : RoQ w' g a vs := by
  rcases h with h | ⟨b, off, h1, h2, h3, h4, h5⟩
  · exact .inl h
  · have e := hc.block b h2 h3 (.inr h4)
    refine .inr ⟨b, off, h1, Nat.lt_of_lt_of_le h2 hc.size, h3, fun cur => by rw [e]; exact h4 cur, fun i hi => ?_⟩
    exact (World.cell?_of_block (w := w) (w' := w') (a := ⟨b, off + i, none⟩) e).trans (h5 i hi)
/-- a struct of two slices in block g, of type T: the widths and the numbers of F; the rows lie from base on -/
def Fst (w : World) (T : TypeId) (base g : Nat) (F : List (Nat × Nat)) : Prop :=
  ∃ v1 v2, Own w g T [v1, v2] ∧ Lst w base 3 v1 (i64s (fw F)) ∧ Lst w base 26 v2 (u64s (fv F))
theorem Fst.lt {w : World} {T : TypeId} {base g : Nat} {F : List (Nat × Nat)} (h : Fst w T base g F) : g < w.heap.size := by
  obtain ⟨v1, v2, h1, _⟩ := h
  exact h1.lt
theorem Fst.alloc {w : World} {T : TypeId} {base g : Nat} {F : List (Nat × Nat)} (h : Fst w T base g F) (o : Obj) : Fst (w.alloc o) T base g F := by
  obtain ⟨v1, v2, h1, h2, h3⟩ := h
  exact ⟨v1, v2, h1.alloc o, h2.alloc o, h3.alloc o⟩
theorem Fst.below {w w' : World} {T : TypeId} {base g : Nat} {F : List (Nat × Nat)} (h : Fst w T base g F) (hb : Below w.heap.size w w') : Fst w' T base g F := by
  obtain ⟨v1, v2, h1, h2, h3⟩ := h
  exact ⟨v1, v2, h1.below hb h1.lt, h2.below hb (Nat.le_refl _), h3.below hb (Nat.le_refl _)⟩
theorem Fst.new (w : World) (T : TypeId) (base : Nat) : Fst (w.alloc (.cells #[.slice none 0 0, .slice none 0 0] T)) T base w.heap.size [] :=
  ⟨_, _, Own.new w T _, Lst.nil _ _ _, Lst.nil _ _ _⟩
/-- rows of other element types are other blocks -/
theorem Lst.otherT {w : World} {base base' : Nat} {e e' : TypeId} {v v' : Value} {xs xs' : List Value} (h : Lst w base e v xs) (h' : Lst w base' e' v' xs') (hne : e ≠ e') : ∀ x ∈ rowOf v', ∀ cur, w.heap[x]? ≠ some (.cells cur e (0, 0)) := by
  intro x hx cur he
  obtain ⟨_, cur', h2⟩ := h'.row x hx
  rw [he] at h2
  injection h2 with h2
  injection h2 with _ h2 _
  exact hne h2
theorem Lst.ownT {w : World} {base : Nat} {e T : TypeId} {v : Value} {xs cs : List Value} {g : Nat} (h : Lst w base e v xs) (h' : Own w g T cs) (hne : e ≠ T) : g ∉ rowOf v := by
  intro hx
  obtain ⟨_, cur, h2⟩ := h.row g hx
  unfold Own at h'
  rw [h'] at h2
  injection h2 with h2
  injection h2 with _ h2 _
  exact hne h2.symm
theorem Own.notT' {w : World} {g : Nat} {t t' : TypeId} {cs : List Value} (h : Own w g t cs) (ht : t' ≠ t) : ∀ x ∈ [g], ∀ cur, w.heap[x]? ≠ some (.cells cur t' (0, 0)) := by
  intro x hx cur he
  simp only [List.mem_singleton] at hx
  subst hx
  unfold Own at h
  rw [he] at h
  injection h with h
  injection h with _ h _
  exact ht h
/-- an append to a row of int, or of uint64, from base on -/
theorem Fc.row {base g : Nat} {w w' : World} {e : TypeId} {v : Value} {xs : List Value} (h : Lst w base e v xs) (hc : Chg (rowOf v) w w') (he : e = 3 ∨ e = 26) : Fc base g w w' :=
  .of_chg hc fun x hx => .inr (by
    obtain ⟨h1, cur, h2⟩ := h.row x hx
    refine ⟨h1, fun hq => ?_⟩
    rcases he with rfl | rfl
    · exact (hq cur).1 h2
    · exact (hq cur).2 h2)
theorem Fc.set {base g : Nat} (w : World) (i : Nat) (v : Value) : Fc base g w (w.setCell ⟨g, i, none⟩ v) :=
  .of_chg ((Chg.refl [g] w).setCell (by simp) v) fun x hx => .inl (by simpa using hx)
/-- behind an append to the widths, and their store -/
theorem Fst.step1 {w w1 : World} {T : TypeId} {base g : Nat} {v1 v2 v1' : Value} {A A' B : List Value} (h1 : Own w g T [v1, v2]) (h2 : Lst w base 3 v1 A) (h3 : Lst w base 26 v2 B) (hT : T ≠ 3) (hT2 : T ≠ 26) (hl : Lst w1 base 3 v1' A') (hc : Chg (rowOf v1) w w1) :
    Own w1 g T [v1, v2] ∧ Own (w1.setCell ⟨g, 0, none⟩ v1') g T [v1', v2] ∧ Lst (w1.setCell ⟨g, 0, none⟩ v1') base 3 v1' A' ∧ Lst (w1.setCell ⟨g, 0, none⟩ v1') base 26 v2 B ∧ Fc base g w (w1.setCell ⟨g, 0, none⟩ v1') := by
  have g1 := h1.chg hc (h2.ownT h1 hT.symm)
  have g3 := h3.chg hc (h3.otherT h2 (by decide))
  have s1 : Chg [g] w1 (w1.setCell ⟨g, 0, none⟩ v1') := (Chg.refl [g] w1).setCell (by simp) _
  exact ⟨g1, g1.set 0 v1', hl.chg s1 (g1.notT' hT.symm), g3.chg s1 (g1.notT' hT2.symm), (Fc.row h2 hc (.inl rfl)).trans (Fc.set w1 0 v1')⟩
theorem Fst.step2 {w w1 : World} {T : TypeId} {base g : Nat} {v1 v2 v2' : Value} {A B' B : List Value} (h1 : Own w g T [v1, v2]) (h2 : Lst w base 3 v1 A) (h3 : Lst w base 26 v2 B) (hT : T ≠ 3) (hT2 : T ≠ 26) (hl : Lst w1 base 26 v2' B') (hc : Chg (rowOf v2) w w1) :
    Own w1 g T [v1, v2] ∧ Own (w1.setCell ⟨g, 1, none⟩ v2') g T [v1, v2'] ∧ Lst (w1.setCell ⟨g, 1, none⟩ v2') base 3 v1 A ∧ Lst (w1.setCell ⟨g, 1, none⟩ v2') base 26 v2' B' ∧ Fc base g w (w1.setCell ⟨g, 1, none⟩ v2') := by
  have g1 := h1.chg hc (h3.ownT h1 hT2.symm)
  have g3 := h2.chg hc (h2.otherT h3 (by decide))
  have s1 : Chg [g] w1 (w1.setCell ⟨g, 1, none⟩ v2') := (Chg.refl [g] w1).setCell (by simp) _
  exact ⟨g1, g1.set 1 v2', g3.chg s1 (g1.notT' hT.symm), hl.chg s1 (g1.notT' hT2.symm), (Fc.row h3 hc (.inr rfl)).trans (Fc.set w1 1 v2')⟩
end Go.Proofs.Ytdblplkaobeimaa
namespace Go.Proofs.Ytdblplkaobeimaa
open Go.RowKit Go.Deep
set_option linter.unusedVariables false
set_option linter.unusedSimpArgs false

def fU (u : Int) : List (Nat × Nat) := [(5, u.toNat)]
theorem i64_take {L : List Int} {k : Nat} (h : k < L.length) : L.take (k + 1) = L.take k ++ [L.getD k 0] := by
  have e : L.getD k 0 = L[k] := by simp [List.getD, h]
  rw [List.take_succ_eq_append_getElem h, e]
end Go.Proofs.Ytdblplkaobeimaa
namespace Go.Proofs.Ytdblplkaobeimaa
open Go.RowKit Go.Deep
set_option linter.unusedVariables false
set_option linter.unusedSimpArgs false

theorem u8_take {L : List UInt8} {k : Nat} (h : k < L.length) : L.take (k + 1) = L.take k ++ [L.getD k 0] := by
  have e : L.getD k 0 = L[k] := by simp [List.getD, h]
  rw [List.take_succ_eq_append_getElem h, e]
def fS (s : Int) : List (Nat × Nat) := [(4, s.toNat)]
def fY (b : UInt8) : List (Nat × Nat) := [(8, b.toNat)]
end Go.Proofs.Ytdblplkaobeimaa
namespace Go.Proofs.Ytdblplkaobeimaa
open Go.RowKit Go.Deep
set_option linter.unusedVariables false
set_option linter.unusedSimpArgs false

end Go.Proofs.Ytdblplkaobeimaa
