/-
  What Right of package message calls, by its contracts. No claim of its own.
-/
import Derived.Test.YtdblplkaobeimaaGc4
import Derived.Test.YtdblplkaobeimaaGc9
import Derived.Test.YtdblplkaobeimaaGc3
namespace Go.Proofs.Ytdblplkaobeimaa
open Go.RowKit Go.Deep Go.Shelf
set_option linter.unusedVariables false
set_option linter.unusedSimpArgs false

set_option maxHeartbeats 1000000 in
theorem index_backL (S : Nat → World → Prop) (p : Nat → Bool) (g : Nat) (lb : Array Value) (eg : ∀ args w, (callFunc g args).run Try.prog w = .ok (.enter g args) w)
    (L : List Bk) (a : Option Addr) (c B : Nat) (w : World) (hl : L.length ≤ 9223372036854775807)
    (hro : ∀ k W, S k W → Ro W B a (bcs L)) (h0 : S 0 w)
    (hf : ∀ k W, k < L.length → S k W → Calls Try.prog g (#[bkv (bk L k)] ++ lb) W fun e w' => e = .returned (.bool (p k)) ∧ S (k + 1) w') :
    Calls Try.prog 47 #[.slice a L.length c, .func (.func g) #[] lb] w fun e w' => e = .returned (.int .i64 (fx p L.length)) ∧ ∃ k, S k w' := by
  obtain ⟨n, HN⟩ : ∃ n, Hid (L.length = n) := ⟨_, Lib.hid rfl⟩
  have HR := Lib.hid hro
  have HF := Lib.hid hf
  have H0 := Lib.hid h0
  clear hro hf h0
  rw [HN.out] at hl ⊢
  go_enter Try.func47, Try.ntmps47
  go_wp2_with fail
  go_loopw [8] (fun i wr => ∃ k : Nat, k ≤ n ∧ i = .int .i64 (k : Int) ∧ Hid (S k wr) ∧ Hid (∀ j, j < k → p j = false)) (fun i _ => n - (intOf i).toNat)
  case atStart => exact ⟨0, Nat.zero_le _, rfl, H0, Lib.hid (by omega)⟩
  case round =>
    obtain ⟨k, hk, rfl, HS, HP⟩ := hrel
    by_cases hlt : k < n
    · have hkL : k < L.length := by rw [HN.out]; exact hlt
      obtain ⟨b, off, rfl, hb, hc⟩ := (HR.out k wr HS.out).bk (by omega)
      obtain ⟨c1, c2, c3⟩ := hc k hkL
      have HC := Lib.hid (HF.out k wr hkL HS.out)
      clear hc
      have hk0 : (0 : Int) ≤ (k : Int) := by omega
      have hk1 : (k : Int) < (n : Int) := by omega
      generalize bk L k = x at *
      cases hq : p k with
      | true =>
        have HQ := Lib.hid hq
        clear hq
        go_wp2_with fail
        refine HC.out.mono ?_
        rintro e w' ⟨rfl, hs⟩
        rw [HQ.out]
        have HS2 := Lib.hid hs
        clear hs
        go_wp2_with fail
        go_ret
        exact ⟨ret_int (fx_hit p n k hlt HQ.out HP.out).symm, _, HS2.out⟩
      | false =>
        have HQ := Lib.hid hq
        clear hq
        go_wp2_with fail
        refine HC.out.mono ?_
        rintro e w' ⟨rfl, hs⟩
        rw [HQ.out]
        have HS2 := Lib.hid hs
        clear hs
        go_wp2_with fail
        go_roundw
        case rel =>
          refine ⟨k + 1, by omega, by go_num, HS2, Lib.hid fun j hj => ?_⟩
          by_cases e : j = k
          · subst e; exact HQ.out
          · exact HP.out j (by omega)
        case measure => simp [intOf]; omega
    · obtain rfl : k = n := by omega
      go_wp2_with fail
      go_ret
      exact ⟨ret_int (fx_miss p k HP.out).symm, _, HS.out⟩

set_option maxHeartbeats 1000000 in
theorem contains_backL (S : Nat → World → Prop) (p : Nat → Bool) (g : Nat) (lb : Array Value) (eg : ∀ args w, (callFunc g args).run Try.prog w = .ok (.enter g args) w)
    (L : List Bk) (a : Option Addr) (c B : Nat) (w : World) (hl : L.length ≤ 9223372036854775807)
    (hro : ∀ k W, S k W → Ro W B a (bcs L)) (h0 : S 0 w)
    (hf : ∀ k W, k < L.length → S k W → Calls Try.prog g (#[bkv (bk L k)] ++ lb) W fun e w' => e = .returned (.bool (p k)) ∧ S (k + 1) w') :
    Calls Try.prog 34 #[.slice a L.length c, .func (.func g) #[] lb] w fun e w' => e = .returned (.bool (anyN p L.length)) ∧ ∃ k, S k w' := by
  have HC := Lib.hid (index_backL S p g lb eg L a c B w hl hro h0 hf)
  clear hro h0 hf
  obtain ⟨z, hz⟩ : ∃ z, z = fx p L.length := ⟨_, rfl⟩
  unfold anyN
  rw [← hz] at HC ⊢
  clear hz
  go_enter Try.func34, Try.ntmps34
  go_wp2_with fail
  refine HC.out.mono ?_
  rintro e w' ⟨rfl, hs⟩
  have HS := Lib.hid hs
  clear hs
  go_wp2_with fail
  go_ret
  exact ⟨rfl, HS.out⟩

theorem below_any (n l : Int) (w : World) :
    Calls Try.prog 17 #[.int .i64 n, .int .i64 l] w fun e w' => e = .returned (.bool (blw n l)) ∧ w' = w := by
  unfold blw
  by_cases h0 : 0 ≤ n
  · have e0 : decide (0 ≤ n) = true := by simpa using h0
    rw [e0, Bool.true_and]
    go_enter Try.func17, Try.ntmps17
    go_wp2_with fail
    go_ret
    exact ⟨rfl, rfl⟩
  · have e0 : decide (0 ≤ n) = false := by simpa using h0
    rw [e0, Bool.false_and]
    have h1 : n < 0 := by omega
    clear h0
    go_enter Try.func17, Try.ntmps17
    go_wp2_with fail
    go_ret
    exact ⟨rfl, rfl⟩
theorem isReq_any (k : Int) (w : World) :
    Calls Try.prog 31 #[.int .i64 k] w fun e w' => e = .returned (.bool (isReq k)) ∧ w' = w := by
  unfold isReq
  by_cases h0 : 1 ≤ k
  · have e0 : decide (1 ≤ k) = true := by simpa using h0
    rw [e0, Bool.true_and]
    go_enter Try.func31, Try.ntmps31
    go_wp2_with fail
    go_ret
    exact ⟨rfl, rfl⟩
  · have e0 : decide (1 ≤ k) = false := by simpa using h0
    rw [e0, Bool.false_and]
    go_enter Try.func31, Try.ntmps31
    go_wp2_with fail
    go_ret
    exact ⟨rfl, rfl⟩
theorem rkinds_any (k f : Int) (w : World) :
    Calls Try.prog 15 #[.int .i64 k, .int .i64 f] w fun e w' => e = .returned (.bool (kindsOk k f)) ∧ w' = w := by
  unfold kindsOk
  have H1 := Lib.hid (isReq_any k w)
  have H2 := Lib.hid (isReq_any f w)
  by_cases h : k = 14
  · subst h
    rw [if_pos rfl]
    generalize isReq f = t at *
    go_enter Try.func15, Try.ntmps15
    go_wp2_with fail
    refine H2.out.mono ?_
    rintro e w' ⟨rfl, rfl⟩
    go_wp2_with fail
    go_ret
    exact ⟨rfl, rfl⟩
  · rw [if_neg h]
    have e0 : (k == 14) = false := by rw [beq_eq_false_iff_ne]; exact h
    generalize isReq k = t at *
    clear h
    cases t with
    | true =>
      go_enter Try.func15, Try.ntmps15
      go_wp2_with fail
      refine H1.out.mono ?_
      rintro e w' ⟨rfl, rfl⟩
      go_wp2_with fail
      go_ret
      exact ⟨ret_bool (by rw [Bool.true_and]; rfl), rfl⟩
    | false =>
      go_enter Try.func15, Try.ntmps15
      go_wp2_with fail
      refine H1.out.mono ?_
      rintro e w' ⟨rfl, rfl⟩
      go_wp2_with fail
      go_ret
      exact ⟨rfl, rfl⟩
theorem rplace_any (p : Int × Int) (w : World) :
    Calls Try.prog 16 #[.agg #[.int .i64 p.1, .int .i64 p.2]] w fun e w' => e = .returned (.bool (plOk p)) ∧ Below w.heap.size w w' := by
  obtain ⟨r, n⟩ := p
  simp only
  have HB := Lib.hid ((Below.refl w.heap.size w).alloc (Nat.le_refl _) (.cells #[.int .i64 r, .int .i64 n] 25))
  have HK := Lib.hid (fun l => below_any n l (w.alloc (.cells #[.int .i64 r, .int .i64 n] 25)))
  unfold plOk plMost
  simp only
  by_cases h1 : r = 1
  · subst h1
    rw [if_pos (by simp)]
    have HK32 := Lib.hid (HK.out 32)
    generalize blw n 32 = t at *
    clear HK
    go_enter Try.func16, Try.ntmps16
    go_wp2_with fail
    refine HK32.out.mono ?_
    rintro e w' ⟨rfl, rfl⟩
    go_wp2_with fail
    go_ret
    exact ⟨rfl, HB.out⟩
  by_cases h2 : r = 2
  · subst h2
    rw [if_pos (by simp)]
    clear h1
    have HK32 := Lib.hid (HK.out 32)
    generalize blw n 32 = t at *
    clear HK
    go_enter Try.func16, Try.ntmps16
    go_wp2_with fail
    refine HK32.out.mono ?_
    rintro e w' ⟨rfl, rfl⟩
    go_wp2_with fail
    go_ret
    exact ⟨rfl, HB.out⟩
  by_cases h3 : r = 3
  · subst h3
    rw [if_neg (by omega), if_pos rfl]
    clear h1 h2
    have HK3 := Lib.hid (HK.out 3)
    generalize blw n 3 = t at *
    clear HK
    go_enter Try.func16, Try.ntmps16
    go_wp2_with fail
    refine HK3.out.mono ?_
    rintro e w' ⟨rfl, rfl⟩
    go_wp2_with fail
    go_ret
    exact ⟨rfl, HB.out⟩
  by_cases h4 : r = 4
  · subst h4
    rw [if_neg (by omega), if_neg (by omega), if_pos rfl]
    clear h1 h2 h3
    have HK4 := Lib.hid (HK.out 4)
    generalize blw n 4 = t at *
    clear HK
    go_enter Try.func16, Try.ntmps16
    go_wp2_with fail
    refine HK4.out.mono ?_
    rintro e w' ⟨rfl, rfl⟩
    go_wp2_with fail
    go_ret
    exact ⟨rfl, HB.out⟩
  · rw [if_neg (by omega), if_neg h3, if_neg h4]
    have e0 : blw n 0 = false := by unfold blw; by_cases h : 0 ≤ n <;> simp [h] <;> omega
    have e1 : (r == 1) = false := by rw [beq_eq_false_iff_ne]; exact h1
    have e2 : (r == 2) = false := by rw [beq_eq_false_iff_ne]; exact h2
    have e3 : (r == 3) = false := by rw [beq_eq_false_iff_ne]; exact h3
    have e4 : (r == 4) = false := by rw [beq_eq_false_iff_ne]; exact h4
    rw [e0]
    clear h1 h2 h3 h4 e0
    go_enter Try.func16, Try.ntmps16
    go_wp2_with fail
    go_ret
    exact ⟨rfl, HB.out⟩
theorem rballot_any (p : Int × Int) (w : World) :
    Calls Try.prog 18 #[.agg #[.int .i64 p.1, .int .i64 p.2]] w fun e w' => e = .returned (.bool (baOk p)) ∧ Below w.heap.size w w' := by
  obtain ⟨r, n⟩ := p
  simp only
  have HB := Lib.hid ((Below.refl w.heap.size w).alloc (Nat.le_refl _) (.cells #[.int .i64 r, .int .i64 n] 35))
  have HK := Lib.hid (below_any r 65536 (w.alloc (.cells #[.int .i64 r, .int .i64 n] 35)))
  have HL := Lib.hid (below_any n 4 (w.alloc (.cells #[.int .i64 r, .int .i64 n] 35)))
  unfold baOk
  simp only
  generalize blw r 65536 = t at *
  generalize blw n 4 = u at *
  cases t with
  | true =>
    go_enter Try.func18, Try.ntmps18
    go_wp2_with fail
    refine HK.out.mono ?_
    rintro e w' ⟨rfl, rfl⟩
    go_wp2_with fail
    refine HL.out.mono ?_
    rintro e w' ⟨rfl, rfl⟩
    go_wp2_with fail
    go_ret
    exact ⟨rfl, HB.out⟩
  | false =>
    go_enter Try.func18, Try.ntmps18
    go_wp2_with fail
    refine HK.out.mono ?_
    rintro e w' ⟨rfl, rfl⟩
    go_wp2_with fail
    go_ret
    exact ⟨rfl, HB.out⟩
theorem mis1_any (s m : Int) (g : Nat) (w : World) (h : Own w g 3 [.int .i64 m]) :
    Calls Try.prog 52 #[.int .i64 s, .pointer (some ⟨g, 0, none⟩)] w fun e w' => e = .returned (.bool (mis m s)) ∧ w' = w.setCell ⟨g, 0, none⟩ (.int .i64 (wrap64 (s + 1))) := by
  have hc := h.cell 0
  have hf := h.frozen 0
  have hz := h.lt
  simp at hc
  unfold mis
  clear h
  by_cases h0 : s < m
  · have e0 : decide (s < m) = true := by simpa using h0
    rw [e0, Bool.true_or]
    go_enter Try.func52, Try.ntmps52
    go_wp2_with fail
    go_ret
    exact ⟨rfl, rfl⟩
  · have e0 : decide (s < m) = false := by simpa using h0
    rw [e0, Bool.false_or]
    go_enter Try.func52, Try.ntmps52
    go_wp2_with fail
    go_ret
    exact ⟨rfl, rfl⟩
theorem misplaced_any (w : World) :
    Calls Try.prog 33 #[] w fun e w' => e = .returned (.func (.func 52) #[] #[.pointer (some ⟨w.heap.size, 0, none⟩)]) ∧ w' = w.alloc (.cells #[.int .i64 0] 3) := by
  go_enter Try.func33, Try.ntmps33
  go_wp2_with fail
  go_ret
  exact ⟨rfl, rfl⟩

set_option maxHeartbeats 1000000 in
theorem rstreams_any (L : List Int) (a : Option Addr) (c B : Nat) (w : World) (hro : Ro w B a (i64s L)) (hB : B ≤ w.heap.size) (hl : L.length ≤ 9223372036854775807) :
    Calls Try.prog 19 #[.slice a L.length c] w fun e w' => e = .returned (.bool (stOk L)) ∧ Below w.heap.size w w' := by
  have eg : ∀ args w, (callFunc 52 args).run Try.prog w = .ok (.enter 52 args) w := enters_of Try.func52 (by kernel_rfl) rfl
  obtain ⟨t, ht⟩ : ∃ t, t = anyN (fun k => mis (leastI L k) (L.getD k 0)) L.length := ⟨_, rfl⟩
  have HC : Hid (L.length ≤ 4 → Calls Try.prog 32 #[.slice a L.length c, .func (.func 52) #[] #[.pointer (some ⟨w.heap.size, 0, none⟩)]] (w.alloc (.cells #[.int .i64 0] 3)) fun e w' => e = .returned (.bool t) ∧ Below w.heap.size w w') := by
    apply Lib.hid
    intro h4
    refine (contains_int (fun k W => Own W w.heap.size 3 [.int .i64 (leastI L k)] ∧ Below w.heap.size w W) (fun W => Below w.heap.size w W) (fun k => mis (leastI L k) (L.getD k 0)) 52 #[.pointer (some ⟨w.heap.size, 0, none⟩)] eg L a c B _ (by omega) (fun k W' h => hro.below h.2 hB) ⟨Own.new w _ _, (Below.refl _ _).alloc (Nat.le_refl _) _⟩ (fun k W' hk h => ?_)).mono ?_
    · obtain ⟨o1, o2⟩ := h
      refine (mis1_any (L.getD k 0) (leastI L k) w.heap.size W' o1).mono ?_
      rintro e w' ⟨rfl, rfl⟩
      refine ⟨rfl, fun _ => o2.setCell (Nat.le_refl _) _, fun _ => ⟨?_, o2.setCell (Nat.le_refl _) _⟩⟩
      have := o1.set 0 (.int .i64 (wrap64 (L.getD k 0 + 1)))
      simpa [leastI] using this
    · rintro e w' ⟨rfl, h⟩
      rw [ht]
      exact ⟨rfl, by rcases h with h | h; exact h; exact h.2⟩
  unfold stOk
  rw [← ht]
  generalize L.length = n at *
  clear ht hro
  by_cases h4 : n ≤ 4
  · have e0 : decide (n ≤ 4) = true := by simpa using h4
    have HM := Lib.hid (misplaced_any w)
    have HC4 := Lib.hid (HC.out h4)
    rw [e0, Bool.true_and]
    go_enter Try.func19, Try.ntmps19
    go_wp2_with fail
    refine HM.out.mono ?_
    rintro e w' ⟨rfl, rfl⟩
    go_wp2_with fail
    refine HC4.out.mono ?_
    rintro e w' ⟨rfl, hb⟩
    have HB := Lib.hid hb
    clear hb
    go_wp2_with fail
    go_ret
    exact ⟨rfl, HB.out⟩
  · have e0 : decide (n ≤ 4) = false := by simpa using h4
    rw [e0, Bool.false_and]
    clear HC
    go_enter Try.func19, Try.ntmps19
    go_wp2_with fail
    go_ret
    exact ⟨rfl, Below.refl _ _⟩

set_option maxHeartbeats 1000000 in
theorem mb1_any (b : Bk) (m : Int) (g p : Nat) (w : World) (h : Own w g 3 [.int .i64 m]) (hp : w.cell? ⟨p, 0, none⟩ = some (.func (.func 52) #[] #[.pointer (some ⟨g, 0, none⟩)])) (hpg : g < p) :
    Calls Try.prog 35 #[bkv b, .pointer (some ⟨p, 0, none⟩)] w fun e w' => e = .returned (.bool (mbad m b)) ∧ Own w' g 3 [.int .i64 (wrap64 (b.1 + 1))] ∧ w'.cell? ⟨p, 0, none⟩ = some (.func (.func 52) #[] #[.pointer (some ⟨g, 0, none⟩)]) ∧ Below g w w' := by
  have eg : ∀ args w, (callFunc 52 args).run Try.prog w = .ok (.enter 52 args) w := enters_of Try.func52 (by kernel_rfl) rfl
  obtain ⟨W, HWW⟩ : ∃ W, Hid (w.alloc (.cells #[.int .i64 b.1, .int .u64 (b.2.1 : Int), .int .u64 (b.2.2 : Int)] 54) = W) := ⟨_, Lib.hid rfl⟩
  have hWc : Chg [] w W := by rw [← HWW.out]; exact (Chg.refl [] w).alloc _
  have HO : Hid (Own W w.heap.size 54 [.int .i64 b.1, .int .u64 (b.2.1 : Int), .int .u64 (b.2.2 : Int)]) := Lib.hid (by rw [← HWW.out]; exact Own.new w _ _)
  have HG : Hid (Own W g 3 [.int .i64 m]) := Lib.hid (h.chg hWc (by simp))
  have HP := Lib.hid (hWc.cell hp (by simp))
  have HGZ := Lib.hid h.lt
  have HPZ := Lib.hid (World.block_lt_of_cell? _ _ hp)
  have HPG := Lib.hid hpg
  have HM := Lib.hid (mis1_any b.1 m g W HG.out)
  have HB := Lib.hid (hWc.low.mono (Nat.le_of_lt h.lt))
  unfold mbad
  obtain ⟨t, HT⟩ : ∃ t, Hid (mis m b.1 = t) := ⟨_, Lib.hid rfl⟩
  obtain ⟨u, HU⟩ : ∃ u, Hid (right ⟨1, [], [b]⟩ = u) := ⟨_, Lib.hid rfl⟩
  rw [HT.out] at HM ⊢
  rw [HU.out]
  have c0 := HP.out
  have d0 := HO.out.cell 0
  have d1 := HO.out.cell 1
  have d2 := HO.out.cell 2
  simp at d0 d1 d2
  clear h hp hWc hpg
  obtain ⟨s, q, r⟩ := b
  simp only at *
  cases t with
  | true =>
    go_enter Try.func35, Try.ntmps35
    go_upto_region 1 with fail
    rw [HWW.out]
    go_wp2_with fail
    refine HM.out.mono ?_
    rintro e w' ⟨rfl, rfl⟩
    go_wp2_with fail
    go_ret
    exact ⟨rfl, by simpa using HG.out.set 0 _, (Chg.cell (l := [g]) ((Chg.refl [g] W).setCell (by simp) _) HP.out (by have := HPG.out; simp; omega)), HB.out.setCell (Nat.le_refl _) _⟩
  | false =>
    go_enter Try.func35, Try.ntmps35
    go_upto_region 1 with fail
    rw [HWW.out]
    go_wp2_with fail
    refine HM.out.mono ?_
    rintro e w' ⟨rfl, rfl⟩
    have hsc : Chg [g] W (W.setCell ⟨g, 0, none⟩ (.int .i64 (wrap64 (s + 1)))) := (Chg.refl [g] W).setCell (by simp) _
    have HO2 := Lib.hid (HO.out.chg hsc (by have := HGZ.out; simp; omega))
    have HG2 : Hid (Own (W.setCell ⟨g, 0, none⟩ (.int .i64 (wrap64 (s + 1)))) g 3 [.int .i64 (wrap64 (s + 1))]) := Lib.hid (by simpa using HG.out.set 0 (.int .i64 (wrap64 (s + 1))))
    have HP2 := Lib.hid (hsc.cell HP.out (by have := HPG.out; simp; omega))
    have HB2 : Hid (Below g w (W.setCell ⟨g, 0, none⟩ (.int .i64 (wrap64 (s + 1))))) := Lib.hid (HB.out.setCell (Nat.le_refl _) _)
    have HG3 := Lib.hid HG2.out.lt
    generalize W.setCell ⟨g, 0, none⟩ (.int .i64 (wrap64 (s + 1))) = W2 at *
    clear hsc c0 d0 d1 d2
    have d0 := HO2.out.cell 0
    have d1 := HO2.out.cell 1
    have d2 := HO2.out.cell 2
    simp at d0 d1 d2
    have HRO : Hid (Ro (W2.alloc (.cells #[.int .i64 s, .int .u64 (q : Int), .int .u64 (r : Int)] 54)) (W2.heap.size + 1) (some ⟨W2.heap.size, 0, none⟩) (bcs [(s, q, r)])) := Lib.hid ((Own.new W2 54 [.int .i64 s, .int .u64 (q : Int), .int .u64 (r : Int)]).ro _ (by omega))
    have HR := Lib.hid (right_any ⟨1, [], [(s, q, r)]⟩ none 0 (some ⟨W2.heap.size, 0, none⟩) 1 (W2.heap.size + 1) _ HRO.out (by simp) (by simp) (by simp))
    rw [HU.out] at HR
    simp only [List.length_cons, List.length_nil, Nat.zero_add] at HR
    go_wp2_with fail
    refine HR.out.mono ?_
    rintro e w3 ⟨rfl, hb⟩
    have HB3 := Lib.hid hb
    clear hb d0 d1 d2
    go_wp2_with fail
    go_ret
    have hb2 : Below W2.heap.size W2 w3 := ((Below.refl _ _).alloc (Nat.le_refl _) _).trans (HB3.out.mono (by simp))
    exact ⟨rfl, HG2.out.below hb2 HG3.out, cell_keep hb2 HP2.out (World.block_lt_of_cell? _ _ HP2.out), HB2.out.trans (hb2.mono (by have := HG3.out; omega))⟩

set_option maxHeartbeats 1000000 in
theorem rbacks_any (L : List Bk) (a : Option Addr) (c B : Nat) (w : World) (hro : Ro w B a (bcs L)) (hB : B ≤ w.heap.size) (hl : L.length ≤ 9223372036854775807) :
    Calls Try.prog 20 #[.slice a L.length c] w fun e w' => e = .returned (.bool (mbOk L)) ∧ Below w.heap.size w w' := by
  have eg : ∀ args w, (callFunc 35 args).run Try.prog w = .ok (.enter 35 args) w := enters_of Try.func35 (by kernel_rfl) rfl
  obtain ⟨t, ht⟩ : ∃ t, t = anyN (fun k => mbad (least L k) (bk L k)) L.length := ⟨_, rfl⟩
  obtain ⟨FV, hFV⟩ : ∃ FV : Value, FV = .func (.func 52) #[] #[.pointer (some ⟨w.heap.size, 0, none⟩)] := ⟨_, rfl⟩
  obtain ⟨W, HWW⟩ : ∃ W, Hid ((w.alloc (.cells #[.int .i64 0] 3)).alloc (.cells #[.func (.func 52) #[] #[.pointer (some ⟨w.heap.size, 0, none⟩)]] 72) = W) := ⟨_, Lib.hid rfl⟩
  have hWc : Chg [] w W := by rw [← HWW.out]; exact ((Chg.refl [] w).alloc _).alloc _
  have o1 : Own W w.heap.size 3 [.int .i64 0] := by rw [← HWW.out]; exact (Own.new w _ _).alloc _
  have o2 : Own W (w.heap.size + 1) 72 [.func (.func 52) #[] #[.pointer (some ⟨w.heap.size, 0, none⟩)]] := by
    rw [← HWW.out]
    have := Own.new (w.alloc (.cells #[.int .i64 0] 3)) 72 [.func (.func 52) #[] #[.pointer (some ⟨w.heap.size, 0, none⟩)]]
    simpa using this
  have c2 := o2.cell 0
  simp at c2
  have HC : Hid (Calls Try.prog 34 #[.slice a L.length c, .func (.func 35) #[] #[.pointer (some ⟨w.heap.size + 1, 0, none⟩)]] W fun e w' => e = .returned (.bool t) ∧ Below w.heap.size w w') := by
    apply Lib.hid
    refine (contains_backL (fun k W => Own W w.heap.size 3 [.int .i64 (least L k)] ∧ W.cell? ⟨w.heap.size + 1, 0, none⟩ = some (.func (.func 52) #[] #[.pointer (some ⟨w.heap.size, 0, none⟩)]) ∧ Below w.heap.size w W) (fun k => mbad (least L k) (bk L k)) 35 #[.pointer (some ⟨w.heap.size + 1, 0, none⟩)] eg L a c B _ hl (fun k W' h => hro.below h.2.2 hB) ⟨o1, c2, hWc.low⟩ (fun k W' hk h => ?_)).mono ?_
    · obtain ⟨o1, o2, o3⟩ := h
      refine (mb1_any (bk L k) (least L k) w.heap.size (w.heap.size + 1) W' o1 o2 (Nat.lt_succ_self _)).mono ?_
      rintro e w' ⟨rfl, o4, o5, o6⟩
      exact ⟨rfl, by simpa [least] using o4, o5, o3.trans o6⟩
    · rintro e w' ⟨rfl, k, hk⟩
      rw [ht]
      exact ⟨rfl, hk.2.2⟩
  unfold mbOk
  rw [← ht]
  have HM := Lib.hid (misplaced_any w)
  generalize L.length = n at *
  clear ht hro hWc o1 o2 c2 hFV
  go_enter Try.func20, Try.ntmps20
  go_wp2_with fail
  refine HM.out.mono ?_
  rintro e w' ⟨rfl, rfl⟩
  go_upto_region 2 with fail
  rw [HWW.out]
  go_wp2_with fail
  refine HC.out.mono ?_
  rintro e w' ⟨rfl, hb⟩
  have HB := Lib.hid hb
  clear hb
  go_wp2_with fail
  go_ret
  exact ⟨rfl, HB.out⟩
end Go.Proofs.Ytdblplkaobeimaa
