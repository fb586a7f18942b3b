/-
  isUnit and within of package layout; slices.IndexFunc, slices.ContainsFunc at segments, at chains and at numbers, over a closure that keeps a state. No claim of their own.
-/
import Derived.Test.YtdpaofedepnnbaaGreatLy
namespace Go.Proofs.YtdpaofedepnnbaaGreat
open Go.RowKit Go.Deep
set_option linter.unusedVariables false
set_option linter.unusedSimpArgs false

set_option maxHeartbeats 400000 in
theorem isUnit_any (n : Int) (w : World) :
    Calls Tryz.prog 105 #[.int .i64 n] w fun e w' => e = .returned (.bool (decide (0 ≤ n ∧ n < 32))) ∧ w' = w := by
  have h : (0 ≤ n ∧ n < 32) ∨ n < 0 ∨ 32 ≤ n := by omega
  rcases h with ⟨h1, h2⟩ | h1 | h1
  all_goals
    go_enter Tryz.func105, Tryz.ntmps105
    go_wp2
    go_ret
    refine ⟨?_, rfl⟩
    simp
    omega

set_option maxHeartbeats 400000 in
theorem within_seg (a : Option Addr) (n c : Nat) (w : World) (hn : n ≤ 9223372036854775807) :
    Calls Tryz.prog 127 #[.slice a n c, .int .i64 4] w fun e w' => e = .returned (.bool (isLen n)) ∧ w' = w := by
  have h : n = 0 ∨ (1 ≤ n ∧ n ≤ 4) ∨ 4 < n := by omega
  rcases h with rfl | ⟨h1, h2⟩ | h1
  · go_enter Tryz.func127, Tryz.ntmps127
    go_wp2
    go_ret
    exact ⟨rfl, rfl⟩
  · have e : isLen n = true := isLen_iff.2 ⟨h1, h2⟩
    rw [e]
    go_enter Tryz.func127, Tryz.ntmps127
    go_wp2
    go_ret
    refine ⟨?_, rfl⟩
    simp
    omega
  · have e : isLen n = false := by rw [← Bool.not_eq_true, isLen_iff]; omega
    rw [e]
    go_enter Tryz.func127, Tryz.ntmps127
    go_wp2
    go_ret
    refine ⟨?_, rfl⟩
    simp
    omega

set_option maxHeartbeats 400000 in
theorem within_ch (a : Option Addr) (n c : Nat) (w : World) (hn : n ≤ 9223372036854775807) :
    Calls Tryz.prog 142 #[.slice a n c, .int .i64 4] w fun e w' => e = .returned (.bool (isLen n)) ∧ w' = w := by
  have h : n = 0 ∨ (1 ≤ n ∧ n ≤ 4) ∨ 4 < n := by omega
  rcases h with rfl | ⟨h1, h2⟩ | h1
  · go_enter Tryz.func142, Tryz.ntmps142
    go_wp2
    go_ret
    exact ⟨rfl, rfl⟩
  · have e : isLen n = true := isLen_iff.2 ⟨h1, h2⟩
    rw [e]
    go_enter Tryz.func142, Tryz.ntmps142
    go_wp2
    go_ret
    refine ⟨?_, rfl⟩
    simp
    omega
  · have e : isLen n = false := by rw [← Bool.not_eq_true, isLen_iff]; omega
    rw [e]
    go_enter Tryz.func142, Tryz.ntmps142
    go_wp2
    go_ret
    refine ⟨?_, rfl⟩
    simp
    omega

set_option maxHeartbeats 400000 in
theorem within_int (a : Option Addr) (n c : Nat) (w : World) (hn : n ≤ 9223372036854775807) :
    Calls Tryz.prog 145 #[.slice a n c, .int .i64 4] w fun e w' => e = .returned (.bool (isLen n)) ∧ w' = w := by
  have h : n = 0 ∨ (1 ≤ n ∧ n ≤ 4) ∨ 4 < n := by omega
  rcases h with rfl | ⟨h1, h2⟩ | h1
  · go_enter Tryz.func145, Tryz.ntmps145
    go_wp2
    go_ret
    exact ⟨rfl, rfl⟩
  · have e : isLen n = true := isLen_iff.2 ⟨h1, h2⟩
    rw [e]
    go_enter Tryz.func145, Tryz.ntmps145
    go_wp2
    go_ret
    refine ⟨?_, rfl⟩
    simp
    omega
  · have e : isLen n = false := by rw [← Bool.not_eq_true, isLen_iff]; omega
    rw [e]
    go_enter Tryz.func145, Tryz.ntmps145
    go_wp2
    go_ret
    refine ⟨?_, rfl⟩
    simp
    omega

set_option maxHeartbeats 1000000 in
theorem index_seg (S : Nat → World → Prop) (T : World → Prop) (p : Nat → Bool) (g : Nat) (lb : Array Value) (eg : ∀ args w, (callFunc g args).run Tryz.prog w = .ok (.enter g args) w)
    (L : List SgT) (a : Option Addr) (c B : Nat) (w : World) (hl : L.length ≤ 1000000)
    (hro : ∀ k W, S k W → Ro W B a (sgv L)) (h0 : S 0 w)
    (hf : ∀ k W, k < L.length → S k W → Calls Tryz.prog g (#[(st L k).val] ++ lb) W fun e w' => e = .returned (.bool (p k)) ∧ (p k = true → T w') ∧ (p k = false → S (k + 1) w')) :
    Calls Tryz.prog 146 #[.slice a L.length c, .func (.func g) #[] lb] w fun e w' => e = .returned (.int .i64 (fx p L.length)) ∧ (T w' ∨ S L.length w') := by
  obtain ⟨n, HN⟩ : ∃ n, Hid (L.length = n) := ⟨_, Lib.hid rfl⟩
  have HR := Lib.hid hro
  have HF := Lib.hid hf
  have H0 := Lib.hid h0
  clear hro hf h0
  rw [HN.out] at hl ⊢
  go_enter Tryz.func146, Tryz.ntmps146
  go_wp2_with fail
  go_loopw [8] (fun i wr => ∃ k : Nat, k ≤ n ∧ i = .int .i64 (k : Int) ∧ Hid (S k wr) ∧ Hid (∀ j, j < k → p j = false)) (fun i _ => n - (intOf i).toNat)
  case atStart => exact ⟨0, Nat.zero_le _, rfl, H0, Lib.hid (by omega)⟩
  case round =>
    obtain ⟨k, hk, rfl, HS, HP⟩ := hrel
    by_cases hlt : k < n
    · have hkL : k < L.length := by rw [HN.out]; exact hlt
      obtain ⟨b, off, rfl, hb, hc⟩ := (HR.out k wr HS.out).sg (by omega)
      obtain ⟨c1, c2⟩ := hc k hkL
      have HC := Lib.hid (HF.out k wr hkL HS.out)
      clear hc
      have hk0 : (0 : Int) ≤ (k : Int) := by omega
      have hk1 : (k : Int) < (n : Int) := by omega
      simp only [SgT.val] at HC
      generalize (st L k).f = x1 at *
      generalize (st L k).a = x2 at *
      generalize (st L k).ch.length = x3 at *
      generalize (st L k).c = x4 at *
      cases hq : p k with
      | true =>
        have HQ := Lib.hid hq
        clear hq
        go_wp2_with fail
        refine HC.out.mono ?_
        rintro e w' ⟨rfl, hs, -⟩
        rw [HQ.out]
        have HS2 := Lib.hid (hs HQ.out)
        clear hs
        go_wp2_with fail
        go_ret
        exact ⟨ret_int (fx_hit p n k hlt HQ.out HP.out).symm, .inl HS2.out⟩
      | false =>
        have HQ := Lib.hid hq
        clear hq
        go_wp2_with fail
        refine HC.out.mono ?_
        rintro e w' ⟨rfl, -, hs⟩
        rw [HQ.out]
        have HS2 := Lib.hid (hs HQ.out)
        clear hs
        go_wp2_with fail
        go_roundw
        case rel =>
          refine ⟨k + 1, by omega, by go_num, HS2, Lib.hid fun j hj => ?_⟩
          by_cases e : j = k
          · subst e; exact HQ.out
          · exact HP.out j (by omega)
        case measure => simp [intOf]; omega
    · obtain rfl : k = n := by omega
      go_wp2_with fail
      go_ret
      exact ⟨ret_int (fx_miss p k HP.out).symm, .inr HS.out⟩

set_option maxHeartbeats 1000000 in
theorem contains_seg (S : Nat → World → Prop) (T : World → Prop) (p : Nat → Bool) (g : Nat) (lb : Array Value) (eg : ∀ args w, (callFunc g args).run Tryz.prog w = .ok (.enter g args) w)
    (L : List SgT) (a : Option Addr) (c B : Nat) (w : World) (hl : L.length ≤ 1000000)
    (hro : ∀ k W, S k W → Ro W B a (sgv L)) (h0 : S 0 w)
    (hf : ∀ k W, k < L.length → S k W → Calls Tryz.prog g (#[(st L k).val] ++ lb) W fun e w' => e = .returned (.bool (p k)) ∧ (p k = true → T w') ∧ (p k = false → S (k + 1) w')) :
    Calls Tryz.prog 128 #[.slice a L.length c, .func (.func g) #[] lb] w fun e w' => e = .returned (.bool (anyN p L.length)) ∧ (T w' ∨ S L.length w') := by
  have HC := Lib.hid (index_seg S T p g lb eg L a c B w hl hro h0 hf)
  clear hro h0 hf
  obtain ⟨z, hz⟩ : ∃ z, z = fx p L.length := ⟨_, rfl⟩
  unfold anyN
  rw [← hz] at HC ⊢
  clear hz
  go_enter Tryz.func128, Tryz.ntmps128
  go_wp2_with fail
  refine HC.out.mono ?_
  rintro e w' ⟨rfl, hs⟩
  have HS := Lib.hid hs
  clear hs
  go_wp2_with fail
  go_ret
  exact ⟨rfl, HS.out⟩

set_option maxHeartbeats 1000000 in
theorem index_ch (S : Nat → World → Prop) (T : World → Prop) (p : Nat → Bool) (g : Nat) (lb : Array Value) (eg : ∀ args w, (callFunc g args).run Tryz.prog w = .ok (.enter g args) w)
    (L : List ChT) (a : Option Addr) (c B : Nat) (w : World) (hl : L.length ≤ 1000000)
    (hro : ∀ k W, S k W → Ro W B a (chv L)) (h0 : S 0 w)
    (hf : ∀ k W, k < L.length → S k W → Calls Tryz.prog g (#[(ct L k).val] ++ lb) W fun e w' => e = .returned (.bool (p k)) ∧ (p k = true → T w') ∧ (p k = false → S (k + 1) w')) :
    Calls Tryz.prog 150 #[.slice a L.length c, .func (.func g) #[] lb] w fun e w' => e = .returned (.int .i64 (fx p L.length)) ∧ (T w' ∨ S L.length w') := by
  obtain ⟨n, HN⟩ : ∃ n, Hid (L.length = n) := ⟨_, Lib.hid rfl⟩
  have HR := Lib.hid hro
  have HF := Lib.hid hf
  have H0 := Lib.hid h0
  clear hro hf h0
  rw [HN.out] at hl ⊢
  go_enter Tryz.func150, Tryz.ntmps150
  go_wp2_with fail
  go_loopw [8] (fun i wr => ∃ k : Nat, k ≤ n ∧ i = .int .i64 (k : Int) ∧ Hid (S k wr) ∧ Hid (∀ j, j < k → p j = false)) (fun i _ => n - (intOf i).toNat)
  case atStart => exact ⟨0, Nat.zero_le _, rfl, H0, Lib.hid (by omega)⟩
  case round =>
    obtain ⟨k, hk, rfl, HS, HP⟩ := hrel
    by_cases hlt : k < n
    · have hkL : k < L.length := by rw [HN.out]; exact hlt
      obtain ⟨b, off, rfl, hb, hc⟩ := (HR.out k wr HS.out).ch (by omega)
      have c1 := hc k hkL
      have HC := Lib.hid (HF.out k wr hkL HS.out)
      clear hc
      have hk0 : (0 : Int) ≤ (k : Int) := by omega
      have hk1 : (k : Int) < (n : Int) := by omega
      simp only [ChT.val] at HC
      generalize (ct L k).a = x2 at *
      generalize (ct L k).u.length = x3 at *
      generalize (ct L k).c = x4 at *
      cases hq : p k with
      | true =>
        have HQ := Lib.hid hq
        clear hq
        go_wp2_with fail
        refine HC.out.mono ?_
        rintro e w' ⟨rfl, hs, -⟩
        rw [HQ.out]
        have HS2 := Lib.hid (hs HQ.out)
        clear hs
        go_wp2_with fail
        go_ret
        exact ⟨ret_int (fx_hit p n k hlt HQ.out HP.out).symm, .inl HS2.out⟩
      | false =>
        have HQ := Lib.hid hq
        clear hq
        go_wp2_with fail
        refine HC.out.mono ?_
        rintro e w' ⟨rfl, -, hs⟩
        rw [HQ.out]
        have HS2 := Lib.hid (hs HQ.out)
        clear hs
        go_wp2_with fail
        go_roundw
        case rel =>
          refine ⟨k + 1, by omega, by go_num, HS2, Lib.hid fun j hj => ?_⟩
          by_cases e : j = k
          · subst e; exact HQ.out
          · exact HP.out j (by omega)
        case measure => simp [intOf]; omega
    · obtain rfl : k = n := by omega
      go_wp2_with fail
      go_ret
      exact ⟨ret_int (fx_miss p k HP.out).symm, .inr HS.out⟩

set_option maxHeartbeats 1000000 in
theorem contains_ch (S : Nat → World → Prop) (T : World → Prop) (p : Nat → Bool) (g : Nat) (lb : Array Value) (eg : ∀ args w, (callFunc g args).run Tryz.prog w = .ok (.enter g args) w)
    (L : List ChT) (a : Option Addr) (c B : Nat) (w : World) (hl : L.length ≤ 1000000)
    (hro : ∀ k W, S k W → Ro W B a (chv L)) (h0 : S 0 w)
    (hf : ∀ k W, k < L.length → S k W → Calls Tryz.prog g (#[(ct L k).val] ++ lb) W fun e w' => e = .returned (.bool (p k)) ∧ (p k = true → T w') ∧ (p k = false → S (k + 1) w')) :
    Calls Tryz.prog 143 #[.slice a L.length c, .func (.func g) #[] lb] w fun e w' => e = .returned (.bool (anyN p L.length)) ∧ (T w' ∨ S L.length w') := by
  have HC := Lib.hid (index_ch S T p g lb eg L a c B w hl hro h0 hf)
  clear hro h0 hf
  obtain ⟨z, hz⟩ : ∃ z, z = fx p L.length := ⟨_, rfl⟩
  unfold anyN
  rw [← hz] at HC ⊢
  clear hz
  go_enter Tryz.func143, Tryz.ntmps143
  go_wp2_with fail
  refine HC.out.mono ?_
  rintro e w' ⟨rfl, hs⟩
  have HS := Lib.hid hs
  clear hs
  go_wp2_with fail
  go_ret
  exact ⟨rfl, HS.out⟩

set_option maxHeartbeats 1000000 in
theorem index_int (S : Nat → World → Prop) (T : World → Prop) (p : Nat → Bool) (g : Nat) (lb : Array Value) (eg : ∀ args w, (callFunc g args).run Tryz.prog w = .ok (.enter g args) w)
    (L : List Int) (a : Option Addr) (c B : Nat) (w : World) (hl : L.length ≤ 1000000)
    (hro : ∀ k W, S k W → Ro W B a (i64s L)) (h0 : S 0 w)
    (hf : ∀ k W, k < L.length → S k W → Calls Tryz.prog g (#[.int .i64 (L.getD k 0)] ++ lb) W fun e w' => e = .returned (.bool (p k)) ∧ (p k = true → T w') ∧ (p k = false → S (k + 1) w')) :
    Calls Tryz.prog 116 #[.slice a L.length c, .func (.func g) #[] lb] w fun e w' => e = .returned (.int .i64 (fx p L.length)) ∧ (T w' ∨ S L.length w') := by
  obtain ⟨n, HN⟩ : ∃ n, Hid (L.length = n) := ⟨_, Lib.hid rfl⟩
  have HR := Lib.hid hro
  have HF := Lib.hid hf
  have H0 := Lib.hid h0
  clear hro hf h0
  rw [HN.out] at hl ⊢
  go_enter Tryz.func116, Tryz.ntmps116
  go_wp2_with fail
  go_loopw [8] (fun i wr => ∃ k : Nat, k ≤ n ∧ i = .int .i64 (k : Int) ∧ Hid (S k wr) ∧ Hid (∀ j, j < k → p j = false)) (fun i _ => n - (intOf i).toNat)
  case atStart => exact ⟨0, Nat.zero_le _, rfl, H0, Lib.hid (by omega)⟩
  case round =>
    obtain ⟨k, hk, rfl, HS, HP⟩ := hrel
    by_cases hlt : k < n
    · have hkL : k < L.length := by rw [HN.out]; exact hlt
      obtain ⟨b, off, rfl, hb, hc⟩ := (HR.out k wr HS.out).i64 (by omega)
      have c1 := hc k hkL
      have HC := Lib.hid (HF.out k wr hkL HS.out)
      clear hc
      have hk0 : (0 : Int) ≤ (k : Int) := by omega
      have hk1 : (k : Int) < (n : Int) := by omega
      generalize L.getD k 0 = x1 at *
      cases hq : p k with
      | true =>
        have HQ := Lib.hid hq
        clear hq
        go_wp2_with fail
        refine HC.out.mono ?_
        rintro e w' ⟨rfl, hs, -⟩
        rw [HQ.out]
        have HS2 := Lib.hid (hs HQ.out)
        clear hs
        go_wp2_with fail
        go_ret
        exact ⟨ret_int (fx_hit p n k hlt HQ.out HP.out).symm, .inl HS2.out⟩
      | false =>
        have HQ := Lib.hid hq
        clear hq
        go_wp2_with fail
        refine HC.out.mono ?_
        rintro e w' ⟨rfl, -, hs⟩
        rw [HQ.out]
        have HS2 := Lib.hid (hs HQ.out)
        clear hs
        go_wp2_with fail
        go_roundw
        case rel =>
          refine ⟨k + 1, by omega, by go_num, HS2, Lib.hid fun j hj => ?_⟩
          by_cases e : j = k
          · subst e; exact HQ.out
          · exact HP.out j (by omega)
        case measure => simp [intOf]; omega
    · obtain rfl : k = n := by omega
      go_wp2_with fail
      go_ret
      exact ⟨ret_int (fx_miss p k HP.out).symm, .inr HS.out⟩

set_option maxHeartbeats 1000000 in
theorem contains_int (S : Nat → World → Prop) (T : World → Prop) (p : Nat → Bool) (g : Nat) (lb : Array Value) (eg : ∀ args w, (callFunc g args).run Tryz.prog w = .ok (.enter g args) w)
    (L : List Int) (a : Option Addr) (c B : Nat) (w : World) (hl : L.length ≤ 1000000)
    (hro : ∀ k W, S k W → Ro W B a (i64s L)) (h0 : S 0 w)
    (hf : ∀ k W, k < L.length → S k W → Calls Tryz.prog g (#[.int .i64 (L.getD k 0)] ++ lb) W fun e w' => e = .returned (.bool (p k)) ∧ (p k = true → T w') ∧ (p k = false → S (k + 1) w')) :
    Calls Tryz.prog 94 #[.slice a L.length c, .func (.func g) #[] lb] w fun e w' => e = .returned (.bool (anyN p L.length)) ∧ (T w' ∨ S L.length w') := by
  have HC := Lib.hid (index_int S T p g lb eg L a c B w hl hro h0 hf)
  clear hro h0 hf
  obtain ⟨z, hz⟩ : ∃ z, z = fx p L.length := ⟨_, rfl⟩
  unfold anyN
  rw [← hz] at HC ⊢
  clear hz
  go_enter Tryz.func94, Tryz.ntmps94
  go_wp2_with fail
  refine HC.out.mono ?_
  rintro e w' ⟨rfl, hs⟩
  have HS := Lib.hid hs
  clear hs
  go_wp2_with fail
  go_ret
  exact ⟨rfl, HS.out⟩
end Go.Proofs.YtdpaofedepnnbaaGreat
