/-
  Small functions of package cell, by their contracts: joined, split, noLast. No claim of their own.
-/
import Derived.Deep.RegionHeld3
import Derived.Test.YtmpajlpemabniaaGreatZq1
import Derived.Test.YtmpajlpemabniaaGreatZq11
import Derived.Test.YtmpajlpemabniaaGreatZq12
namespace Go.Proofs.YtmpajlpemabniaaGreat
open Go.RowKit Go.Deep
set_option linter.unusedVariables false
set_option linter.unusedSimpArgs false
theorem join_int (h l n : Nat) (hn : n ≤ 64) (hh : h * 2 ^ n < 18446744073709551616) (hl : l < 2 ^ n) :
    bits BinOp.or IntKind.u64 (IntKind.u64.wrap ((h : Int) * 2 ^ n)) (l : Int) = ((h * 2 ^ n + l : Nat) : Int) := by
  have e : ((h : Int) * 2 ^ n) = ((h * 2 ^ n : Nat) : Int) := by simp
  have h3 := pow_le_64 hn
  rw [e, wrap_u64_nat _ hh, u64_or_nat _ _ hh (by omega), nat_join n _ _ (Nat.mul_mod_left _ _) hl]
set_option maxHeartbeats 400000 in
theorem joined_any (h l n : Nat) (w : World) (hn : n ≤ 64) (hh : h * 2 ^ n < 18446744073709551616) (hl : l < 2 ^ n) :
    Calls Tryz.prog 249 #[.int .u64 (h : Int), .int .u64 (l : Int), .int .i64 (n : Int)] w fun e w' => e = .returned (.int .u64 ((h * 2 ^ n + l : Nat) : Int)) ∧ w = w' := by
  have HJ := Lib.hid (join_int h l n hn hh hl)
  clear hh hl
  go_enter Tryz.func249, Tryz.ntmps249
  go_wp2
  go_ret
  exact ⟨ret_int HJ.out, rfl⟩
set_option maxHeartbeats 400000 in
theorem split_any (v n : Nat) (w : World) (hn : n ≤ 64) (hv : v < 18446744073709551616) :
    Calls Tryz.prog 196 #[.int .u64 (v : Int), .int .i64 (n : Int)] w fun e w' => e = .returned (.tuple #[.int .u64 ((v / 2 ^ n : Nat) : Int), .int .u64 ((v % 2 ^ n : Nat) : Int)]) ∧ w' = w.drew := by
  have HJ := Lib.hid (lowest_eq (v : Int) n hn)
  go_enter Tryz.func196, Tryz.ntmps196
  go_wp2
  go_region
  go_wp2
  go_ret2
  refine ⟨?_, rfl⟩
  show Ending.returned (.tuple #[.int .u64 ((v : Int) / 2 ^ n), .int .u64 (bits BinOp.and IntKind.u64 (v : Int) (IntKind.u64.wrap (IntKind.u64.wrap (2 ^ n) - 1)))]) = _
  rw [HJ.out]
  simp
theorem split_z (v : Int) (n : Nat) (q r : Int) (w : World) (hn : n ≤ 64) (h0 : 0 ≤ v) (hv : v < 18446744073709551616) (hq : q = v / 2 ^ n) (hr : r = v % 2 ^ n) :
    Calls Tryz.prog 196 #[.int .u64 v, .int .i64 (n : Int)] w fun e w' => e = .returned (.tuple #[.int .u64 q, .int .u64 r]) ∧ w' = w.drew := by
  obtain ⟨v, rfl⟩ := Int.eq_ofNat_of_zero_le h0
  subst hq hr
  have e := split_any v n w hn (by omega)
  simpa using e
theorem split_21 (v : Int) (w : World) (h0 : 0 ≤ v) (hv : v < 18446744073709551616) :
    Calls Tryz.prog 196 #[.int .u64 v, .int .i64 21] w fun e w' => e = .returned (.tuple #[.int .u64 (v / 2097152), .int .u64 (v % 2097152)]) ∧ w' = w.drew :=
  split_z v 21 _ _ w (by omega) h0 hv (by omega) (by omega)
set_option maxHeartbeats 400000 in
theorem noLast_any (w : World) :
    Calls Tryz.prog 231 #[] w fun e w' => e = .returned (.agg #[.int .u64 18446744073709551615, .int .u64 18446744073709551615]) ∧ Below w.heap.size w w' := by
  go_enter Tryz.func231, Tryz.ntmps231
  go_wp2
  refine wp_loop_rounds 3 ?_
  rw [rounds_succ]; go_wp2
  rw [rounds_succ]; go_wp2
  rw [rounds_succ]; go_wp2
  exact bodyPost_ret (v := .agg #[.int .u64 18446744073709551615, .int .u64 18446744073709551615]) (by simp [results, Tryz.results231, go_sem]) rfl ⟨rfl, ((Below.refl _ _).alloc (Nat.le_refl _) _).alloc (by simp) _⟩
def headN (nbP nd : Nat) : Nat := (1 * 2 ^ 3 + nbP) * 2 ^ 7 + nd
def fieldN (b : Bk) : Nat := (b.1.toNat * 2 ^ 21 + min b.2.1 1048576) * 2 ^ 21 + min b.2.2 1048576
def lst (a : Nat) : Nat := if a = 1048576 then 18446744073709551615 else a
def backN (f : Nat) : Bk := (((f / 2 ^ 21 / 2 ^ 21 : Nat) : Int), lst (f / 2 ^ 21 % 2 ^ 21), lst (f % 2 ^ 21))
set_option maxHeartbeats 400000 in
theorem headOf_any (k : Int) (a : Option Addr) (n c : Nat) (a2 : Option Addr) (n2 c2 : Nat) (w : World) (h1 : n < 128) (h2 : n2 < 8) :
    Calls Tryz.prog 222 #[cev k a n c a2 n2 c2] w fun e w' => e = .returned (.int .u64 (headN n2 n : Nat)) ∧ Below w.heap.size w w' := by
  have HJ1 := Lib.hid (fun W => joined_any 1 n2 3 W (by omega) (by omega) (by omega))
  have HJ2 := Lib.hid (fun W => joined_any (1 * 2 ^ 3 + n2) n 7 W (by omega) (by omega) (by omega))
  have e1 : IntKind.u64.wrap (n2 : Int) = (n2 : Int) := wrap_u64_nat _ (by omega)
  have e2 : IntKind.u64.wrap (n : Int) = (n : Int) := wrap_u64_nat _ (by omega)
  go_enter Tryz.func222, Tryz.ntmps222
  go_wp2_with fail
  refine (HJ1.out _).mono ?_
  rintro e w1 ⟨rfl, rfl⟩
  go_wp2_with fail
  refine (HJ2.out _).mono ?_
  rintro e w1 ⟨rfl, rfl⟩
  go_wp2_with fail
  go_ret
  exact ⟨rfl, (Below.refl _ _).alloc (Nat.le_refl _) _⟩
theorem ix0 (x y : Value) (W : World) : Sem.run Tryz.prog (Instr.index 141 (.agg #[x, y]) (.int .i64 0)) W = .ok x W := by
  simp [Instr.index, go_sem]
theorem ix1 (x y : Value) (W : World) : Sem.run Tryz.prog (Instr.index 141 (.agg #[x, y]) (.int .i64 1)) W = .ok y W := by
  simp [Instr.index, go_sem]
theorem joined_z (h l : Int) (n : Nat) (r : Int) (w : World) (hn : n ≤ 64) (h0 : 0 ≤ h) (hh : h * 2 ^ n < 18446744073709551616) (l0 : 0 ≤ l) (hl : l < 2 ^ n) (hr : r = h * 2 ^ n + l) :
    Calls Tryz.prog 249 #[.int .u64 h, .int .u64 l, .int .i64 (n : Int)] w fun e w' => e = .returned (.int .u64 r) ∧ w = w' := by
  obtain ⟨h, rfl⟩ := Int.eq_ofNat_of_zero_le h0
  obtain ⟨l, rfl⟩ := Int.eq_ofNat_of_zero_le l0
  subst hr
  have e : ((h : Int) * 2 ^ n) = ((h * 2 ^ n : Nat) : Int) := by simp
  have e2 : ((2 : Int) ^ n) = ((2 ^ n : Nat) : Int) := by simp
  refine (joined_any h l n w hn (by omega) (by omega)).mono ?_
  rintro e w' ⟨rfl, rfl⟩
  exact ⟨ret_int (by simp), rfl⟩
theorem joined_21 (h l : Int) (w : World) (h0 : 0 ≤ h) (hh : h < 8796093022208) (l0 : 0 ≤ l) (hl : l < 2097152) :
    Calls Tryz.prog 249 #[.int .u64 h, .int .u64 l, .int .i64 21] w fun e w' => e = .returned (.int .u64 (h * 2097152 + l)) ∧ w = w' :=
  joined_z h l 21 _ w (by omega) h0 (by omega) l0 (by omega) (by omega)
set_option maxHeartbeats 400000 in
theorem fieldOf_any (b : Bk) (w : World) (h0 : 0 ≤ b.1) (h1 : b.1 < 16) (h2 : b.2.1 ≤ 18446744073709551615) (h3 : b.2.2 ≤ 18446744073709551615) :
    Calls Tryz.prog 223 #[bkv b] w fun e w' => e = .returned (.int .u64 (fieldN b : Nat)) ∧ Below w.heap.size w w' := by
  obtain ⟨s, p, q⟩ := b
  simp only at h0 h1 h2 h3
  have e1 : IntKind.u64.wrap s = s := by rw [IntKind.wrap_u64]; omega
  have hi0 := ix0
  have hi1 := ix1
  have HP : (p : Int) ≤ 1048576 ∨ 1048576 < (p : Int) := by omega
  have HQ : (q : Int) ≤ 1048576 ∨ 1048576 < (q : Int) := by omega
  rcases HP with hp | hp
  all_goals rcases HQ with hq | hq
  all_goals
    go_enter Tryz.func223, Tryz.ntmps223
    go_wp2_with fail
    refine wp_loop_rounds 3 ?_
    rw [rounds_succ]
    go_wp2_with fail
    refine (joined_21 _ _ _ (by omega) (by omega) (by omega) (by omega)).mono ?_
    rintro e w1 ⟨rfl, rfl⟩
    go_wp2_with fail
    rw [rounds_succ]
    go_wp2_with fail
    refine (joined_21 _ _ _ (by omega) (by omega) (by omega) (by omega)).mono ?_
    rintro e w1 ⟨rfl, rfl⟩
    go_wp2_with fail
    rw [rounds_succ]
    go_wp2_with fail
    go_ret
    exact ⟨ret_int (by simp only [fieldN]; omega), (Below.refl _ _).alloc (Nat.le_refl _) _⟩
set_option maxHeartbeats 1000000 in
theorem backOf_any (f : Nat) (w : World) (hf : f < 2 ^ 46) :
    Calls Tryz.prog 198 #[.int .u64 (f : Int)] w fun e w' => e = .returned (bkv (backN f)) ∧ Below w.heap.size w w' := by
  have HP : (((f : Int) % 2097152 != 1048576) = true ∧ f % 2 ^ 21 ≠ 1048576) ∨ (((f : Int) % 2097152 != 1048576) = false ∧ f % 2 ^ 21 = 1048576) := by
    by_cases e : f % 2 ^ 21 = 1048576
    · exact .inr ⟨by rw [bne_eq_false_iff_eq]; omega, e⟩
    · exact .inl ⟨by rw [bne_iff_ne]; omega, e⟩
  have HQ : (((f : Int) / 2097152 % 2097152 != 1048576) = true ∧ f / 2 ^ 21 % 2 ^ 21 ≠ 1048576) ∨ (((f : Int) / 2097152 % 2097152 != 1048576) = false ∧ f / 2 ^ 21 % 2 ^ 21 = 1048576) := by
    by_cases e : f / 2 ^ 21 % 2 ^ 21 = 1048576
    · exact .inr ⟨by rw [bne_eq_false_iff_eq]; omega, e⟩
    · exact .inl ⟨by rw [bne_iff_ne]; omega, e⟩
  have e1 : wrap64 ((f : Int) / 2097152 / 2097152) = (f : Int) / 2097152 / 2097152 := by unfold wrap64; omega
  have HL := Lib.hid (noLast_any w.drew)
  rcases HP with ⟨hp, hp'⟩ | ⟨hp, hp'⟩
  all_goals rcases HQ with ⟨hq, hq'⟩ | ⟨hq, hq'⟩
  all_goals
    have HP := Lib.hid hp'
    have HQ := Lib.hid hq'
    clear hp' hq'
    go_enter Tryz.func198, Tryz.ntmps198
    go_wp2_with fail
    refine (noLast_any _).mono ?_
    rintro e w1 ⟨rfl, hb⟩
    have HB := Lib.hid hb
    have hO : Own w1 w.heap.size 143 [.int .i64 0, .int .u64 0, .int .u64 0] := (Own.new w 143 [.int .i64 0, .int .u64 0, .int .u64 0]).below hb (by simp)
    have hc0 := hO.cell 0
    have hc1 := hO.cell 1
    have hc2 := hO.cell 2
    have hf0 := hO.frozen 0
    have hf1 := hO.frozen 1
    have hf2 := hO.frozen 2
    have hz := hO.lt
    simp at hc0 hc1 hc2
    clear hb hO
    go_wp2_with fail
    refine wp_loop_rounds 3 ?_
    rw [rounds_succ]
    go_wp2_with fail
    refine (split_21 _ _ (by omega) (by omega)).mono ?_
    rintro e w2 ⟨rfl, rfl⟩
    go_wp2_with fail
    rw [rounds_succ]
    go_wp2_with fail
    refine (split_21 _ _ (by omega) (by omega)).mono ?_
    rintro e w2 ⟨rfl, rfl⟩
    go_wp2_with fail
    rw [rounds_succ]
    go_wp2_with fail
    refine bodyPost_ret (v := bkv (backN f)) (by simp [results, Tryz.results198, go_sem, hc0, hc1, hc2, hz, backN, lst, HP.out, HQ.out]) rfl ⟨rfl, ?_⟩
    exact (((((((Below.refl w.heap.size w).alloc (Nat.le_refl _) _).trans (HB.out.mono (by simp))).setCell (Nat.le_refl _) _).setCell (Nat.le_refl _) _).setCell (Nat.le_refl _) _).alloc (by simp; omega) _).drew.drew
end Go.Proofs.YtmpajlpemabniaaGreat
namespace Go.Proofs.YtmpajlpemabniaaGreat
open Go.RowKit Go.Deep
set_option linter.unusedVariables false
set_option linter.unusedSimpArgs false
set_option maxHeartbeats 1000000 in
theorem index_back (S : Nat → World → Prop) (p : Nat → Bool) (g : Nat) (lb : Array Value) (eg : ∀ args w, (callFunc g args).run Tryz.prog w = .ok (.enter g args) w)
    (L : List Bk) (a : Option Addr) (c B : Nat) (w : World) (hl : L.length ≤ 1000000)
    (hro : ∀ k W, S k W → Ro W B a (bcs L)) (h0 : S 0 w)
    (hf : ∀ k W, k < L.length → S k W → Calls Tryz.prog g (#[bkv (bk L k)] ++ lb) W fun e w' => e = .returned (.bool (p k)) ∧ S (k + 1) w') :
    Calls Tryz.prog 218 #[.slice a L.length c, .func (.func g) #[] lb] w fun e w' => e = .returned (.int .i64 (fx p L.length)) ∧ ∃ k, S k w' := by
  obtain ⟨n, HN⟩ : ∃ n, Hid (L.length = n) := ⟨_, Lib.hid rfl⟩
  have HR := Lib.hid hro
  have HF := Lib.hid hf
  have H0 := Lib.hid h0
  clear hro hf h0
  rw [HN.out] at hl ⊢
  go_enter Tryz.func218, Tryz.ntmps218
  go_wp2_with fail
  go_loopw [8] (fun i wr => ∃ k : Nat, k ≤ n ∧ i = .int .i64 (k : Int) ∧ Hid (S k wr) ∧ Hid (∀ j, j < k → p j = false)) (fun i _ => n - (Go.RowKit.intOf i).toNat)
  case atStart => exact ⟨0, Nat.zero_le _, rfl, H0, Lib.hid (by omega)⟩
  case round =>
    obtain ⟨k, hk, rfl, HS, HP⟩ := hrel
    by_cases hlt : k < n
    · have hkL : k < L.length := by rw [HN.out]; exact hlt
      obtain ⟨b, off, rfl, hb, hc⟩ := (HR.out k wr HS.out).bk (by omega)
      obtain ⟨c1, c2, c3⟩ := hc k hkL
      have HC := Lib.hid (HF.out k wr hkL HS.out)
      clear hc
      have hk0 : (0 : Int) ≤ (k : Int) := by omega
      have hk1 : (k : Int) < (n : Int) := by omega
      generalize bk L k = x at *
      cases hq : p k with
      | true =>
        have HQ := Lib.hid hq
        clear hq
        go_wp2_with fail
        refine HC.out.mono ?_
        rintro e w' ⟨rfl, hs⟩
        rw [HQ.out]
        have HS2 := Lib.hid hs
        clear hs
        go_wp2_with fail
        go_ret
        exact ⟨ret_int (fx_hit p n k hlt HQ.out HP.out).symm, _, HS2.out⟩
      | false =>
        have HQ := Lib.hid hq
        clear hq
        go_wp2_with fail
        refine HC.out.mono ?_
        rintro e w' ⟨rfl, hs⟩
        rw [HQ.out]
        have HS2 := Lib.hid hs
        clear hs
        go_wp2_with fail
        go_roundw
        case rel =>
          refine ⟨k + 1, by omega, by go_num, HS2, Lib.hid fun j hj => ?_⟩
          by_cases e : j = k
          · subst e; exact HQ.out
          · exact HP.out j (by omega)
        case measure => simp [Go.RowKit.intOf]; omega
    · obtain rfl : k = n := by omega
      go_wp2_with fail
      go_ret
      exact ⟨ret_int (fx_miss p k HP.out).symm, _, HS.out⟩
set_option maxHeartbeats 1000000 in
theorem contains_back (S : Nat → World → Prop) (p : Nat → Bool) (g : Nat) (lb : Array Value) (eg : ∀ args w, (callFunc g args).run Tryz.prog w = .ok (.enter g args) w)
    (L : List Bk) (a : Option Addr) (c B : Nat) (w : World) (hl : L.length ≤ 1000000)
    (hro : ∀ k W, S k W → Ro W B a (bcs L)) (h0 : S 0 w)
    (hf : ∀ k W, k < L.length → S k W → Calls Tryz.prog g (#[bkv (bk L k)] ++ lb) W fun e w' => e = .returned (.bool (p k)) ∧ S (k + 1) w') :
    Calls Tryz.prog 175 #[.slice a L.length c, .func (.func g) #[] lb] w fun e w' => e = .returned (.bool (anyN p L.length)) ∧ ∃ k, S k w' := by
  have HC := Lib.hid (index_back S p g lb eg L a c B w hl hro h0 hf)
  clear hro h0 hf
  obtain ⟨z, hz⟩ : ∃ z, z = fx p L.length := ⟨_, rfl⟩
  unfold anyN
  rw [← hz] at HC ⊢
  clear hz
  go_enter Tryz.func175, Tryz.ntmps175
  go_wp2_with fail
  refine HC.out.mono ?_
  rintro e w' ⟨rfl, hs⟩
  have HS := Lib.hid hs
  clear hs
  go_wp2_with fail
  go_ret
  exact ⟨rfl, HS.out⟩
set_option maxHeartbeats 1000000 in
theorem index_num (S : Nat → World → Prop) (p : Nat → Bool) (g : Nat) (lb : Array Value) (eg : ∀ args w, (callFunc g args).run Tryz.prog w = .ok (.enter g args) w)
    (L : List Nat) (a : Option Addr) (c B : Nat) (w : World) (hl : L.length ≤ 1000000)
    (hro : ∀ k W, S k W → Ro W B a (u64s L)) (h0 : S 0 w)
    (hf : ∀ k W, k < L.length → S k W → Calls Tryz.prog g (#[.int .u64 (L.getD k 0 : Nat)] ++ lb) W fun e w' => e = .returned (.bool (p k)) ∧ S (k + 1) w') :
    Calls Tryz.prog 248 #[.slice a L.length c, .func (.func g) #[] lb] w fun e w' => e = .returned (.int .i64 (fx p L.length)) ∧ ∃ k, S k w' := by
  obtain ⟨n, HN⟩ : ∃ n, Hid (L.length = n) := ⟨_, Lib.hid rfl⟩
  have HR := Lib.hid hro
  have HF := Lib.hid hf
  have H0 := Lib.hid h0
  clear hro hf h0
  rw [HN.out] at hl ⊢
  go_enter Tryz.func248, Tryz.ntmps248
  go_wp2_with fail
  go_loopw [8] (fun i wr => ∃ k : Nat, k ≤ n ∧ i = .int .i64 (k : Int) ∧ Hid (S k wr) ∧ Hid (∀ j, j < k → p j = false)) (fun i _ => n - (Go.RowKit.intOf i).toNat)
  case atStart => exact ⟨0, Nat.zero_le _, rfl, H0, Lib.hid (by omega)⟩
  case round =>
    obtain ⟨k, hk, rfl, HS, HP⟩ := hrel
    by_cases hlt : k < n
    · have hkL : k < L.length := by rw [HN.out]; exact hlt
      obtain ⟨b, off, rfl, hb, hc⟩ := (HR.out k wr HS.out).u64 (by omega)
      have c1 := hc k hkL
      have HC := Lib.hid (HF.out k wr hkL HS.out)
      clear hc
      have hk0 : (0 : Int) ≤ (k : Int) := by omega
      have hk1 : (k : Int) < (n : Int) := by omega
      generalize L.getD k 0 = x at *
      cases hq : p k with
      | true =>
        have HQ := Lib.hid hq
        clear hq
        go_wp2_with fail
        refine HC.out.mono ?_
        rintro e w' ⟨rfl, hs⟩
        rw [HQ.out]
        have HS2 := Lib.hid hs
        clear hs
        go_wp2_with fail
        go_ret
        exact ⟨ret_int (fx_hit p n k hlt HQ.out HP.out).symm, _, HS2.out⟩
      | false =>
        have HQ := Lib.hid hq
        clear hq
        go_wp2_with fail
        refine HC.out.mono ?_
        rintro e w' ⟨rfl, hs⟩
        rw [HQ.out]
        have HS2 := Lib.hid hs
        clear hs
        go_wp2_with fail
        go_roundw
        case rel =>
          refine ⟨k + 1, by omega, by go_num, HS2, Lib.hid fun j hj => ?_⟩
          by_cases e : j = k
          · subst e; exact HQ.out
          · exact HP.out j (by omega)
        case measure => simp [Go.RowKit.intOf]; omega
    · obtain rfl : k = n := by omega
      go_wp2_with fail
      go_ret
      exact ⟨ret_int (fx_miss p k HP.out).symm, _, HS.out⟩
set_option maxHeartbeats 1000000 in
theorem contains_num (S : Nat → World → Prop) (p : Nat → Bool) (g : Nat) (lb : Array Value) (eg : ∀ args w, (callFunc g args).run Tryz.prog w = .ok (.enter g args) w)
    (L : List Nat) (a : Option Addr) (c B : Nat) (w : World) (hl : L.length ≤ 1000000)
    (hro : ∀ k W, S k W → Ro W B a (u64s L)) (h0 : S 0 w)
    (hf : ∀ k W, k < L.length → S k W → Calls Tryz.prog g (#[.int .u64 (L.getD k 0 : Nat)] ++ lb) W fun e w' => e = .returned (.bool (p k)) ∧ S (k + 1) w') :
    Calls Tryz.prog 219 #[.slice a L.length c, .func (.func g) #[] lb] w fun e w' => e = .returned (.bool (anyN p L.length)) ∧ ∃ k, S k w' := by
  have HC := Lib.hid (index_num S p g lb eg L a c B w hl hro h0 hf)
  clear hro h0 hf
  obtain ⟨z, hz⟩ : ∃ z, z = fx p L.length := ⟨_, rfl⟩
  unfold anyN
  rw [← hz] at HC ⊢
  clear hz
  go_enter Tryz.func219, Tryz.ntmps219
  go_wp2_with fail
  refine HC.out.mono ?_
  rintro e w' ⟨rfl, hs⟩
  have HS := Lib.hid hs
  clear hs
  go_wp2_with fail
  go_ret
  exact ⟨rfl, HS.out⟩
end Go.Proofs.YtmpajlpemabniaaGreat
