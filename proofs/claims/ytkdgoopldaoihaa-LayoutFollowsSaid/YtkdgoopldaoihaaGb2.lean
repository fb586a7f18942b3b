/-
  isUnit and within of package layout; slices.IndexFunc, slices.ContainsFunc at segments, at chains and at numbers, over a closure that keeps a state. No claim of their own.
-/
import Derived.Test.YtkdgoopldaoihaaGb1
import Derived.Shelf.Lay
import Derived.Laws.EntriesVeiled
import Derived.Deep.Cut
namespace Go.Proofs.Ytkdgoopldaoihaa
open Go.RowKit Go.Deep
set_option linter.unusedVariables false
set_option linter.unusedSimpArgs false

set_option maxHeartbeats 400000 in
theorem isUnit_any (n : Int) (w : World) :
    Calls Try.prog 40 #[.int .i64 n] w fun e w' => e = .returned (.bool (decide (0 ≤ n ∧ n < 32))) ∧ w' = w := by
  have h : (0 ≤ n ∧ n < 32) ∨ n < 0 ∨ 32 ≤ n := by omega
  rcases h with ⟨h1, h2⟩ | h1 | h1
  all_goals
    go_enter Try.func40, Try.ntmps40
    go_wp2
    go_ret
    refine ⟨?_, rfl⟩
    simp
    omega

set_option maxHeartbeats 400000 in
theorem within_seg (a : Option Addr) (n c : Nat) (w : World) (hn : n ≤ 9223372036854775807) :
    Calls Try.prog 62 #[.slice a n c, .int .i64 4] w fun e w' => e = .returned (.bool (isLen n)) ∧ w' = w := by
  have h : n = 0 ∨ (1 ≤ n ∧ n ≤ 4) ∨ 4 < n := by omega
  rcases h with rfl | ⟨h1, h2⟩ | h1
  · go_enter Try.func62, Try.ntmps62
    go_wp2
    go_ret
    exact ⟨rfl, rfl⟩
  · have e : isLen n = true := isLen_iff.2 ⟨h1, h2⟩
    rw [e]
    go_enter Try.func62, Try.ntmps62
    go_wp2
    go_ret
    refine ⟨?_, rfl⟩
    simp
    omega
  · have e : isLen n = false := by rw [← Bool.not_eq_true, isLen_iff]; omega
    rw [e]
    go_enter Try.func62, Try.ntmps62
    go_wp2
    go_ret
    refine ⟨?_, rfl⟩
    simp
    omega

set_option maxHeartbeats 400000 in
theorem within_ch (a : Option Addr) (n c : Nat) (w : World) (hn : n ≤ 9223372036854775807) :
    Calls Try.prog 82 #[.slice a n c, .int .i64 4] w fun e w' => e = .returned (.bool (isLen n)) ∧ w' = w := by
  have h : n = 0 ∨ (1 ≤ n ∧ n ≤ 4) ∨ 4 < n := by omega
  rcases h with rfl | ⟨h1, h2⟩ | h1
  · go_enter Try.func82, Try.ntmps82
    go_wp2
    go_ret
    exact ⟨rfl, rfl⟩
  · have e : isLen n = true := isLen_iff.2 ⟨h1, h2⟩
    rw [e]
    go_enter Try.func82, Try.ntmps82
    go_wp2
    go_ret
    refine ⟨?_, rfl⟩
    simp
    omega
  · have e : isLen n = false := by rw [← Bool.not_eq_true, isLen_iff]; omega
    rw [e]
    go_enter Try.func82, Try.ntmps82
    go_wp2
    go_ret
    refine ⟨?_, rfl⟩
    simp
    omega

set_option maxHeartbeats 400000 in
theorem within_int (a : Option Addr) (n c : Nat) (w : World) (hn : n ≤ 9223372036854775807) :
    Calls Try.prog 85 #[.slice a n c, .int .i64 4] w fun e w' => e = .returned (.bool (isLen n)) ∧ w' = w := by
  have h : n = 0 ∨ (1 ≤ n ∧ n ≤ 4) ∨ 4 < n := by omega
  rcases h with rfl | ⟨h1, h2⟩ | h1
  · go_enter Try.func85, Try.ntmps85
    go_wp2
    go_ret
    exact ⟨rfl, rfl⟩
  · have e : isLen n = true := isLen_iff.2 ⟨h1, h2⟩
    rw [e]
    go_enter Try.func85, Try.ntmps85
    go_wp2
    go_ret
    refine ⟨?_, rfl⟩
    simp
    omega
  · have e : isLen n = false := by rw [← Bool.not_eq_true, isLen_iff]; omega
    rw [e]
    go_enter Try.func85, Try.ntmps85
    go_wp2
    go_ret
    refine ⟨?_, rfl⟩
    simp
    omega

set_option maxHeartbeats 1000000 in
theorem index_seg (S : Nat → World → Prop) (T : World → Prop) (p : Nat → Bool) (g : Nat) (lb : Array Value) (eg : ∀ args w, (callFunc g args).run Try.prog w = .ok (.enter g args) w)
    (L : List SgT) (a : Option Addr) (c B : Nat) (w : World) (hl : L.length ≤ 1000000)
    (hro : ∀ k W, S k W → Ro W B a (sgv L)) (h0 : S 0 w)
    (hf : ∀ k W, k < L.length → S k W → Calls Try.prog g (#[(st L k).val] ++ lb) W fun e w' => e = .returned (.bool (p k)) ∧ (p k = true → T w') ∧ (p k = false → S (k + 1) w')) :
    Calls Try.prog 87 #[.slice a L.length c, .func (.func g) #[] lb] w fun e w' => e = .returned (.int .i64 (fx p L.length)) ∧ (T w' ∨ S L.length w') := by
  obtain ⟨n, HN⟩ : ∃ n, Hid (L.length = n) := ⟨_, Lib.hid rfl⟩
  have HR := Lib.hid hro
  have HF := Lib.hid hf
  have H0 := Lib.hid h0
  clear hro hf h0
  rw [HN.out] at hl ⊢
  go_enter Try.func87, Try.ntmps87
  go_wp2_with fail
  go_loopw [8] (fun i wr => ∃ k : Nat, k ≤ n ∧ i = .int .i64 (k : Int) ∧ Hid (S k wr) ∧ Hid (∀ j, j < k → p j = false)) (fun i _ => n - (intOf i).toNat)
  case atStart => exact ⟨0, Nat.zero_le _, rfl, H0, Lib.hid (by omega)⟩
  case round =>
    obtain ⟨k, hk, rfl, HS, HP⟩ := hrel
    by_cases hlt : k < n
    · have hkL : k < L.length := by rw [HN.out]; exact hlt
      obtain ⟨b, off, rfl, hb, hc⟩ := (HR.out k wr HS.out).sg (by omega)
      obtain ⟨c1, c2⟩ := hc k hkL
      have HC := Lib.hid (HF.out k wr hkL HS.out)
      clear hc
      have hk0 : (0 : Int) ≤ (k : Int) := by omega
      have hk1 : (k : Int) < (n : Int) := by omega
      simp only [SgT.val] at HC
      generalize (st L k).f = x1 at *
      generalize (st L k).a = x2 at *
      generalize (st L k).ch.length = x3 at *
      generalize (st L k).c = x4 at *
      cases hq : p k with
      | true =>
        have HQ := Lib.hid hq
        clear hq
        go_wp2_with fail
        refine HC.out.mono ?_
        rintro e w' ⟨rfl, hs, -⟩
        rw [HQ.out]
        have HS2 := Lib.hid (hs HQ.out)
        clear hs
        go_wp2_with fail
        go_ret
        exact ⟨ret_int (fx_hit p n k hlt HQ.out HP.out).symm, .inl HS2.out⟩
      | false =>
        have HQ := Lib.hid hq
        clear hq
        go_wp2_with fail
        refine HC.out.mono ?_
        rintro e w' ⟨rfl, -, hs⟩
        rw [HQ.out]
        have HS2 := Lib.hid (hs HQ.out)
        clear hs
        go_wp2_with fail
        go_roundw
        case rel =>
          refine ⟨k + 1, by omega, by go_num, HS2, Lib.hid fun j hj => ?_⟩
          by_cases e : j = k
          · subst e; exact HQ.out
          · exact HP.out j (by omega)
        case measure => simp [intOf]; omega
    · obtain rfl : k = n := by omega
      go_wp2_with fail
      go_ret
      exact ⟨ret_int (fx_miss p k HP.out).symm, .inr HS.out⟩

set_option maxHeartbeats 1000000 in
theorem contains_seg (S : Nat → World → Prop) (T : World → Prop) (p : Nat → Bool) (g : Nat) (lb : Array Value) (eg : ∀ args w, (callFunc g args).run Try.prog w = .ok (.enter g args) w)
    (L : List SgT) (a : Option Addr) (c B : Nat) (w : World) (hl : L.length ≤ 1000000)
    (hro : ∀ k W, S k W → Ro W B a (sgv L)) (h0 : S 0 w)
    (hf : ∀ k W, k < L.length → S k W → Calls Try.prog g (#[(st L k).val] ++ lb) W fun e w' => e = .returned (.bool (p k)) ∧ (p k = true → T w') ∧ (p k = false → S (k + 1) w')) :
    Calls Try.prog 63 #[.slice a L.length c, .func (.func g) #[] lb] w fun e w' => e = .returned (.bool (anyN p L.length)) ∧ (T w' ∨ S L.length w') := by
  have HC := Lib.hid (index_seg S T p g lb eg L a c B w hl hro h0 hf)
  clear hro h0 hf
  obtain ⟨z, hz⟩ : ∃ z, z = fx p L.length := ⟨_, rfl⟩
  unfold anyN
  rw [← hz] at HC ⊢
  clear hz
  go_enter Try.func63, Try.ntmps63
  go_wp2_with fail
  refine HC.out.mono ?_
  rintro e w' ⟨rfl, hs⟩
  have HS := Lib.hid hs
  clear hs
  go_wp2_with fail
  go_ret
  exact ⟨rfl, HS.out⟩

set_option maxHeartbeats 1000000 in
theorem index_ch (S : Nat → World → Prop) (T : World → Prop) (p : Nat → Bool) (g : Nat) (lb : Array Value) (eg : ∀ args w, (callFunc g args).run Try.prog w = .ok (.enter g args) w)
    (L : List ChT) (a : Option Addr) (c B : Nat) (w : World) (hl : L.length ≤ 1000000)
    (hro : ∀ k W, S k W → Ro W B a (chv L)) (h0 : S 0 w)
    (hf : ∀ k W, k < L.length → S k W → Calls Try.prog g (#[(ct L k).val] ++ lb) W fun e w' => e = .returned (.bool (p k)) ∧ (p k = true → T w') ∧ (p k = false → S (k + 1) w')) :
    Calls Try.prog 101 #[.slice a L.length c, .func (.func g) #[] lb] w fun e w' => e = .returned (.int .i64 (fx p L.length)) ∧ (T w' ∨ S L.length w') := by
  obtain ⟨n, HN⟩ : ∃ n, Hid (L.length = n) := ⟨_, Lib.hid rfl⟩
  have HR := Lib.hid hro
  have HF := Lib.hid hf
  have H0 := Lib.hid h0
  clear hro hf h0
  rw [HN.out] at hl ⊢
  go_enter Try.func101, Try.ntmps101
  go_wp2_with fail
  go_loopw [8] (fun i wr => ∃ k : Nat, k ≤ n ∧ i = .int .i64 (k : Int) ∧ Hid (S k wr) ∧ Hid (∀ j, j < k → p j = false)) (fun i _ => n - (intOf i).toNat)
  case atStart => exact ⟨0, Nat.zero_le _, rfl, H0, Lib.hid (by omega)⟩
  case round =>
    obtain ⟨k, hk, rfl, HS, HP⟩ := hrel
    by_cases hlt : k < n
    · have hkL : k < L.length := by rw [HN.out]; exact hlt
      obtain ⟨b, off, rfl, hb, hc⟩ := (HR.out k wr HS.out).ch (by omega)
      have c1 := hc k hkL
      have HC := Lib.hid (HF.out k wr hkL HS.out)
      clear hc
      have hk0 : (0 : Int) ≤ (k : Int) := by omega
      have hk1 : (k : Int) < (n : Int) := by omega
      simp only [ChT.val] at HC
      generalize (ct L k).a = x2 at *
      generalize (ct L k).u.length = x3 at *
      generalize (ct L k).c = x4 at *
      cases hq : p k with
      | true =>
        have HQ := Lib.hid hq
        clear hq
        go_wp2_with fail
        refine HC.out.mono ?_
        rintro e w' ⟨rfl, hs, -⟩
        rw [HQ.out]
        have HS2 := Lib.hid (hs HQ.out)
        clear hs
        go_wp2_with fail
        go_ret
        exact ⟨ret_int (fx_hit p n k hlt HQ.out HP.out).symm, .inl HS2.out⟩
      | false =>
        have HQ := Lib.hid hq
        clear hq
        go_wp2_with fail
        refine HC.out.mono ?_
        rintro e w' ⟨rfl, -, hs⟩
        rw [HQ.out]
        have HS2 := Lib.hid (hs HQ.out)
        clear hs
        go_wp2_with fail
        go_roundw
        case rel =>
          refine ⟨k + 1, by omega, by go_num, HS2, Lib.hid fun j hj => ?_⟩
          by_cases e : j = k
          · subst e; exact HQ.out
          · exact HP.out j (by omega)
        case measure => simp [intOf]; omega
    · obtain rfl : k = n := by omega
      go_wp2_with fail
      go_ret
      exact ⟨ret_int (fx_miss p k HP.out).symm, .inr HS.out⟩

set_option maxHeartbeats 1000000 in
theorem contains_ch (S : Nat → World → Prop) (T : World → Prop) (p : Nat → Bool) (g : Nat) (lb : Array Value) (eg : ∀ args w, (callFunc g args).run Try.prog w = .ok (.enter g args) w)
    (L : List ChT) (a : Option Addr) (c B : Nat) (w : World) (hl : L.length ≤ 1000000)
    (hro : ∀ k W, S k W → Ro W B a (chv L)) (h0 : S 0 w)
    (hf : ∀ k W, k < L.length → S k W → Calls Try.prog g (#[(ct L k).val] ++ lb) W fun e w' => e = .returned (.bool (p k)) ∧ (p k = true → T w') ∧ (p k = false → S (k + 1) w')) :
    Calls Try.prog 83 #[.slice a L.length c, .func (.func g) #[] lb] w fun e w' => e = .returned (.bool (anyN p L.length)) ∧ (T w' ∨ S L.length w') := by
  have HC := Lib.hid (index_ch S T p g lb eg L a c B w hl hro h0 hf)
  clear hro h0 hf
  obtain ⟨z, hz⟩ : ∃ z, z = fx p L.length := ⟨_, rfl⟩
  unfold anyN
  rw [← hz] at HC ⊢
  clear hz
  go_enter Try.func83, Try.ntmps83
  go_wp2_with fail
  refine HC.out.mono ?_
  rintro e w' ⟨rfl, hs⟩
  have HS := Lib.hid hs
  clear hs
  go_wp2_with fail
  go_ret
  exact ⟨rfl, HS.out⟩

set_option maxHeartbeats 1000000 in
theorem index_int (S : Nat → World → Prop) (T : World → Prop) (p : Nat → Bool) (g : Nat) (lb : Array Value) (eg : ∀ args w, (callFunc g args).run Try.prog w = .ok (.enter g args) w)
    (L : List Int) (a : Option Addr) (c B : Nat) (w : World) (hl : L.length ≤ 1000000)
    (hro : ∀ k W, S k W → Ro W B a (i64s L)) (h0 : S 0 w)
    (hf : ∀ k W, k < L.length → S k W → Calls Try.prog g (#[.int .i64 (L.getD k 0)] ++ lb) W fun e w' => e = .returned (.bool (p k)) ∧ (p k = true → T w') ∧ (p k = false → S (k + 1) w')) :
    Calls Try.prog 102 #[.slice a L.length c, .func (.func g) #[] lb] w fun e w' => e = .returned (.int .i64 (fx p L.length)) ∧ (T w' ∨ S L.length w') := by
  obtain ⟨n, HN⟩ : ∃ n, Hid (L.length = n) := ⟨_, Lib.hid rfl⟩
  have HR := Lib.hid hro
  have HF := Lib.hid hf
  have H0 := Lib.hid h0
  clear hro hf h0
  rw [HN.out] at hl ⊢
  go_enter Try.func102, Try.ntmps102
  go_wp2_with fail
  go_loopw [8] (fun i wr => ∃ k : Nat, k ≤ n ∧ i = .int .i64 (k : Int) ∧ Hid (S k wr) ∧ Hid (∀ j, j < k → p j = false)) (fun i _ => n - (intOf i).toNat)
  case atStart => exact ⟨0, Nat.zero_le _, rfl, H0, Lib.hid (by omega)⟩
  case round =>
    obtain ⟨k, hk, rfl, HS, HP⟩ := hrel
    by_cases hlt : k < n
    · have hkL : k < L.length := by rw [HN.out]; exact hlt
      obtain ⟨b, off, rfl, hb, hc⟩ := (HR.out k wr HS.out).i64 (by omega)
      have c1 := hc k hkL
      have HC := Lib.hid (HF.out k wr hkL HS.out)
      clear hc
      have hk0 : (0 : Int) ≤ (k : Int) := by omega
      have hk1 : (k : Int) < (n : Int) := by omega
      generalize L.getD k 0 = x1 at *
      cases hq : p k with
      | true =>
        have HQ := Lib.hid hq
        clear hq
        go_wp2_with fail
        refine HC.out.mono ?_
        rintro e w' ⟨rfl, hs, -⟩
        rw [HQ.out]
        have HS2 := Lib.hid (hs HQ.out)
        clear hs
        go_wp2_with fail
        go_ret
        exact ⟨ret_int (fx_hit p n k hlt HQ.out HP.out).symm, .inl HS2.out⟩
      | false =>
        have HQ := Lib.hid hq
        clear hq
        go_wp2_with fail
        refine HC.out.mono ?_
        rintro e w' ⟨rfl, -, hs⟩
        rw [HQ.out]
        have HS2 := Lib.hid (hs HQ.out)
        clear hs
        go_wp2_with fail
        go_roundw
        case rel =>
          refine ⟨k + 1, by omega, by go_num, HS2, Lib.hid fun j hj => ?_⟩
          by_cases e : j = k
          · subst e; exact HQ.out
          · exact HP.out j (by omega)
        case measure => simp [intOf]; omega
    · obtain rfl : k = n := by omega
      go_wp2_with fail
      go_ret
      exact ⟨ret_int (fx_miss p k HP.out).symm, .inr HS.out⟩

set_option maxHeartbeats 1000000 in
theorem contains_int (S : Nat → World → Prop) (T : World → Prop) (p : Nat → Bool) (g : Nat) (lb : Array Value) (eg : ∀ args w, (callFunc g args).run Try.prog w = .ok (.enter g args) w)
    (L : List Int) (a : Option Addr) (c B : Nat) (w : World) (hl : L.length ≤ 1000000)
    (hro : ∀ k W, S k W → Ro W B a (i64s L)) (h0 : S 0 w)
    (hf : ∀ k W, k < L.length → S k W → Calls Try.prog g (#[.int .i64 (L.getD k 0)] ++ lb) W fun e w' => e = .returned (.bool (p k)) ∧ (p k = true → T w') ∧ (p k = false → S (k + 1) w')) :
    Calls Try.prog 86 #[.slice a L.length c, .func (.func g) #[] lb] w fun e w' => e = .returned (.bool (anyN p L.length)) ∧ (T w' ∨ S L.length w') := by
  have HC := Lib.hid (index_int S T p g lb eg L a c B w hl hro h0 hf)
  clear hro h0 hf
  obtain ⟨z, hz⟩ : ∃ z, z = fx p L.length := ⟨_, rfl⟩
  unfold anyN
  rw [← hz] at HC ⊢
  clear hz
  go_enter Try.func86, Try.ntmps86
  go_wp2_with fail
  refine HC.out.mono ?_
  rintro e w' ⟨rfl, hs⟩
  have HS := Lib.hid hs
  clear hs
  go_wp2_with fail
  go_ret
  exact ⟨rfl, HS.out⟩
end Go.Proofs.Ytkdgoopldaoihaa
namespace Go.Proofs.Ytkdgoopldaoihaa
open Go.RowKit Go.Deep Go.Shelf
set_option linter.unusedVariables false
set_option linter.unusedSimpArgs false

/-- which units there were, one by one -/
def fl (us : List Int) : List Value := (List.range 32).map fun (k : Nat) => Value.bool (decide ((k : Int) ∈ us))
@[simp] theorem fl_length (us : List Int) : (fl us).length = 32 := by simp [fl]
theorem fl_get (us : List Int) (i : Nat) (h : i < 32) : (fl us)[i]? = some (.bool (decide ((i : Int) ∈ us))) := by simp [fl, h]
theorem fl_set (us : List Int) (i : Nat) (h : i < 32) : (fl us).set i (.bool true) = fl (us ++ [(i : Int)]) := by
  apply List.ext_getElem (by simp)
  intro j h1 h2
  simp only [List.length_set, fl_length] at h1
  rw [List.getElem_set]
  by_cases e : i = j
  · subst e; simp [fl]
  · simp [fl, e, show ¬ (j : Int) = (i : Int) by omega]
theorem grown_trans {a b c : World} {r : Option Nat} (h : a.grownBy b r) (k : b.grownBy c r) : a.grownBy c r :=
  ⟨k.os.trans h.os, k.tape.trans h.tape, k.output.trans h.output, Nat.le_trans h.size k.size, fun x hx hne => (k.block x (Nat.lt_of_lt_of_le hx h.size) hne).trans (h.block x hx hne)⟩
theorem grown_below' {w w' : World} {g : Nat} (h : w.grownBy w' (some g)) (hg : g ≤ w.heap.size) : Below g w w' := below_only (Below.refl _ _) h (Nat.le_refl _) hg
theorem grown_cell {w w' : World} {g gw o : Nat} {v : Value} (h : w.grownBy w' (some g)) (hc : w.cell? ⟨gw, o, none⟩ = some v) (hne : gw ≠ g) : w'.cell? ⟨gw, o, none⟩ = some v := by
  have hlt := World.block_lt_of_cell? _ _ hc
  have := h.block gw hlt (by intro e; injection e with e; exact hne e)
  rw [← hc]
  simp only [World.cell?, this]

set_option maxHeartbeats 400000 in
theorem rc1_any (u : Int) (us : List Int) (g : Nat) (w : World) (h : Own w g 121 (fl us)) :
    Calls Try.prog 81 #[.int .i64 u, .pointer (some ⟨g, 0, none⟩)] w fun e w' => e = .returned (.bool (ubad us u)) ∧ (ubad us u = false → Own w' g 121 (fl (us ++ [u]))) ∧ w.grownBy w' (some g) := by
  have HU := Lib.hid (isUnit_any u w)
  by_cases hu : 0 ≤ u ∧ u < 32
  · obtain ⟨k, rfl⟩ := Int.eq_ofNat_of_zero_le hu.1
    have hk : k < 32 := by omega
    have hc := (h.cell k).trans (fl_get us k hk)
    have hf := h.frozen k
    have e : decide (0 ≤ (k : Int) ∧ (k : Int) < 32) = true := by simp; omega
    rw [e] at HU
    have e1 : ubad us (k : Int) = decide ((k : Int) ∈ us) := by unfold ubad; rw [e]; simp
    rw [e1]
    have HO := Lib.hid h
    have h0 : (0 : Int) ≤ (k : Int) := by omega
    have h1 : (k : Int) < 32 := by omega
    clear hu e e1 h
    cases hd : decide ((k : Int) ∈ us) with
    | true =>
      rw [hd] at hc
      clear hd
      go_enter Try.func81, Try.ntmps81
      go_wp2_with fail
      refine HU.out.mono ?_
      rintro e w' ⟨rfl, rfl⟩
      go_wp2_with fail
      go_ret
      exact ⟨rfl, by simp, World.grownBy.refl _ _⟩
    | false =>
      rw [hd] at hc
      clear hd
      go_enter Try.func81, Try.ntmps81
      go_wp2_with fail
      refine HU.out.mono ?_
      rintro e w' ⟨rfl, rfl⟩
      go_wp2_with fail
      go_ret
      refine ⟨rfl, fun _ => ?_, only_set (World.grownBy.refl _ _) _ _⟩
      rw [← fl_set us k hk]
      exact HO.out.set k _
  · have e : decide (0 ≤ u ∧ u < 32) = false := by simpa using hu
    have e1 : ubad us u = true := by unfold ubad; rw [e]; simp
    rw [e] at HU
    rw [e1]
    clear hu e e1 h
    go_enter Try.func81, Try.ntmps81
    go_wp2_with fail
    refine HU.out.mono ?_
    rintro e w' ⟨rfl, rfl⟩
    go_wp2_with fail
    go_ret
    exact ⟨rfl, by simp, World.grownBy.refl _ _⟩

theorem rc1_in (A : ChT) (us : List Int) (g B : Nat) (w : World) (h : Own w g 121 (fl us)) (hro : Ro w B A.a (i64s A.u)) (hB : B ≤ g) (hl : A.u.length ≤ 1000000) :
    Calls Try.prog 86 #[.slice A.a A.u.length A.c, .func (.func 81) #[] #[.pointer (some ⟨g, 0, none⟩)]] w fun e w' => e = .returned (.bool (cbadU us A.u)) ∧ (cbadU us A.u = false → Own w' g 121 (fl (us ++ A.u))) ∧ w.grownBy w' (some g) := by
  have eg : ∀ args w, (callFunc 81 args).run Try.prog w = .ok (.enter 81 args) w := enters_of Try.func81 (by kernel_rfl) rfl
  have hg := h.lt
  refine (contains_int (fun k W => Own W g 121 (fl (us ++ A.u.take k)) ∧ w.grownBy W (some g) ∧ ∀ j, j < k → ubad (us ++ A.u.take j) (A.u.getD j 0) = false) (fun W => w.grownBy W (some g) ∧ cbadU us A.u = true) (fun k => ubad (us ++ A.u.take k) (A.u.getD k 0)) 81 #[.pointer (some ⟨g, 0, none⟩)] eg A.u A.a A.c B w hl (fun k W hS => hro.below (grown_below' hS.2.1 (by omega)) hB) ⟨by simpa using h, World.grownBy.refl _ _, by omega⟩ (fun k W hk hS => ?_)).mono ?_
  · obtain ⟨h1, h2, h3⟩ := hS
    refine (rc1_any (A.u.getD k 0) (us ++ A.u.take k) g W h1).mono ?_
    rintro e w' ⟨rfl, g1, g2⟩
    refine ⟨rfl, fun hp => ⟨grown_trans h2 g2, ?_⟩, fun hp => ⟨?_, grown_trans h2 g2, fun j hj => ?_⟩⟩
    · rw [← Bool.not_eq_false]
      intro hc
      have := anyN_false.1 hc k hk
      rw [this] at hp; cases hp
    · have := g1 hp
      rwa [List.append_assoc, show A.u.take k ++ [A.u.getD k 0] = A.u.take (k + 1) by rw [List.take_succ_eq_append_getElem hk]; simp [List.getD, hk]] at this
    · by_cases e : j = k
      · subst e; exact hp
      · exact h3 j (by omega)
  · rintro e w' ⟨rfl, hT | ⟨h1, h2, h3⟩⟩
    · exact ⟨rfl, fun hc => (by rw [hT.2] at hc; cases hc), hT.1⟩
    · exact ⟨rfl, fun hc => by simpa using h1, h2⟩

set_option maxHeartbeats 400000 in
theorem rc2_any (A : ChT) (us : List Int) (g gw B : Nat) (w : World) (h : Own w g 121 (fl us)) (hw : w.cell? ⟨gw, 0, none⟩ = some (.func (.func 81) #[] #[.pointer (some ⟨g, 0, none⟩)])) (hro : Ro w B A.a (i64s A.u)) (hB : B ≤ g) (hl : A.u.length ≤ 9223372036854775807) :
    Calls Try.prog 84 #[A.val, .pointer (some ⟨gw, 0, none⟩)] w fun e w' => e = .returned (.bool (cbad us A.u)) ∧ (cbad us A.u = false → Own w' g 121 (fl (us ++ A.u))) ∧ w.grownBy w' (some g) := by
  have HW := Lib.hid (within_int A.a A.u.length A.c w hl)
  have HC := Lib.hid (fun hl => rc1_in A us g B w h hro hB hl)
  unfold cbad
  simp only [ChT.val]
  cases hi : isLen A.u.length with
  | true =>
    rw [hi] at HW
    have hl2 := isLen_iff.1 hi
    replace HC := Lib.hid (HC.out (by omega))
    clear hi hl2 hl hro h
    generalize cbadU us A.u = t at *
    generalize A.u.length = n at *
    go_enter Try.func84, Try.ntmps84
    go_wp2_with fail
    refine HW.out.mono ?_
    rintro e w' ⟨rfl, rfl⟩
    go_wp2_with fail
    refine HC.out.mono ?_
    rintro e w' ⟨rfl, h1, h2⟩
    have H1 := Lib.hid h1
    have H2 := Lib.hid h2
    clear h1 h2
    go_wp2_with fail
    go_ret
    exact ⟨by simp, by simpa using H1.out, H2.out⟩
  | false =>
    rw [hi] at HW
    clear hi HC hl hro h
    generalize A.u.length = n at *
    go_enter Try.func84, Try.ntmps84
    go_wp2_with fail
    refine HW.out.mono ?_
    rintro e w' ⟨rfl, rfl⟩
    go_wp2_with fail
    go_ret
    exact ⟨rfl, by simp, World.grownBy.refl _ _⟩
theorem rc2_in (L : List ChT) (a : Option Addr) (c g gw B : Nat) (w : World) (h : Own w g 121 (fl [])) (hw : w.cell? ⟨gw, 0, none⟩ = some (.func (.func 81) #[] #[.pointer (some ⟨g, 0, none⟩)])) (hne : gw ≠ g) (hro : Ro w B a (chv L)) (hin : ChIn w B L) (hB : B ≤ g) (hl : L.length ≤ 1000000) (hf : ChFit L) :
    Calls Try.prog 83 #[.slice a L.length c, .func (.func 84) #[] #[.pointer (some ⟨gw, 0, none⟩)]] w fun e w' => e = .returned (.bool (anyN (fun k => cbad ((chx L).take k).flatten (cx (chx L) k)) L.length)) ∧ w.grownBy w' (some g) := by
  have eg : ∀ args w, (callFunc 84 args).run Try.prog w = .ok (.enter 84 args) w := enters_of Try.func84 (by kernel_rfl) rfl
  have hg := h.lt
  refine (contains_ch (fun k W => Own W g 121 (fl ((chx L).take k).flatten) ∧ w.grownBy W (some g)) (fun W => w.grownBy W (some g)) (fun k => cbad ((chx L).take k).flatten (cx (chx L) k)) 84 #[.pointer (some ⟨gw, 0, none⟩)] eg L a c B w hl (fun k W hS => hro.below (grown_below' hS.2 (by omega)) hB) ⟨by simpa using h, World.grownBy.refl _ _⟩ (fun k W hk hS => ?_)).mono ?_
  · obtain ⟨h1, h2⟩ := hS
    refine (rc2_any (ct L k) _ g gw B W h1 (grown_cell h2 hw hne) ((hin _ (ct_mem hk)).below (grown_below' h2 (by omega)) hB) hB (hf.2 _ (ct_mem hk))).mono ?_
    rintro e w' ⟨rfl, g1, g2⟩
    simp only [cx_chx]
    refine ⟨trivial, fun hp => grown_trans h2 g2, fun hp => ⟨?_, grown_trans h2 g2⟩⟩
    have := g1 hp
    rw [cx_take (by simpa using hk), cx_chx]
    simpa using this
  · rintro e w' ⟨rfl, hT | ⟨h1, h2⟩⟩
    · exact ⟨rfl, hT⟩
    · exact ⟨rfl, h2⟩

set_option maxHeartbeats 400000 in
theorem rightChains_any (L : List ChT) (a : Option Addr) (c B : Nat) (w : World) (hro : Ro w B a (chv L)) (hin : ChIn w B L) (hB : B ≤ w.heap.size) (hf : ChFit L) :
    Calls Try.prog 61 #[.slice a L.length c] w fun e w' => e = .returned (.bool (chOk (chx L))) ∧ Below w.heap.size w w' := by
  have HW := Lib.hid (fun W => within_ch a L.length c W hf.1)
  have efl : (fl []).toArray = #[.bool false, .bool false, .bool false, .bool false, .bool false, .bool false, .bool false, .bool false, .bool false, .bool false, .bool false, .bool false, .bool false, .bool false, .bool false, .bool false, .bool false, .bool false, .bool false, .bool false, .bool false, .bool false, .bool false, .bool false, .bool false, .bool false, .bool false, .bool false, .bool false, .bool false, .bool false, .bool false] := by simp [fl, List.range, List.range.loop]
  obtain ⟨W0, HW0⟩ : ∃ W0, Hid (w.alloc (.cells (fl []).toArray 121) = W0) := ⟨_, Lib.hid rfl⟩
  have hz0 : W0.heap.size = w.heap.size + 1 := by rw [← HW0.out]; simp
  obtain ⟨W, HWW⟩ : ∃ W, Hid (W0.alloc (.cells #[.func (.func 81) #[] #[.pointer (some ⟨w.heap.size, 0, none⟩)]] 69) = W) := ⟨_, Lib.hid rfl⟩
  have hb0 : Below w.heap.size w W0 := by rw [← HW0.out]; exact (Below.refl _ _).alloc (Nat.le_refl _) _
  have hWb : Below w.heap.size w W := by rw [← HWW.out]; exact hb0.alloc (by omega) _
  have o0 : Own W0 w.heap.size 121 (fl []) := by rw [← HW0.out]; exact Own.new w _ _
  have o1 : Own W w.heap.size 121 (fl []) := by rw [← HWW.out]; exact o0.alloc _
  have o2 : W.cell? ⟨W0.heap.size, 0, none⟩ = some (.func (.func 81) #[] #[.pointer (some ⟨w.heap.size, 0, none⟩)]) := by
    rw [← HWW.out]
    simp
  have HC := Lib.hid (fun hl => rc2_in L a c w.heap.size W0.heap.size B W o1 o2 (by omega) (hro.below hWb hB) (hin.below hWb hB) hB hl hf)
  have HB := Lib.hid hWb
  rw [efl] at HW0
  unfold chOk
  rw [chx_length]
  generalize anyN (fun k => cbad ((chx L).take k).flatten (cx (chx L) k)) L.length = t at *
  clear hz0 hb0 o0
  cases hi : isLen L.length with
  | true =>
    rw [hi] at HW
    have hl2 := isLen_iff.1 hi
    replace HC := Lib.hid (HC.out (by omega))
    clear hi hl2 hro hf o1 o2 hWb hin efl
    generalize L.length = n at *
    go_enter Try.func61, Try.ntmps61
    go_upto_region 2 with fail
    rw [HW0.out]
    go_wp2_with fail
    refine (HW.out _).mono ?_
    rintro e w' ⟨rfl, rfl⟩
    go_wp2_with fail
    rw [HWW.out]
    refine HC.out.mono ?_
    rintro e w' ⟨rfl, h2⟩
    have H2 := Lib.hid (below_only HB.out h2 (Nat.le_refl _) HB.out.size)
    clear h2
    go_wp2_with fail
    go_ret
    exact ⟨by simp, H2.out⟩
  | false =>
    rw [hi] at HW
    clear hi HC hro hf o1 o2 hWb hin efl
    generalize L.length = n at *
    go_enter Try.func61, Try.ntmps61
    go_upto_region 2 with fail
    rw [HW0.out]
    go_wp2_with fail
    refine (HW.out _).mono ?_
    rintro e w' ⟨rfl, rfl⟩
    go_wp2_with fail
    go_ret
    exact ⟨rfl, by rw [HWW.out]; exact HB.out⟩

theorem wrap_u64_mod (n : Nat) : IntKind.u64.wrap ((n : Int) + 1) = (((n + 1) % 18446744073709551616 : Nat) : Int) := by rw [IntKind.wrap_u64]; omega
set_option maxHeartbeats 400000 in
theorem rs1_any (A : SgT) (m g B : Nat) (w : World) (h : Own w g 22 [.int .u64 (m : Int)]) (hro : Ro w B A.a (chv A.ch)) (hin : ChIn w B A.ch) (hB : B ≤ g) (hf : ChFit A.ch) :
    Calls Try.prog 60 #[A.val, .pointer (some ⟨g, 0, none⟩)] w fun e w' => e = .returned (.bool (sbad m A.x)) ∧ Own w' g 22 [.int .u64 (((A.f + 1) % 18446744073709551616 : Nat) : Int)] ∧ Below g w w' := by
  obtain ⟨f, a, c, L⟩ := A
  simp only [SgT.val, SgT.x] at hro hin hf ⊢
  have hg := h.lt
  have HO := Lib.hid h
  have hc := h.cell 0
  have hfz := h.frozen 0
  simp at hc
  have ew := wrap_u64_mod f
  have HE := Lib.hid ew
  clear ew
  obtain ⟨t, HT⟩ : ∃ t, Hid (chOk (chx L) = t) := ⟨_, Lib.hid rfl⟩
  have HR := Lib.hid (fun (W : World) (hb : Below g w W) (hs : B ≤ W.heap.size) => rightChains_any L a c B W (hro.below hb hB) (hin.below hb hB) hs hf)
  rw [HT.out] at HR
  clear h hro hin hf
  obtain ⟨u, HU⟩ : ∃ u, Hid (sbad m (f, chx L) = u) := ⟨_, Lib.hid rfl⟩
  rw [HU.out]
  generalize L.length = n at *
  by_cases e1 : f < m
  · obtain rfl : u = true := by rw [← HU.out]; simp [sbad, e1]
    have e1' : (f : Int) < (m : Int) := by omega
    clear e1
    go_enter Try.func60, Try.ntmps60
    go_wp2_with fail
    go_ret
    refine ⟨rfl, ?_, ((Below.refl g w).setCell (Nat.le_refl _) _).alloc (by simp [set_size]; omega) _⟩
    first | rw [← HE.out] | rw [show ((f : Int) + 1) % 18446744073709551616 = IntKind.u64.wrap ((f : Int) + 1) by rw [IntKind.wrap_u64]]
    exact (HO.out.set 0 _).alloc _
  by_cases e2 : 1048576 ≤ f
  · obtain rfl : u = true := by rw [← HU.out]; simp [sbad, e2]
    have e1' : ¬ (f : Int) < (m : Int) := by omega
    have e2' : (1048576 : Int) ≤ (f : Int) := by omega
    clear e1 e2
    go_enter Try.func60, Try.ntmps60
    go_wp2_with fail
    go_ret
    refine ⟨rfl, ?_, ((Below.refl g w).setCell (Nat.le_refl _) _).alloc (by simp [set_size]; omega) _⟩
    first | rw [← HE.out] | rw [show ((f : Int) + 1) % 18446744073709551616 = IntKind.u64.wrap ((f : Int) + 1) by rw [IntKind.wrap_u64]]
    exact (HO.out.set 0 _).alloc _
  obtain rfl : u = !t := by rw [← HU.out]; simp [sbad, e1, e2, HT.out]
  have e1' : ¬ (f : Int) < (m : Int) := by omega
  have e2' : ¬ (1048576 : Int) ≤ (f : Int) := by omega
  clear e1 e2
  go_enter Try.func60, Try.ntmps60
  go_wp2_with fail
  refine (HR.out _ ((Below.refl g w).alloc (by omega) _) (by simp; omega)).mono ?_
  rintro e w' ⟨rfl, hb⟩
  have HB := Lib.hid hb
  have o1 : Own w' w.heap.size 49 [.int .u64 (f : Int), .slice a n c] := (Own.new w 49 [.int .u64 (f : Int), .slice a n c]).below hb (by simp)
  have o2 : Own w' g 22 [.int .u64 (m : Int)] := (HO.out.alloc _).below hb (by simp; omega)
  have hz := o1.lt
  have c1 := o1.cell 0
  have c2 := o2.cell 0
  have c3 := o2.frozen 0
  simp at c1 c2
  have HO2 := Lib.hid o2
  clear hb o1 o2 hc hfz
  go_wp2_with fail
  go_ret
  refine ⟨rfl, ?_, (((Below.refl g w).alloc (by omega) _).trans (HB.out.mono (by simp; omega))).setCell (Nat.le_refl _) _⟩
  first
    | rw [show (((f + 1) % 18446744073709551616 : Nat) : Int) = (f : Int) + 1 by omega]
    | rw [show ((f : Int) + 1) % 18446744073709551616 = (f : Int) + 1 by omega]
  exact HO2.out.set 0 _

theorem rs1_in (L : List SgT) (a : Option Addr) (c g B : Nat) (w : World) (h : Own w g 22 [.int .u64 0]) (hro : Ro w B a (sgv L)) (hin : SgIn w B L) (hB : B ≤ g) (hl : L.length ≤ 1000000) (hf : SgFit L) :
    Calls Try.prog 63 #[.slice a L.length c, .func (.func 60) #[] #[.pointer (some ⟨g, 0, none⟩)]] w fun e w' => e = .returned (.bool (anyN (fun k => sbad (leastF (sgx L) k) (sx (sgx L) k)) L.length)) ∧ Below g w w' := by
  have eg : ∀ args w, (callFunc 60 args).run Try.prog w = .ok (.enter 60 args) w := enters_of Try.func60 (by kernel_rfl) rfl
  have hg := h.lt
  refine (contains_seg (fun k W => Own W g 22 [.int .u64 (leastF (sgx L) k : Nat)] ∧ Below g w W) (fun W => Below g w W) (fun k => sbad (leastF (sgx L) k) (sx (sgx L) k)) 60 #[.pointer (some ⟨g, 0, none⟩)] eg L a c B w hl (fun k W hS => hro.below hS.2 hB) ⟨by simpa [leastF] using h, Below.refl _ _⟩ (fun k W hk hS => ?_)).mono ?_
  · obtain ⟨h1, h2⟩ := hS
    have hs := hin _ (st_mem hk)
    refine (rs1_any (st L k) _ g B W h1 (hs.1.below h2 hB) (hs.2.below h2 hB) hB (hf.2 _ (st_mem hk))).mono ?_
    rintro e w' ⟨rfl, g1, g2⟩
    rw [sx_sgx]
    refine ⟨rfl, fun hp => h2.trans g2, fun hp => ⟨?_, h2.trans g2⟩⟩
    have e : leastF (sgx L) (k + 1) = ((st L k).f + 1) % 18446744073709551616 := by
      unfold leastF
      rw [if_neg (by omega), Nat.add_sub_cancel, sx_sgx]
      rfl
    rw [e]
    exact g1
  · rintro e w' ⟨rfl, hT | ⟨h1, h2⟩⟩
    · exact ⟨rfl, hT⟩
    · exact ⟨rfl, h2⟩

set_option maxHeartbeats 400000 in
theorem rightSegments_any (L : List SgT) (a : Option Addr) (c B : Nat) (w : World) (hro : Ro w B a (sgv L)) (hin : SgIn w B L) (hB : B ≤ w.heap.size) (hf : SgFit L) :
    Calls Try.prog 41 #[.slice a L.length c] w fun e w' => e = .returned (.bool (sgOk (sgx L))) ∧ Below w.heap.size w w' := by
  have HW := Lib.hid (fun W => within_seg a L.length c W hf.1)
  obtain ⟨W, HWW⟩ : ∃ W, Hid (w.alloc (.cells #[.int .u64 0] 22) = W) := ⟨_, Lib.hid rfl⟩
  have hWb : Below w.heap.size w W := by rw [← HWW.out]; exact (Below.refl _ _).alloc (Nat.le_refl _) _
  have o1 : Own W w.heap.size 22 [.int .u64 0] := by rw [← HWW.out]; exact Own.new w _ _
  have HC := Lib.hid (fun hl => rs1_in L a c w.heap.size B W o1 (hro.below hWb hB) (hin.below hWb hB) hB hl hf)
  have HB := Lib.hid hWb
  unfold sgOk
  rw [sgx_length, sx_sgx]
  generalize anyN (fun k => sbad (leastF (sgx L) k) (sx (sgx L) k)) L.length = t at *
  cases hi : isLen L.length with
  | true =>
    rw [hi] at HW
    have hl2 := isLen_iff.1 hi
    replace HC := Lib.hid (HC.out (by omega))
    obtain ⟨b, off, rfl, hb, hc⟩ := (hro.below hWb hB).sg (by omega)
    have hc0 := (hc 0 (by omega)).1
    rw [Nat.zero_mul, Nat.add_zero, ← HWW.out] at hc0
    have hn1 : (1 : Int) ≤ (L.length : Int) := by omega
    have hf0 : (st L 0).x.1 = (st L 0).f := rfl
    rw [hf0]
    clear hf0
    clear hi hl2 hro hf o1 hWb hin hc
    generalize (st L 0).f = f at *
    generalize L.length = n at *
    by_cases h0 : f = 0
    · subst h0
      go_enter Try.func41, Try.ntmps41
      go_wp2_with fail
      refine (HW.out _).mono ?_
      rintro e w' ⟨rfl, rfl⟩
      go_wp2_with fail
      rw [HWW.out]
      refine HC.out.mono ?_
      rintro e w' ⟨rfl, h2⟩
      have H2 := Lib.hid (HB.out.trans h2)
      clear h2
      go_wp2_with fail
      go_ret
      exact ⟨by simp, H2.out⟩
    · have h0' : ((f : Int) == 0) = false := by rw [beq_eq_false_iff_ne]; omega
      have e : decide (f = 0) = false := by simpa using h0
      rw [e]
      clear h0 e
      go_enter Try.func41, Try.ntmps41
      go_wp2_with fail
      refine (HW.out _).mono ?_
      rintro e w' ⟨rfl, rfl⟩
      go_wp2_with fail
      go_ret
      exact ⟨rfl, by rw [HWW.out]; exact HB.out⟩
  | false =>
    rw [hi] at HW
    clear hi HC hro hf o1 hWb hin
    generalize decide ((st L 0).x.1 = 0) = u at *
    generalize L.length = n at *
    go_enter Try.func41, Try.ntmps41
    go_wp2_with fail
    refine (HW.out _).mono ?_
    rintro e w' ⟨rfl, rfl⟩
    go_wp2_with fail
    go_ret
    exact ⟨rfl, by rw [HWW.out]; exact HB.out⟩

set_option maxHeartbeats 400000 in
theorem lright_any (A : LyT) (B : Nat) (w : World) (h : LyIn w B A) (hB : B ≤ w.heap.size) (hf : SgFit A.sg) :
    Calls Try.prog 17 #[A.val] w fun e w' => e = .returned (.bool (lright A.x)) ∧ Below w.heap.size w w' := by
  obtain ⟨ep, a, c, L, q⟩ := A
  simp only [LyT.val, LyT.x] at *
  obtain ⟨W, HWW⟩ : ∃ W, Hid (w.alloc (.cells #[.int .u64 (ep : Int), .slice a L.length c, .int .i64 q] 25) = W) := ⟨_, Lib.hid rfl⟩
  have hWb : Below w.heap.size w W := by rw [← HWW.out]; exact (Below.refl _ _).alloc (Nat.le_refl _) _
  have h1 := h.below hWb hB
  have HU := Lib.hid (isUnit_any q W)
  have HR := Lib.hid (rightSegments_any L a c B W h1.1 h1.2 (Nat.le_trans hB hWb.size) hf)
  have HB := Lib.hid hWb
  have o1 : Own W w.heap.size 25 [.int .u64 (ep : Int), .slice a L.length c, .int .i64 q] := by rw [← HWW.out]; exact Own.new w _ _
  unfold lright
  simp only
  generalize sgOk (sgx L) = t at *
  generalize decide (0 ≤ q ∧ q < 32) = u at *
  generalize L.length = n at *
  have hz := o1.lt
  clear h1 hWb h hf hB o1
  have HK : 1 ≤ ep ∧ ep ≤ 1048576 ∨ ep < 1 ∨ 1048576 < ep := by omega
  rcases HK with ⟨k1, k2⟩ | k1 | k1
  · have e : decide (1 ≤ ep ∧ ep ≤ 1048576) = true := by simp; omega
    rw [e]
    have k1' : (1 : Int) ≤ (ep : Int) := by omega
    have k2' : (ep : Int) ≤ 1048576 := by omega
    clear e k1 k2
    cases u with
    | true =>
      go_enter Try.func17, Try.ntmps17
      go_wp2_with fail
      rw [HWW.out]
      refine HU.out.mono ?_
      rintro e w' ⟨rfl, rfl⟩
      rw [← HWW.out]
      go_wp2_with fail
      rw [HWW.out]
      refine HR.out.mono ?_
      rintro e w' ⟨rfl, h2⟩
      have H2 := Lib.hid (HB.out.trans (h2.mono HB.out.size))
      clear h2
      go_wp2_with fail
      go_ret
      exact ⟨by simp, H2.out⟩
    | false =>
      go_enter Try.func17, Try.ntmps17
      go_wp2_with fail
      rw [HWW.out]
      refine HU.out.mono ?_
      rintro e w' ⟨rfl, rfl⟩
      rw [← HWW.out]
      go_wp2_with fail
      go_ret
      exact ⟨rfl, by rw [HWW.out]; exact HB.out⟩
  all_goals
    have e : decide (1 ≤ ep ∧ ep ≤ 1048576) = false := by simp; omega
    rw [e]
    first
      | (have k1' : (ep : Int) < 1 := by omega)
      | (have k1' : 1048576 < (ep : Int) := by omega)
    have k2' : 1048576 < (ep : Int) ∨ (ep : Int) < 1 := by omega
    clear e k2'
    go_enter Try.func17, Try.ntmps17
    go_wp2_with fail
    go_ret
    exact ⟨rfl, by rw [HWW.out]; exact HB.out⟩
end Go.Proofs.Ytkdgoopldaoihaa
namespace Go.Proofs.Ytkdgoopldaoihaa
open Go.RowKit Go.Deep Go.Shelf
set_option linter.unusedVariables false
set_option linter.unusedSimpArgs false

set_option maxHeartbeats 1000000 in
theorem has_any (L : List Int) (x : Int) (a : Option Addr) (c B : Nat) (w : World) (hro : Ro w B a (i64s L)) (hB : B ≤ w.heap.size) (hl : L.length ≤ 1000000) :
    Calls Try.prog 39 #[.slice a L.length c, .int .i64 x] w fun e w' => e = .returned (.bool (decide (x ∈ L))) ∧ Below w.heap.size w w' := by
  have HRO := Lib.hid hro
  have HS := Lib.hid hB
  generalize hN : L.length = n at *
  have HN := Lib.hid hN
  have hn1 : (n : Int) ≤ 1000000 := by omega
  obtain ⟨t, HT⟩ : ∃ t, Hid (decide (x ∈ L) = t) := ⟨_, Lib.hid rfl⟩
  rw [HT.out]
  clear hro hB hN
  go_enter Try.func39, Try.ntmps39
  go_wp2_with fail
  go_loopw [5] (fun i wr => ∃ k : Nat, k ≤ n ∧ i = .int .i64 (k : Int) ∧ Hid (∀ j, j < k → L.getD j 0 ≠ x) ∧ Hid (Below w.heap.size w wr)) (fun i _ => n - (intOf i).toNat)
  case atStart => exact ⟨0, Nat.zero_le _, rfl, Lib.hid (by omega), Lib.hid (Below.refl _ _)⟩
  case round =>
    obtain ⟨k, hk, rfl, HM, HBk⟩ := hrel
    by_cases hlt : k < n
    · have hkL : k < L.length := by rw [HN.out]; exact hlt
      obtain ⟨b, off, rfl, hb, hc⟩ := (HRO.out.below HBk.out HS.out).i64 (show 0 < L.length by omega)
      have e1 := hc k hkL
      clear hc
      have hk0 : (0 : Int) ≤ (k : Int) := by omega
      have hk1 : (k : Int) < (n : Int) := by omega
      have HMEM : Hid (L.getD k 0 ∈ L) := Lib.hid (by simp [List.getD, hkL])
      obtain ⟨y, hy⟩ : ∃ y, L.getD k 0 = y := ⟨_, rfl⟩
      rw [hy] at e1
      have HY := Lib.hid hy
      clear hy
      by_cases hx : y = x
      · subst hx
        obtain rfl : t = true := by rw [← HT.out]; simp only [decide_eq_true_eq]; rw [← HY.out]; exact HMEM.out
        go_wp2_with fail
        go_ret
        exact ⟨rfl, HBk.out⟩
      · have hx' : (y == x) = false := by rw [beq_eq_false_iff_ne]; exact hx
        have HX := Lib.hid hx
        clear hx
        go_wp2_with fail
        go_roundw
        case rel =>
          refine ⟨k + 1, by omega, by go_num, Lib.hid fun j hj => ?_, HBk⟩
          by_cases e : j = k
          · subst e; rw [HY.out]; exact HX.out
          · exact HM.out j (by omega)
        case measure => simp [intOf]; omega
    · obtain rfl : k = n := by omega
      obtain rfl : t = false := by
        rw [← HT.out]
        simp only [decide_eq_false_iff_not]
        intro hm
        obtain ⟨j, hj, e⟩ := List.getElem_of_mem hm
        exact HM.out j (by rw [HN.out] at hj; exact hj) (by simp [List.getD, hj, e])
      go_wp2_with fail
      go_ret
      exact ⟨rfl, HBk.out⟩

set_option maxHeartbeats 1000000 in
theorem sameChain_any (L M : List Int) (a a2 : Option Addr) (c c2 B : Nat) (w : World) (hro : Ro w B a (i64s L)) (hro2 : Ro w B a2 (i64s M)) (hB : B ≤ w.heap.size) (hl : L.length ≤ 1000000) (hl2 : M.length ≤ 1000000) :
    Calls Try.prog 12 #[.slice a L.length c, .slice a2 M.length c2] w fun e w' => e = .returned (.bool (decide (L = M))) ∧ Below w.heap.size w w' := by
  by_cases hlm : L.length = M.length
  · have HRO := Lib.hid hro
    have HRO2 := Lib.hid hro2
    have HS := Lib.hid hB
    have HN2 := Lib.hid hlm
    rw [← hlm] at hl2 ⊢
    generalize hN : L.length = n at *
    have HN := Lib.hid hN
    have hn1 : (n : Int) ≤ 1000000 := by omega
    obtain ⟨t, HT⟩ : ∃ t, Hid (decide (L = M) = t) := ⟨_, Lib.hid rfl⟩
    rw [HT.out]
    clear hro hro2 hB hN hlm hl2
    go_enter Try.func12, Try.ntmps12
    go_wp2_with fail
    go_loopw [5] (fun i wr => ∃ k : Nat, k ≤ n ∧ i = .int .i64 (k : Int) ∧ Hid (∀ j, j < k → L.getD j 0 = M.getD j 0) ∧ Hid (Below w.heap.size w wr)) (fun i _ => n - (intOf i).toNat)
    case atStart => exact ⟨0, Nat.zero_le _, rfl, Lib.hid (by omega), Lib.hid (Below.refl _ _)⟩
    case round =>
      obtain ⟨k, hk, rfl, HM, HBk⟩ := hrel
      by_cases hlt : k < n
      · have hkL : k < L.length := by rw [HN.out]; exact hlt
        have hkM : k < M.length := by rw [← HN2.out]; exact hlt
        obtain ⟨b, off, rfl, hb, hc⟩ := (HRO.out.below HBk.out HS.out).i64 (show 0 < L.length by omega)
        obtain ⟨b2, off2, rfl, hb2, hc2⟩ := (HRO2.out.below HBk.out HS.out).i64 (show 0 < M.length by omega)
        have e1 := hc k hkL
        have e2 := hc2 k hkM
        clear hc hc2
        have hk0 : (0 : Int) ≤ (k : Int) := by omega
        have hk1 : (k : Int) < (n : Int) := by omega
        obtain ⟨y, hy⟩ : ∃ y, L.getD k 0 = y := ⟨_, rfl⟩
        obtain ⟨z, hz⟩ : ∃ z, M.getD k 0 = z := ⟨_, rfl⟩
        rw [hy] at e1
        rw [hz] at e2
        have HY := Lib.hid hy
        have HZ := Lib.hid hz
        clear hy hz
        by_cases hx : y = z
        · have hx' : (y != z) = false := by rw [bne_eq_false_iff_eq]; exact hx
          have HX := Lib.hid hx
          clear hx
          go_wp2_with fail
          go_region
          go_wp2_with fail
          go_roundw
          case rel =>
            refine ⟨k + 1, by omega, by go_num, Lib.hid fun j hj => ?_, Lib.hid HBk.out.drew⟩
            by_cases e : j = k
            · subst e; rw [HY.out, HZ.out]; exact HX.out
            · exact HM.out j (by omega)
          case measure => simp [intOf]; omega
        · have hx' : (y != z) = true := by rw [bne_iff_ne]; exact hx
          obtain rfl : t = false := by
            rw [← HT.out]
            simp only [decide_eq_false_iff_not]
            rintro rfl
            exact hx (HY.out.symm.trans HZ.out)
          clear hx
          go_wp2_with fail
          go_region
          go_wp2_with fail
          go_ret
          exact ⟨rfl, HBk.out.drew⟩
      · obtain rfl : k = n := by omega
        obtain rfl : t = true := by
          rw [← HT.out]
          simp only [decide_eq_true_eq]
          apply List.ext_getElem (by rw [HN.out]; exact HN2.out)
          intro i h1 h2
          have := HM.out i (by rw [HN.out] at h1; exact h1)
          simpa [List.getD, h1, h2] using this
        go_wp2_with fail
        go_ret
        exact ⟨rfl, HBk.out⟩
  · have e : decide (L = M) = false := by simp only [decide_eq_false_iff_not]; rintro rfl; exact hlm rfl
    rw [e]
    generalize L.length = n at *
    generalize M.length = m at *
    have hne : ((n : Int) != (m : Int)) = true := by rw [bne_iff_ne]; omega
    clear hlm e hro hro2
    go_enter Try.func12, Try.ntmps12
    go_wp2_with fail
    go_ret
    exact ⟨rfl, Below.refl _ _⟩

set_option maxHeartbeats 1000000 in
theorem fitsC_any (L : List ChT) (a : Option Addr) (c B : Nat) (w : World) (hro : Ro w B a (chv L)) (hB : B ≤ w.heap.size) (hl : L.length ≤ 9223372036854775807) :
    Calls Try.prog 26 #[.slice a L.length c] w fun e w' => (∃ t, e = .returned (.bool t)) ∧ Below w.heap.size w w' := by
  have HRO := Lib.hid hro
  have HS := Lib.hid hB
  generalize hN : L.length = n at *
  have HN := Lib.hid hN
  have hn1 : (n : Int) ≤ 9223372036854775807 := by omega
  clear hro hB hN
  go_enter Try.func26, Try.ntmps26
  go_wp2_with fail
  go_loopw [3] (fun i wr => ∃ k : Nat, k ≤ n ∧ k ≤ 10 ∧ i = .int .i64 (k : Int) ∧ Hid (Below w.heap.size w wr)) (fun i _ => n - (intOf i).toNat)
  case atStart => exact ⟨0, Nat.zero_le _, Nat.zero_le _, rfl, Lib.hid (Below.refl _ _)⟩
  case round =>
    obtain ⟨k, hk, hk10, rfl, HBk⟩ := hrel
    by_cases hlt : k < n
    · have hkL : k < L.length := by rw [HN.out]; exact hlt
      obtain ⟨b, off, rfl, hb, hc⟩ := (HRO.out.below HBk.out HS.out).ch (show 0 < L.length by omega)
      have e1 := hc k hkL
      clear hc
      have hk0 : (0 : Int) ≤ (k : Int) := by omega
      have hk1 : (k : Int) < (n : Int) := by omega
      have hk2 : (k : Int) ≤ 10 := by omega
      generalize (ct L k).a = x2 at *
      generalize (ct L k).u.length = x3 at *
      generalize (ct L k).c = x4 at *
      by_cases h10 : k = 10
      · subst h10
        go_wp2_with fail
        go_ret
        exact ⟨⟨_, rfl⟩, HBk.out⟩
      · have h10' : ((k : Int) == 10) = false := by rw [beq_eq_false_iff_ne]; omega
        have HK10 := Lib.hid h10
        by_cases h3 : 10 < x3
        · have h3' : decide ((10 : Int) < (x3 : Int)) = true := by simp; omega
          clear h10 h3
          go_wp2_with fail
          go_ret
          exact ⟨⟨_, rfl⟩, HBk.out⟩
        · have h3' : decide ((10 : Int) < (x3 : Int)) = false := by simp; omega
          clear h10 h3
          go_wp2_with fail
          go_roundw
          case rel => exact ⟨k + 1, by omega, by have := HK10.out; omega, by go_num, HBk⟩
          case measure => simp [intOf]; omega
    · obtain rfl : k = n := by omega
      go_wp2_with fail
      go_ret
      exact ⟨⟨_, rfl⟩, HBk.out⟩

set_option maxHeartbeats 1000000 in
theorem fitsL_any (A : LyT) (B : Nat) (w : World) (h : LyIn w B A) (hB : B ≤ w.heap.size) (hf : SgFit A.sg) :
    Calls Try.prog 5 #[A.val] w fun e w' => (∃ t, e = .returned (.bool t)) ∧ Below w.heap.size w w' := by
  obtain ⟨W, HWW⟩ : ∃ W, Hid (w.alloc (.cells #[.int .u64 (A.e : Int), .slice A.a A.sg.length A.c, .int .i64 A.q] 25) = W) := ⟨_, Lib.hid rfl⟩
  have hWb : Below w.heap.size w W := by rw [← HWW.out]; exact (Below.refl _ _).alloc (Nat.le_refl _) _
  have o1 : Own W w.heap.size 25 [.int .u64 (A.e : Int), .slice A.a A.sg.length A.c, .int .i64 A.q] := by rw [← HWW.out]; exact Own.new w _ _
  have HIN := Lib.hid h
  have HB := Lib.hid hWb
  have HO := Lib.hid o1
  have HS := Lib.hid hB
  have HF := Lib.hid hf
  have hfl := hf.1
  clear h hWb o1 hB hf
  obtain ⟨ep, sa, c, L, q⟩ := A
  simp only [LyT.val] at *
  generalize hN : L.length = n at *
  have HN := Lib.hid hN
  have hn1 : (n : Int) ≤ 9223372036854775807 := by omega
  clear hN
  go_enter Try.func5, Try.ntmps5
  go_upto_region 1 with fail
  rw [HWW.out]
  go_wp2_with fail
  go_loopw [3] (fun i wr => ∃ k : Nat, k ≤ n ∧ k ≤ 10 ∧ i = .int .i64 (k : Int) ∧ Hid (Below w.heap.size w wr) ∧ Hid (Own wr w.heap.size 25 [.int .u64 (ep : Int), .slice sa n c, .int .i64 q])) (fun i _ => n - (intOf i).toNat)
  case atStart => exact ⟨0, Nat.zero_le _, Nat.zero_le _, rfl, HB, HO⟩
  case round =>
    obtain ⟨k, hk, hk10, rfl, HBk, HOk⟩ := hrel
    have d1 := HOk.out.cell 1
    have hz := HOk.out.lt
    simp at d1
    by_cases hlt : k < n
    · have hkL : k < L.length := by rw [HN.out]; exact hlt
      obtain ⟨b, off, rfl, hb, hc⟩ := (HIN.out.1.below HBk.out HS.out).sg (show 0 < L.length by omega)
      obtain ⟨e1, e2⟩ := hc k hkL
      clear hc
      have hk0 : (0 : Int) ≤ (k : Int) := by omega
      have hk1 : (k : Int) < (n : Int) := by omega
      have hk2 : (k : Int) ≤ 10 := by omega
      have HC := Lib.hid (fitsC_any (st L k).ch (st L k).a (st L k).c B wr ((HIN.out.2 _ (st_mem hkL)).1.below HBk.out HS.out) (Nat.le_trans HS.out HBk.out.size) (HF.out.2 _ (st_mem hkL)).1)
      generalize (st L k).f = x1 at *
      generalize (st L k).a = x2 at *
      generalize (st L k).ch.length = x3 at *
      generalize (st L k).c = x4 at *
      go_wp2_with fail
      refine HC.out.mono ?_
      rintro e w1 ⟨⟨t, rfl⟩, hb1⟩
      have HB1 := Lib.hid (HBk.out.trans (hb1.mono HBk.out.size))
      have HO1 := Lib.hid (HOk.out.below hb1 HOk.out.lt)
      clear hb1
      cases t with
      | false =>
        go_wp2_with fail
        go_ret
        exact ⟨⟨_, rfl⟩, HB1.out⟩
      | true =>
        by_cases h10 : k = 10
        · subst h10
          go_wp2_with fail
          go_ret
          exact ⟨⟨_, rfl⟩, HB1.out⟩
        · have h10' : ((k : Int) == 10) = false := by rw [beq_eq_false_iff_ne]; omega
          have HK10 := Lib.hid h10
          clear h10
          go_wp2_with fail
          go_roundw
          case rel => exact ⟨k + 1, by omega, by have := HK10.out; omega, by go_num, HB1, HO1⟩
          case measure => simp [intOf]; omega
    · obtain rfl : k = n := by omega
      go_wp2_with fail
      go_ret
      exact ⟨⟨_, rfl⟩, HBk.out⟩

/-- what is asked of a layout, by value -/
abbrev folV (a1 : Option Addr) (n1 c1 : Nat) (a2 : Option Addr) (n2 c2 : Nat) (sq : Int) (f : Nat) (a3 : Option Addr) (n3 c3 : Nat) : Value := .agg #[.slice a1 n1 c1, .slice a2 n2 c2, .int .i64 sq, .int .u64 (f : Int), .slice a3 n3 c3]
set_option maxHeartbeats 1000000 in
theorem fitsF_any (a1 : Option Addr) (n1 c1 : Nat) (a2 : Option Addr) (n2 c2 : Nat) (sq : Int) (f : Nat) (a3 : Option Addr) (M : List ChT) (c3 B : Nat) (w : World) (hro : Ro w B a3 (chv M)) (hB : B ≤ w.heap.size) (hl : M.length ≤ 9223372036854775807) :
    Calls Try.prog 21 #[folV a1 n1 c1 a2 n2 c2 sq f a3 M.length c3] w fun e w' => (∃ t, e = .returned (.bool t) ∧ (t = true → n1 ≤ 200 ∧ n2 ≤ 200)) ∧ Below w.heap.size w w' := by
  obtain ⟨W, HWW⟩ : ∃ W, Hid (w.alloc (.cells #[.slice a1 n1 c1, .slice a2 n2 c2, .int .i64 sq, .int .u64 (f : Int), .slice a3 M.length c3] 43) = W) := ⟨_, Lib.hid rfl⟩
  have hWb : Below w.heap.size w W := by rw [← HWW.out]; exact (Below.refl _ _).alloc (Nat.le_refl _) _
  have o1 : Own W w.heap.size 43 [.slice a1 n1 c1, .slice a2 n2 c2, .int .i64 sq, .int .u64 (f : Int), .slice a3 M.length c3] := by rw [← HWW.out]; exact Own.new w _ _
  have HC := Lib.hid (fitsC_any M a3 c3 B W (hro.below hWb hB) (Nat.le_trans hB hWb.size) hl)
  have HB := Lib.hid hWb
  have d0 := o1.cell 0
  have d1 := o1.cell 1
  have d4 := o1.cell 4
  have hz := o1.lt
  simp at d0 d1 d4
  clear hro hWb o1 hB hl
  generalize M.length = n3 at *
  by_cases h1 : n1 ≤ 200
  · have h1' : decide ((n1 : Int) ≤ 200) = true := by simp; omega
    have H1 := Lib.hid h1
    clear h1
    by_cases h2 : n2 ≤ 200
    · have h2' : decide ((n2 : Int) ≤ 200) = true := by simp; omega
      have H2 := Lib.hid h2
      clear h2
      go_enter Try.func21, Try.ntmps21
      go_upto_region 1 with fail
      rw [HWW.out]
      go_wp2_with fail
      refine HC.out.mono ?_
      rintro e w1 ⟨⟨t, rfl⟩, hb1⟩
      have HB1 := Lib.hid (HB.out.trans (hb1.mono HB.out.size))
      clear hb1
      go_wp2_with fail
      go_ret
      exact ⟨⟨_, rfl, fun _ => ⟨H1.out, H2.out⟩⟩, HB1.out⟩
    · have h2' : decide ((n2 : Int) ≤ 200) = false := by simp; omega
      clear h2
      go_enter Try.func21, Try.ntmps21
      go_upto_region 1 with fail
      rw [HWW.out]
      go_wp2_with fail
      go_ret
      exact ⟨⟨_, rfl, by simp⟩, HB.out⟩
  · have h1' : decide ((n1 : Int) ≤ 200) = false := by simp; omega
    clear h1
    go_enter Try.func21, Try.ntmps21
    go_upto_region 1 with fail
    rw [HWW.out]
    go_wp2_with fail
    go_ret
    exact ⟨⟨_, rfl, by simp⟩, HB.out⟩
end Go.Proofs.Ytkdgoopldaoihaa
