/-
  isUnit and within of package layout; slices.IndexFunc, slices.ContainsFunc at segments, at chains and at numbers, over a closure that keeps a state. No claim of their own.
-/
import Derived.Test.YtdblplkaobeimaaGc3
import Derived.Shelf.Lay
import Derived.Laws.EntriesVeiled
import Derived.Deep.Cut
import Derived.Test.YtdblplkaobeimaaGc4
import Derived.Test.YtdblplkaobeimaaGc5
namespace Go.Proofs.Ytdblplkaobeimaa
open Go.RowKit Go.Deep
set_option linter.unusedVariables false
set_option linter.unusedSimpArgs false

set_option maxHeartbeats 400000 in
theorem isUnit_any (n : Int) (w : World) :
    Calls Try.prog 56 #[.int .i64 n] w fun e w' => e = .returned (.bool (decide (0 ≤ n ∧ n < 32))) ∧ w' = w := by
  have h : (0 ≤ n ∧ n < 32) ∨ n < 0 ∨ 32 ≤ n := by omega
  rcases h with ⟨h1, h2⟩ | h1 | h1
  all_goals
    go_enter Try.func56, Try.ntmps56
    go_wp2
    go_ret
    refine ⟨?_, rfl⟩
    simp
    omega

set_option maxHeartbeats 400000 in
theorem within_seg (a : Option Addr) (n c : Nat) (w : World) (hn : n ≤ 9223372036854775807) :
    Calls Try.prog 68 #[.slice a n c, .int .i64 4] w fun e w' => e = .returned (.bool (isLen n)) ∧ w' = w := by
  have h : n = 0 ∨ (1 ≤ n ∧ n ≤ 4) ∨ 4 < n := by omega
  rcases h with rfl | ⟨h1, h2⟩ | h1
  · go_enter Try.func68, Try.ntmps68
    go_wp2
    go_ret
    exact ⟨rfl, rfl⟩
  · have e : isLen n = true := isLen_iff.2 ⟨h1, h2⟩
    rw [e]
    go_enter Try.func68, Try.ntmps68
    go_wp2
    go_ret
    refine ⟨?_, rfl⟩
    simp
    omega
  · have e : isLen n = false := by rw [← Bool.not_eq_true, isLen_iff]; omega
    rw [e]
    go_enter Try.func68, Try.ntmps68
    go_wp2
    go_ret
    refine ⟨?_, rfl⟩
    simp
    omega

set_option maxHeartbeats 400000 in
theorem within_ch (a : Option Addr) (n c : Nat) (w : World) (hn : n ≤ 9223372036854775807) :
    Calls Try.prog 75 #[.slice a n c, .int .i64 4] w fun e w' => e = .returned (.bool (isLen n)) ∧ w' = w := by
  have h : n = 0 ∨ (1 ≤ n ∧ n ≤ 4) ∨ 4 < n := by omega
  rcases h with rfl | ⟨h1, h2⟩ | h1
  · go_enter Try.func75, Try.ntmps75
    go_wp2
    go_ret
    exact ⟨rfl, rfl⟩
  · have e : isLen n = true := isLen_iff.2 ⟨h1, h2⟩
    rw [e]
    go_enter Try.func75, Try.ntmps75
    go_wp2
    go_ret
    refine ⟨?_, rfl⟩
    simp
    omega
  · have e : isLen n = false := by rw [← Bool.not_eq_true, isLen_iff]; omega
    rw [e]
    go_enter Try.func75, Try.ntmps75
    go_wp2
    go_ret
    refine ⟨?_, rfl⟩
    simp
    omega

set_option maxHeartbeats 400000 in
theorem within_int (a : Option Addr) (n c : Nat) (w : World) (hn : n ≤ 9223372036854775807) :
    Calls Try.prog 78 #[.slice a n c, .int .i64 4] w fun e w' => e = .returned (.bool (isLen n)) ∧ w' = w := by
  have h : n = 0 ∨ (1 ≤ n ∧ n ≤ 4) ∨ 4 < n := by omega
  rcases h with rfl | ⟨h1, h2⟩ | h1
  · go_enter Try.func78, Try.ntmps78
    go_wp2
    go_ret
    exact ⟨rfl, rfl⟩
  · have e : isLen n = true := isLen_iff.2 ⟨h1, h2⟩
    rw [e]
    go_enter Try.func78, Try.ntmps78
    go_wp2
    go_ret
    refine ⟨?_, rfl⟩
    simp
    omega
  · have e : isLen n = false := by rw [← Bool.not_eq_true, isLen_iff]; omega
    rw [e]
    go_enter Try.func78, Try.ntmps78
    go_wp2
    go_ret
    refine ⟨?_, rfl⟩
    simp
    omega

set_option maxHeartbeats 1000000 in
theorem index_seg (S : Nat → World → Prop) (T : World → Prop) (p : Nat → Bool) (g : Nat) (lb : Array Value) (eg : ∀ args w, (callFunc g args).run Try.prog w = .ok (.enter g args) w)
    (L : List SgT) (a : Option Addr) (c B : Nat) (w : World) (hl : L.length ≤ 1000000)
    (hro : ∀ k W, S k W → Ro W B a (sgv L)) (h0 : S 0 w)
    (hf : ∀ k W, k < L.length → S k W → Calls Try.prog g (#[(st L k).val] ++ lb) W fun e w' => e = .returned (.bool (p k)) ∧ (p k = true → T w') ∧ (p k = false → S (k + 1) w')) :
    Calls Try.prog 79 #[.slice a L.length c, .func (.func g) #[] lb] w fun e w' => e = .returned (.int .i64 (fx p L.length)) ∧ (T w' ∨ S L.length w') := by
  obtain ⟨n, HN⟩ : ∃ n, Hid (L.length = n) := ⟨_, Lib.hid rfl⟩
  have HR := Lib.hid hro
  have HF := Lib.hid hf
  have H0 := Lib.hid h0
  clear hro hf h0
  rw [HN.out] at hl ⊢
  go_enter Try.func79, Try.ntmps79
  go_wp2_with fail
  go_loopw [8] (fun i wr => ∃ k : Nat, k ≤ n ∧ i = .int .i64 (k : Int) ∧ Hid (S k wr) ∧ Hid (∀ j, j < k → p j = false)) (fun i _ => n - (intOf i).toNat)
  case atStart => exact ⟨0, Nat.zero_le _, rfl, H0, Lib.hid (by omega)⟩
  case round =>
    obtain ⟨k, hk, rfl, HS, HP⟩ := hrel
    by_cases hlt : k < n
    · have hkL : k < L.length := by rw [HN.out]; exact hlt
      obtain ⟨b, off, rfl, hb, hc⟩ := (HR.out k wr HS.out).sg (by omega)
      obtain ⟨c1, c2⟩ := hc k hkL
      have HC := Lib.hid (HF.out k wr hkL HS.out)
      clear hc
      have hk0 : (0 : Int) ≤ (k : Int) := by omega
      have hk1 : (k : Int) < (n : Int) := by omega
      simp only [SgT.val] at HC
      generalize (st L k).f = x1 at *
      generalize (st L k).a = x2 at *
      generalize (st L k).ch.length = x3 at *
      generalize (st L k).c = x4 at *
      cases hq : p k with
      | true =>
        have HQ := Lib.hid hq
        clear hq
        go_wp2_with fail
        refine HC.out.mono ?_
        rintro e w' ⟨rfl, hs, -⟩
        rw [HQ.out]
        have HS2 := Lib.hid (hs HQ.out)
        clear hs
        go_wp2_with fail
        go_ret
        exact ⟨ret_int (fx_hit p n k hlt HQ.out HP.out).symm, .inl HS2.out⟩
      | false =>
        have HQ := Lib.hid hq
        clear hq
        go_wp2_with fail
        refine HC.out.mono ?_
        rintro e w' ⟨rfl, -, hs⟩
        rw [HQ.out]
        have HS2 := Lib.hid (hs HQ.out)
        clear hs
        go_wp2_with fail
        go_roundw
        case rel =>
          refine ⟨k + 1, by omega, by go_num, HS2, Lib.hid fun j hj => ?_⟩
          by_cases e : j = k
          · subst e; exact HQ.out
          · exact HP.out j (by omega)
        case measure => simp [intOf]; omega
    · obtain rfl : k = n := by omega
      go_wp2_with fail
      go_ret
      exact ⟨ret_int (fx_miss p k HP.out).symm, .inr HS.out⟩

set_option maxHeartbeats 1000000 in
theorem contains_seg (S : Nat → World → Prop) (T : World → Prop) (p : Nat → Bool) (g : Nat) (lb : Array Value) (eg : ∀ args w, (callFunc g args).run Try.prog w = .ok (.enter g args) w)
    (L : List SgT) (a : Option Addr) (c B : Nat) (w : World) (hl : L.length ≤ 1000000)
    (hro : ∀ k W, S k W → Ro W B a (sgv L)) (h0 : S 0 w)
    (hf : ∀ k W, k < L.length → S k W → Calls Try.prog g (#[(st L k).val] ++ lb) W fun e w' => e = .returned (.bool (p k)) ∧ (p k = true → T w') ∧ (p k = false → S (k + 1) w')) :
    Calls Try.prog 69 #[.slice a L.length c, .func (.func g) #[] lb] w fun e w' => e = .returned (.bool (anyN p L.length)) ∧ (T w' ∨ S L.length w') := by
  have HC := Lib.hid (index_seg S T p g lb eg L a c B w hl hro h0 hf)
  clear hro h0 hf
  obtain ⟨z, hz⟩ : ∃ z, z = fx p L.length := ⟨_, rfl⟩
  unfold anyN
  rw [← hz] at HC ⊢
  clear hz
  go_enter Try.func69, Try.ntmps69
  go_wp2_with fail
  refine HC.out.mono ?_
  rintro e w' ⟨rfl, hs⟩
  have HS := Lib.hid hs
  clear hs
  go_wp2_with fail
  go_ret
  exact ⟨rfl, HS.out⟩

set_option maxHeartbeats 1000000 in
theorem index_ch (S : Nat → World → Prop) (T : World → Prop) (p : Nat → Bool) (g : Nat) (lb : Array Value) (eg : ∀ args w, (callFunc g args).run Try.prog w = .ok (.enter g args) w)
    (L : List ChT) (a : Option Addr) (c B : Nat) (w : World) (hl : L.length ≤ 1000000)
    (hro : ∀ k W, S k W → Ro W B a (chv L)) (h0 : S 0 w)
    (hf : ∀ k W, k < L.length → S k W → Calls Try.prog g (#[(ct L k).val] ++ lb) W fun e w' => e = .returned (.bool (p k)) ∧ (p k = true → T w') ∧ (p k = false → S (k + 1) w')) :
    Calls Try.prog 80 #[.slice a L.length c, .func (.func g) #[] lb] w fun e w' => e = .returned (.int .i64 (fx p L.length)) ∧ (T w' ∨ S L.length w') := by
  obtain ⟨n, HN⟩ : ∃ n, Hid (L.length = n) := ⟨_, Lib.hid rfl⟩
  have HR := Lib.hid hro
  have HF := Lib.hid hf
  have H0 := Lib.hid h0
  clear hro hf h0
  rw [HN.out] at hl ⊢
  go_enter Try.func80, Try.ntmps80
  go_wp2_with fail
  go_loopw [8] (fun i wr => ∃ k : Nat, k ≤ n ∧ i = .int .i64 (k : Int) ∧ Hid (S k wr) ∧ Hid (∀ j, j < k → p j = false)) (fun i _ => n - (intOf i).toNat)
  case atStart => exact ⟨0, Nat.zero_le _, rfl, H0, Lib.hid (by omega)⟩
  case round =>
    obtain ⟨k, hk, rfl, HS, HP⟩ := hrel
    by_cases hlt : k < n
    · have hkL : k < L.length := by rw [HN.out]; exact hlt
      obtain ⟨b, off, rfl, hb, hc⟩ := (HR.out k wr HS.out).ch (by omega)
      have c1 := hc k hkL
      have HC := Lib.hid (HF.out k wr hkL HS.out)
      clear hc
      have hk0 : (0 : Int) ≤ (k : Int) := by omega
      have hk1 : (k : Int) < (n : Int) := by omega
      simp only [ChT.val] at HC
      generalize (ct L k).a = x2 at *
      generalize (ct L k).u.length = x3 at *
      generalize (ct L k).c = x4 at *
      cases hq : p k with
      | true =>
        have HQ := Lib.hid hq
        clear hq
        go_wp2_with fail
        refine HC.out.mono ?_
        rintro e w' ⟨rfl, hs, -⟩
        rw [HQ.out]
        have HS2 := Lib.hid (hs HQ.out)
        clear hs
        go_wp2_with fail
        go_ret
        exact ⟨ret_int (fx_hit p n k hlt HQ.out HP.out).symm, .inl HS2.out⟩
      | false =>
        have HQ := Lib.hid hq
        clear hq
        go_wp2_with fail
        refine HC.out.mono ?_
        rintro e w' ⟨rfl, -, hs⟩
        rw [HQ.out]
        have HS2 := Lib.hid (hs HQ.out)
        clear hs
        go_wp2_with fail
        go_roundw
        case rel =>
          refine ⟨k + 1, by omega, by go_num, HS2, Lib.hid fun j hj => ?_⟩
          by_cases e : j = k
          · subst e; exact HQ.out
          · exact HP.out j (by omega)
        case measure => simp [intOf]; omega
    · obtain rfl : k = n := by omega
      go_wp2_with fail
      go_ret
      exact ⟨ret_int (fx_miss p k HP.out).symm, .inr HS.out⟩

set_option maxHeartbeats 1000000 in
theorem contains_ch (S : Nat → World → Prop) (T : World → Prop) (p : Nat → Bool) (g : Nat) (lb : Array Value) (eg : ∀ args w, (callFunc g args).run Try.prog w = .ok (.enter g args) w)
    (L : List ChT) (a : Option Addr) (c B : Nat) (w : World) (hl : L.length ≤ 1000000)
    (hro : ∀ k W, S k W → Ro W B a (chv L)) (h0 : S 0 w)
    (hf : ∀ k W, k < L.length → S k W → Calls Try.prog g (#[(ct L k).val] ++ lb) W fun e w' => e = .returned (.bool (p k)) ∧ (p k = true → T w') ∧ (p k = false → S (k + 1) w')) :
    Calls Try.prog 76 #[.slice a L.length c, .func (.func g) #[] lb] w fun e w' => e = .returned (.bool (anyN p L.length)) ∧ (T w' ∨ S L.length w') := by
  have HC := Lib.hid (index_ch S T p g lb eg L a c B w hl hro h0 hf)
  clear hro h0 hf
  obtain ⟨z, hz⟩ : ∃ z, z = fx p L.length := ⟨_, rfl⟩
  unfold anyN
  rw [← hz] at HC ⊢
  clear hz
  go_enter Try.func76, Try.ntmps76
  go_wp2_with fail
  refine HC.out.mono ?_
  rintro e w' ⟨rfl, hs⟩
  have HS := Lib.hid hs
  clear hs
  go_wp2_with fail
  go_ret
  exact ⟨rfl, HS.out⟩

set_option maxHeartbeats 1000000 in
theorem index_int (S : Nat → World → Prop) (T : World → Prop) (p : Nat → Bool) (g : Nat) (lb : Array Value) (eg : ∀ args w, (callFunc g args).run Try.prog w = .ok (.enter g args) w)
    (L : List Int) (a : Option Addr) (c B : Nat) (w : World) (hl : L.length ≤ 1000000)
    (hro : ∀ k W, S k W → Ro W B a (i64s L)) (h0 : S 0 w)
    (hf : ∀ k W, k < L.length → S k W → Calls Try.prog g (#[.int .i64 (L.getD k 0)] ++ lb) W fun e w' => e = .returned (.bool (p k)) ∧ (p k = true → T w') ∧ (p k = false → S (k + 1) w')) :
    Calls Try.prog 51 #[.slice a L.length c, .func (.func g) #[] lb] w fun e w' => e = .returned (.int .i64 (fx p L.length)) ∧ (T w' ∨ S L.length w') := by
  obtain ⟨n, HN⟩ : ∃ n, Hid (L.length = n) := ⟨_, Lib.hid rfl⟩
  have HR := Lib.hid hro
  have HF := Lib.hid hf
  have H0 := Lib.hid h0
  clear hro hf h0
  rw [HN.out] at hl ⊢
  go_enter Try.func51, Try.ntmps51
  go_wp2_with fail
  go_loopw [8] (fun i wr => ∃ k : Nat, k ≤ n ∧ i = .int .i64 (k : Int) ∧ Hid (S k wr) ∧ Hid (∀ j, j < k → p j = false)) (fun i _ => n - (intOf i).toNat)
  case atStart => exact ⟨0, Nat.zero_le _, rfl, H0, Lib.hid (by omega)⟩
  case round =>
    obtain ⟨k, hk, rfl, HS, HP⟩ := hrel
    by_cases hlt : k < n
    · have hkL : k < L.length := by rw [HN.out]; exact hlt
      obtain ⟨b, off, rfl, hb, hc⟩ := (HR.out k wr HS.out).i64 (by omega)
      have c1 := hc k hkL
      have HC := Lib.hid (HF.out k wr hkL HS.out)
      clear hc
      have hk0 : (0 : Int) ≤ (k : Int) := by omega
      have hk1 : (k : Int) < (n : Int) := by omega
      generalize L.getD k 0 = x1 at *
      cases hq : p k with
      | true =>
        have HQ := Lib.hid hq
        clear hq
        go_wp2_with fail
        refine HC.out.mono ?_
        rintro e w' ⟨rfl, hs, -⟩
        rw [HQ.out]
        have HS2 := Lib.hid (hs HQ.out)
        clear hs
        go_wp2_with fail
        go_ret
        exact ⟨ret_int (fx_hit p n k hlt HQ.out HP.out).symm, .inl HS2.out⟩
      | false =>
        have HQ := Lib.hid hq
        clear hq
        go_wp2_with fail
        refine HC.out.mono ?_
        rintro e w' ⟨rfl, -, hs⟩
        rw [HQ.out]
        have HS2 := Lib.hid (hs HQ.out)
        clear hs
        go_wp2_with fail
        go_roundw
        case rel =>
          refine ⟨k + 1, by omega, by go_num, HS2, Lib.hid fun j hj => ?_⟩
          by_cases e : j = k
          · subst e; exact HQ.out
          · exact HP.out j (by omega)
        case measure => simp [intOf]; omega
    · obtain rfl : k = n := by omega
      go_wp2_with fail
      go_ret
      exact ⟨ret_int (fx_miss p k HP.out).symm, .inr HS.out⟩

set_option maxHeartbeats 1000000 in
theorem contains_int (S : Nat → World → Prop) (T : World → Prop) (p : Nat → Bool) (g : Nat) (lb : Array Value) (eg : ∀ args w, (callFunc g args).run Try.prog w = .ok (.enter g args) w)
    (L : List Int) (a : Option Addr) (c B : Nat) (w : World) (hl : L.length ≤ 1000000)
    (hro : ∀ k W, S k W → Ro W B a (i64s L)) (h0 : S 0 w)
    (hf : ∀ k W, k < L.length → S k W → Calls Try.prog g (#[.int .i64 (L.getD k 0)] ++ lb) W fun e w' => e = .returned (.bool (p k)) ∧ (p k = true → T w') ∧ (p k = false → S (k + 1) w')) :
    Calls Try.prog 32 #[.slice a L.length c, .func (.func g) #[] lb] w fun e w' => e = .returned (.bool (anyN p L.length)) ∧ (T w' ∨ S L.length w') := by
  have HC := Lib.hid (index_int S T p g lb eg L a c B w hl hro h0 hf)
  clear hro h0 hf
  obtain ⟨z, hz⟩ : ∃ z, z = fx p L.length := ⟨_, rfl⟩
  unfold anyN
  rw [← hz] at HC ⊢
  clear hz
  go_enter Try.func32, Try.ntmps32
  go_wp2_with fail
  refine HC.out.mono ?_
  rintro e w' ⟨rfl, hs⟩
  have HS := Lib.hid hs
  clear hs
  go_wp2_with fail
  go_ret
  exact ⟨rfl, HS.out⟩
end Go.Proofs.Ytdblplkaobeimaa
namespace Go.Proofs.Ytdblplkaobeimaa
open Go.RowKit Go.Deep Go.Shelf
set_option linter.unusedVariables false
set_option linter.unusedSimpArgs false

/-- which units there were, one by one -/
def fl (us : List Int) : List Value := (List.range 32).map fun (k : Nat) => Value.bool (decide ((k : Int) ∈ us))
@[simp] theorem fl_length (us : List Int) : (fl us).length = 32 := by simp [fl]
theorem fl_get (us : List Int) (i : Nat) (h : i < 32) : (fl us)[i]? = some (.bool (decide ((i : Int) ∈ us))) := by simp [fl, h]
theorem fl_set (us : List Int) (i : Nat) (h : i < 32) : (fl us).set i (.bool true) = fl (us ++ [(i : Int)]) := by
  apply List.ext_getElem (by simp)
  intro j h1 h2
  simp only [List.length_set, fl_length] at h1
  rw [List.getElem_set]
  by_cases e : i = j
  · subst e; simp [fl]
  · simp [fl, e, show ¬ (j : Int) = (i : Int) by omega]
theorem grown_trans {a b c : World} {r : Option Nat} (h : a.grownBy b r) (k : b.grownBy c r) : a.grownBy c r :=
  ⟨k.os.trans h.os, k.tape.trans h.tape, k.output.trans h.output, Nat.le_trans h.size k.size, fun x hx hne => (k.block x (Nat.lt_of_lt_of_le hx h.size) hne).trans (h.block x hx hne)⟩
theorem grown_below' {w w' : World} {g : Nat} (h : w.grownBy w' (some g)) (hg : g ≤ w.heap.size) : Below g w w' := below_only (Below.refl _ _) h (Nat.le_refl _) hg
theorem grown_cell {w w' : World} {g gw o : Nat} {v : Value} (h : w.grownBy w' (some g)) (hc : w.cell? ⟨gw, o, none⟩ = some v) (hne : gw ≠ g) : w'.cell? ⟨gw, o, none⟩ = some v := by
  have hlt := World.block_lt_of_cell? _ _ hc
  have := h.block gw hlt (by intro e; injection e with e; exact hne e)
  rw [← hc]
  simp only [World.cell?, this]

set_option maxHeartbeats 400000 in
theorem rc1_any (u : Int) (us : List Int) (g : Nat) (w : World) (h : Own w g 109 (fl us)) :
    Calls Try.prog 74 #[.int .i64 u, .pointer (some ⟨g, 0, none⟩)] w fun e w' => e = .returned (.bool (ubad us u)) ∧ (ubad us u = false → Own w' g 109 (fl (us ++ [u]))) ∧ w.grownBy w' (some g) := by
  have HU := Lib.hid (isUnit_any u w)
  by_cases hu : 0 ≤ u ∧ u < 32
  · obtain ⟨k, rfl⟩ := Int.eq_ofNat_of_zero_le hu.1
    have hk : k < 32 := by omega
    have hc := (h.cell k).trans (fl_get us k hk)
    have hf := h.frozen k
    have e : decide (0 ≤ (k : Int) ∧ (k : Int) < 32) = true := by simp; omega
    rw [e] at HU
    have e1 : ubad us (k : Int) = decide ((k : Int) ∈ us) := by unfold ubad; rw [e]; simp
    rw [e1]
    have HO := Lib.hid h
    have h0 : (0 : Int) ≤ (k : Int) := by omega
    have h1 : (k : Int) < 32 := by omega
    clear hu e e1 h
    cases hd : decide ((k : Int) ∈ us) with
    | true =>
      rw [hd] at hc
      clear hd
      go_enter Try.func74, Try.ntmps74
      go_wp2_with fail
      refine HU.out.mono ?_
      rintro e w' ⟨rfl, rfl⟩
      go_wp2_with fail
      go_ret
      exact ⟨rfl, by simp, World.grownBy.refl _ _⟩
    | false =>
      rw [hd] at hc
      clear hd
      go_enter Try.func74, Try.ntmps74
      go_wp2_with fail
      refine HU.out.mono ?_
      rintro e w' ⟨rfl, rfl⟩
      go_wp2_with fail
      go_ret
      refine ⟨rfl, fun _ => ?_, only_set (World.grownBy.refl _ _) _ _⟩
      rw [← fl_set us k hk]
      exact HO.out.set k _
  · have e : decide (0 ≤ u ∧ u < 32) = false := by simpa using hu
    have e1 : ubad us u = true := by unfold ubad; rw [e]; simp
    rw [e] at HU
    rw [e1]
    clear hu e e1 h
    go_enter Try.func74, Try.ntmps74
    go_wp2_with fail
    refine HU.out.mono ?_
    rintro e w' ⟨rfl, rfl⟩
    go_wp2_with fail
    go_ret
    exact ⟨rfl, by simp, World.grownBy.refl _ _⟩

theorem rc1_in (A : ChT) (us : List Int) (g B : Nat) (w : World) (h : Own w g 109 (fl us)) (hro : Ro w B A.a (i64s A.u)) (hB : B ≤ g) (hl : A.u.length ≤ 1000000) :
    Calls Try.prog 32 #[.slice A.a A.u.length A.c, .func (.func 74) #[] #[.pointer (some ⟨g, 0, none⟩)]] w fun e w' => e = .returned (.bool (cbadU us A.u)) ∧ (cbadU us A.u = false → Own w' g 109 (fl (us ++ A.u))) ∧ w.grownBy w' (some g) := by
  have eg : ∀ args w, (callFunc 74 args).run Try.prog w = .ok (.enter 74 args) w := enters_of Try.func74 (by kernel_rfl) rfl
  have hg := h.lt
  refine (contains_int (fun k W => Own W g 109 (fl (us ++ A.u.take k)) ∧ w.grownBy W (some g) ∧ ∀ j, j < k → ubad (us ++ A.u.take j) (A.u.getD j 0) = false) (fun W => w.grownBy W (some g) ∧ cbadU us A.u = true) (fun k => ubad (us ++ A.u.take k) (A.u.getD k 0)) 74 #[.pointer (some ⟨g, 0, none⟩)] eg A.u A.a A.c B w hl (fun k W hS => hro.below (grown_below' hS.2.1 (by omega)) hB) ⟨by simpa using h, World.grownBy.refl _ _, by omega⟩ (fun k W hk hS => ?_)).mono ?_
  · obtain ⟨h1, h2, h3⟩ := hS
    refine (rc1_any (A.u.getD k 0) (us ++ A.u.take k) g W h1).mono ?_
    rintro e w' ⟨rfl, g1, g2⟩
    refine ⟨rfl, fun hp => ⟨grown_trans h2 g2, ?_⟩, fun hp => ⟨?_, grown_trans h2 g2, fun j hj => ?_⟩⟩
    · rw [← Bool.not_eq_false]
      intro hc
      have := anyN_false.1 hc k hk
      rw [this] at hp; cases hp
    · have := g1 hp
      rwa [List.append_assoc, show A.u.take k ++ [A.u.getD k 0] = A.u.take (k + 1) by rw [List.take_succ_eq_append_getElem hk]; simp [List.getD, hk]] at this
    · by_cases e : j = k
      · subst e; exact hp
      · exact h3 j (by omega)
  · rintro e w' ⟨rfl, hT | ⟨h1, h2, h3⟩⟩
    · exact ⟨rfl, fun hc => (by rw [hT.2] at hc; cases hc), hT.1⟩
    · exact ⟨rfl, fun hc => by simpa using h1, h2⟩

set_option maxHeartbeats 400000 in
theorem rc2_any (A : ChT) (us : List Int) (g gw B : Nat) (w : World) (h : Own w g 109 (fl us)) (hw : w.cell? ⟨gw, 0, none⟩ = some (.func (.func 74) #[] #[.pointer (some ⟨g, 0, none⟩)])) (hro : Ro w B A.a (i64s A.u)) (hB : B ≤ g) (hl : A.u.length ≤ 9223372036854775807) :
    Calls Try.prog 77 #[A.val, .pointer (some ⟨gw, 0, none⟩)] w fun e w' => e = .returned (.bool (cbad us A.u)) ∧ (cbad us A.u = false → Own w' g 109 (fl (us ++ A.u))) ∧ w.grownBy w' (some g) := by
  have HW := Lib.hid (within_int A.a A.u.length A.c w hl)
  have HC := Lib.hid (fun hl => rc1_in A us g B w h hro hB hl)
  unfold cbad
  simp only [ChT.val]
  cases hi : isLen A.u.length with
  | true =>
    rw [hi] at HW
    have hl2 := isLen_iff.1 hi
    replace HC := Lib.hid (HC.out (by omega))
    clear hi hl2 hl hro h
    generalize cbadU us A.u = t at *
    generalize A.u.length = n at *
    go_enter Try.func77, Try.ntmps77
    go_wp2_with fail
    refine HW.out.mono ?_
    rintro e w' ⟨rfl, rfl⟩
    go_wp2_with fail
    refine HC.out.mono ?_
    rintro e w' ⟨rfl, h1, h2⟩
    have H1 := Lib.hid h1
    have H2 := Lib.hid h2
    clear h1 h2
    go_wp2_with fail
    go_ret
    exact ⟨by simp, by simpa using H1.out, H2.out⟩
  | false =>
    rw [hi] at HW
    clear hi HC hl hro h
    generalize A.u.length = n at *
    go_enter Try.func77, Try.ntmps77
    go_wp2_with fail
    refine HW.out.mono ?_
    rintro e w' ⟨rfl, rfl⟩
    go_wp2_with fail
    go_ret
    exact ⟨rfl, by simp, World.grownBy.refl _ _⟩
theorem rc2_in (L : List ChT) (a : Option Addr) (c g gw B : Nat) (w : World) (h : Own w g 109 (fl [])) (hw : w.cell? ⟨gw, 0, none⟩ = some (.func (.func 74) #[] #[.pointer (some ⟨g, 0, none⟩)])) (hne : gw ≠ g) (hro : Ro w B a (chv L)) (hin : ChIn w B L) (hB : B ≤ g) (hl : L.length ≤ 1000000) (hf : ChFit L) :
    Calls Try.prog 76 #[.slice a L.length c, .func (.func 77) #[] #[.pointer (some ⟨gw, 0, none⟩)]] w fun e w' => e = .returned (.bool (anyN (fun k => cbad ((chx L).take k).flatten (cx (chx L) k)) L.length)) ∧ w.grownBy w' (some g) := by
  have eg : ∀ args w, (callFunc 77 args).run Try.prog w = .ok (.enter 77 args) w := enters_of Try.func77 (by kernel_rfl) rfl
  have hg := h.lt
  refine (contains_ch (fun k W => Own W g 109 (fl ((chx L).take k).flatten) ∧ w.grownBy W (some g)) (fun W => w.grownBy W (some g)) (fun k => cbad ((chx L).take k).flatten (cx (chx L) k)) 77 #[.pointer (some ⟨gw, 0, none⟩)] eg L a c B w hl (fun k W hS => hro.below (grown_below' hS.2 (by omega)) hB) ⟨by simpa using h, World.grownBy.refl _ _⟩ (fun k W hk hS => ?_)).mono ?_
  · obtain ⟨h1, h2⟩ := hS
    refine (rc2_any (ct L k) _ g gw B W h1 (grown_cell h2 hw hne) ((hin _ (ct_mem hk)).below (grown_below' h2 (by omega)) hB) hB (hf.2 _ (ct_mem hk))).mono ?_
    rintro e w' ⟨rfl, g1, g2⟩
    simp only [cx_chx]
    refine ⟨trivial, fun hp => grown_trans h2 g2, fun hp => ⟨?_, grown_trans h2 g2⟩⟩
    have := g1 hp
    rw [cx_take (by simpa using hk), cx_chx]
    simpa using this
  · rintro e w' ⟨rfl, hT | ⟨h1, h2⟩⟩
    · exact ⟨rfl, hT⟩
    · exact ⟨rfl, h2⟩

set_option maxHeartbeats 400000 in
theorem rightChains_any (L : List ChT) (a : Option Addr) (c B : Nat) (w : World) (hro : Ro w B a (chv L)) (hin : ChIn w B L) (hB : B ≤ w.heap.size) (hf : ChFit L) :
    Calls Try.prog 67 #[.slice a L.length c] w fun e w' => e = .returned (.bool (chOk (chx L))) ∧ Below w.heap.size w w' := by
  have HW := Lib.hid (fun W => within_ch a L.length c W hf.1)
  have efl : (fl []).toArray = #[.bool false, .bool false, .bool false, .bool false, .bool false, .bool false, .bool false, .bool false, .bool false, .bool false, .bool false, .bool false, .bool false, .bool false, .bool false, .bool false, .bool false, .bool false, .bool false, .bool false, .bool false, .bool false, .bool false, .bool false, .bool false, .bool false, .bool false, .bool false, .bool false, .bool false, .bool false, .bool false] := by simp [fl, List.range, List.range.loop]
  obtain ⟨W0, HW0⟩ : ∃ W0, Hid (w.alloc (.cells (fl []).toArray 109) = W0) := ⟨_, Lib.hid rfl⟩
  have hz0 : W0.heap.size = w.heap.size + 1 := by rw [← HW0.out]; simp
  obtain ⟨W, HWW⟩ : ∃ W, Hid (W0.alloc (.cells #[.func (.func 74) #[] #[.pointer (some ⟨w.heap.size, 0, none⟩)]] 72) = W) := ⟨_, Lib.hid rfl⟩
  have hb0 : Below w.heap.size w W0 := by rw [← HW0.out]; exact (Below.refl _ _).alloc (Nat.le_refl _) _
  have hWb : Below w.heap.size w W := by rw [← HWW.out]; exact hb0.alloc (by omega) _
  have o0 : Own W0 w.heap.size 109 (fl []) := by rw [← HW0.out]; exact Own.new w _ _
  have o1 : Own W w.heap.size 109 (fl []) := by rw [← HWW.out]; exact o0.alloc _
  have o2 : W.cell? ⟨W0.heap.size, 0, none⟩ = some (.func (.func 74) #[] #[.pointer (some ⟨w.heap.size, 0, none⟩)]) := by
    rw [← HWW.out]
    simp
  have HC := Lib.hid (fun hl => rc2_in L a c w.heap.size W0.heap.size B W o1 o2 (by omega) (hro.below hWb hB) (hin.below hWb hB) hB hl hf)
  have HB := Lib.hid hWb
  rw [efl] at HW0
  unfold chOk
  rw [chx_length]
  generalize anyN (fun k => cbad ((chx L).take k).flatten (cx (chx L) k)) L.length = t at *
  clear hz0 hb0 o0
  cases hi : isLen L.length with
  | true =>
    rw [hi] at HW
    have hl2 := isLen_iff.1 hi
    replace HC := Lib.hid (HC.out (by omega))
    clear hi hl2 hro hf o1 o2 hWb hin efl
    generalize L.length = n at *
    go_enter Try.func67, Try.ntmps67
    go_upto_region 2 with fail
    rw [HW0.out]
    go_wp2_with fail
    refine (HW.out _).mono ?_
    rintro e w' ⟨rfl, rfl⟩
    go_wp2_with fail
    rw [HWW.out]
    refine HC.out.mono ?_
    rintro e w' ⟨rfl, h2⟩
    have H2 := Lib.hid (below_only HB.out h2 (Nat.le_refl _) HB.out.size)
    clear h2
    go_wp2_with fail
    go_ret
    exact ⟨by simp, H2.out⟩
  | false =>
    rw [hi] at HW
    clear hi HC hro hf o1 o2 hWb hin efl
    generalize L.length = n at *
    go_enter Try.func67, Try.ntmps67
    go_upto_region 2 with fail
    rw [HW0.out]
    go_wp2_with fail
    refine (HW.out _).mono ?_
    rintro e w' ⟨rfl, rfl⟩
    go_wp2_with fail
    go_ret
    exact ⟨rfl, by rw [HWW.out]; exact HB.out⟩

theorem wrap_u64_mod (n : Nat) : IntKind.u64.wrap ((n : Int) + 1) = (((n + 1) % 18446744073709551616 : Nat) : Int) := by rw [IntKind.wrap_u64]; omega
set_option maxHeartbeats 400000 in
theorem rs1_any (A : SgT) (m g B : Nat) (w : World) (h : Own w g 26 [.int .u64 (m : Int)]) (hro : Ro w B A.a (chv A.ch)) (hin : ChIn w B A.ch) (hB : B ≤ g) (hf : ChFit A.ch) :
    Calls Try.prog 66 #[A.val, .pointer (some ⟨g, 0, none⟩)] w fun e w' => e = .returned (.bool (sbad m A.x)) ∧ Own w' g 26 [.int .u64 (((A.f + 1) % 18446744073709551616 : Nat) : Int)] ∧ Below g w w' := by
  obtain ⟨f, a, c, L⟩ := A
  simp only [SgT.val, SgT.x] at hro hin hf ⊢
  have hg := h.lt
  have HO := Lib.hid h
  have hc := h.cell 0
  have hfz := h.frozen 0
  simp at hc
  have ew := wrap_u64_mod f
  have HE := Lib.hid ew
  clear ew
  obtain ⟨t, HT⟩ : ∃ t, Hid (chOk (chx L) = t) := ⟨_, Lib.hid rfl⟩
  have HR := Lib.hid (fun (W : World) (hb : Below g w W) (hs : B ≤ W.heap.size) => rightChains_any L a c B W (hro.below hb hB) (hin.below hb hB) hs hf)
  rw [HT.out] at HR
  clear h hro hin hf
  obtain ⟨u, HU⟩ : ∃ u, Hid (sbad m (f, chx L) = u) := ⟨_, Lib.hid rfl⟩
  rw [HU.out]
  generalize L.length = n at *
  by_cases e1 : f < m
  · obtain rfl : u = true := by rw [← HU.out]; simp [sbad, e1]
    have e1' : (f : Int) < (m : Int) := by omega
    clear e1
    go_enter Try.func66, Try.ntmps66
    go_wp2_with fail
    go_ret
    refine ⟨rfl, ?_, ((Below.refl g w).setCell (Nat.le_refl _) _).alloc (by simp [set_size]; omega) _⟩
    first | rw [← HE.out] | rw [show ((f : Int) + 1) % 18446744073709551616 = IntKind.u64.wrap ((f : Int) + 1) by rw [IntKind.wrap_u64]]
    exact (HO.out.set 0 _).alloc _
  by_cases e2 : 1048576 ≤ f
  · obtain rfl : u = true := by rw [← HU.out]; simp [sbad, e2]
    have e1' : ¬ (f : Int) < (m : Int) := by omega
    have e2' : (1048576 : Int) ≤ (f : Int) := by omega
    clear e1 e2
    go_enter Try.func66, Try.ntmps66
    go_wp2_with fail
    go_ret
    refine ⟨rfl, ?_, ((Below.refl g w).setCell (Nat.le_refl _) _).alloc (by simp [set_size]; omega) _⟩
    first | rw [← HE.out] | rw [show ((f : Int) + 1) % 18446744073709551616 = IntKind.u64.wrap ((f : Int) + 1) by rw [IntKind.wrap_u64]]
    exact (HO.out.set 0 _).alloc _
  obtain rfl : u = !t := by rw [← HU.out]; simp [sbad, e1, e2, HT.out]
  have e1' : ¬ (f : Int) < (m : Int) := by omega
  have e2' : ¬ (1048576 : Int) ≤ (f : Int) := by omega
  clear e1 e2
  go_enter Try.func66, Try.ntmps66
  go_wp2_with fail
  refine (HR.out _ ((Below.refl g w).alloc (by omega) _) (by simp; omega)).mono ?_
  rintro e w' ⟨rfl, hb⟩
  have HB := Lib.hid hb
  have o1 : Own w' w.heap.size 91 [.int .u64 (f : Int), .slice a n c] := (Own.new w 91 [.int .u64 (f : Int), .slice a n c]).below hb (by simp)
  have o2 : Own w' g 26 [.int .u64 (m : Int)] := (HO.out.alloc _).below hb (by simp; omega)
  have hz := o1.lt
  have c1 := o1.cell 0
  have c2 := o2.cell 0
  have c3 := o2.frozen 0
  simp at c1 c2
  have HO2 := Lib.hid o2
  clear hb o1 o2 hc hfz
  go_wp2_with fail
  go_ret
  refine ⟨rfl, ?_, (((Below.refl g w).alloc (by omega) _).trans (HB.out.mono (by simp; omega))).setCell (Nat.le_refl _) _⟩
  first
    | rw [show (((f + 1) % 18446744073709551616 : Nat) : Int) = (f : Int) + 1 by omega]
    | rw [show ((f : Int) + 1) % 18446744073709551616 = (f : Int) + 1 by omega]
  exact HO2.out.set 0 _

theorem rs1_in (L : List SgT) (a : Option Addr) (c g B : Nat) (w : World) (h : Own w g 26 [.int .u64 0]) (hro : Ro w B a (sgv L)) (hin : SgIn w B L) (hB : B ≤ g) (hl : L.length ≤ 1000000) (hf : SgFit L) :
    Calls Try.prog 69 #[.slice a L.length c, .func (.func 66) #[] #[.pointer (some ⟨g, 0, none⟩)]] w fun e w' => e = .returned (.bool (anyN (fun k => sbad (leastF (sgx L) k) (sx (sgx L) k)) L.length)) ∧ Below g w w' := by
  have eg : ∀ args w, (callFunc 66 args).run Try.prog w = .ok (.enter 66 args) w := enters_of Try.func66 (by kernel_rfl) rfl
  have hg := h.lt
  refine (contains_seg (fun k W => Own W g 26 [.int .u64 (leastF (sgx L) k : Nat)] ∧ Below g w W) (fun W => Below g w W) (fun k => sbad (leastF (sgx L) k) (sx (sgx L) k)) 66 #[.pointer (some ⟨g, 0, none⟩)] eg L a c B w hl (fun k W hS => hro.below hS.2 hB) ⟨by simpa [leastF] using h, Below.refl _ _⟩ (fun k W hk hS => ?_)).mono ?_
  · obtain ⟨h1, h2⟩ := hS
    have hs := hin _ (st_mem hk)
    refine (rs1_any (st L k) _ g B W h1 (hs.1.below h2 hB) (hs.2.below h2 hB) hB (hf.2 _ (st_mem hk))).mono ?_
    rintro e w' ⟨rfl, g1, g2⟩
    rw [sx_sgx]
    refine ⟨rfl, fun hp => h2.trans g2, fun hp => ⟨?_, h2.trans g2⟩⟩
    have e : leastF (sgx L) (k + 1) = ((st L k).f + 1) % 18446744073709551616 := by
      unfold leastF
      rw [if_neg (by omega), Nat.add_sub_cancel, sx_sgx]
      rfl
    rw [e]
    exact g1
  · rintro e w' ⟨rfl, hT | ⟨h1, h2⟩⟩
    · exact ⟨rfl, hT⟩
    · exact ⟨rfl, h2⟩

set_option maxHeartbeats 400000 in
theorem rightSegments_any (L : List SgT) (a : Option Addr) (c B : Nat) (w : World) (hro : Ro w B a (sgv L)) (hin : SgIn w B L) (hB : B ≤ w.heap.size) (hf : SgFit L) :
    Calls Try.prog 57 #[.slice a L.length c] w fun e w' => e = .returned (.bool (sgOk (sgx L))) ∧ Below w.heap.size w w' := by
  have HW := Lib.hid (fun W => within_seg a L.length c W hf.1)
  obtain ⟨W, HWW⟩ : ∃ W, Hid (w.alloc (.cells #[.int .u64 0] 26) = W) := ⟨_, Lib.hid rfl⟩
  have hWb : Below w.heap.size w W := by rw [← HWW.out]; exact (Below.refl _ _).alloc (Nat.le_refl _) _
  have o1 : Own W w.heap.size 26 [.int .u64 0] := by rw [← HWW.out]; exact Own.new w _ _
  have HC := Lib.hid (fun hl => rs1_in L a c w.heap.size B W o1 (hro.below hWb hB) (hin.below hWb hB) hB hl hf)
  have HB := Lib.hid hWb
  unfold sgOk
  rw [sgx_length, sx_sgx]
  generalize anyN (fun k => sbad (leastF (sgx L) k) (sx (sgx L) k)) L.length = t at *
  cases hi : isLen L.length with
  | true =>
    rw [hi] at HW
    have hl2 := isLen_iff.1 hi
    replace HC := Lib.hid (HC.out (by omega))
    obtain ⟨b, off, rfl, hb, hc⟩ := (hro.below hWb hB).sg (by omega)
    have hc0 := (hc 0 (by omega)).1
    rw [Nat.zero_mul, Nat.add_zero, ← HWW.out] at hc0
    have hn1 : (1 : Int) ≤ (L.length : Int) := by omega
    have hf0 : (st L 0).x.1 = (st L 0).f := rfl
    rw [hf0]
    clear hf0
    clear hi hl2 hro hf o1 hWb hin hc
    generalize (st L 0).f = f at *
    generalize L.length = n at *
    by_cases h0 : f = 0
    · subst h0
      go_enter Try.func57, Try.ntmps57
      go_wp2_with fail
      refine (HW.out _).mono ?_
      rintro e w' ⟨rfl, rfl⟩
      go_wp2_with fail
      rw [HWW.out]
      refine HC.out.mono ?_
      rintro e w' ⟨rfl, h2⟩
      have H2 := Lib.hid (HB.out.trans h2)
      clear h2
      go_wp2_with fail
      go_ret
      exact ⟨by simp, H2.out⟩
    · have h0' : ((f : Int) == 0) = false := by rw [beq_eq_false_iff_ne]; omega
      have e : decide (f = 0) = false := by simpa using h0
      rw [e]
      clear h0 e
      go_enter Try.func57, Try.ntmps57
      go_wp2_with fail
      refine (HW.out _).mono ?_
      rintro e w' ⟨rfl, rfl⟩
      go_wp2_with fail
      go_ret
      exact ⟨rfl, by rw [HWW.out]; exact HB.out⟩
  | false =>
    rw [hi] at HW
    clear hi HC hro hf o1 hWb hin
    generalize decide ((st L 0).x.1 = 0) = u at *
    generalize L.length = n at *
    go_enter Try.func57, Try.ntmps57
    go_wp2_with fail
    refine (HW.out _).mono ?_
    rintro e w' ⟨rfl, rfl⟩
    go_wp2_with fail
    go_ret
    exact ⟨rfl, by rw [HWW.out]; exact HB.out⟩

set_option maxHeartbeats 400000 in
theorem lright_any (A : LyT) (B : Nat) (w : World) (h : LyIn w B A) (hB : B ≤ w.heap.size) (hf : SgFit A.sg) :
    Calls Try.prog 38 #[A.val] w fun e w' => e = .returned (.bool (lright A.x)) ∧ Below w.heap.size w w' := by
  obtain ⟨ep, a, c, L, q⟩ := A
  simp only [LyT.val, LyT.x] at *
  obtain ⟨W, HWW⟩ : ∃ W, Hid (w.alloc (.cells #[.int .u64 (ep : Int), .slice a L.length c, .int .i64 q] 38) = W) := ⟨_, Lib.hid rfl⟩
  have hWb : Below w.heap.size w W := by rw [← HWW.out]; exact (Below.refl _ _).alloc (Nat.le_refl _) _
  have h1 := h.below hWb hB
  have HU := Lib.hid (isUnit_any q W)
  have HR := Lib.hid (rightSegments_any L a c B W h1.1 h1.2 (Nat.le_trans hB hWb.size) hf)
  have HB := Lib.hid hWb
  have o1 : Own W w.heap.size 38 [.int .u64 (ep : Int), .slice a L.length c, .int .i64 q] := by rw [← HWW.out]; exact Own.new w _ _
  unfold lright
  simp only
  generalize sgOk (sgx L) = t at *
  generalize decide (0 ≤ q ∧ q < 32) = u at *
  generalize L.length = n at *
  have hz := o1.lt
  clear h1 hWb h hf hB o1
  have HK : 1 ≤ ep ∧ ep ≤ 1048576 ∨ ep < 1 ∨ 1048576 < ep := by omega
  rcases HK with ⟨k1, k2⟩ | k1 | k1
  · have e : decide (1 ≤ ep ∧ ep ≤ 1048576) = true := by simp; omega
    rw [e]
    have k1' : (1 : Int) ≤ (ep : Int) := by omega
    have k2' : (ep : Int) ≤ 1048576 := by omega
    clear e k1 k2
    cases u with
    | true =>
      go_enter Try.func38, Try.ntmps38
      go_wp2_with fail
      rw [HWW.out]
      refine HU.out.mono ?_
      rintro e w' ⟨rfl, rfl⟩
      rw [← HWW.out]
      go_wp2_with fail
      rw [HWW.out]
      refine HR.out.mono ?_
      rintro e w' ⟨rfl, h2⟩
      have H2 := Lib.hid (HB.out.trans (h2.mono HB.out.size))
      clear h2
      go_wp2_with fail
      go_ret
      exact ⟨by simp, H2.out⟩
    | false =>
      go_enter Try.func38, Try.ntmps38
      go_wp2_with fail
      rw [HWW.out]
      refine HU.out.mono ?_
      rintro e w' ⟨rfl, rfl⟩
      rw [← HWW.out]
      go_wp2_with fail
      go_ret
      exact ⟨rfl, by rw [HWW.out]; exact HB.out⟩
  all_goals
    have e : decide (1 ≤ ep ∧ ep ≤ 1048576) = false := by simp; omega
    rw [e]
    first
      | (have k1' : (ep : Int) < 1 := by omega)
      | (have k1' : 1048576 < (ep : Int) := by omega)
    have k2' : 1048576 < (ep : Int) ∨ (ep : Int) < 1 := by omega
    clear e k2'
    go_enter Try.func38, Try.ntmps38
    go_wp2_with fail
    go_ret
    exact ⟨rfl, by rw [HWW.out]; exact HB.out⟩
end Go.Proofs.Ytdblplkaobeimaa
namespace Go.Proofs.Ytdblplkaobeimaa
open Go.RowKit Go.Deep Go.Shelf
set_option linter.unusedVariables false
set_option linter.unusedSimpArgs false

set_option maxHeartbeats 2000000 in
theorem equalInts_any (w : World) (a b : Option Addr) (A B : List Int) (c d n m B0 : Nat) (hn : A.length = n) (hm : B.length = m) (ha : Ro w B0 a (i64s A)) (hb : Ro w B0 b (i64s B)) (hl : n ≤ 9223372036854775807) (hl2 : m ≤ 9223372036854775807) :
    Calls Try.prog 71 #[.slice a n c, .slice b m d] w fun e w' => e = .returned (.bool (decide (A = B))) ∧ Qt w w' := by
  have HN := Lib.hid hn
  have HM := Lib.hid hm
  have HA := Lib.hid ha
  have HB := Lib.hid hb
  clear ha hb hn hm
  go_enter Try.func71, Try.ntmps71
  by_cases hnm : n = m
  · subst hnm
    go_wp2_with fail
    go_loopw [13] (fun i wr => ∃ k : Nat, i = .int .i64 k ∧ k ≤ n ∧ Hid (∀ j, j < k → A.getD j 0 = B.getD j 0) ∧ Qt w wr) (fun i _ => n - (intOf i).toNat)
    case atStart => exact ⟨0, rfl, Nat.zero_le _, Lib.hid (by omega), Qt.refl _⟩
    case round =>
      obtain ⟨k, rfl, hk, HT, hq⟩ := hrel
      by_cases hlt : k < n
      · have hkA : k < A.length := by rw [HN.out]; exact hlt
        have hkB : k < B.length := by rw [HM.out]; exact hlt
        obtain ⟨g, off, rfl, hg, hcl⟩ := (HA.out.qt hq).i64 (by omega)
        obtain ⟨g', off', rfl, hg', hcl'⟩ := (HB.out.qt hq).i64 (by omega)
        have h1 := hcl k hkA
        have h4 := hcl' k hkB
        clear hcl hcl'
        obtain ⟨x, hx⟩ : ∃ x, A.getD k 0 = x := ⟨_, rfl⟩
        obtain ⟨y, hy⟩ : ∃ y, B.getD k 0 = y := ⟨_, rfl⟩
        rw [hx] at h1
        rw [hy] at h4
        have HX := Lib.hid hx
        have HY := Lib.hid hy
        have hk0 : (0 : Int) ≤ (k : Int) := by omega
        have hk1 : (k : Int) < (n : Int) := by omega
        have HQ := Lib.hid hq
        clear hq hx hy
        by_cases hxy : x = y
        · have hne : (x != y) = false := by rw [bne_eq_false_iff_eq]; exact hxy
          have HE := Lib.hid hxy
          clear hxy
          go_wp2_with fail
          go_region
          go_wp2_with fail
          go_roundw
          case rel =>
            refine ⟨k + 1, by go_num, by omega, Lib.hid fun j hj => ?_, by first | exact HQ.out | exact HQ.out.trans ⟨1, rfl⟩⟩
            by_cases e : j = k
            · subst e; rw [HX.out, HY.out]; exact HE.out
            · exact HT.out j (by omega)
          case measure => simp [intOf]; omega
        · have hne : (x != y) = true := by rw [bne_iff_ne]; exact hxy
          have HF : Hid (decide (A = B) = false) := Lib.hid (by
            simp only [decide_eq_false_iff_not]
            rintro rfl
            exact hxy (HX.out.symm.trans HY.out))
          clear hxy
          go_wp2_with fail
          go_region
          go_wp2_with fail
          go_ret
          exact ⟨by rw [HF.out]; rfl, by first | exact HQ.out | exact HQ.out.trans ⟨1, rfl⟩⟩
      · obtain rfl : k = n := by omega
        have HF : Hid (decide (A = B) = true) := Lib.hid (by
          simp only [decide_eq_true_eq]
          apply List.ext_getElem (by rw [HN.out, HM.out])
          intro i h1 h2
          have := HT.out i (by rw [HN.out] at h1; exact h1)
          simpa [List.getD, h1, h2] using this)
        go_wp2_with fail
        go_ret
        exact ⟨by rw [HF.out]; rfl, hq⟩
  · have hd0 : ((n : Int) != (m : Int)) = true := by rw [bne_iff_ne]; omega
    have HF := Lib.hid (show decide (A = B) = false by simp only [decide_eq_false_iff_not]; rintro rfl; exact hnm (HN.out.symm.trans HM.out))
    go_wp2_with fail
    go_ret
    exact ⟨by rw [HF.out]; rfl, Qt.refl _⟩

theorem chx_ext {A B : List ChT} (h : A.length = B.length) (he : ∀ j, j < A.length → (ct A j).u = (ct B j).u) : chx A = chx B := by
  apply List.ext_getElem (by simpa using h)
  intro i h1 h2
  have h1' : i < A.length := by simpa using h1
  have h2' : i < B.length := by simpa using h2
  have := he i h1'
  simpa [chx, ct, List.getD, h1', h2'] using this
theorem sgx_ext {A B : List SgT} (h : A.length = B.length) (he : ∀ j, j < A.length → (st A j).x = (st B j).x) : sgx A = sgx B := by
  apply List.ext_getElem (by simpa using h)
  intro i h1 h2
  have h1' : i < A.length := by simpa using h1
  have h2' : i < B.length := by simpa using h2
  have := he i h1'
  simpa [sgx, st, List.getD, h1', h2'] using this

set_option maxHeartbeats 2000000 in
theorem eqChs_any (A B : List ChT) (a b : Option Addr) (c d B0 : Nat) (w : World) (ha : Ro w B0 a (chv A)) (hb : Ro w B0 b (chv B)) (hia : ChIn w B0 A) (hib : ChIn w B0 B) (hfa : ChFit A) (hfb : ChFit B) (hB : B0 ≤ w.heap.size) :
    Calls Try.prog 70 #[.slice a A.length c, .slice b B.length d, .func (.func 71) #[] #[]] w fun e w' => e = .returned (.bool (decide (chx A = chx B))) ∧ Below w.heap.size w w' := by
  have eg : ∀ args w, (callFunc 71 args).run Try.prog w = .ok (.enter 71 args) w := enters_of Try.func71 (by kernel_rfl) rfl
  have HA := Lib.hid (And.intro ha hia)
  have HBb := Lib.hid (And.intro hb hib)
  have HFA := Lib.hid hfa.2
  have HFB := Lib.hid hfb.2
  have hl1 := hfa.1
  have HS := Lib.hid hB
  obtain ⟨n, hn⟩ : ∃ n, A.length = n := ⟨_, rfl⟩
  obtain ⟨m, hm⟩ : ∃ m, B.length = m := ⟨_, rfl⟩
  have hl2 := hfb.1
  rw [hn] at hl1 ⊢
  rw [hm] at hl2 ⊢
  have HN := Lib.hid hn
  have HM := Lib.hid hm
  obtain ⟨t, HT⟩ : ∃ t, Hid (decide (chx A = chx B) = t) := ⟨_, Lib.hid rfl⟩
  rw [HT.out]
  clear ha hb hia hib hfa hfb hB hn hm
  go_enter Try.func70, Try.ntmps70
  by_cases hnm : n = m
  · subst hnm
    go_wp2_with fail
    go_loopw [17] (fun i wr => ∃ k : Nat, i = .int .i64 k ∧ k ≤ n ∧ Hid (∀ j, j < k → (ct A j).u = (ct B j).u) ∧ Hid (Below w.heap.size w wr)) (fun i _ => n - (intOf i).toNat)
    case atStart => exact ⟨0, rfl, Nat.zero_le _, Lib.hid (by omega), Lib.hid (Below.refl _ _)⟩
    case round =>
      obtain ⟨k, rfl, hk, HE, HBk⟩ := hrel
      rename World => w6
      by_cases hlt : k < n
      · have hkA : k < A.length := by rw [HN.out]; exact hlt
        have hkB : k < B.length := by rw [HM.out]; exact hlt
        obtain ⟨g, off, rfl, hg, hcl⟩ := (HA.out.1.below HBk.out HS.out).ch (show 0 < A.length by omega)
        obtain ⟨g', off', rfl, hg', hcl'⟩ := (HBb.out.1.below HBk.out HS.out).ch (show 0 < B.length by omega)
        have h1 := hcl k hkA
        have h4 := hcl' k hkB
        have HCA := Lib.hid ((HA.out.2 _ (ct_mem hkA)).below HBk.out HS.out)
        have HCB := Lib.hid ((HBb.out.2 _ (ct_mem hkB)).below HBk.out HS.out)
        have HQA := Lib.hid (HFA.out _ (ct_mem hkA))
        have HQB := Lib.hid (HFB.out _ (ct_mem hkB))
        clear hcl hcl'
        obtain ⟨x, hx⟩ : ∃ x, ct A k = x := ⟨_, rfl⟩
        obtain ⟨y, hy⟩ : ∃ y, ct B k = y := ⟨_, rfl⟩
        rw [hx] at h1 HCA HQA
        rw [hy] at h4 HCB HQB
        have HX := Lib.hid hx
        have HY := Lib.hid hy
        obtain ⟨xa, xc, xu⟩ := x
        obtain ⟨ya, yc, yu⟩ := y
        simp only at h1 h4 HCA HCB HQA HQB
        have hk0 : (0 : Int) ≤ (k : Int) := by omega
        have hk1 : (k : Int) < (n : Int) := by omega
        have HEQ : Hid (∀ W, Qt w6 W → Calls Try.prog 71 #[.slice xa xu.length xc, .slice ya yu.length yc] W fun e w' => e = .returned (.bool (decide (xu = yu))) ∧ Qt W w') := Lib.hid fun W hW => equalInts_any W xa ya xu yu xc yc _ _ B0 rfl rfl (HCA.out.qt hW) (HCB.out.qt hW) HQA.out HQB.out
        obtain ⟨r, hr⟩ : ∃ r, decide (xu = yu) = r := ⟨_, rfl⟩
        rw [hr] at HEQ
        have HR := Lib.hid hr
        clear hx hy hr
        generalize xu.length = xn at *
        generalize yu.length = yn at *
        go_wp2_with fail
        refine (HEQ.out _ (Qt.refl _)).mono ?_
        rintro e w7 ⟨rfl, hq⟩
        have HB7 : Hid (Below w.heap.size w w7) := Lib.hid (hq.below HBk.out)
        clear hq
        cases r with
        | true =>
          go_wp2_with fail
          go_roundw
          case rel =>
            refine ⟨k + 1, by go_num, by omega, Lib.hid fun j hj => ?_, HB7⟩
            by_cases e : j = k
            · subst e; rw [HX.out, HY.out]; simpa using HR.out
            · exact HE.out j (by omega)
          case measure => simp [intOf]; omega
        | false =>
          obtain rfl : t = false := by
            rw [← HT.out]
            simp only [decide_eq_false_iff_not]
            intro h
            have := congrArg (fun l => cx l k) h
            simp only [cx_chx, HX.out, HY.out] at this
            have h2 := HR.out
            simp only [decide_eq_false_iff_not] at h2
            exact h2 this
          go_wp2_with fail
          go_ret
          exact ⟨rfl, HB7.out⟩
      · obtain rfl : k = n := by omega
        obtain rfl : t = true := by
          rw [← HT.out]
          simp only [decide_eq_true_eq]
          exact chx_ext (by rw [HN.out, HM.out]) (by rw [HN.out]; exact HE.out)
        go_wp2_with fail
        go_ret
        exact ⟨rfl, HBk.out⟩
  · have hd0 : ((n : Int) != (m : Int)) = true := by rw [bne_iff_ne]; omega
    obtain rfl : t = false := by
      rw [← HT.out]
      simp only [decide_eq_false_iff_not]
      intro h
      have := congrArg List.length h
      simp only [chx_length, HN.out, HM.out] at this
      exact hnm this
    go_wp2_with fail
    go_ret
    exact ⟨rfl, Below.refl _ _⟩
set_option maxHeartbeats 2000000 in
theorem sameSeg_any (A B : SgT) (B0 : Nat) (w : World) (ha : Ro w B0 A.a (chv A.ch)) (hb : Ro w B0 B.a (chv B.ch)) (hia : ChIn w B0 A.ch) (hib : ChIn w B0 B.ch) (hfa : ChFit A.ch) (hfb : ChFit B.ch) (hB : B0 ≤ w.heap.size) :
    Calls Try.prog 59 #[A.val, B.val] w fun e w' => e = .returned (.bool (decide (A.x = B.x))) ∧ Below w.heap.size w w' := by
  obtain ⟨f, a, c, L⟩ := A
  obtain ⟨f', a', c', L'⟩ := B
  simp only [SgT.val] at *
  obtain ⟨W, HWW⟩ : ∃ W, Hid ((w.alloc (.cells #[.int .u64 (f : Int), .slice a L.length c] 91)).alloc (.cells #[.int .u64 (f' : Int), .slice a' L'.length c'] 91) = W) := ⟨_, Lib.hid rfl⟩
  have hWc : Chg [] w W := by rw [← HWW.out]; exact ((Chg.refl [] w).alloc _).alloc _
  have hWb : Below w.heap.size w W := hWc.low
  have o1 : Own W w.heap.size 91 [.int .u64 (f : Int), .slice a L.length c] := by rw [← HWW.out]; exact (Own.new w _ _).alloc _
  have o2 : Own W (w.heap.size + 1) 91 [.int .u64 (f' : Int), .slice a' L'.length c'] := by
    rw [← HWW.out]
    have := Own.new (w.alloc (.cells #[.int .u64 (f : Int), .slice a L.length c] 91)) 91 [.int .u64 (f' : Int), .slice a' L'.length c']
    simpa using this
  have HE := Lib.hid (eqChs_any L L' a a' c c' B0 W (ha.below hWb hB) (hb.below hWb hB) (hia.below hWb hB) (hib.below hWb hB) hfa hfb (Nat.le_trans hB hWb.size))
  obtain ⟨r, hr⟩ : ∃ r, decide (chx L = chx L') = r := ⟨_, rfl⟩
  rw [hr] at HE
  have HX : Hid (decide (SgT.x ⟨f, a, c, L⟩ = SgT.x ⟨f', a', c', L'⟩) = (decide (f = f') && r)) := Lib.hid (by
    rw [← hr]
    simp only [SgT.x, Prod.mk.injEq, Bool.decide_and])
  rw [HX.out]
  have HB := Lib.hid hWb
  have c0 := o1.cell 0
  have c1 := o1.cell 1
  have d0 := o2.cell 0
  have d1 := o2.cell 1
  simp at c0 c1 d0 d1
  generalize L.length = n at *
  generalize L'.length = n' at *
  clear hWc hWb o1 o2 hr ha hb hia hib hfa hfb hB
  by_cases e : f = f'
  · subst e
    have e0 : decide (f = f) = true := by simp
    rw [e0, Bool.true_and]
    clear e0
    go_enter Try.func59, Try.ntmps59
    go_upto_region 1 with fail
    rw [HWW.out]
    go_wp2_with fail
    refine HE.out.mono ?_
    rintro e w1 ⟨rfl, hb⟩
    have HB1 := Lib.hid (HB.out.trans (hb.mono HB.out.size))
    clear hb
    go_wp2_with fail
    go_ret
    exact ⟨rfl, HB1.out⟩
  · have e0 : decide (f = f') = false := by simpa using e
    have e1 : ((f : Int) == (f' : Int)) = false := by rw [beq_eq_false_iff_ne]; omega
    rw [e0, Bool.false_and]
    clear e0 e
    go_enter Try.func59, Try.ntmps59
    go_upto_region 1 with fail
    rw [HWW.out]
    go_wp2_with fail
    go_ret
    exact ⟨rfl, HB.out⟩

set_option maxHeartbeats 2000000 in
theorem eqSgs_any (A B : List SgT) (a b : Option Addr) (c d B0 : Nat) (w : World) (ha : Ro w B0 a (sgv A)) (hb : Ro w B0 b (sgv B)) (hia : SgIn w B0 A) (hib : SgIn w B0 B) (hfa : SgFit A) (hfb : SgFit B) (hB : B0 ≤ w.heap.size) :
    Calls Try.prog 58 #[.slice a A.length c, .slice b B.length d, .func (.func 59) #[] #[]] w fun e w' => e = .returned (.bool (decide (sgx A = sgx B))) ∧ Below w.heap.size w w' := by
  have eg : ∀ args w, (callFunc 59 args).run Try.prog w = .ok (.enter 59 args) w := enters_of Try.func59 (by kernel_rfl) rfl
  have HA := Lib.hid (And.intro ha hia)
  have HBb := Lib.hid (And.intro hb hib)
  have HFA := Lib.hid hfa.2
  have HFB := Lib.hid hfb.2
  have hl1 := hfa.1
  have HS := Lib.hid hB
  obtain ⟨n, hn⟩ : ∃ n, A.length = n := ⟨_, rfl⟩
  obtain ⟨m, hm⟩ : ∃ m, B.length = m := ⟨_, rfl⟩
  have hl2 := hfb.1
  rw [hn] at hl1 ⊢
  rw [hm] at hl2 ⊢
  have HN := Lib.hid hn
  have HM := Lib.hid hm
  obtain ⟨t, HT⟩ : ∃ t, Hid (decide (sgx A = sgx B) = t) := ⟨_, Lib.hid rfl⟩
  rw [HT.out]
  clear ha hb hia hib hfa hfb hB hn hm
  go_enter Try.func58, Try.ntmps58
  by_cases hnm : n = m
  · subst hnm
    go_wp2_with fail
    go_loopw [17] (fun i wr => ∃ k : Nat, i = .int .i64 k ∧ k ≤ n ∧ Hid (∀ j, j < k → (st A j).x = (st B j).x) ∧ Hid (Below w.heap.size w wr)) (fun i _ => n - (intOf i).toNat)
    case atStart => exact ⟨0, rfl, Nat.zero_le _, Lib.hid (by omega), Lib.hid (Below.refl _ _)⟩
    case round =>
      obtain ⟨k, rfl, hk, HE, HBk⟩ := hrel
      rename World => w6
      by_cases hlt : k < n
      · have hkA : k < A.length := by rw [HN.out]; exact hlt
        have hkB : k < B.length := by rw [HM.out]; exact hlt
        obtain ⟨g, off, rfl, hg, hcl⟩ := (HA.out.1.below HBk.out HS.out).sg (show 0 < A.length by omega)
        obtain ⟨g', off', rfl, hg', hcl'⟩ := (HBb.out.1.below HBk.out HS.out).sg (show 0 < B.length by omega)
        obtain ⟨h1, h2⟩ := hcl k hkA
        obtain ⟨h4, h5⟩ := hcl' k hkB
        have HCA := Lib.hid (HA.out.2 _ (st_mem hkA))
        have HCB := Lib.hid (HBb.out.2 _ (st_mem hkB))
        have HQA := Lib.hid (HFA.out _ (st_mem hkA))
        have HQB := Lib.hid (HFB.out _ (st_mem hkB))
        clear hcl hcl'
        obtain ⟨x, hx⟩ : ∃ x, st A k = x := ⟨_, rfl⟩
        obtain ⟨y, hy⟩ : ∃ y, st B k = y := ⟨_, rfl⟩
        rw [hx] at h1 h2 HCA HQA
        rw [hy] at h4 h5 HCB HQB
        have HX := Lib.hid hx
        have HY := Lib.hid hy
        have HEQ : Hid (∀ W, Below w.heap.size w W → Calls Try.prog 59 #[x.val, y.val] W fun e w' => e = .returned (.bool (decide (x.x = y.x))) ∧ Below W.heap.size W w') := Lib.hid fun W hW => sameSeg_any x y B0 W (HCA.out.1.below hW HS.out) (HCB.out.1.below hW HS.out) (HCA.out.2.below hW HS.out) (HCB.out.2.below hW HS.out) HQA.out HQB.out (Nat.le_trans HS.out hW.size)
        obtain ⟨r, hr⟩ : ∃ r, decide (x.x = y.x) = r := ⟨_, rfl⟩
        rw [hr] at HEQ
        have HR := Lib.hid hr
        obtain ⟨xf, xa, xc, xu⟩ := x
        obtain ⟨yf, ya, yc, yu⟩ := y
        simp only [SgT.val] at h1 h2 h4 h5 HEQ
        have hk0 : (0 : Int) ≤ (k : Int) := by omega
        have hk1 : (k : Int) < (n : Int) := by omega
        clear hx hy hr
        generalize xu.length = xn at *
        generalize yu.length = yn at *
        have HK2 : Hid (w.heap.size ≤ w6.heap.size) := Lib.hid HBk.out.size
        have hgz := hg
        have hgz' : g' < w6.heap.size := by have := HS.out; have := HK2.out; omega
        have hgz2 : g < w6.heap.size := by have := HS.out; have := HK2.out; omega
        have h4' : (w6.alloc (.cells #[.int .u64 (xf : Int), .slice xa xn xc] 91)).cell? ⟨g', off' + k * 2, none⟩ = some (.int .u64 (yf : Int)) := (((Chg.refl [] w6).alloc _).cell h4 (by simp))
        have h5' : (w6.alloc (.cells #[.int .u64 (xf : Int), .slice xa xn xc] 91)).cell? ⟨g', off' + k * 2 + 1, none⟩ = some (.slice ya yn yc) := (((Chg.refl [] w6).alloc _).cell h5 (by simp))
        go_wp2_with fail
        refine (HEQ.out _ ((HBk.out.alloc HBk.out.size _).alloc (by have := HK2.out; simp; omega) _)).mono ?_
        rintro e w7 ⟨rfl, hq⟩
        have HB7 : Hid (Below w.heap.size w w7) := Lib.hid (((HBk.out.alloc HBk.out.size _).alloc (by have := HK2.out; simp; omega) _).trans (hq.mono (by have := HK2.out; simp; omega)))
        clear hq h4' h5'
        cases r with
        | true =>
          go_wp2_with fail
          go_roundw
          case rel =>
            refine ⟨k + 1, by go_num, by omega, Lib.hid fun j hj => ?_, HB7⟩
            by_cases e : j = k
            · subst e; rw [HX.out, HY.out]; simpa using HR.out
            · exact HE.out j (by omega)
          case measure => simp [intOf]; omega
        | false =>
          obtain rfl : t = false := by
            rw [← HT.out]
            simp only [decide_eq_false_iff_not]
            intro h
            have := congrArg (fun l => sx l k) h
            simp only [sx_sgx, HX.out, HY.out] at this
            have h2 := HR.out
            simp only [decide_eq_false_iff_not] at h2
            exact h2 this
          go_wp2_with fail
          go_ret
          exact ⟨rfl, HB7.out⟩
      · obtain rfl : k = n := by omega
        obtain rfl : t = true := by
          rw [← HT.out]
          simp only [decide_eq_true_eq]
          exact sgx_ext (by rw [HN.out, HM.out]) (by rw [HN.out]; exact HE.out)
        go_wp2_with fail
        go_ret
        exact ⟨rfl, HBk.out⟩
  · have hd0 : ((n : Int) != (m : Int)) = true := by rw [bne_iff_ne]; omega
    obtain rfl : t = false := by
      rw [← HT.out]
      simp only [decide_eq_false_iff_not]
      intro h
      have := congrArg List.length h
      simp only [sgx_length, HN.out, HM.out] at this
      exact hnm this
    go_wp2_with fail
    go_ret
    exact ⟨rfl, Below.refl _ _⟩

set_option maxHeartbeats 2000000 in
theorem lsame_any (A B : LyT) (B0 : Nat) (w : World) (ha : LyIn w B0 A) (hb : LyIn w B0 B) (hfa : SgFit A.sg) (hfb : SgFit B.sg) (hB : B0 ≤ w.heap.size) :
    Calls Try.prog 39 #[A.val, B.val] w fun e w' => e = .returned (.bool (lalike A.x B.x)) ∧ Below w.heap.size w w' := by
  obtain ⟨f, a, c, L, q⟩ := A
  obtain ⟨f', a', c', L', q'⟩ := B
  simp only [LyT.val] at *
  obtain ⟨W, HWW⟩ : ∃ W, Hid ((w.alloc (.cells #[.int .u64 (f : Int), .slice a L.length c, .int .i64 q] 38)).alloc (.cells #[.int .u64 (f' : Int), .slice a' L'.length c', .int .i64 q'] 38) = W) := ⟨_, Lib.hid rfl⟩
  have hWc : Chg [] w W := by rw [← HWW.out]; exact ((Chg.refl [] w).alloc _).alloc _
  have hWb : Below w.heap.size w W := hWc.low
  have o1 : Own W w.heap.size 38 [.int .u64 (f : Int), .slice a L.length c, .int .i64 q] := by rw [← HWW.out]; exact (Own.new w _ _).alloc _
  have o2 : Own W (w.heap.size + 1) 38 [.int .u64 (f' : Int), .slice a' L'.length c', .int .i64 q'] := by
    rw [← HWW.out]
    have := Own.new (w.alloc (.cells #[.int .u64 (f : Int), .slice a L.length c, .int .i64 q] 38)) 38 [.int .u64 (f' : Int), .slice a' L'.length c', .int .i64 q']
    simpa using this
  have HE := Lib.hid (eqSgs_any L L' a a' c c' B0 W (ha.1.below hWb hB) (hb.1.below hWb hB) (ha.2.below hWb hB) (hb.2.below hWb hB) hfa hfb (Nat.le_trans hB hWb.size))
  obtain ⟨r, hr⟩ : ∃ r, decide (sgx L = sgx L') = r := ⟨_, rfl⟩
  rw [hr] at HE
  have HX : Hid (lalike (LyT.x ⟨f, a, c, L, q⟩) (LyT.x ⟨f', a', c', L', q'⟩) = (decide (f = f') && (decide (q = q') && r))) := Lib.hid (by
    rw [← hr]
    rfl)
  rw [HX.out]
  have HB := Lib.hid hWb
  have c0 := o1.cell 0
  have c1 := o1.cell 1
  have c2 := o1.cell 2
  have d0 := o2.cell 0
  have d1 := o2.cell 1
  have d2 := o2.cell 2
  simp at c0 c1 c2 d0 d1 d2
  generalize L.length = n at *
  generalize L'.length = n' at *
  clear hWc hWb o1 o2 hr ha hb hfa hfb hB
  by_cases e : f = f'
  · subst e
    have e0 : decide (f = f) = true := by simp
    rw [e0, Bool.true_and]
    clear e0
    by_cases e : q = q'
    · subst e
      have e0 : decide (q = q) = true := by simp
      rw [e0, Bool.true_and]
      clear e0
      go_enter Try.func39, Try.ntmps39
      go_upto_region 1 with fail
      rw [HWW.out]
      go_wp2_with fail
      refine HE.out.mono ?_
      rintro e w1 ⟨rfl, hb⟩
      have HB1 := Lib.hid (HB.out.trans (hb.mono HB.out.size))
      clear hb
      go_wp2_with fail
      go_ret
      exact ⟨rfl, HB1.out⟩
    · have e0 : decide (q = q') = false := by simpa using e
      have e1 : (q == q') = false := by rw [beq_eq_false_iff_ne]; exact e
      rw [e0, Bool.false_and]
      clear e0 e
      go_enter Try.func39, Try.ntmps39
      go_upto_region 1 with fail
      rw [HWW.out]
      go_wp2_with fail
      go_ret
      exact ⟨rfl, HB.out⟩
  · have e0 : decide (f = f') = false := by simpa using e
    have e1 : ((f : Int) == (f' : Int)) = false := by rw [beq_eq_false_iff_ne]; omega
    rw [e0, Bool.false_and]
    clear e0 e
    go_enter Try.func39, Try.ntmps39
    go_upto_region 1 with fail
    rw [HWW.out]
    go_wp2_with fail
    go_ret
    exact ⟨rfl, HB.out⟩
end Go.Proofs.Ytdblplkaobeimaa
