/-
  Contracts of package tape's small functions: number, putNumber, isRecord, frameSize. No claim of their own.
-/
import Derived.Test.YtdiemejdbakffaaAppK
import Derived.Lib.SmallJoins
namespace Go.Proofs.Ytdiemejdbakffaa
open Go.RowKit
set_option linter.unusedVariables false
set_option linter.unusedSimpArgs false

theorem num_step (m x : Nat) (hm : m < 16777216) (hx : x < 256) : bits BinOp.or IntKind.u32 ((m : Int) * 256) (x : Int) = ((m * 256 + x : Nat) : Int) := by
  rw [show ((m : Int) * 256) = ((m * 256 : Nat) : Int) from by omega, u32_or_nat _ _ (by omega) (by omega), nat_join 8 _ _ (by omega) (by omega)]
theorem nb_step (bs : List UInt8) (k : Nat) (hk : k < bs.length) : nb (bs.take (k + 1)) = nb (bs.take k) * 256 + (bs.getD k 0).toNat := by
  rw [take_snoc bs k hk, nb_snoc]
  simp [List.getD, hk]
theorem number_any (w : World) (a : Option Addr) (bs : List UInt8) (c B : Nat) (hro : Ro w B a (u8s bs)) (hl : bs.length ≤ 4) :
    Calls Try.prog 48 #[.slice a bs.length c] w fun e w' => e = .returned (.int .u32 ((nb bs : Nat) : Int)) ∧ w = w' := by
  obtain ⟨n, HN⟩ : ∃ n, Hid (bs.length = n) := ⟨_, Lib.hid rfl⟩
  rw [HN.out] at hl ⊢
  have HR := Lib.hid hro
  clear hro
  go_enter Try.func48, Try.ntmps48
  go_wp2
  go_loop [3, 8] (fun v i => ∃ k : Nat, k ≤ n ∧ i = .int .i64 k ∧ v = .int .u32 ((nb (bs.take k) : Nat) : Int)) (fun _ i => n - (intOf i).toNat)
  case atStart => exact ⟨0, Nat.zero_le _, rfl, rfl⟩
  case round =>
    obtain ⟨k, hk, rfl, rfl⟩ := hrel
    by_cases hlt : k < n
    · obtain ⟨b, off, rfl, hb, hc⟩ := HR.out.u8 (by rw [HN.out]; omega)
      have hcell := hc k (by rw [HN.out]; omega)
      have hd : decide (k < n) = true := by simpa using hlt
      have hk1 : (k : Int) < (n : Int) := by omega
      obtain ⟨m, HM⟩ : ∃ m, Hid (nb (bs.take k) = m) := ⟨_, Lib.hid rfl⟩
      obtain ⟨x, HX⟩ : ∃ x, Hid ((bs.getD k 0).toNat = x) := ⟨_, Lib.hid rfl⟩
      rw [HM.out]
      rw [HX.out] at hcell
      clear hc
      have hm4 : m < 16777216 := by
        rw [← HM.out]
        have h1 := nb_lt k (bs.take k) (by rw [List.length_take, HN.out]; omega)
        have h2 : (256 : Nat) ^ k ≤ 256 ^ 3 := Nat.pow_le_pow_right (by omega) (by omega)
        have h3 : (256 : Nat) ^ 3 = 16777216 := by decide
        omega
      have hx8 : x < 256 := by rw [← HX.out]; exact UInt8.toNat_lt _
      have HE := Lib.hid (show bits BinOp.or IntKind.u32 ((m : Int) * 256) (x : Int) = ((nb (bs.take (k + 1)) : Nat) : Int) by rw [num_step m x hm4 hx8, nb_step bs k (by rw [HN.out]; exact hlt), HM.out, HX.out])
      go_wp2
      go_round
      case rel => exact ⟨k + 1, by omega, by go_num, by rw [HE.out]⟩
      case measure => simp [intOf]; omega
    · have hkn : k = n := by omega
      have HK := Lib.hid (show bs.take k = bs by rw [hkn, ← HN.out, List.take_length])
      have hd : decide (k < n) = false := by simpa using hlt
      clear hkn
      rw [HK.out]
      go_wp2
      go_ret
      exact ⟨rfl, rfl⟩
theorem isRecord_any (w : World) (a : Option Addr) (n c : Nat) :
    Calls Try.prog 33 #[.slice a n c] w fun e w' => e = .returned (.bool (decide (1 ≤ n ∧ n ≤ 300))) ∧ w = w' := by
  by_cases h1 : 1 ≤ n
  · by_cases h2 : n ≤ 300
    · rw [decide_eq_true (show 1 ≤ n ∧ n ≤ 300 from ⟨h1, h2⟩)]
      have e1 : decide ((1 : Int) ≤ (n : Int)) = true := by simp; omega
      have e2 : decide ((n : Int) ≤ 300) = true := by simp; omega
      go_enter Try.func33, Try.ntmps33
      go_wp2
      go_ret
      exact ⟨rfl, rfl⟩
    · rw [decide_eq_false (show ¬ (1 ≤ n ∧ n ≤ 300) from fun h => h2 h.2)]
      have e1 : decide ((1 : Int) ≤ (n : Int)) = true := by simp; omega
      have e2 : decide ((n : Int) ≤ 300) = false := by simp; omega
      go_enter Try.func33, Try.ntmps33
      go_wp2
      go_ret
      exact ⟨rfl, rfl⟩
  · rw [decide_eq_false (show ¬ (1 ≤ n ∧ n ≤ 300) from fun h => h1 h.1)]
    have e1 : decide ((1 : Int) ≤ (n : Int)) = false := by simp; omega
    go_enter Try.func33, Try.ntmps33
    go_wp2
    go_ret
    exact ⟨rfl, rfl⟩
theorem frameSize_any (w : World) (a : Option Addr) (n c : Nat) (hn : n ≤ 140737488355328) :
    Calls Try.prog 36 #[.slice a n c] w fun e w' => e = .returned (.int .i64 ((2 + n : Nat) : Int)) ∧ w = w' := by
  go_enter Try.func36, Try.ntmps36
  go_wp2
  go_ret
  exact ⟨ret_int (by omega), rfl⟩
/-- a content's parts as a value -/
abbrev cv (h : Nat) (vF vE : Value) : Value := .agg #[.int .i64 (h : Int), vF, vE]
theorem records_any (w : World) (h : Nat) (vF : Value) (a : Option Addr) (n c : Nat) :
    Calls Try.prog 42 #[cv h vF (.slice a n c)] w fun e w' => e = .returned (.int .i64 (n : Int)) ∧ Chg [] w w' := by
  go_enter Try.func42, Try.ntmps42
  go_wp2
  go_ret
  exact ⟨rfl, (Chg.refl [] w).alloc _⟩
end Go.Proofs.Ytdiemejdbakffaa
