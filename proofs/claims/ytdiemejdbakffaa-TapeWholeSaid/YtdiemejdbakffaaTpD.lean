/-
  Contracts of package tape: firstRecord. No claim of their own.
-/
import Derived.Test.YtdiemejdbakffaaTpC
namespace Go.Proofs.Ytdiemejdbakffaa
open Go.RowKit
set_option linter.unusedVariables false
set_option linter.unusedSimpArgs false

theorem number2_any (w : World) (a : Option Addr) (bs : List UInt8) (c B : Nat) (hro : Ro w B a (u8s bs)) (hl : 2 ≤ bs.length) (m : Nat) (hm : nb (bs.take 2) = m) :
    Calls Try.prog 48 #[.slice a 2 c] w fun e w' => e = .returned (.int .u32 (m : Int)) ∧ w = w' := by
  have e : (bs.take 2).length = 2 := by rw [List.length_take]; omega
  have h := number_any w a (bs.take 2) c B (by have := hro.take 2; simpa [u8s, List.map_take] using this) (by omega)
  rw [e, hm] at h
  exact h
instance (bs : List UInt8) : Decidable (begs bs) := decidable_of_iff _ (begs_iff bs).symm
/-- in a region that reads alone: a callee that leaves the world as it is -/
theorem quiet1 {P : Program} {f : FuncId} {args : Array Value} {w : World} {n : Nat} {v : Value} (h : Calls P f args (w.drewN n) fun e w' => e = .returned v ∧ w.drewN n = w') : Calls P f args (w.drewN n) fun e w'' => e = .returned v ∧ ∃ m, w'' = w.drewN m :=
  h.mono fun _ _ h => ⟨h.1, n, h.2.symm⟩
theorem quiet2 {P : Program} {f : FuncId} {args : Array Value} {w : World} {a n : Nat} {v : Value} (h : Calls P f args (w.drewN (a + n)) fun e w' => e = .returned v ∧ w.drewN (a + n) = w') : Calls P f args (w.drewN (a + n)) fun e w'' => e = .returned v ∧ ∃ m, w'' = w.drewN (a + m) :=
  h.mono fun _ _ h => ⟨h.1, n, h.2.symm⟩
/-- what firstRecord tells -/
def FirstT (bs : List UInt8) (w : World) (e : Ending) (w' : World) : Prop :=
  ∃ a' n' c' t, e = .returned (.tuple #[.slice a' n' c', .bool t]) ∧ Hid (t = decide (begs bs)) ∧ Hid (t = true → n' = nb (bs.take 2)) ∧ Qt w w'
theorem FirstT.no {bs : List UInt8} {w w' : World} {e : Ending} (h : ¬ begs bs) (a' : Option Addr) (n' c' : Nat) (he : e = .returned (.tuple #[.slice a' n' c', .bool false])) (hw : Qt w w') : FirstT bs w e w' :=
  ⟨a', n', c', false, he, Lib.hid (by simp [h]), Lib.hid (by simp), hw⟩
theorem FirstT.yes {bs : List UInt8} {w w' : World} {e : Ending} {m : Nat} (hm : nb (bs.take 2) = m) (hl : 2 ≤ bs.length) (h2 : m ≤ bs.length - 2) (a' : Option Addr) (c' : Nat) (he : e = .returned (.tuple #[.slice a' m c', .bool (decide (1 ≤ m ∧ m ≤ 300))])) (hw : Qt w w') : FirstT bs w e w' :=
  ⟨a', m, c', _, he, Lib.hid (by
    rw [decide_eq_decide, begs_iff, hm]
    exact ⟨fun h => ⟨hl, h2, h.1, h.2⟩, fun h => ⟨h.2.2.1, h.2.2.2⟩⟩), Lib.hid (fun _ => hm.symm), hw⟩
set_option maxHeartbeats 1000000 in
set_option maxRecDepth 100000 in
theorem firstRecord_any (w : World) (a : Option Addr) (bs : List UInt8) (c B : Nat) (hro : Ro w B a (u8s bs)) (hc : bs.length ≤ c) (h63 : c ≤ 9223372036854775807) :
    Calls Try.prog 52 #[.slice a bs.length c] w (FirstT bs w) := by
  obtain ⟨n, HN⟩ : ∃ n, Hid (bs.length = n) := ⟨_, Lib.hid rfl⟩
  rw [HN.out] at hc ⊢
  by_cases h2 : n < 2
  · have HB := Lib.hid (show ¬ begs bs by rw [begs_iff, HN.out]; omega)
    have hd : decide ((n : Int) < 2) = true := by simp; omega
    clear hro
    go_enter Try.func52, Try.ntmps52
    go_wp2
    go_ret2
    exact FirstT.no HB.out _ _ _ rfl (Qt.refl _)
  · obtain ⟨b, off, rfl, hb, _⟩ := hro.u8 (by rw [HN.out]; omega)
    obtain ⟨m, HM⟩ : ∃ m, Hid (nb (bs.take 2) = m) := ⟨_, Lib.hid rfl⟩
    have hm16 : m < 65536 := by rw [← HM.out]; have := nb_lt 2 (bs.take 2) (by rw [List.length_take, HN.out]; omega); simpa using this
    have HC := Lib.hid (fun W (h : Qt w W) => number2_any W _ bs c B (hro.qt h) (by rw [HN.out]; omega) m HM.out)
    have hd : decide ((n : Int) < 2) = false := by simp; omega
    have HR := Lib.hid (show 2 ≤ n by omega)
    have hci : (c = 2) = True ∨ (c = 2) = False := by by_cases h : c = 2 <;> simp [h]
    have hm0 : (0 : Int) ≤ (m : Int) := by omega
    have hn2 : (2 : Int) ≤ (n : Int) := by omega
    have hc2 : (2 : Int) ≤ (c : Int) := by omega
    have hnc : (n : Int) ≤ (c : Int) := by omega
    clear hro h2
    rcases hci with hci | hci
    all_goals
      go_enter Try.func52, Try.ntmps52
      go_wp2_with fail
      go_quiet ((go_at_call 48; exact quiet1 (HC.out _ ⟨_, rfl⟩)))
      by_cases hgt : n - 2 < m
      case' pos =>
        have HNB := Lib.hid (show ¬ begs bs by rw [begs_iff, HN.out, HM.out]; omega)
        have hd2 : decide ((n : Int) - 2 < (m : Int)) = true := by simp; omega
        go_wp2
        go_ret2
        exact FirstT.no HNB.out _ _ _ rfl (Qt.drewN _ _)
      case' neg =>
        have hd2 : decide ((n : Int) - 2 < (m : Int)) = false := by simp; omega
        have hmn : (m : Int) ≤ (n : Int) - 2 := by omega
        go_wp2_with fail
        go_quiet ((go_at_call 33; exact quiet2 (isRecord_any _ _ m _)))
        go_wp2
        go_ret2
        exact FirstT.yes HM.out (by rw [HN.out]; exact HR.out) (by rw [HN.out]; omega) _ _ rfl (((Qt.refl _).add _).add _)
end Go.Proofs.Ytdiemejdbakffaa
