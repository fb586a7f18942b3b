/-
  Contracts of the law package's fits. No claim of their own.
-/
import Derived.Test.YtdiemejdbakffaaOp6
namespace Go.Proofs.Ytdiemejdbakffaa
open Go.RowKit Go.Deep Go.Shelf
set_option linter.unusedVariables false
set_option linter.unusedSimpArgs false

def fitsL (xs : List SB) : Prop := xs.length ≤ 20 ∧ ∀ x ∈ xs, x.bs.length ≤ 400
instance (xs : List SB) : Decidable (fitsL xs) := by unfold fitsL; infer_instance
/-- an act, by value -/
abbrev actV (kd i : Int) (ab : Option Addr) (lb cb : Nat) (al : Option Addr) (ll cl : Nat) (ak : Option Addr) (lk ck : Nat) : Value := .agg #[.int .i64 kd, .int .i64 i, .slice ab lb cb, .slice al ll cl, .slice ak lk ck]
theorem RoM.at_ {w : World} {a : Option Addr} {xs : List SB} (h : RoM w a xs) {k : Nat} (hk : k < xs.length) : ∃ b off, a = some ⟨b, off, none⟩ ∧ b < w.heap.size ∧ ∀ i (hi : i < xs.length), w.cell? ⟨b, off + i, none⟩ = some (xs[i]).val := by
  obtain ⟨b, off, h1, h2, h3⟩ := h.row.at_ (by intro e; have := congrArg List.length e; simp only [List.length_map, List.length_nil] at this; omega)
  refine ⟨b, off, h1, h2, fun i hi => ?_⟩
  rw [h3 i (by simpa using hi)]
  simp [List.getD, hi]
set_option maxRecDepth 100000 in
theorem fits_any (w : World) (kd i : Int) (ab : Option Addr) (lb cb : Nat) (al : Option Addr) (xs : List SB) (cl : Nat) (ak : Option Addr) (lk ck : Nat) (h : RoM w al xs) :
    Calls Try.prog 14 #[actV kd i ab lb cb al xs.length cl ak lk ck] w fun e w' => e = .returned (.bool (decide (fitsL xs ∧ lb ≤ 400))) ∧ Chg [] w w' := by
  obtain ⟨n, HN⟩ : ∃ n, Hid (xs.length = n) := ⟨_, Lib.hid rfl⟩
  have hl := h.len
  obtain ⟨T, HT0⟩ : ∃ T, Hid (decide (fitsL xs ∧ lb ≤ 400) = T) := ⟨_, Lib.hid rfl⟩
  rw [HN.out] at hl ⊢
  rw [HT0.out]
  have HR := Lib.hid h
  clear h
  go_enter Try.func14, Try.ntmps14
  go_wp2
  go_loop [3] (fun i => ∃ k : Nat, k ≤ n ∧ k ≤ 20 ∧ i = .int .i64 k ∧ Hid (∀ x ∈ xs.take k, x.bs.length ≤ 400)) (fun i => n - (intOf i).toNat)
  case atStart => exact ⟨0, Nat.zero_le _, by omega, rfl, Lib.hid (by simp)⟩
  case round =>
    obtain ⟨k, hk, hk20, rfl, HP⟩ := hrel
    by_cases hlt : k < n
    · have hkx : k < xs.length := by rw [HN.out]; exact hlt
      obtain ⟨b, off, rfl, hb, hc⟩ := HR.out.at_ hkx
      have hcell := hc k hkx
      unfold SB.val at hcell
      have hd : decide (k < n) = true := by simpa using hlt
      have hk1 : (k : Int) < (n : Int) := by omega
      have HX := Lib.hid (show xs[k] ∈ xs from List.getElem_mem hkx)
      have HT := Lib.hid (show xs.take (k + 1) = xs.take k ++ [xs[k]] from take_snoc xs k hkx)
      generalize xs[k] = x at *
      by_cases h20 : k = 20
      · have hn : ¬ (fitsL xs ∧ lb ≤ 400) := fun h => by have := h.1.1; have := HN.out; omega
        have hd2 : decide (k = 20) = true := by simpa using h20
        have HNN := Lib.hid (decide_eq_false hn)
        subst h20
        clear hc hn
        go_wp2
        go_ret
        exact ⟨by rw [← HT0.out, HNN.out]; rfl, (Chg.refl [] w).alloc _⟩
      · have h20' : ¬ ((k : Int) = 20) := by omega
        have hd2 : decide (k = 20) = false := by simpa using h20
        by_cases h4 : 400 < x.bs.length
        · have hn : ¬ (fitsL xs ∧ lb ≤ 400) := fun h => by have := h.1.2 x HX.out; omega
          have HNN := Lib.hid (decide_eq_false hn)
          clear hn
          have hd3 : decide (400 < x.bs.length) = true := by simpa using h4
          have h4' : (400 : Int) < (x.bs.length : Int) := by omega
          clear hc
          go_wp2
          go_ret
          exact ⟨by rw [← HT0.out, HNN.out]; rfl, (Chg.refl [] w).alloc _⟩
        · have hd3 : decide (400 < x.bs.length) = false := by simpa using h4
          have h4' : ¬ ((400 : Int) < (x.bs.length : Int)) := by omega
          have HS := Lib.hid (show x.bs.length ≤ 400 by omega)
          clear hc
          go_wp2
          go_round
          case rel => exact ⟨k + 1, by omega, by omega, by go_num, Lib.hid (by
            rw [HT.out]
            intro y hy
            rcases List.mem_append.1 hy with hy | hy
            · exact HP.out y hy
            · simp at hy; subst hy; exact HS.out)⟩
          case measure => simp [intOf]; omega
    · have hkn : k = n := by omega
      have hf : fitsL xs := ⟨by have := HN.out; omega, by
        have h2 := HP.out
        rw [hkn, ← HN.out, List.take_length] at h2
        exact h2⟩
      have hd : decide (k < n) = false := by simpa using hlt
      have HNN := Lib.hid (show decide (fitsL xs ∧ lb ≤ 400) = decide (lb ≤ 400) from by simp [hf])
      clear hkn hf
      go_wp2
      go_ret
      exact ⟨ret_bool (by rw [← HT0.out, HNN.out]; simp; try omega), (Chg.refl [] w).alloc _⟩
end Go.Proofs.Ytdiemejdbakffaa
