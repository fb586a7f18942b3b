/-
  Contracts of package disk's small functions: clean, check, Len, New. No claim of their own.
-/
import Derived.Test.YtdiemejdbakffaaDk
import Derived.Carry
import Derived.Laws.MakeOwn
namespace Go.Proofs.Ytdiemejdbakffaa
open Go.RowKit Go.Maps
set_option linter.unusedVariables false
set_option linter.unusedSimpArgs false

def nilp : Value := .pointer none
/-- a new disk's struct and map -/
def cleanW (w : World) (v : Value) : World := (w.alloc (.map #[] 0)).alloc (.cells #[v, .map (some w.heap.size)] 84)
theorem clean_any (w : World) (a : Option Addr) (n c : Nat) :
    Calls Try.prog 26 #[.slice a n c] w fun e w' => e = .returned (.pointer (some ⟨w.heap.size + 1, 0, none⟩)) ∧ w' = cleanW w (.slice a n c) := by
  have hmm := @run_makeMap Try.prog
  go_enter Try.func26, Try.ntmps26
  go_wp2
  go_ret
  exact ⟨rfl, rfl⟩
theorem check_nil (w : World) (i : Int) :
    Calls Try.prog 47 #[.pointer none, .int .i64 i] w fun e w' => e = .returned (.int .i64 1) ∧ w = w' := by
  go_enter Try.func47, Try.ntmps47
  go_wp2
  go_ret
  exact ⟨rfl, rfl⟩
theorem check_ok (w : World) {p g b n : Nat} {F : Nat → Sec} {m : Nat → Option Sec} (hd : Dsk w p g b n F m) (i : Int) (h0 : 0 ≤ i) (h1 : i < n) :
    Calls Try.prog 47 #[.pointer (some ⟨p, 0, none⟩), .int .i64 i] w fun e w' => e = .returned (.int .i64 0) ∧ w = w' := by
  obtain ⟨c, hf⟩ := hd.flu
  have ht := hd.top
  have e1 : decide (i < 0) = false := by simp; omega
  have e2 : decide ((n : Int) ≤ i) = false := by simp; omega
  have H1 : (i < 0) = False := by simp; omega
  have H2 : ((n : Int) ≤ i) = False := by simp; omega
  clear hd
  go_enter Try.func47, Try.ntmps47
  go_wp2
  go_ret
  exact ⟨rfl, rfl⟩
theorem check_no (w : World) {p g b n : Nat} {F : Nat → Sec} {m : Nat → Option Sec} (hd : Dsk w p g b n F m) (i : Int) (h : i < 0 ∨ (n : Int) ≤ i) :
    Calls Try.prog 47 #[.pointer (some ⟨p, 0, none⟩), .int .i64 i] w fun e w' => e = .returned (.int .i64 41) ∧ w = w' := by
  obtain ⟨c, hf⟩ := hd.flu
  have ht := hd.top
  clear hd
  by_cases h0 : i < 0
  · have e1 : decide (i < 0) = true := by simp; omega
    go_enter Try.func47, Try.ntmps47
    go_wp2
    go_ret
    exact ⟨rfl, rfl⟩
  · have e1 : decide (i < 0) = false := by simp; omega
    have H1 : (i < 0) = False := by simp; omega
    have hge : (n : Int) ≤ i := by omega
    have e2 : decide ((n : Int) ≤ i) = true := by simp; omega
    clear h
    go_enter Try.func47, Try.ntmps47
    go_wp2
    go_ret
    exact ⟨rfl, rfl⟩
theorem len_nil (w : World) :
    Calls Try.prog 27 #[.pointer none] w fun e w' => e = .returned (.int .i64 0) ∧ w = w' := by
  go_enter Try.func27, Try.ntmps27
  go_wp2
  go_ret
  exact ⟨rfl, rfl⟩
theorem len_ok (w : World) {p g b n : Nat} {F : Nat → Sec} {m : Nat → Option Sec} (hd : Dsk w p g b n F m) :
    Calls Try.prog 27 #[.pointer (some ⟨p, 0, none⟩)] w fun e w' => e = .returned (.int .i64 n) ∧ w = w' := by
  obtain ⟨c, hf⟩ := hd.flu
  have ht := hd.top
  clear hd
  go_enter Try.func27, Try.ntmps27
  go_wp2
  go_ret
  exact ⟨rfl, rfl⟩
theorem new_no (w : World) (n : Int) (h : n < 1 ∨ 1024 < n) :
    Calls Try.prog 9 #[.int .i64 n] w fun e w' => e = .returned (.tuple #[.pointer none, .int .i64 1]) ∧ w = w' := by
  by_cases h0 : n < 1
  · have e1 : decide (n < 1) = true := by simp; omega
    go_enter Try.func9, Try.ntmps9
    go_wp2
    go_ret2
    exact ⟨rfl, rfl⟩
  · have e1 : decide (n < 1) = false := by simp; omega
    have e2 : decide (1024 < n) = true := by simp; omega
    go_enter Try.func9, Try.ntmps9
    go_wp2
    go_ret2
    exact ⟨rfl, rfl⟩
end Go.Proofs.Ytdiemejdbakffaa
