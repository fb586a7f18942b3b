/-
  Contract of built: a set of runs, as they come. No claim of its own.
-/
import Derived.Test.YtoadbkiklabceaaAli
namespace Go.Proofs.Ytoadbkiklabceaa
open Go.RowKit Go.Shelf Go.Deep
set_option linter.unusedVariables false
set_option linter.unusedSimpArgs false

def builtL (L : List Rn) : List Rn := L.foldl putL []
theorem builtL_snoc (L : List Rn) (r : Rn) : builtL (L ++ [r]) = putL (builtL L) r := by simp [builtL]
theorem builtL_NF (L : List Rn) : NF (builtL L) ∧ (∀ n, mem (builtL L) n = mem L n) ∧ (builtL L).length ≤ L.length := by
  suffices h : ∀ (L A : List Rn), NF A → NF (L.foldl putL A) ∧ (∀ n, mem (L.foldl putL A) n = (mem A n || mem L n)) ∧ (L.foldl putL A).length ≤ A.length + L.length by
    obtain ⟨h1, h2, h3⟩ := h L [] trivial
    exact ⟨h1, fun n => by rw [show builtL L = L.foldl putL [] from rfl, h2]; simp, by unfold builtL; simpa using h3⟩
  intro L
  induction L with
  | nil => intro A hA; exact ⟨hA, fun n => by simp, by simp⟩
  | cons r L ih =>
    intro A hA
    obtain ⟨h1, h2⟩ := putL_ok hA r
    obtain ⟨h3, h4, h5⟩ := ih (putL A r) h1
    refine ⟨h3, fun n => ?_, ?_⟩
    · rw [List.foldl_cons, h4, h2, mem_cons, Bool.or_assoc]
    · have := putL_len hA r
      simp only [List.foldl_cons, List.length_cons]; omega
theorem take_snoc_el {L : List Rn} {k : Nat} (h : k < L.length) : L.take (k + 1) = L.take k ++ [el L k] := by
  rw [List.take_succ_eq_append_getElem h]
  simp [el, List.getD, h]
set_option maxHeartbeats 1000000 in
set_option maxRecDepth 100000 in
theorem built_any (w : World) (a : Option Addr) (L : List Rn) (c B0 : Nat) (hro : Ro w B0 a (rcs L)) (hB0 : B0 ≤ w.heap.size) (hf : ∀ r ∈ L, Fit r) (hl : L.length ≤ 9223372036854775807) :
    Calls Try.prog 28 #[.slice a L.length c] w fun e w' => ∃ v, e = .returned (.pointer (some ⟨w.heap.size, 0, none⟩)) ∧ New w' w.heap.size w.heap.size v (builtL (L.take 60)) ∧ Below w.heap.size w w' := by
  obtain ⟨n, HN⟩ : ∃ n, Hid (L.length = n) := ⟨_, Lib.hid rfl⟩
  rw [HN.out] at hl ⊢
  have HR := Lib.hid (hro.mono hB0)
  have HF := Lib.hid hf
  clear hro hf
  go_enter Try.func28, Try.ntmps28
  go_wp2_with (go_at_call 10; refine (New_any _).mono ?_; rintro e w1 ⟨rfl, rfl⟩)
  obtain ⟨p, HP⟩ : ∃ p, Hid (w.heap.size = p) := ⟨_, Lib.hid rfl⟩
  rw [HP.out]
  go_loopw [4] (fun i wr => ∃ k : Nat, i = .int .i64 k ∧ k ≤ n ∧ k ≤ 60 ∧ ∃ v, New wr p p v (builtL (L.take k)) ∧ Below p w wr) (fun i _ => n - (intOf i).toNat)
  case atStart =>
    refine ⟨0, rfl, Nat.zero_le _, by omega, .slice none 0 0, ?_, ?_⟩
    · rw [← HP.out]; exact new_st w
    · rw [← HP.out]; exact (Below.refl _ w).alloc (Nat.le_refl _) _
  case round =>
    obtain ⟨k, rfl, hk, hk60, v, hn, hb⟩ := hrel
    by_cases hlt : k < n ∧ k < 60
    · have hkL : k < L.length := by rw [HN.out]; exact hlt.1
      obtain ⟨g, off, rfl, hg, hcl⟩ := HR.out.rn (by omega)
      obtain ⟨h1, h2⟩ := hcl k hkL
      have hx1 := (hb.cell (p := ⟨g, off + k * 2, none⟩) (by show g < p; have := HP.out; omega)).trans h1
      have hx2 := (hb.cell (p := ⟨g, off + k * 2 + 1, none⟩) (by show g < p; have := HP.out; omega)).trans h2
      have hlen := (builtL_NF (L.take k)).2.2
      rw [List.length_take] at hlen
      have HAD := Lib.hid (add_any wr p v (builtL (L.take k)) hn.st (el L k) (HF.out _ (el_mem hkL)) (by omega))
      have HT := Lib.hid (show builtL (L.take (k + 1)) = putL (builtL (L.take k)) (el L k) by rw [take_snoc_el hkL, builtL_snoc])
      have hd1 : decide (k < n) = true := by simpa using hlt.1
      have hd2 : decide ((k : Int) < 60) = true := by simp; omega
      have hk0 : (0 : Int) ≤ (k : Int) := by omega
      have hk1 : (k : Int) < (n : Int) := by omega
      have hm : n - (k + 1) < n - k := by omega
      have HNW := Lib.hid hn
      have HBW := Lib.hid hb
      clear hcl h1 h2 hlen hn hb
      generalize el L k = x at *
      go_wp2_with (go_at_call 16; refine HAD.out.mono ?_; rintro e w2 hp; obtain ⟨v2, rfl, hn2, hb2, _⟩ := HNW.out.post HBW.out hp; clear hp)
      go_roundw
      case rel => exact ⟨k + 1, by go_num, by omega, by omega, v2, by rw [HT.out]; exact hn2, hb2⟩
      case measure => simp [intOf]; omega
    · have ht : L.take k = L.take 60 := by
        rcases Nat.lt_or_ge k 60 with h | h
        · rw [List.take_of_length_le (by rw [HN.out]; omega), List.take_of_length_le (by rw [HN.out]; omega)]
        · rw [show k = 60 by omega]
      have HT := Lib.hid ht
      clear ht
      by_cases h1 : k < n
      · have hd1 : decide (k < n) = true := by simpa using h1
        have hd2 : decide ((k : Int) < 60) = false := by simp; omega
        go_wp2_with fail
        go_ret
        exact ⟨v, by rw [HP.out]; rfl, by rw [HP.out, ← HT.out]; exact hn, by rw [HP.out]; exact hb⟩
      · have hd1 : decide (k < n) = false := by simpa using h1
        go_wp2_with fail
        go_ret
        exact ⟨v, by rw [HP.out]; rfl, by rw [HP.out, ← HT.out]; exact hn, by rw [HP.out]; exact hb⟩
end Go.Proofs.Ytoadbkiklabceaa
