/-
  Two layouts alike, as a Bool. Plain lemmas, no claim of their own.
-/
import Derived.Test.YtcadnlilijkneaaGreatGb15
import Derived.Test.YtcadnlilijkneaaGreatGb3
import Derived.Test.YtcadnlilijkneaaGreatGb16
import Derived.Deep.Cut
namespace Go.Proofs.YtcadnlilijkneaaGreat
open Go.RowKit Go.Deep
set_option linter.unusedVariables false
set_option linter.unusedSimpArgs false

def lalike (x y : Ly) : Bool := decide (x.e = y.e) && (decide (x.q = y.q) && decide (x.s = y.s))
theorem lalike_iff {x y : Ly} : lalike x y = true ↔ x = y := by
  obtain ⟨a, b, c⟩ := x
  obtain ⟨d, e, f⟩ := y
  unfold lalike
  simp only [Bool.and_eq_true, decide_eq_true_eq, Ly.mk.injEq]
  constructor
  · rintro ⟨rfl, rfl, rfl⟩; exact ⟨rfl, rfl, rfl⟩
  · rintro ⟨rfl, rfl, rfl⟩; exact ⟨rfl, rfl, rfl⟩
end Go.Proofs.YtcadnlilijkneaaGreat
namespace Go.Proofs.YtcadnlilijkneaaGreat
open Go.RowKit Go.Deep Go.Shelf
set_option linter.unusedVariables false
set_option linter.unusedSimpArgs false

set_option maxHeartbeats 1000000 in
theorem sameChainW_any (L M : List Int) (a a2 : Option Addr) (c c2 B : Nat) (w : World) (hro : Ro w B a (i64s L)) (hro2 : Ro w B a2 (i64s M)) (hB : B ≤ w.heap.size) (hl : L.length ≤ 9223372036854775807) (hl2 : M.length ≤ 9223372036854775807) :
    Calls Tryz.prog 71 #[.slice a L.length c, .slice a2 M.length c2] w fun e w' => e = .returned (.bool (decide (L = M))) ∧ Below w.heap.size w w' := by
  by_cases hlm : L.length = M.length
  · have HRO := Lib.hid hro
    have HRO2 := Lib.hid hro2
    have HS := Lib.hid hB
    have HN2 := Lib.hid hlm
    rw [← hlm] at hl2 ⊢
    generalize hN : L.length = n at *
    have HN := Lib.hid hN
    have hn1 : (n : Int) ≤ 9223372036854775807 := by omega
    obtain ⟨t, HT⟩ : ∃ t, Hid (decide (L = M) = t) := ⟨_, Lib.hid rfl⟩
    rw [HT.out]
    clear hro hro2 hB hN hlm hl2
    go_enter Tryz.func71, Tryz.ntmps71
    go_wp2_with fail
    go_loopw [5] (fun i wr => ∃ k : Nat, k ≤ n ∧ i = .int .i64 (k : Int) ∧ Hid (∀ j, j < k → L.getD j 0 = M.getD j 0) ∧ Hid (Below w.heap.size w wr)) (fun i _ => n - (intOf i).toNat)
    case atStart => exact ⟨0, Nat.zero_le _, rfl, Lib.hid (by omega), Lib.hid (Below.refl _ _)⟩
    case round =>
      obtain ⟨k, hk, rfl, HM, HBk⟩ := hrel
      by_cases hlt : k < n
      · have hkL : k < L.length := by rw [HN.out]; exact hlt
        have hkM : k < M.length := by rw [← HN2.out]; exact hlt
        obtain ⟨b, off, rfl, hb, hc⟩ := (HRO.out.below HBk.out HS.out).i64 (show 0 < L.length by omega)
        obtain ⟨b2, off2, rfl, hb2, hc2⟩ := (HRO2.out.below HBk.out HS.out).i64 (show 0 < M.length by omega)
        have e1 := hc k hkL
        have e2 := hc2 k hkM
        clear hc hc2
        have hk0 : (0 : Int) ≤ (k : Int) := by omega
        have hk1 : (k : Int) < (n : Int) := by omega
        obtain ⟨y, hy⟩ : ∃ y, L.getD k 0 = y := ⟨_, rfl⟩
        obtain ⟨z, hz⟩ : ∃ z, M.getD k 0 = z := ⟨_, rfl⟩
        rw [hy] at e1
        rw [hz] at e2
        have HY := Lib.hid hy
        have HZ := Lib.hid hz
        clear hy hz
        by_cases hx : y = z
        · have hx' : (y != z) = false := by rw [bne_eq_false_iff_eq]; exact hx
          have HX := Lib.hid hx
          clear hx
          go_wp2_with fail
          go_region
          go_wp2_with fail
          go_roundw
          case rel =>
            refine ⟨k + 1, by omega, by go_num, Lib.hid fun j hj => ?_, Lib.hid HBk.out.drew⟩
            by_cases e : j = k
            · subst e; rw [HY.out, HZ.out]; exact HX.out
            · exact HM.out j (by omega)
          case measure => simp [intOf]; omega
        · have hx' : (y != z) = true := by rw [bne_iff_ne]; exact hx
          obtain rfl : t = false := by
            rw [← HT.out]
            simp only [decide_eq_false_iff_not]
            rintro rfl
            exact hx (HY.out.symm.trans HZ.out)
          clear hx
          go_wp2_with fail
          go_region
          go_wp2_with fail
          go_ret
          exact ⟨rfl, HBk.out.drew⟩
      · obtain rfl : k = n := by omega
        obtain rfl : t = true := by
          rw [← HT.out]
          simp only [decide_eq_true_eq]
          apply List.ext_getElem (by rw [HN.out]; exact HN2.out)
          intro i h1 h2
          have := HM.out i (by rw [HN.out] at h1; exact h1)
          simpa [List.getD, h1, h2] using this
        go_wp2_with fail
        go_ret
        exact ⟨rfl, HBk.out⟩
  · have e : decide (L = M) = false := by simp only [decide_eq_false_iff_not]; rintro rfl; exact hlm rfl
    rw [e]
    generalize L.length = n at *
    generalize M.length = m at *
    have hne : ((n : Int) != (m : Int)) = true := by rw [bne_iff_ne]; omega
    clear hlm e hro hro2
    go_enter Tryz.func71, Tryz.ntmps71
    go_wp2_with fail
    go_ret
    exact ⟨rfl, Below.refl _ _⟩


end Go.Proofs.YtcadnlilijkneaaGreat
namespace Go.Proofs.YtcadnlilijkneaaGreat
open Go.RowKit Go.Deep Go.Shelf
set_option linter.unusedVariables false
set_option linter.unusedSimpArgs false

theorem chx_ext {A B : List ChT} (h : A.length = B.length) (he : ∀ j, j < A.length → (ct A j).u = (ct B j).u) : chx A = chx B := by
  apply List.ext_getElem (by simpa using h)
  intro i h1 h2
  have h1' : i < A.length := by simpa using h1
  have h2' : i < B.length := by simpa using h2
  have := he i h1'
  simpa [chx, ct, List.getD, h1', h2'] using this
theorem sgx_ext {A B : List SgT} (h : A.length = B.length) (he : ∀ j, j < A.length → (st A j).x = (st B j).x) : sgx A = sgx B := by
  apply List.ext_getElem (by simpa using h)
  intro i h1 h2
  have h1' : i < A.length := by simpa using h1
  have h2' : i < B.length := by simpa using h2
  have := he i h1'
  simpa [sgx, st, List.getD, h1', h2'] using this

end Go.Proofs.YtcadnlilijkneaaGreat
