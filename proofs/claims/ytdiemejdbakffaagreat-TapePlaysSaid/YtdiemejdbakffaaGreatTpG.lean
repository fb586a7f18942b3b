/-
  Contract of package tape's record. No claim of its own.
-/
import Derived.Test.YtdiemejdbakffaaGreatTpF
namespace Go.Proofs.YtdiemejdbakffaaGreat
open Go.RowKit
set_option linter.unusedVariables false
set_option linter.unusedSimpArgs false

/-- a slice of bytes that is told -/
def Told (r : Rec) (w : World) (e : Ending) (w' : World) : Prop := ∃ a c, e = .returned (.slice a r.length c) ∧ Ro w' w'.heap.size a (u8s r) ∧ r.length ≤ c ∧ c ≤ 9223372036854775807 ∧ Chg [] w w'
set_option maxHeartbeats 1000000 in
set_option maxRecDepth 100000 in
theorem record_any (w : World) (h : Nat) (aF aE : Option Addr) (nF cF nE cE : Nat) (L : List Rec) (i : Nat) (hF : Lst w 0 5 (.slice aF nF cF) (u8s (frs L))) (hE : Lst w 0 3 (.slice aE nE cE) (i64s (ens L))) (hi : i < L.length) (hok : okL L) (hl : (frs L).length ≤ 1000000) :
    Calls Tryz.prog 52 #[cv h (.slice aF nF cF) (.slice aE nE cE), .int .i64 (i : Int)] w (Told (L[i]) w) := by
  have hge := frs_ge hok
  obtain ⟨g, rfl, rfl, hcF, hcm, hg, hgc⟩ := hF.rowU8 (by omega)
  obtain ⟨g', rfl, rfl, hcE, _, hg', hgc'⟩ := hE.rowInt (by rw [ens_len]; omega)
  rw [ens_len] at hgc' hcE ⊢
  have hr := frs_rec L i hi
  have hok1 : okR L[i] := hok _ (List.getElem_mem hi)
  have hle := frs_take_le L (i + 1)
  have hle0 := frs_take_le L i
  obtain ⟨r, HR⟩ : ∃ r, Hid (L[i] = r) := ⟨_, Lib.hid rfl⟩
  rw [HR.out] at hr hok1 ⊢
  have he1 : (ens L).getD i 0 = (((frs (L.take (i + 1))).length : Nat) : Int) := ens_get L i hi
  obtain ⟨T, HT⟩ : ∃ T, Hid ((frs (L.take (i + 1))).length = T) := ⟨_, Lib.hid rfl⟩
  obtain ⟨S, HS⟩ : ∃ S, Hid ((frs (L.take i)).length = S) := ⟨_, Lib.hid rfl⟩
  obtain ⟨N, HN⟩ : ∃ N, Hid ((frs L).length = N) := ⟨_, Lib.hid rfl⟩
  obtain ⟨K, HK⟩ : ∃ K, Hid (L.length = K) := ⟨_, Lib.hid rfl⟩
  obtain ⟨m, HM⟩ : ∃ m, Hid (r.length = m) := ⟨_, Lib.hid rfl⟩
  have h1 := hr.2
  have h2 := hok1.1
  have h3 := hok1.2
  rw [HT.out, HS.out, HM.out] at h1
  rw [HM.out] at h2 h3
  rw [HT.out] at he1 hle
  rw [HN.out] at hle hle0 hcF hl
  rw [HS.out] at hle0
  unfold maxLen at hcm
  have c1 := hgc' i hi
  rw [he1] at c1
  have HP := Lib.hid (show ∀ w', Chg [] w w' → Told r w (.returned (.slice (some ⟨g, S + 2, none⟩) m (cF - (S + 2)))) w' from fun w' hc => ⟨_, _, by rw [HM.out], by
    refine .inr ⟨g, S + 2, rfl, Nat.lt_of_lt_of_le hg hc.size, fun j hj => ?_⟩
    rw [u8s_length, HM.out] at hj
    refine hc.cell ?_ (by simp)
    rw [hgc _ (by rw [HN.out]; omega), u8s_getD r j (by rw [HM.out]; exact hj)]
    have h5 : r[j]? = (frs L)[S + 2 + j]? := by
      have := congrArg (fun l : List UInt8 => l[j]?) hr.1
      simp only [HS.out, HM.out, List.getElem?_take, if_pos hj, List.getElem?_drop] at this
      exact this.symm
    simp only [List.getD, h5], by rw [HM.out]; omega, by omega, hc⟩)
  have hc0 : i = 0 → S = 0 := by rintro rfl; rw [← HS.out]; rfl
  have c0 : 0 < i → w.cell? ⟨g', i - 1, none⟩ = some (.int .i64 (S : Int)) := by
    intro hp
    have := hgc' (i - 1) (by omega)
    rw [ens_get L (i - 1) (by omega), show i - 1 + 1 = i from by omega, HS.out] at this
    exact this
  have hKc : K ≤ cE := by rw [← HK.out]; exact hcE
  have hiK : i < K := by rw [← HK.out]; exact hi
  rw [HN.out, HK.out]
  have hKb : (K : Int) ≤ 1000000 := by rw [HK.out, HN.out] at hge; omega
  have hT1 : (S : Int) + 2 ≤ (T : Int) := by omega
  have hT2 : (T : Int) ≤ (cF : Int) := by omega
  have hT3 : (2 : Int) ≤ (T : Int) := by omega
  clear hgc hgc' hr hok1 he1 hi HR hcE hge hF hE hok
  by_cases hz : i = 0
  · have hS := hc0 hz
    have hcf : (cF = 2) = False := by simp; omega
    have eM : T - 2 = m := by omega
    clear h1
    subst hz
    subst hS
    clear hc0 c0
    go_enter Tryz.func52, Tryz.ntmps52
    go_wp2_with fail
    go_quiet (fail)
    go_wp2
    go_ret
    exact HP.out _ (((Chg.refl [] w).alloc _).drewN _)
  · have c0' := c0 (by omega)
    have hi2 : (1 : Int) ≤ (i : Int) := by omega
    have hi3 : (i : Int) < (K : Int) := by omega
    have hi4 : (i : Int) - 1 < (K : Int) := by omega
    have e1 : ((i : Int) - 1).toNat = i - 1 := by omega
    have hcf : (cF = 2 + S) = False := by simp; omega
    have hcf2 : (2 + S = cF) = False := by simp; omega
    have hcf3 : ¬ ((cF : Int) = 2 + (S : Int)) := by omega
    have eM : T - (2 + S) = m := by omega
    have HP2 := HP
    rw [Nat.add_comm S 2, ← eM] at HP2
    clear eM
    clear h1
    have hd : decide ((0 : Int) < (i : Int)) = true := by simp; omega
    have hi1 : i - 1 < K := by omega
    clear hc0 c0
    go_enter Tryz.func52, Tryz.ntmps52
    go_wp2_with fail
    go_quiet (fail)
    go_wp2
    go_ret
    exact HP2.out _ (((Chg.refl [] w).alloc _).drewN _)
end Go.Proofs.YtdiemejdbakffaaGreat
