/-
  Contract of runs.Join. No claim of its own.
-/
import Derived.Test.YtoadbkiklabceaaSrt
import Derived.Test.YtoadbkiklabceaaBlt
namespace Go.Proofs.Ytoadbkiklabceaa
open Go.RowKit Go.Shelf Go.Deep
set_option linter.unusedVariables false
set_option linter.unusedSimpArgs false

/-- a new set and its list -/
def JoinPost (w : World) (P : List Rn → Prop) (e : Ending) (w' : World) : Prop :=
  ∃ p v J, e = .returned (.pointer (some ⟨p, 0, none⟩)) ∧ New w' w.heap.size p v J ∧ P J ∧ Below w.heap.size w w'
set_option maxHeartbeats 2000000 in
set_option maxRecDepth 100000 in
theorem Join_any (w : World) (sa sb : Option Addr) (FSa FSb : List Nat) (A B : List Rn) (hsa : SetV w (.pointer sa) FSa A) (hsb : SetV w (.pointer sb) FSb B) (hfa : ∀ r ∈ A, Fit r) (hfb : ∀ r ∈ B, Fit r) (hla : A.length ≤ 1000) (hlb : B.length ≤ 1000) :
    Calls Try.prog 31 #[.pointer sa, .pointer sb] w (JoinPost w fun J => (∀ n, mem J n = (mem A n || mem B n)) ∧ J.length ≤ A.length + B.length) := by
  have HRA := Lib.hid (Runs_any w sa FSa A hsa)
  have HSB := Lib.hid hsb
  have HF := Lib.hid (And.intro hfa hfb)
  clear hsa hsb hfa hfb
  go_enter Try.func31, Try.ntmps31
  go_wp2_with fail
  refine HRA.out.mono ?_
  rintro e w1 ⟨va, rfl, hra, hb1⟩
  obtain ⟨a1, c1, rfl, hro1, _, _, _, _⟩ := hra.form
  have HRB := Lib.hid (Runs_any w1 sb FSb B (HSB.out.kept (low_chg hb1)))
  have HB1 := Lib.hid hb1
  have HRO1 := Lib.hid hro1
  clear hra hb1 hro1 HRA
  go_wp2_with fail
  refine HRB.out.mono ?_
  rintro e w2 ⟨vb, rfl, hrb, hb2⟩
  obtain ⟨a2, c2, rfl, hro2, _, _, _, _⟩ := hrb.form
  have HB2 := Lib.hid (HB1.out.trans (hb2.mono HB1.out.size))
  have HRO2 := Lib.hid (And.intro (HRO1.out.below hb2 (Nat.le_refl _)) hro2)
  have hs12 := hb2.size
  clear hrb hb2 hro2 HRO1 HRB
  obtain ⟨w3, HW3⟩ : ∃ w3, Hid (w2.alloc (.cells #[.slice a1 A.length c1, .slice a2 B.length c2] 40) = w3) := ⟨_, Lib.hid rfl⟩
  have ho3 : Own w3 w2.heap.size 40 [.slice a1 A.length c1, .slice a2 B.length c2] := by rw [← HW3.out]; exact Own.new w2 _ _
  have hb23 : Below w2.heap.size w2 w3 := by rw [← HW3.out]; exact (Below.refl _ _).alloc (Nat.le_refl _) _
  have HB3 := Lib.hid (HB2.out.trans (hb23.mono HB2.out.size))
  have HCA := Lib.hid (concat_any w3 w2.heap.size a1 a2 A B c1 c2 (by rw [ho3.cell]; rfl) (by rw [ho3.cell]; rfl) ((HRO2.out.1.below hb23 hs12).mono (Nat.le_trans hs12 hb23.size)) ((HRO2.out.2.below hb23 (Nat.le_refl _)).mono hb23.size) (by omega) (by omega))
  clear ho3 hb23 hs12
  go_wp2_with fail
  rw [HW3.out]
  refine HCA.out.mono ?_
  rintro e w4 ⟨v4, rfl, hr4, hb4⟩
  have HB4 := Lib.hid (HB3.out.trans (hb4.mono HB3.out.size))
  have HSO := Lib.hid (sort_any w4 w3.heap.size v4 (A ++ B) hr4 (by simp; omega) hb4.size)
  have HZ3 := Lib.hid HB3.out.size
  have HZ4 := Lib.hid hb4.size
  clear hr4 hb4 HCA HRO2
  go_wp2_with (first
    | (go_at_call 50; refine HSO.out.mono ?_; rintro e w5 ⟨rfl, M, hpm, hr5, hb5⟩; obtain ⟨a5, c5, rfl, hro5, _, _, _, _⟩ := hr5.form)
    | (go_at_call 10; refine (New_any _).mono ?_; rintro e w6 ⟨rfl, rfl⟩)
    | fail)
  have hml : M.length = A.length + B.length := by rw [hpm.length_eq, List.length_append]
  have hfm : ∀ r ∈ M, Fit r := fun r hr => by
    rcases List.mem_append.1 (hpm.mem_iff.1 hr) with h | h
    · exact HF.out.1 r h
    · exact HF.out.2 r h
  have HPM := Lib.hid hpm
  obtain ⟨n, HN⟩ : ∃ n, Hid (M.length = n) := ⟨_, Lib.hid rfl⟩
  obtain ⟨p, HP⟩ : ∃ p, Hid (w5.heap.size = p) := ⟨_, Lib.hid rfl⟩
  rw [HN.out] at hml ⊢
  rw [HP.out] at hro5 ⊢
  have hn2 : n ≤ 2000 := by omega
  have HR := Lib.hid hro5
  have HFM := Lib.hid hfm
  have HB5 := Lib.hid (show Below w.heap.size w w5 from HB4.out.trans (hb5.mono HZ3.out))
  have HML := Lib.hid hml
  clear hpm hr5 hro5 hb5 hfm HSO hml
  go_loopw [20] (fun i wr => ∃ k : Nat, i = .int .i64 k ∧ k ≤ n ∧ ∃ v, New wr p p v (builtL (M.take k)) ∧ Below p w5 wr) (fun i _ => n - (intOf i).toNat)
  case atStart =>
    refine ⟨0, rfl, Nat.zero_le _, .slice none 0 0, ?_, ?_⟩
    · rw [← HP.out]; exact new_st w5
    · rw [← HP.out]; exact (Below.refl _ w5).alloc (Nat.le_refl _) _
  case round =>
    obtain ⟨k, rfl, hk, v, hn, hb⟩ := hrel
    by_cases hlt : k < n
    · have hkL : k < M.length := by rw [HN.out]; exact hlt
      obtain ⟨g, off, rfl, hg, hcl⟩ := HR.out.rn (by omega)
      obtain ⟨h1, h2⟩ := hcl k hkL
      have hx1 := (hb.cell (p := ⟨g, off + k * 2, none⟩) hg).trans h1
      have hx2 := (hb.cell (p := ⟨g, off + k * 2 + 1, none⟩) hg).trans h2
      have hlen := (builtL_NF (M.take k)).2.2
      rw [List.length_take] at hlen
      have HAD := Lib.hid (fun (W : World) (hW : Below wr.heap.size wr W) => add_any W p v (builtL (M.take k)) (hn.keep hW).st (el M k) (HFM.out _ (el_mem hkL)) (by omega))
      have HT := Lib.hid (show builtL (M.take (k + 1)) = putL (builtL (M.take k)) (el M k) by rw [take_snoc_el hkL, builtL_snoc])
      have hd1 : decide (k < n) = true := by simpa using hlt
      have hk0 : (0 : Int) ≤ (k : Int) := by omega
      have hk1 : (k : Int) < (n : Int) := by omega
      have hkb : (k : Int) ≤ 4000000 := by omega
      have hm : n - (k + 1) < n - k := by omega
      have HNW := Lib.hid hn
      have HBW := Lib.hid hb
      clear hcl h1 h2 hlen hn hb hlt
      generalize el M k = x at *
      have hba : Below wr.heap.size wr (wr.alloc (.cells #[.int .u64 (x.1 : Int), .int .u64 (x.2 : Int)] 28)) := (Below.refl _ _).alloc (Nat.le_refl _) _
      have HBA := Lib.hid hba
      clear hba
      go_wp2_with (go_at_call 16; refine (HAD.out _ HBA.out).mono ?_; rintro e w7 hp; obtain ⟨v7, rfl, hn7, hb7, _⟩ := (HNW.out.keep HBA.out).post (HBW.out.trans (HBA.out.mono HNW.out.ltB)) hp; clear hp)
      go_roundw
      case rel => exact ⟨k + 1, by go_num, by omega, v7, by rw [HT.out]; exact hn7, hb7⟩
      case measure => simp [intOf]; omega
    · have ht : M.take k = M := List.take_of_length_le (by rw [HN.out]; omega)
      rw [ht] at hn
      have HNW := Lib.hid hn
      have HBW := Lib.hid hb
      have hd1 : decide (k < n) = false := by simpa using hlt
      have HBL := Lib.hid (builtL_NF M)
      clear hn hb hlt
      go_wp2_with fail
      go_ret
      have h5 := HB5.out.size
      have h6 := HP.out
      refine ⟨p, v, builtL M, rfl, ⟨HNW.out.st, by omega, fun g h => by have := HNW.out.lowg g h; omega⟩, ⟨fun q => ?_, by have := HBL.out.2.2; have := HN.out; have := HML.out; omega⟩, HB5.out.trans (HBW.out.mono (by omega))⟩
      rw [HBL.out.2.1, mem_perm HPM.out, mem_append]
end Go.Proofs.Ytoadbkiklabceaa
