/-
  fields of package layout: add, addCount, addChain, by their contracts. No claim of its own.
-/
import Derived.Test.YteenlkmnadjnpaaGreatH9
import Derived.Deep.Cut
namespace Go.Proofs.YteenlkmnadjnpaaGreat
open Go.RowKit Go.Deep
set_option linter.unusedVariables false
set_option linter.unusedSimpArgs false

set_option maxHeartbeats 1000000 in
theorem ladd_any (F : List (Nat × Nat)) (base g : Nat) (v n : Nat) (w : World) (h : Fst w 144 base g F) (hF : F.length ≤ 1000) (hb : base ≤ w.heap.size) :
    Calls Tryz.prog 100 #[.pointer (some ⟨g, 0, none⟩), .int .u64 (v : Int), .int .i64 (n : Int)] w fun e w' => e = .returned (.tuple #[]) ∧ Fst w' 144 base g (F ++ [(n, v)]) ∧ Fc base g w w' := by
  obtain ⟨v1, v2, h1, h2, h3⟩ := h
  have c0 := h1.cell 0
  have c1 := h1.cell 1
  have f0 := h1.frozen 0
  have f1 := h1.frozen 1
  have hz := h1.lt
  simp at c0 c1
  have H1 := Lib.hid h1
  have H2 := Lib.hid h2
  have H3 := Lib.hid h3
  have HL1 : Hid ((i64s (fw F)).length ≤ 1000) := Lib.hid (by simpa [i64s] using hF)
  have HL2 : Hid ((u64s (fv F)).length ≤ 1000) := Lib.hid (by simpa [u64s] using hF)
  have HB := Lib.hid hb
  clear h1 h2 h3 hF hb
  go_enter Tryz.func100, Tryz.ntmps100
  go_wp2_with (at_builtin; refine wpList_app1g rfl (.tmp 10) (.tmp 12) 33 rfl base 3 (.int .i64 0) 8 Tryz.underlying33 Tryz.info_i64 rfl (.int .i64 (n : Int)) rfl v1 (i64s (fw F)) rfl H2.out rfl (by have := HL1.out; omega) (by have := HL1.out; omega) HB.out ?_)
  intro v1' w1 hl1 hc1
  obtain ⟨k1, k2, k3, k4, k5⟩ := Fst.step1 H1.out H2.out H3.out (by decide) (by decide) hl1.out hc1
  obtain ⟨a1, cc1, hv1, _, _⟩ := hl1.out.form
  generalize (i64s (fw F) ++ [Value.int .i64 (n : Int)]).length = n1 at hv1
  subst hv1
  have p0 := k1.frozen 0
  have q0 := k1.cell 0
  have hz1 := k1.lt
  simp at q0
  have K2 := Lib.hid k2
  have K3 := Lib.hid k3
  have K4 := Lib.hid k4
  have K5 := Lib.hid k5
  clear hl1 hc1 k1 k2 k3 k4 k5 c0 c1 f0 f1 hz
  go_upto_region 1 with fail
  generalize w1.setCell ⟨g, 0, none⟩ (.slice a1 n1 cc1) = W1 at *
  have q1 := K2.out.cell 1
  have hz2 := K2.out.lt
  simp at q1
  clear q0 p0 hz1
  go_wp2_with (at_builtin; refine wpList_app1g rfl (.tmp 20) (.tmp 22) 79 rfl base 26 (.int .u64 0) 8 Tryz.underlying79 Tryz.info_u64 rfl (.int .u64 (v : Int)) rfl v2 (u64s (fv F)) rfl K4.out rfl (by have := HL2.out; omega) (by have := HL2.out; omega) (Nat.le_trans HB.out K5.out.size) ?_)
  intro v2' w2 hl2 hc2
  obtain ⟨k1, k2, k3, k4, k5⟩ := Fst.step2 K2.out K3.out K4.out (by decide) (by decide) hl2.out hc2
  obtain ⟨a2, cc2, hv2, _, _⟩ := hl2.out.form
  generalize (u64s (fv F) ++ [Value.int .u64 (v : Int)]).length = n2 at hv2
  subst hv2
  have r1 := k1.cell 1
  have p1' := k1.frozen 1
  have hz3 := k1.lt
  simp at r1
  have J2 := Lib.hid k2
  have J3 := Lib.hid k3
  have J4 := Lib.hid k4
  have J5 := Lib.hid k5
  clear hl2 hc2 k1 k2 k3 k4 k5 q1 hz2
  go_wp2_with fail
  go_end0
  refine ⟨rfl, ⟨_, _, J2.out, ?_, ?_⟩, K5.out.trans J5.out⟩
  · have := J3.out
    simpa [fw, i64s] using this
  · have := J4.out
    simpa [fv, u64s] using this
set_option maxHeartbeats 1000000 in
theorem lcount_any (F : List (Nat × Nat)) (base g m : Nat) (w : World) (h : Fst w 144 base g F) (hF : F.length ≤ 1000) (hb : base ≤ w.heap.size) (hm : 1 ≤ m ∧ m ≤ 1000) :
    Calls Tryz.prog 101 #[.pointer (some ⟨g, 0, none⟩), .int .i64 (m : Int)] w fun e w' => e = .returned (.tuple #[]) ∧ Fst w' 144 base g (F ++ [(2, m - 1)]) ∧ Fc base g w w' := by
  have HA := Lib.hid (ladd_any F base g (m - 1) 2 w h hF hb)
  obtain ⟨q, hq⟩ : ∃ q, m - 1 = q := ⟨_, rfl⟩
  rw [hq] at HA ⊢
  have e1 : wrap64 ((m : Int) - 1) = (q : Int) := by unfold wrap64; omega
  have e3 : IntKind.u64.wrap (q : Int) = (q : Int) := wrap_u64_nat q (by omega)
  have e4 : (m : Int) - 1 = (q : Int) := by omega
  clear h hF hb hq
  go_enter Tryz.func101, Tryz.ntmps101
  go_wp2_with fail
  refine HA.out.mono ?_
  rintro e w1 ⟨rfl, h1, h2⟩
  have H1 := Lib.hid h1
  have H2 := Lib.hid h2
  clear h1 h2
  go_wp2_with fail
  go_end0
  exact ⟨rfl, H1.out, H2.out⟩

def fU (u : Int) : List (Nat × Nat) := [(5, u.toNat)]
theorem i64_take {L : List Int} {k : Nat} (h : k < L.length) : L.take (k + 1) = L.take k ++ [L.getD k 0] := by
  have e : L.getD k 0 = L[k] := by simp [List.getD, h]
  rw [List.take_succ_eq_append_getElem h, e]
set_option maxHeartbeats 1000000 in
theorem lchain_any (F : List (Nat × Nat)) (base g : Nat) (c : List Int) (a : Option Addr) (cp B : Nat) (w : World) (h : Fst w 144 base g F) (hF : F.length ≤ 900) (hb : base ≤ w.heap.size) (hro : Ro w B a (i64s c)) (hB : B ≤ base) (hBg : B ≤ g) (hl : 1 ≤ c.length ∧ c.length ≤ 4) (hu : ∀ u ∈ c, 0 ≤ u ∧ u < 32) :
    Calls Tryz.prog 102 #[.pointer (some ⟨g, 0, none⟩), .slice a c.length cp] w fun e w' => e = .returned (.tuple #[]) ∧ Fst w' 144 base g (F ++ fCh c) ∧ Fc base g w w' := by
  have HA := Lib.hid (lcount_any F base g c.length w h (by omega) hb (by omega))
  have HRO := Lib.hid hro
  have HBS := Lib.hid (And.intro hb (And.intro hB hBg))
  have HU : Hid (∀ k, k < c.length → 0 ≤ c.getD k 0 ∧ c.getD k 0 < 32) := Lib.hid fun k hk => hu _ (by simp [List.getD, hk])
  have HF := Lib.hid hF
  generalize hN : c.length = n at *
  have HN := Lib.hid hN
  have hn1 : (n : Int) ≤ 4 := by omega
  clear h hF hb hro hB hBg hu hN
  go_enter Tryz.func102, Tryz.ntmps102
  go_wp2_with fail
  refine HA.out.mono ?_
  rintro e w1 ⟨rfl, h1, h2⟩
  have H1 := Lib.hid h1
  have H2 := Lib.hid h2
  clear h1 h2
  go_wp2_with fail
  go_loopw [12] (fun i wr => ∃ k : Nat, k ≤ n ∧ i = .int .i64 (k : Int) ∧ Hid (Fst wr 144 base g (F ++ ((2, n - 1) :: (c.take k).flatMap fU))) ∧ Hid (Fc base g w wr)) (fun i _ => n - (intOf i).toNat)
  case atStart => exact ⟨0, Nat.zero_le _, rfl, by simpa using H1, H2⟩
  case round =>
    obtain ⟨k, hk, rfl, HX, HC⟩ := hrel
    by_cases hlt : k < n
    · have hkL : k < c.length := by rw [HN.out]; exact hlt
      obtain ⟨b, off, rfl, hb, hc⟩ := (HRO.out.below (HC.out.below (Nat.le_trans HBS.out.2.1 HBS.out.1) HBS.out.2.2 HBS.out.2.1) (Nat.le_refl _)).i64 (show 0 < c.length by omega)
      have e1 := hc k hkL
      have hur := HU.out k hlt
      have HT := Lib.hid (i64_take hkL)
      clear hc
      have hk0 : (0 : Int) ≤ (k : Int) := by omega
      have hk1 : (k : Int) < (n : Int) := by omega
      generalize c.getD k 0 = u at *
      obtain ⟨m, rfl⟩ := Int.eq_ofNat_of_zero_le hur.1
      have e2 : IntKind.u64.wrap (m : Int) = (m : Int) := wrap_u64_nat m (by omega)
      have HLEN : Hid ((F ++ ((2, n - 1) :: (c.take k).flatMap fU)).length ≤ 1000) := Lib.hid (by
        have := fflat_le (f := fU) (n := 1) (xs := c.take k) (fun u _ => by simp [fU])
        have := HF.out
        rw [List.length_append, List.length_cons, List.length_take] at *
        omega)
      have HAD := Lib.hid (ladd_any _ base g m 5 wr HX.out HLEN.out (Nat.le_trans HBS.out.1 HC.out.size))
      clear hur
      go_wp2_with fail
      refine HAD.out.mono ?_
      rintro e w2 ⟨rfl, h1, h2⟩
      have HX2 := Lib.hid h1
      have HC2 := Lib.hid (HC.out.trans h2)
      clear h1 h2
      go_wp2_with fail
      go_roundw
      case rel =>
        refine ⟨k + 1, by omega, by go_num, Lib.hid ?_, HC2⟩
        have := HX2.out
        rw [HT.out]
        simpa [fU] using this
      case measure => simp [intOf]; omega
    · obtain rfl : k = n := by omega
      go_wp2_with fail
      go_end0
      refine ⟨rfl, ?_, HC.out⟩
      have := HX.out
      rw [List.take_of_length_le (by rw [HN.out]; exact Nat.le_refl _)] at this
      rw [fCh, HN.out]
      exact this
end Go.Proofs.YteenlkmnadjnpaaGreat
