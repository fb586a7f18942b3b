/-
  fields of package message, by their contracts. No claim of its own.
-/
import Derived.Test.YteenlkmnadjnpaaGreatH11
import Derived.Test.YteenlkmnadjnpaaGreatH6
import Derived.Deep.RegionLaw
namespace Go.Proofs.YteenlkmnadjnpaaGreat
open Go.RowKit Go.Deep
set_option linter.unusedVariables false
set_option linter.unusedSimpArgs false

set_option maxHeartbeats 1000000 in
theorem madd_any (F : List (Nat × Nat)) (base g : Nat) (v n : Nat) (w : World) (h : Fst w 81 base g F) (hF : F.length ≤ 1000) (hb : base ≤ w.heap.size) :
    Calls Tryz.prog 92 #[.pointer (some ⟨g, 0, none⟩), .int .u64 (v : Int), .int .i64 (n : Int)] w fun e w' => e = .returned (.tuple #[]) ∧ Fst w' 81 base g (F ++ [(n, v)]) ∧ Fc base g w w' := by
  obtain ⟨v1, v2, h1, h2, h3⟩ := h
  have c0 := h1.cell 0
  have c1 := h1.cell 1
  have f0 := h1.frozen 0
  have f1 := h1.frozen 1
  have hz := h1.lt
  simp at c0 c1
  have H1 := Lib.hid h1
  have H2 := Lib.hid h2
  have H3 := Lib.hid h3
  have HL1 : Hid ((i64s (fw F)).length ≤ 1000) := Lib.hid (by simpa [i64s] using hF)
  have HL2 : Hid ((u64s (fv F)).length ≤ 1000) := Lib.hid (by simpa [u64s] using hF)
  have HB := Lib.hid hb
  clear h1 h2 h3 hF hb
  go_enter Tryz.func92, Tryz.ntmps92
  go_wp2_with (at_builtin; refine wpList_app1g rfl (.tmp 10) (.tmp 12) 33 rfl base 3 (.int .i64 0) 8 Tryz.underlying33 Tryz.info_i64 rfl (.int .i64 (n : Int)) rfl v1 (i64s (fw F)) rfl H2.out rfl (by have := HL1.out; omega) (by have := HL1.out; omega) HB.out ?_)
  intro v1' w1 hl1 hc1
  obtain ⟨k1, k2, k3, k4, k5⟩ := Fst.step1 H1.out H2.out H3.out (by decide) (by decide) hl1.out hc1
  obtain ⟨a1, cc1, hv1, _, _⟩ := hl1.out.form
  generalize (i64s (fw F) ++ [Value.int .i64 (n : Int)]).length = n1 at hv1
  subst hv1
  have p0 := k1.frozen 0
  have q0 := k1.cell 0
  have hz1 := k1.lt
  simp at q0
  have K2 := Lib.hid k2
  have K3 := Lib.hid k3
  have K4 := Lib.hid k4
  have K5 := Lib.hid k5
  clear hl1 hc1 k1 k2 k3 k4 k5 c0 c1 f0 f1 hz
  go_upto_region 1 with fail
  generalize w1.setCell ⟨g, 0, none⟩ (.slice a1 n1 cc1) = W1 at *
  have q1 := K2.out.cell 1
  have hz2 := K2.out.lt
  simp at q1
  clear q0 p0 hz1
  go_wp2_with (at_builtin; refine wpList_app1g rfl (.tmp 20) (.tmp 22) 79 rfl base 26 (.int .u64 0) 8 Tryz.underlying79 Tryz.info_u64 rfl (.int .u64 (v : Int)) rfl v2 (u64s (fv F)) rfl K4.out rfl (by have := HL2.out; omega) (by have := HL2.out; omega) (Nat.le_trans HB.out K5.out.size) ?_)
  intro v2' w2 hl2 hc2
  obtain ⟨k1, k2, k3, k4, k5⟩ := Fst.step2 K2.out K3.out K4.out (by decide) (by decide) hl2.out hc2
  obtain ⟨a2, cc2, hv2, _, _⟩ := hl2.out.form
  generalize (u64s (fv F) ++ [Value.int .u64 (v : Int)]).length = n2 at hv2
  subst hv2
  have r1 := k1.cell 1
  have p1' := k1.frozen 1
  have hz3 := k1.lt
  simp at r1
  have J2 := Lib.hid k2
  have J3 := Lib.hid k3
  have J4 := Lib.hid k4
  have J5 := Lib.hid k5
  clear hl2 hc2 k1 k2 k3 k4 k5 q1 hz2
  go_wp2_with fail
  go_end0
  refine ⟨rfl, ⟨_, _, J2.out, ?_, ?_⟩, K5.out.trans J5.out⟩
  · have := J3.out
    simpa [fw, i64s] using this
  · have := J4.out
    simpa [fv, u64s] using this
set_option maxHeartbeats 1000000 in
theorem mplace_any (F : List (Nat × Nat)) (base g : Nat) (p q : Nat) (w : World) (h : Fst w 81 base g F) (hF : F.length ≤ 900) (hb : base ≤ w.heap.size) (hp : p < 1000000) (hq : q < 1000000) :
    Calls Tryz.prog 93 #[.pointer (some ⟨g, 0, none⟩), .agg #[.int .i64 (p : Int), .int .i64 (q : Int)]] w fun e w' => e = .returned (.tuple #[]) ∧ Fst w' 81 base g (F ++ [(3, p), (5, q)]) ∧ Fc base g w w' := by
  obtain ⟨W, HWW⟩ : ∃ W, Hid (w.alloc (.cells #[.int .i64 (p : Int), .int .i64 (q : Int)] 25) = W) := ⟨_, Lib.hid rfl⟩
  have HX : Hid (Fst W 81 base g F) := Lib.hid (by rw [← HWW.out]; exact h.alloc _)
  have HO : Hid (Own W w.heap.size 25 [.int .i64 (p : Int), .int .i64 (q : Int)]) := Lib.hid (by rw [← HWW.out]; exact Own.new w _ _)
  have HC : Hid (Fc base g w W) := Lib.hid (by rw [← HWW.out]; exact (Fc.refl _ _ _).alloc _)
  have HG := Lib.hid h.lt
  have HA := Lib.hid (madd_any F base g p 3 W HX.out (by omega) (Nat.le_trans hb HC.out.size))
  have HBW := Lib.hid hb
  have HF := Lib.hid hF
  have e1 : IntKind.u64.wrap (p : Int) = (p : Int) := wrap_u64_nat p (by omega)
  have e2 : IntKind.u64.wrap (q : Int) = (q : Int) := wrap_u64_nat q (by omega)
  have c0 := HO.out.cell 0
  have hz := HO.out.lt
  simp at c0
  clear h hF hb
  go_enter Tryz.func93, Tryz.ntmps93
  go_upto_region 1 with fail
  rw [HWW.out]
  go_wp2_with fail
  refine HA.out.mono ?_
  rintro e w1 ⟨rfl, h1, h2⟩
  have HX1 := Lib.hid h1
  have HC1 := Lib.hid (HC.out.trans h2)
  have HO1 := Lib.hid (HO.out.fc h2 (by have := HG.out; omega) (by decide) (by decide))
  have HA2 := Lib.hid (madd_any _ base g q 5 w1 h1 (by rw [List.length_append]; have := HF.out; simp; omega) (Nat.le_trans HBW.out HC1.out.size))
  clear h1 h2 c0 hz
  have c1 := HO1.out.cell 1
  have hz := HO1.out.lt
  simp at c1
  go_wp2_with fail
  refine HA2.out.mono ?_
  rintro e w2 ⟨rfl, h1, h2⟩
  have HX2 := Lib.hid h1
  have HC2 := Lib.hid (HC1.out.trans h2)
  clear h1 h2 c1 hz
  go_wp2_with fail
  go_end0
  exact ⟨rfl, by simpa using HX2.out, HC2.out⟩

set_option maxHeartbeats 1000000 in
theorem mballot_any (F : List (Nat × Nat)) (base g : Nat) (p q : Nat) (w : World) (h : Fst w 81 base g F) (hF : F.length ≤ 900) (hb : base ≤ w.heap.size) (hp : p < 1000000) (hq : q < 1000000) :
    Calls Tryz.prog 94 #[.pointer (some ⟨g, 0, none⟩), .agg #[.int .i64 (p : Int), .int .i64 (q : Int)]] w fun e w' => e = .returned (.tuple #[]) ∧ Fst w' 81 base g (F ++ [(16, p), (2, q)]) ∧ Fc base g w w' := by
  obtain ⟨W, HWW⟩ : ∃ W, Hid (w.alloc (.cells #[.int .i64 (p : Int), .int .i64 (q : Int)] 35) = W) := ⟨_, Lib.hid rfl⟩
  have HX : Hid (Fst W 81 base g F) := Lib.hid (by rw [← HWW.out]; exact h.alloc _)
  have HO : Hid (Own W w.heap.size 35 [.int .i64 (p : Int), .int .i64 (q : Int)]) := Lib.hid (by rw [← HWW.out]; exact Own.new w _ _)
  have HC : Hid (Fc base g w W) := Lib.hid (by rw [← HWW.out]; exact (Fc.refl _ _ _).alloc _)
  have HG := Lib.hid h.lt
  have HA := Lib.hid (madd_any F base g p 16 W HX.out (by omega) (Nat.le_trans hb HC.out.size))
  have HBW := Lib.hid hb
  have HF := Lib.hid hF
  have e1 : IntKind.u64.wrap (p : Int) = (p : Int) := wrap_u64_nat p (by omega)
  have e2 : IntKind.u64.wrap (q : Int) = (q : Int) := wrap_u64_nat q (by omega)
  have c0 := HO.out.cell 0
  have hz := HO.out.lt
  simp at c0
  clear h hF hb
  go_enter Tryz.func94, Tryz.ntmps94
  go_upto_region 1 with fail
  rw [HWW.out]
  go_wp2_with fail
  refine HA.out.mono ?_
  rintro e w1 ⟨rfl, h1, h2⟩
  have HX1 := Lib.hid h1
  have HC1 := Lib.hid (HC.out.trans h2)
  have HO1 := Lib.hid (HO.out.fc h2 (by have := HG.out; omega) (by decide) (by decide))
  have HA2 := Lib.hid (madd_any _ base g q 2 w1 h1 (by rw [List.length_append]; have := HF.out; simp; omega) (Nat.le_trans HBW.out HC1.out.size))
  clear h1 h2 c0 hz
  have c1 := HO1.out.cell 1
  have hz := HO1.out.lt
  simp at c1
  go_wp2_with fail
  refine HA2.out.mono ?_
  rintro e w2 ⟨rfl, h1, h2⟩
  have HX2 := Lib.hid h1
  have HC2 := Lib.hid (HC1.out.trans h2)
  clear h1 h2 c1 hz
  go_wp2_with fail
  go_end0
  exact ⟨rfl, by simpa using HX2.out, HC2.out⟩

theorem u8_take {L : List UInt8} {k : Nat} (h : k < L.length) : L.take (k + 1) = L.take k ++ [L.getD k 0] := by
  have e : L.getD k 0 = L[k] := by simp [List.getD, h]
  rw [List.take_succ_eq_append_getElem h, e]
def fS (s : Int) : List (Nat × Nat) := [(4, s.toNat)]
def fY (b : UInt8) : List (Nat × Nat) := [(8, b.toNat)]
set_option maxHeartbeats 1000000 in
theorem mstreams_any (F : List (Nat × Nat)) (base g : Nat) (c : List Int) (a : Option Addr) (cp B : Nat) (w : World) (h : Fst w 81 base g F) (hF : F.length ≤ 900) (hb : base ≤ w.heap.size) (hro : Ro w B a (i64s c)) (hB : B ≤ base) (hBg : B ≤ g) (hl : c.length ≤ 4) (hu : ∀ u ∈ c, 0 ≤ u ∧ u < 16) :
    Calls Tryz.prog 41 #[.pointer (some ⟨g, 0, none⟩), .slice a c.length cp] w fun e w' => e = .returned (.tuple #[]) ∧ Fst w' 81 base g (F ++ fSt c) ∧ Fc base g w w' := by
  have HA := Lib.hid (madd_any F base g c.length 3 w h (by omega) hb)
  have HRO := Lib.hid hro
  have HBS := Lib.hid (And.intro hb (And.intro hB hBg))
  have HU : Hid (∀ k, k < c.length → 0 ≤ c.getD k 0 ∧ c.getD k 0 < 16) := Lib.hid fun k hk => hu _ (by simp [List.getD, hk])
  have HF := Lib.hid hF
  generalize hN : c.length = n at *
  have HN := Lib.hid hN
  have hn1 : (n : Int) ≤ 4 := by omega
  have e0 : IntKind.u64.wrap (n : Int) = (n : Int) := wrap_u64_nat n (by omega)
  clear h hF hb hro hB hBg hu hN
  go_enter Tryz.func41, Tryz.ntmps41
  go_wp2_with fail
  refine HA.out.mono ?_
  rintro e w1 ⟨rfl, h1, h2⟩
  have H1 := Lib.hid h1
  have H2 := Lib.hid h2
  clear h1 h2
  go_wp2_with fail
  go_loopw [13] (fun i wr => ∃ k : Nat, k ≤ n ∧ i = .int .i64 (k : Int) ∧ Hid (Fst wr 81 base g (F ++ ((3, n) :: (c.take k).flatMap fS))) ∧ Hid (Fc base g w wr)) (fun i _ => n - (intOf i).toNat)
  case atStart => exact ⟨0, Nat.zero_le _, rfl, by simpa using H1, H2⟩
  case round =>
    obtain ⟨k, hk, rfl, HX, HC⟩ := hrel
    by_cases hlt : k < n
    · have hkL : k < c.length := by rw [HN.out]; exact hlt
      obtain ⟨b, off, rfl, hb, hc⟩ := (HRO.out.below (HC.out.below (Nat.le_trans HBS.out.2.1 HBS.out.1) HBS.out.2.2 HBS.out.2.1) (Nat.le_refl _)).i64 (show 0 < c.length by omega)
      have e1 := hc k hkL
      have hur := HU.out k hlt
      have HT := Lib.hid (i64_take hkL)
      clear hc
      have hk0 : (0 : Int) ≤ (k : Int) := by omega
      have hk1 : (k : Int) < (n : Int) := by omega
      generalize c.getD k 0 = u at *
      obtain ⟨m, rfl⟩ := Int.eq_ofNat_of_zero_le hur.1
      have e2 : IntKind.u64.wrap (m : Int) = (m : Int) := wrap_u64_nat m (by omega)
      have HLEN : Hid ((F ++ ((3, n) :: (c.take k).flatMap fS)).length ≤ 1000) := Lib.hid (by
        have := fflat_le (f := fS) (n := 1) (xs := c.take k) (fun u _ => by simp [fS])
        have := HF.out
        rw [List.length_append, List.length_cons, List.length_take] at *
        omega)
      have HAD := Lib.hid (madd_any _ base g m 4 wr HX.out HLEN.out (Nat.le_trans HBS.out.1 HC.out.size))
      clear hur
      go_wp2_with fail
      refine HAD.out.mono ?_
      rintro e w2 ⟨rfl, h1, h2⟩
      have HX2 := Lib.hid h1
      have HC2 := Lib.hid (HC.out.trans h2)
      clear h1 h2
      go_wp2_with fail
      go_roundw
      case rel =>
        refine ⟨k + 1, by omega, by go_num, Lib.hid ?_, HC2⟩
        have := HX2.out
        rw [HT.out]
        simpa [fS] using this
      case measure => simp [intOf]; omega
    · obtain rfl : k = n := by omega
      go_wp2_with fail
      go_end0
      refine ⟨rfl, ?_, HC.out⟩
      have := HX.out
      rw [List.take_of_length_le (by rw [HN.out]; exact Nat.le_refl _)] at this
      rw [fSt, HN.out]
      exact this
set_option maxHeartbeats 1000000 in
theorem mbytes_any (F : List (Nat × Nat)) (base g : Nat) (c : List UInt8) (a : Option Addr) (cp : Nat) (w : World) (h : Fst w 81 base g F) (hF : F.length ≤ 700) (hb : base ≤ w.heap.size) (hro : RoQ w g a (u8s c)) (hl : c.length ≤ 200) :
    Calls Tryz.prog 44 #[.pointer (some ⟨g, 0, none⟩), .slice a c.length cp] w fun e w' => e = .returned (.tuple #[]) ∧ Fst w' 81 base g (F ++ fBy c) ∧ Fc base g w w' := by
  have HA := Lib.hid (madd_any F base g c.length 8 w h (by omega) hb)
  have HRO := Lib.hid hro
  have HBS := Lib.hid hb
  have HF := Lib.hid hF
  generalize hN : c.length = n at *
  have HN := Lib.hid hN
  have hn1 : (n : Int) ≤ 200 := by omega
  have e0 : IntKind.u64.wrap (n : Int) = (n : Int) := wrap_u64_nat n (by omega)
  clear h hF hb hro hN
  go_enter Tryz.func44, Tryz.ntmps44
  go_wp2_with fail
  refine HA.out.mono ?_
  rintro e w1 ⟨rfl, h1, h2⟩
  have H1 := Lib.hid h1
  have H2 := Lib.hid h2
  clear h1 h2
  go_wp2_with fail
  go_loopw [13] (fun i wr => ∃ k : Nat, k ≤ n ∧ i = .int .i64 (k : Int) ∧ Hid (Fst wr 81 base g (F ++ ((8, n) :: (c.take k).flatMap fY))) ∧ Hid (Fc base g w wr)) (fun i _ => n - (intOf i).toNat)
  case atStart => exact ⟨0, Nat.zero_le _, rfl, by simpa using H1, H2⟩
  case round =>
    obtain ⟨k, hk, rfl, HX, HC⟩ := hrel
    by_cases hlt : k < n
    · have hkL : k < c.length := by rw [HN.out]; exact hlt
      obtain ⟨b, off, rfl, hb, hc⟩ := (HRO.out.fc HC.out).ro.u8 (show 0 < c.length by omega)
      have e1 := hc k hkL
      have HT := Lib.hid (u8_take hkL)
      clear hc
      have hk0 : (0 : Int) ≤ (k : Int) := by omega
      have hk1 : (k : Int) < (n : Int) := by omega
      generalize c.getD k 0 = u at *
      have hul := u.toNat_lt
      obtain ⟨m, hm⟩ : ∃ m, u.toNat = m := ⟨_, rfl⟩
      rw [hm] at e1 hul
      have HMM := Lib.hid hm
      have e2 : IntKind.u64.wrap (m : Int) = (m : Int) := wrap_u64_nat m (by omega)
      have HLEN : Hid ((F ++ ((8, n) :: (c.take k).flatMap fY)).length ≤ 1000) := Lib.hid (by
        have := fflat_le (f := fY) (n := 1) (xs := c.take k) (fun u _ => by simp [fY])
        have := HF.out
        rw [List.length_append, List.length_cons, List.length_take] at *
        omega)
      have HAD := Lib.hid (madd_any _ base g m 8 wr HX.out HLEN.out (Nat.le_trans HBS.out HC.out.size))
      clear hul hm
      go_wp2_with fail
      refine HAD.out.mono ?_
      rintro e w2 ⟨rfl, h1, h2⟩
      have HX2 := Lib.hid h1
      have HC2 := Lib.hid (HC.out.trans h2)
      clear h1 h2
      go_wp2_with fail
      go_roundw
      case rel =>
        refine ⟨k + 1, by omega, by go_num, Lib.hid ?_, HC2⟩
        have := HX2.out
        rw [HT.out]
        simpa [fY, HMM.out] using this
      case measure => simp [intOf]; omega
    · obtain rfl : k = n := by omega
      go_wp2_with fail
      go_end0
      refine ⟨rfl, ?_, HC.out⟩
      have := HX.out
      rw [List.take_of_length_le (by rw [HN.out]; exact Nat.le_refl _)] at this
      rw [fBy, HN.out]
      exact this
theorem madd_z (F : List (Nat × Nat)) (base g : Nat) (v : Int) (n : Nat) (w : World) (h : Fst w 81 base g F) (hF : F.length ≤ 1000) (hb : base ≤ w.heap.size) (hv : 0 ≤ v) :
    Calls Tryz.prog 92 #[.pointer (some ⟨g, 0, none⟩), .int .u64 v, .int .i64 (n : Int)] w fun e w' => e = .returned (.tuple #[]) ∧ Fst w' 81 base g (F ++ [(n, v.toNat)]) ∧ Fc base g w w' := by
  obtain ⟨m, rfl⟩ := Int.eq_ofNat_of_zero_le hv
  exact madd_any F base g m n w h hF hb
set_option maxHeartbeats 4000000 in
theorem mbacks_any (F : List (Nat × Nat)) (base g : Nat) (L : List Bk) (a : Option Addr) (cp B : Nat) (w : World) (h : Fst w 81 base g F) (hF : F.length ≤ 900) (hb : base ≤ w.heap.size) (hro : Ro w B a (bcs L)) (hB : B ≤ base) (hBg : B ≤ g) (hl : L.length ≤ 16) (hu : ∀ b ∈ L, 0 ≤ b.1 ∧ b.1 < 16) (hf : ∀ b ∈ L, FitB b) :
    Calls Tryz.prog 42 #[.pointer (some ⟨g, 0, none⟩), .slice a L.length cp] w fun e w' => e = .returned (.tuple #[]) ∧ Fst w' 81 base g (F ++ fBks L) ∧ Fc base g w w' := by
  have HA := Lib.hid (madd_any F base g L.length 5 w h (by omega) hb)
  have HRO := Lib.hid hro
  have HBS := Lib.hid (And.intro hb (And.intro hB hBg))
  have HU : Hid (∀ k, k < L.length → (0 ≤ (bk L k).1 ∧ (bk L k).1 < 16) ∧ FitB (bk L k)) := Lib.hid fun k hk => ⟨hu _ (bk_mem hk), hf _ (bk_mem hk)⟩
  have HF := Lib.hid hF
  have HG := Lib.hid h.lt
  have hi0 := ix0
  have hi1 := ix1
  generalize hN : L.length = n at *
  have HN := Lib.hid hN
  have hn1 : (n : Int) ≤ 16 := by omega
  have e0 : IntKind.u64.wrap (n : Int) = (n : Int) := wrap_u64_nat n (by omega)
  clear h hF hb hro hB hBg hu hf hN
  go_enter Tryz.func42, Tryz.ntmps42
  go_wp2_with fail
  refine HA.out.mono ?_
  rintro e w1 ⟨rfl, h1, h2⟩
  have H1 := Lib.hid h1
  have H2 := Lib.hid h2
  clear h1 h2
  go_wp2_with fail
  go_loopw [15] (fun i wr => ∃ k : Nat, k ≤ n ∧ i = .int .i64 (k : Int) ∧ Hid (Fst wr 81 base g (F ++ ((5, n) :: (L.take k).flatMap fBk))) ∧ Hid (Fc base g w wr)) (fun i _ => n - (intOf i).toNat)
  case atStart => exact ⟨0, Nat.zero_le _, rfl, by simpa using H1, H2⟩
  case round =>
    obtain ⟨k, hk, rfl, HX, HC⟩ := hrel
    rename World => w2
    by_cases hlt : k < n
    · have hkL : k < L.length := by rw [HN.out]; exact hlt
      obtain ⟨b, off, rfl, hb, hc⟩ := (HRO.out.below (HC.out.below (Nat.le_trans HBS.out.2.1 HBS.out.1) HBS.out.2.2 HBS.out.2.1) (Nat.le_refl _)).bk (show 0 < L.length by omega)
      obtain ⟨e1, e2, e3⟩ := hc k hkL
      have HUK := Lib.hid (HU.out k hlt)
      have HT := Lib.hid (bk_take hkL)
      clear hc
      have hk0 : (0 : Int) ≤ (k : Int) := by omega
      have hk1 : (k : Int) < (n : Int) := by omega
      generalize bk L k = y at *
      obtain ⟨s, p, q⟩ := y
      simp only at e1 e2 e3
      have HLEN : Hid ((F ++ ((5, n) :: (L.take k).flatMap fBk)).length ≤ 990) := Lib.hid (by
        have := fflat_le (f := fBk) (n := 3) (xs := L.take k) (fun u _ => by simp [fBk])
        have := HF.out
        rw [List.length_append, List.length_cons, List.length_take] at *
        omega)
      obtain ⟨F1, hF1⟩ : ∃ F1, F ++ ((5, n) :: (L.take k).flatMap fBk) = F1 := ⟨_, rfl⟩
      have HF1 := Lib.hid hF1
      rw [hF1] at HX HLEN
      have es : IntKind.u64.wrap s = s := by rw [IntKind.wrap_u64]; have := HUK.out.1; (try simp only at this); omega
      have HSG : Hid (g < w2.heap.size) := Lib.hid HX.out.lt
      have HSB : Hid (base ≤ w2.heap.size) := Lib.hid (Nat.le_trans HBS.out.1 HC.out.size)
      clear hF1
      go_upto_region 4 with fail
      obtain ⟨gs, hgs⟩ : ∃ gs, w2.heap.size = gs := ⟨_, rfl⟩
      obtain ⟨W3, hW3⟩ : ∃ W3, w2.alloc (.cells #[.int .i64 s, .int .u64 (p : Int), .int .u64 (q : Int)] 96) = W3 := ⟨_, rfl⟩
      have HX3 : Hid (Fst W3 81 base g F1) := Lib.hid (by rw [← hW3]; exact HX.out.alloc _)
      have HC3 : Hid (Fc base g w W3) := Lib.hid (by rw [← hW3]; exact HC.out.alloc _)
      have HO3 : Hid (Own W3 gs 96 [.int .i64 s, .int .u64 (p : Int), .int .u64 (q : Int)]) := Lib.hid (by rw [← hW3, ← hgs]; exact Own.new w2 _ _)
      have HGS : Hid (gs ≠ g) := Lib.hid (by have := HSG.out; omega)
      have HS3 : Hid (base ≤ W3.heap.size) := Lib.hid (Nat.le_trans HBS.out.1 HC3.out.size)
      rw [hW3, hgs]
      clear hW3 hgs e1 e2 e3
      have q0 := HO3.out.cell 0
      have hz := HO3.out.lt
      simp at q0
      go_wp2_with fail
      refine (madd_z F1 base g s 4 W3 HX3.out (by have := HLEN.out; omega) HS3.out (by have := HUK.out.1; (try simp only at this); omega)).mono ?_
      rintro e w4 ⟨rfl, h1, h2⟩
      have HX4 := Lib.hid h1
      have HC4 := Lib.hid (HC3.out.trans h2)
      have HO4 := Lib.hid (HO3.out.fc h2 HGS.out (by decide) (by decide))
      have HS4 : Hid (base ≤ w4.heap.size) := Lib.hid (Nat.le_trans HBS.out.1 HC4.out.size)
      clear h1 h2 q0 hz
      have q1 := HO4.out.cell 1
      have q2 := HO4.out.cell 2
      have hz := HO4.out.lt
      simp at q1 q2
      have HFIT := Lib.hid HUK.out.2
      have HP : (p : Int) ≤ 1048576 ∨ 1048576 < (p : Int) := by omega
      have HQ : (q : Int) ≤ 1048576 ∨ 1048576 < (q : Int) := by omega
      rcases HP with hp | hp
      all_goals rcases HQ with hq | hq
      all_goals
        go_wp2_with fail
        refine wp_loop_rounds 3 ?_
        rw [rounds_succ]
        go_wp2_with fail
        refine (madd_z _ base g _ 21 w4 HX4.out (by rw [List.length_append]; have := HLEN.out; simp; omega) HS4.out (by omega)).mono ?_
        rintro e w5 ⟨rfl, h1, h2⟩
        have HX5 := Lib.hid h1
        have HC5 := Lib.hid (HC4.out.trans h2)
        have HS5 : Hid (base ≤ w5.heap.size) := Lib.hid (Nat.le_trans HBS.out.1 HC5.out.size)
        clear h1 h2
        go_wp2_with fail
        rw [rounds_succ]
        go_wp2_with fail
        refine (madd_z _ base g _ 21 w5 HX5.out (by rw [List.length_append, List.length_append]; have := HLEN.out; simp; omega) HS5.out (by omega)).mono ?_
        rintro e w6 ⟨rfl, h1, h2⟩
        have HX6 := Lib.hid h1
        have HC6 := Lib.hid (HC5.out.trans h2)
        clear h1 h2
        go_wp2_with fail
        rw [rounds_succ]
        go_wp2_with fail
        go_roundw
        case rel =>
          refine ⟨k + 1, by omega, by go_num, Lib.hid ?_, HC6⟩
          have := HX6.out
          rw [HT.out, List.flatMap_append, ← List.cons_append, ← List.append_assoc, HF1.out]
          have e : [(s, p, q)].flatMap fBk = [(4, s.toNat), (21, min p 1048576), (21, min q 1048576)] := rfl
          rw [e]
          simp only [List.append_assoc, List.cons_append, List.nil_append] at this
          first | rw [Nat.min_eq_left (show p ≤ 1048576 by omega)] | rw [Nat.min_eq_right (show 1048576 ≤ p by omega)]
          first | rw [Nat.min_eq_left (show q ≤ 1048576 by omega)] | rw [Nat.min_eq_right (show 1048576 ≤ q by omega)]
          first
            | simpa using this
            | (first | rw [show (min (p : Int) 1048576).toNat = p by omega] at this | rw [show (min (p : Int) 1048576).toNat = 1048576 by omega] at this
               first | rw [show (min (q : Int) 1048576).toNat = q by omega] at this | rw [show (min (q : Int) 1048576).toNat = 1048576 by omega] at this
               simpa using this)
        case measure => simp [intOf]; omega
    · obtain rfl : k = n := by omega
      go_wp2_with fail
      go_end0
      refine ⟨rfl, ?_, HC.out⟩
      have := HX.out
      rw [List.take_of_length_le (by rw [HN.out]; exact Nat.le_refl _)] at this
      rw [fBks, HN.out]
      exact this
end Go.Proofs.YteenlkmnadjnpaaGreat
