/-
  Right of package message, by its contracts. No claim of its own.
-/
import Derived.Test.YtkdgoopldaoihaaGb8
import Derived.Test.YtkdgoopldaoihaaGb6
import Derived.Deep.Cut
import Derived.Deep.RegionLaw
import Derived.Test.YtkdgoopldaoihaaGb2
import Derived.Test.YtkdgoopldaoihaaGb4
import Derived.Test.YtkdgoopldaoihaaGb5
namespace Go.Proofs.Ytkdgoopldaoihaa
open Go.RowKit Go.Deep Go.Shelf
set_option linter.unusedVariables false
set_option linter.unusedSimpArgs false

end Go.Proofs.Ytkdgoopldaoihaa
namespace Go.Proofs.Ytkdgoopldaoihaa
open Go.RowKit Go.Deep
set_option linter.unusedVariables false
set_option linter.unusedSimpArgs false

set_option maxHeartbeats 1000000 in
theorem ladd_any (F : List (Nat × Nat)) (base g : Nat) (v n : Nat) (w : World) (h : Fst w 52 base g F) (hF : F.length ≤ 1000) (hb : base ≤ w.heap.size) :
    Calls Try.prog 27 #[.pointer (some ⟨g, 0, none⟩), .int .u64 (v : Int), .int .i64 (n : Int)] w fun e w' => e = .returned (.tuple #[]) ∧ Fst w' 52 base g (F ++ [(n, v)]) ∧ Fc base g w w' := by
  obtain ⟨v1, v2, h1, h2, h3⟩ := h
  have c0 := h1.cell 0
  have c1 := h1.cell 1
  have f0 := h1.frozen 0
  have f1 := h1.frozen 1
  have hz := h1.lt
  simp at c0 c1
  have H1 := Lib.hid h1
  have H2 := Lib.hid h2
  have H3 := Lib.hid h3
  have HL1 : Hid ((i64s (fw F)).length ≤ 1000) := Lib.hid (by simpa [i64s] using hF)
  have HL2 : Hid ((u64s (fv F)).length ≤ 1000) := Lib.hid (by simpa [u64s] using hF)
  have HB := Lib.hid hb
  clear h1 h2 h3 hF hb
  go_enter Try.func27, Try.ntmps27
  go_wp2_with (at_builtin; refine wpList_app1g rfl (.tmp 10) (.tmp 12) 36 rfl base 3 (.int .i64 0) 8 Try.underlying36 Try.info_i64 rfl (.int .i64 (n : Int)) rfl v1 (i64s (fw F)) rfl H2.out rfl (by have := HL1.out; omega) (by have := HL1.out; omega) HB.out ?_)
  intro v1' w1 hl1 hc1
  obtain ⟨k1, k2, k3, k4, k5⟩ := Fst.step1 H1.out H2.out H3.out (by decide) (by decide) hl1.out hc1
  obtain ⟨a1, cc1, hv1, _, _⟩ := hl1.out.form
  generalize (i64s (fw F) ++ [Value.int .i64 (n : Int)]).length = n1 at hv1
  subst hv1
  have p0 := k1.frozen 0
  have q0 := k1.cell 0
  have hz1 := k1.lt
  simp at q0
  have K2 := Lib.hid k2
  have K3 := Lib.hid k3
  have K4 := Lib.hid k4
  have K5 := Lib.hid k5
  clear hl1 hc1 k1 k2 k3 k4 k5 c0 c1 f0 f1 hz
  go_upto_region 1 with fail
  generalize w1.setCell ⟨g, 0, none⟩ (.slice a1 n1 cc1) = W1 at *
  have q1 := K2.out.cell 1
  have hz2 := K2.out.lt
  simp at q1
  clear q0 p0 hz1
  go_wp2_with (at_builtin; refine wpList_app1g rfl (.tmp 20) (.tmp 22) 50 rfl base 22 (.int .u64 0) 8 Try.underlying50 Try.info_u64 rfl (.int .u64 (v : Int)) rfl v2 (u64s (fv F)) rfl K4.out rfl (by have := HL2.out; omega) (by have := HL2.out; omega) (Nat.le_trans HB.out K5.out.size) ?_)
  intro v2' w2 hl2 hc2
  obtain ⟨k1, k2, k3, k4, k5⟩ := Fst.step2 K2.out K3.out K4.out (by decide) (by decide) hl2.out hc2
  obtain ⟨a2, cc2, hv2, _, _⟩ := hl2.out.form
  generalize (u64s (fv F) ++ [Value.int .u64 (v : Int)]).length = n2 at hv2
  subst hv2
  have r1 := k1.cell 1
  have p1' := k1.frozen 1
  have hz3 := k1.lt
  simp at r1
  have J2 := Lib.hid k2
  have J3 := Lib.hid k3
  have J4 := Lib.hid k4
  have J5 := Lib.hid k5
  clear hl2 hc2 k1 k2 k3 k4 k5 q1 hz2
  go_wp2_with fail
  go_end0
  refine ⟨rfl, ⟨_, _, J2.out, ?_, ?_⟩, K5.out.trans J5.out⟩
  · have := J3.out
    simpa [fw, i64s] using this
  · have := J4.out
    simpa [fv, u64s] using this
set_option maxHeartbeats 1000000 in
theorem lcount_any (F : List (Nat × Nat)) (base g m : Nat) (w : World) (h : Fst w 52 base g F) (hF : F.length ≤ 1000) (hb : base ≤ w.heap.size) (hm : 1 ≤ m ∧ m ≤ 1000) :
    Calls Try.prog 28 #[.pointer (some ⟨g, 0, none⟩), .int .i64 (m : Int)] w fun e w' => e = .returned (.tuple #[]) ∧ Fst w' 52 base g (F ++ [(2, m - 1)]) ∧ Fc base g w w' := by
  have HA := Lib.hid (ladd_any F base g (m - 1) 2 w h hF hb)
  obtain ⟨q, hq⟩ : ∃ q, m - 1 = q := ⟨_, rfl⟩
  rw [hq] at HA ⊢
  have e1 : wrap64 ((m : Int) - 1) = (q : Int) := by unfold wrap64; omega
  have e3 : IntKind.u64.wrap (q : Int) = (q : Int) := wrap_u64_nat q (by omega)
  have e4 : (m : Int) - 1 = (q : Int) := by omega
  clear h hF hb hq
  go_enter Try.func28, Try.ntmps28
  go_wp2_with fail
  refine HA.out.mono ?_
  rintro e w1 ⟨rfl, h1, h2⟩
  have H1 := Lib.hid h1
  have H2 := Lib.hid h2
  clear h1 h2
  go_wp2_with fail
  go_end0
  exact ⟨rfl, H1.out, H2.out⟩

def fU (u : Int) : List (Nat × Nat) := [(5, u.toNat)]
theorem i64_take {L : List Int} {k : Nat} (h : k < L.length) : L.take (k + 1) = L.take k ++ [L.getD k 0] := by
  have e : L.getD k 0 = L[k] := by simp [List.getD, h]
  rw [List.take_succ_eq_append_getElem h, e]
set_option maxHeartbeats 1000000 in
theorem lchain_any (F : List (Nat × Nat)) (base g : Nat) (c : List Int) (a : Option Addr) (cp B : Nat) (w : World) (h : Fst w 52 base g F) (hF : F.length ≤ 900) (hb : base ≤ w.heap.size) (hro : Ro w B a (i64s c)) (hB : B ≤ base) (hBg : B ≤ g) (hl : 1 ≤ c.length ∧ c.length ≤ 4) (hu : ∀ u ∈ c, 0 ≤ u ∧ u < 32) :
    Calls Try.prog 29 #[.pointer (some ⟨g, 0, none⟩), .slice a c.length cp] w fun e w' => e = .returned (.tuple #[]) ∧ Fst w' 52 base g (F ++ fCh c) ∧ Fc base g w w' := by
  have HA := Lib.hid (lcount_any F base g c.length w h (by omega) hb (by omega))
  have HRO := Lib.hid hro
  have HBS := Lib.hid (And.intro hb (And.intro hB hBg))
  have HU : Hid (∀ k, k < c.length → 0 ≤ c.getD k 0 ∧ c.getD k 0 < 32) := Lib.hid fun k hk => hu _ (by simp [List.getD, hk])
  have HF := Lib.hid hF
  generalize hN : c.length = n at *
  have HN := Lib.hid hN
  have hn1 : (n : Int) ≤ 4 := by omega
  clear h hF hb hro hB hBg hu hN
  go_enter Try.func29, Try.ntmps29
  go_wp2_with fail
  refine HA.out.mono ?_
  rintro e w1 ⟨rfl, h1, h2⟩
  have H1 := Lib.hid h1
  have H2 := Lib.hid h2
  clear h1 h2
  go_wp2_with fail
  go_loopw [12] (fun i wr => ∃ k : Nat, k ≤ n ∧ i = .int .i64 (k : Int) ∧ Hid (Fst wr 52 base g (F ++ ((2, n - 1) :: (c.take k).flatMap fU))) ∧ Hid (Fc base g w wr)) (fun i _ => n - (intOf i).toNat)
  case atStart => exact ⟨0, Nat.zero_le _, rfl, by simpa using H1, H2⟩
  case round =>
    obtain ⟨k, hk, rfl, HX, HC⟩ := hrel
    by_cases hlt : k < n
    · have hkL : k < c.length := by rw [HN.out]; exact hlt
      obtain ⟨b, off, rfl, hb, hc⟩ := (HRO.out.below (HC.out.below (Nat.le_trans HBS.out.2.1 HBS.out.1) HBS.out.2.2 HBS.out.2.1) (Nat.le_refl _)).i64 (show 0 < c.length by omega)
      have e1 := hc k hkL
      have hur := HU.out k hlt
      have HT := Lib.hid (i64_take hkL)
      clear hc
      have hk0 : (0 : Int) ≤ (k : Int) := by omega
      have hk1 : (k : Int) < (n : Int) := by omega
      generalize c.getD k 0 = u at *
      obtain ⟨m, rfl⟩ := Int.eq_ofNat_of_zero_le hur.1
      have e2 : IntKind.u64.wrap (m : Int) = (m : Int) := wrap_u64_nat m (by omega)
      have HLEN : Hid ((F ++ ((2, n - 1) :: (c.take k).flatMap fU)).length ≤ 1000) := Lib.hid (by
        have := fflat_le (f := fU) (n := 1) (xs := c.take k) (fun u _ => by simp [fU])
        have := HF.out
        rw [List.length_append, List.length_cons, List.length_take] at *
        omega)
      have HAD := Lib.hid (ladd_any _ base g m 5 wr HX.out HLEN.out (Nat.le_trans HBS.out.1 HC.out.size))
      clear hur
      go_wp2_with fail
      refine HAD.out.mono ?_
      rintro e w2 ⟨rfl, h1, h2⟩
      have HX2 := Lib.hid h1
      have HC2 := Lib.hid (HC.out.trans h2)
      clear h1 h2
      go_wp2_with fail
      go_roundw
      case rel =>
        refine ⟨k + 1, by omega, by go_num, Lib.hid ?_, HC2⟩
        have := HX2.out
        rw [HT.out]
        simpa [fU] using this
      case measure => simp [intOf]; omega
    · obtain rfl : k = n := by omega
      go_wp2_with fail
      go_end0
      refine ⟨rfl, ?_, HC.out⟩
      have := HX.out
      rw [List.take_of_length_le (by rw [HN.out]; exact Nat.le_refl _)] at this
      rw [fCh, HN.out]
      exact this
end Go.Proofs.Ytkdgoopldaoihaa
namespace Go.Proofs.Ytkdgoopldaoihaa
open Go.RowKit Go.Deep
set_option linter.unusedVariables false
set_option linter.unusedSimpArgs false

theorem u8_take {L : List UInt8} {k : Nat} (h : k < L.length) : L.take (k + 1) = L.take k ++ [L.getD k 0] := by
  have e : L.getD k 0 = L[k] := by simp [List.getD, h]
  rw [List.take_succ_eq_append_getElem h, e]
def fS (s : Int) : List (Nat × Nat) := [(4, s.toNat)]
def fY (b : UInt8) : List (Nat × Nat) := [(8, b.toNat)]
end Go.Proofs.Ytkdgoopldaoihaa
namespace Go.Proofs.Ytkdgoopldaoihaa
open Go.RowKit Go.Deep
set_option linter.unusedVariables false
set_option linter.unusedSimpArgs false

end Go.Proofs.Ytkdgoopldaoihaa
namespace Go.Proofs.Ytkdgoopldaoihaa
open Go.RowKit Go.Deep Go.Shelf
set_option linter.unusedVariables false
set_option linter.unusedSimpArgs false

theorem st_take {L : List SgT} {k : Nat} (h : k < L.length) : L.take (k + 1) = L.take k ++ [st L k] := by
  have e : st L k = L[k] := by simp [st, List.getD, h]
  rw [List.take_succ_eq_append_getElem h, e]
theorem ct_take {L : List ChT} {k : Nat} (h : k < L.length) : L.take (k + 1) = L.take k ++ [ct L k] := by
  have e : ct L k = L[k] := by simp [ct, List.getD, h]
  rw [List.take_succ_eq_append_getElem h, e]
def fSgT (L : List SgT) : List (Nat × Nat) := L.flatMap fun s => fSg s.x
def fChT (L : List ChT) : List (Nat × Nat) := L.flatMap fun c => fCh c.u
theorem fSgT_x (L : List SgT) : fSgT L = (sgx L).flatMap fSg := by simp [fSgT, sgx, List.flatMap_map]
theorem fChT_x (L : List ChT) : fChT L = (chx L).flatMap fCh := by simp [fChT, chx, List.flatMap_map]
theorem fSgT_take {L : List SgT} {k : Nat} (h : k < L.length) : fSgT (L.take (k + 1)) = fSgT (L.take k) ++ ((20, (st L k).f) :: (2, (st L k).ch.length - 1) :: fChT (st L k).ch) := by
  rw [st_take h]
  simp only [fSgT, List.flatMap_append, List.flatMap_cons, List.flatMap_nil, List.append_nil]
  congr 1
  simp only [fSg, SgT.x, fChT_x, chx_length]
theorem fChT_take {L : List ChT} {k : Nat} (h : k < L.length) : fChT (L.take (k + 1)) = fChT (L.take k) ++ fCh (ct L k).u := by
  rw [ct_take h]
  simp [fChT, List.flatMap_append]
/-- segments of a valid layout -/
structure SgV (L : List SgT) : Prop where
  n : 1 ≤ L.length ∧ L.length ≤ 4
  sg : ∀ k, k < L.length → (st L k).f < 1048576 ∧ (1 ≤ (st L k).ch.length ∧ (st L k).ch.length ≤ 4) ∧ ∀ j, j < (st L k).ch.length → (1 ≤ (ct (st L k).ch j).u.length ∧ (ct (st L k).ch j).u.length ≤ 4) ∧ ∀ u ∈ (ct (st L k).ch j).u, 0 ≤ u ∧ u < 32
theorem SgV.of {A : LyT} (h : lright A.x = true) : SgV A.sg := by
  obtain ⟨_, _, h3⟩ := lright_iff.1 h
  obtain ⟨h4, _, h5, _⟩ := sgOk_iff.1 h3
  have hx : A.x.s = sgx A.sg := rfl
  rw [hx, sgx_length] at h4 h5
  refine ⟨h4, fun k hk => ?_⟩
  obtain ⟨h6, h7⟩ := h5 k hk
  rw [sx_sgx] at h6 h7
  obtain ⟨g1, g2, g3, _⟩ := chOk_iff.1 h7
  have hy : (st A.sg k).x.2 = chx (st A.sg k).ch := rfl
  rw [hy] at g1 g2 g3
  rw [chx_length] at g1
  refine ⟨h6, g1, fun j hj => ?_⟩
  have hm : (ct (st A.sg k).ch j).u ∈ chx (st A.sg k).ch := List.mem_map_of_mem (ct_mem hj)
  exact ⟨g2 _ hm, fun u hu => g3 u (List.mem_flatten.2 ⟨_, hm, hu⟩)⟩
theorem fChT_len {L : List ChT} (h : ∀ j, j < L.length → (ct L j).u.length ≤ 4) : (fChT L).length ≤ L.length * 5 := by
  refine fflat_le fun c hc => ?_
  obtain ⟨j, hj, rfl⟩ := List.getElem_of_mem hc
  have := h j hj
  have e : ct L j = L[j] := by simp [ct, List.getD, hj]
  rw [e] at this
  rw [fCh_len]
  omega
theorem ct_take_lt {L : List ChT} {j k : Nat} (h : j < k) : ct (L.take k) j = ct L j := by
  simp [ct, List.getD, List.getElem?_take, h]
theorem fChT_tlen {L : List ChT} (h : ∀ j, j < L.length → (ct L j).u.length ≤ 4) (k : Nat) : (fChT (L.take k)).length ≤ L.length * 5 := by
  have := fChT_len (L := L.take k) (fun j hj => by
    rw [List.length_take] at hj
    rw [ct_take_lt (by omega)]
    exact h j (by omega))
  rw [List.length_take] at this
  omega
theorem SgV.tlen {L : List SgT} (h : SgV L) : ∀ k, k ≤ L.length → (fSgT (L.take k)).length ≤ k * 22
  | 0, _ => by simp [fSgT]
  | k + 1, hk => by
    have ih := h.tlen k (by omega)
    obtain ⟨_, h2, h3⟩ := h.sg k (by omega)
    have := fChT_len (L := (st L k).ch) (fun j hj => by have := (h3 j hj).1; omega)
    rw [fSgT_take (by omega), List.length_append]
    simp only [List.length_cons]
    omega

set_option maxHeartbeats 1000000 in
theorem lenc_no (A : LyT) (B : Nat) (w : World) (h : LyIn w B A) (hB : B ≤ w.heap.size) (hf : SgFit A.sg) (hr : lright A.x = false) :
    Calls Try.prog 7 #[A.val] w fun e w' => e = .returned (.tuple #[.slice none 0 0, .int .i64 91]) ∧ Below w.heap.size w w' := by
  obtain ⟨W, HWW⟩ : ∃ W, Hid (w.alloc (.cells #[.int .u64 (A.e : Int), .slice A.a A.sg.length A.c, .int .i64 A.q] 25) = W) := ⟨_, Lib.hid rfl⟩
  have hWb : Below w.heap.size w W := by rw [← HWW.out]; exact (Below.refl _ _).alloc (Nat.le_refl _) _
  have HR := Lib.hid (lright_any A B W (h.below hWb hB) (Nat.le_trans hB hWb.size) hf)
  rw [hr] at HR
  have HB := Lib.hid hWb
  obtain ⟨ep, a, c, L, q⟩ := A
  simp only [LyT.val] at *
  generalize L.length = n at *
  clear hWb h hB hf hr
  go_enter Try.func7, Try.ntmps7
  go_upto_region 1 with fail
  rw [HWW.out]
  have o1 : Own W w.heap.size 25 [.int .u64 (ep : Int), .slice a n c, .int .i64 q] := by rw [← HWW.out]; exact Own.new w _ _
  have c0 := o1.cell 0
  have c1 := o1.cell 1
  have c2 := o1.cell 2
  have hz := o1.lt
  simp at c0 c1 c2
  clear o1
  go_wp2_with fail
  refine HR.out.mono ?_
  rintro e w1 ⟨rfl, hb⟩
  have HB1 := Lib.hid (HB.out.trans (hb.mono HB.out.size))
  clear hb
  go_wp2_with fail
  go_ret2
  exact ⟨rfl, HB1.out⟩

set_option maxHeartbeats 4000000 in
set_option maxRecDepth 100000 in
theorem lenc_yes (A : LyT) (B : Nat) (w : World) (h : LyIn w B A) (hB : B ≤ w.heap.size) (hf : SgFit A.sg) (hr : lright A.x = true) :
    Calls Try.prog 7 #[A.val] w fun e w' => ∃ (g : Nat) (cs : List UInt8), e = .returned (.tuple #[.slice (some ⟨g, 0, none⟩) cs.length cs.length, .int .i64 0]) ∧ w.heap.size ≤ g ∧ IsLE A.x cs ∧ Own w' g 5 (u8s cs) ∧ Below w.heap.size w w' := by
  obtain ⟨W, HWW⟩ : ∃ W, Hid (w.alloc (.cells #[.int .u64 (A.e : Int), .slice A.a A.sg.length A.c, .int .i64 A.q] 25) = W) := ⟨_, Lib.hid rfl⟩
  have hWb : Below w.heap.size w W := by rw [← HWW.out]; exact (Below.refl _ _).alloc (Nat.le_refl _) _
  have HR := Lib.hid (lright_any A B W (h.below hWb hB) (Nat.le_trans hB hWb.size) hf)
  rw [hr] at HR
  have HV := Lib.hid (SgV.of hr)
  have HOK := Lib.hid (fLy_ok hr)
  have HLN := Lib.hid (fLy_len hr)
  obtain ⟨⟨_, he2⟩, ⟨hq0, hq1⟩, _⟩ := lright_iff.1 hr
  have hxe : A.x.e = A.e := rfl
  have hxq : A.x.q = A.q := rfl
  rw [hxe] at he2
  rw [hxq] at hq0 hq1
  have HF : Hid (fLy A.x = [(21, A.e), (5, A.q.toNat), (2, A.sg.length - 1)] ++ fSgT A.sg) := Lib.hid (by
    have e1 : A.x.s = sgx A.sg := rfl
    unfold fLy
    rw [e1, sgx_length, fSgT_x]
    rfl)
  have HB := Lib.hid hWb
  have HIN := Lib.hid h
  have HBw := Lib.hid hB
  obtain ⟨x, hx⟩ : ∃ x, A.x = x := ⟨_, rfl⟩
  rw [hx] at HOK HLN HF ⊢
  obtain ⟨ep, a, c, L, q⟩ := A
  simp only [LyT.val] at *
  have HN4 := Lib.hid HV.out.n
  generalize hN : L.length = n at *
  have HN := Lib.hid hN
  have o1 : Own W w.heap.size 25 [.int .u64 (ep : Int), .slice a n c, .int .i64 q] := by rw [← HWW.out]; exact Own.new w _ _
  have c0 := o1.cell 0
  have c1 := o1.cell 1
  have c2 := o1.cell 2
  have hz := o1.lt
  simp at c0 c1 c2
  obtain ⟨qn, rfl⟩ := Int.eq_ofNat_of_zero_le hq0
  rw [Int.toNat_natCast] at HF
  have eq1 : IntKind.u64.wrap (qn : Int) = (qn : Int) := wrap_u64_nat qn (by omega)
  have HO := Lib.hid o1
  have hn4 : (n : Int) ≤ 4 := by have := HN4.out; omega
  clear hWb h hB hf hr o1 hxe hxq he2 hq0 hq1 hx hN
  go_enter Try.func7, Try.ntmps7
  go_upto_region 1 with fail
  rw [HWW.out]
  go_wp2_with fail
  refine HR.out.mono ?_
  rintro e w1 ⟨rfl, hb⟩
  have HB1 := Lib.hid (HB.out.trans (hb.mono HB.out.size))
  have HO1 := Lib.hid (HO.out.below hb HO.out.lt)
  have hz1 := HO1.out.lt
  clear hb c0 c1 c2 hz
  go_upto_region 4 with fail
  obtain ⟨g, hg⟩ : ∃ g, w1.heap.size = g := ⟨_, rfl⟩
  obtain ⟨W2, hW2⟩ : ∃ W2, w1.alloc (.cells #[.slice none 0 0, .slice none 0 0] 52) = W2 := ⟨_, rfl⟩
  have HG : Hid (w.heap.size < g) := Lib.hid (by rw [← hg]; exact HO1.out.lt)
  have HS2 : Hid (W2.heap.size = g + 1) := Lib.hid (by rw [← hW2, ← hg]; simp)
  have HX0 : Hid (Fst W2 52 (g + 1) g []) := Lib.hid (by rw [← hW2, ← hg]; exact Fst.new w1 _ _)
  have HB2 : Hid (Below w.heap.size w W2) := Lib.hid (by rw [← hW2]; exact HB1.out.alloc HB1.out.size _)
  have HO2 : Hid (Own W2 w.heap.size 25 [.int .u64 (ep : Int), .slice a n c, .int .i64 (qn : Int)]) := Lib.hid (by rw [← hW2]; exact HO1.out.alloc _)
  rw [hW2, hg]
  clear hW2 hg hz1
  have d0 := HO2.out.cell 0
  simp at d0
  go_wp2_with fail
  refine (ladd_any [] (g + 1) g ep 21 W2 HX0.out (by simp) (by rw [HS2.out]; exact Nat.le_refl _)).mono ?_
  rintro e w3 ⟨rfl, hx3, hc3⟩
  have HX3 := Lib.hid hx3
  have HC3 := Lib.hid hc3
  have HO3 := Lib.hid (HO2.out.fcl hc3 (by have := HG.out; omega) (by have := HG.out; omega))
  have d2 := HO3.out.cell 2
  simp at d2
  clear hx3 hc3 d0
  go_wp2_with fail
  refine (ladd_any _ (g + 1) g qn 5 w3 HX3.out (by simp) (by have := HS2.out; have := HC3.out.size; omega)).mono ?_
  rintro e w4 ⟨rfl, hx4, hc4⟩
  have HX4 := Lib.hid hx4
  have HC4 := Lib.hid (HC3.out.trans hc4)
  have HO4 := Lib.hid (HO3.out.fcl hc4 (by have := HG.out; omega) (by have := HG.out; omega))
  have d1 := HO4.out.cell 1
  simp at d1
  clear hx4 hc4 d2
  go_wp2_with fail
  refine (lcount_any _ (g + 1) g n w4 HX4.out (by simp) (by have := HS2.out; have := HC4.out.size; omega) (by have := HN4.out; omega)).mono ?_
  rintro e w5 ⟨rfl, hx5, hc5⟩
  have HX5 : Hid (Fst w5 52 (g + 1) g ([(21, ep), (5, qn), (2, n - 1)] ++ fSgT (L.take 0))) := Lib.hid (by simpa [fSgT] using hx5)
  have HC5 := Lib.hid (HC4.out.trans hc5)
  have HO5 := Lib.hid (HO4.out.fcl hc5 (by have := HG.out; omega) (by have := HG.out; omega))
  have d1' := HO5.out.cell 1
  simp at d1'
  clear hx5 hc5 d1
  obtain ⟨F0, hF0⟩ : ∃ F0, [(21, ep), (5, qn), (2, n - 1)] = F0 := ⟨_, rfl⟩
  rw [hF0] at HX5 HF
  have HF0 : Hid (F0.length = 3) := Lib.hid (by rw [← hF0]; rfl)
  clear hF0
  go_wp2_with fail
  go_loopw [28] (fun i wr => ∃ k : Nat, k ≤ n ∧ i = .int .i64 (k : Int) ∧ Hid (Fst wr 52 (g + 1) g (F0 ++ fSgT (L.take k))) ∧ Hid (Fc (g + 1) g W2 wr)) (fun i _ => n - (intOf i).toNat)
  case atStart => exact ⟨0, Nat.zero_le _, rfl, HX5, HC5⟩
  case round =>
    obtain ⟨k, hk, rfl, HX, HC⟩ := hrel
    rename World => w6
    have HSZ : Hid (g + 1 ≤ w6.heap.size) := Lib.hid (by have := HC.out.size; have := HS2.out; omega)
    have HBK : Hid (Below w.heap.size w w6) := Lib.hid (HB2.out.trans (HC.out.below HB2.out.size (by have := HG.out; omega) (by have := HG.out; omega)))
    by_cases hlt : k < n
    · have hkL : k < L.length := by rw [HN.out]; exact hlt
      obtain ⟨b, off, rfl, hb, hc⟩ := (HIN.out.1.below HBK.out HBw.out).sg (show 0 < L.length by omega)
      obtain ⟨e1, e2⟩ := hc k hkL
      clear hc
      have hk0 : (0 : Int) ≤ (k : Int) := by omega
      have hk1 : (k : Int) < (n : Int) := by omega
      have HT := Lib.hid (fSgT_take hkL)
      have HVk := Lib.hid (HV.out.sg k hkL)
      have HLk := Lib.hid (HV.out.tlen k (by omega))
      have HI2 := Lib.hid (HIN.out.2 _ (st_mem hkL))
      generalize st L k = sg at *
      obtain ⟨fk, ca, cc, M⟩ := sg
      simp only at e1 e2 HT HVk HI2
      obtain ⟨m, hm⟩ : ∃ m, M.length = m := ⟨_, rfl⟩
      rw [hm] at e2 HT HVk
      have HM := Lib.hid hm
      have hm4 : (m : Int) ≤ 4 := by have := HVk.out.2.1; omega
      clear hm
      go_upto_region 10 with fail
      obtain ⟨gs, hgs⟩ : ∃ gs, w6.heap.size = gs := ⟨_, rfl⟩
      obtain ⟨W7, hW7⟩ : ∃ W7, w6.alloc (.cells #[.int .u64 (fk : Int), .slice ca m cc] 49) = W7 := ⟨_, rfl⟩
      have HGS : Hid (g + 1 ≤ gs) := Lib.hid (by have := HSZ.out; omega)
      have HX7 : Hid (Fst W7 52 (g + 1) g (F0 ++ fSgT (L.take k))) := Lib.hid (by rw [← hW7]; exact HX.out.alloc _)
      have HC7 : Hid (Fc (g + 1) g W2 W7) := Lib.hid (by rw [← hW7]; exact HC.out.alloc _)
      have HO7 : Hid (Own W7 gs 49 [.int .u64 (fk : Int), .slice ca m cc]) := Lib.hid (by rw [← hW7, ← hgs]; exact Own.new w6 _ _)
      rw [hW7, hgs]
      clear hW7 hgs e1 e2
      have q0 := HO7.out.cell 0
      simp at q0
      go_wp2_with fail
      refine (ladd_any _ (g + 1) g fk 20 W7 HX7.out (by rw [List.length_append, HF0.out]; have := HLk.out; omega) (by have := HO7.out.lt; have := HGS.out; omega)).mono ?_
      rintro e w8 ⟨rfl, hx8, hc8⟩
      have HX8 := Lib.hid hx8
      have HC8 := Lib.hid (HC7.out.trans hc8)
      have HO8 := Lib.hid (HO7.out.fc hc8 (by have := HGS.out; omega) (by decide) (by decide))
      have q1 := HO8.out.cell 1
      simp at q1
      clear hx8 hc8 q0
      go_wp2_with fail
      refine (lcount_any _ (g + 1) g m w8 HX8.out (by rw [List.length_append, List.length_append, HF0.out]; have := HLk.out; simp; omega) (by have := HO8.out.lt; have := HGS.out; omega) (by have := HVk.out.2.1; omega)).mono ?_
      rintro e w9 ⟨rfl, hx9, hc9⟩
      obtain ⟨F1, hF1⟩ : ∃ F1, F0 ++ fSgT (L.take k) ++ [(20, fk), (2, m - 1)] = F1 := ⟨_, rfl⟩
      have HX9 : Hid (Fst w9 52 (g + 1) g (F1 ++ fChT (M.take 0))) := Lib.hid (by rw [← hF1]; simpa [fChT] using hx9)
      have HF1 := Lib.hid hF1
      have HL1 : Hid (F1.length ≤ 100) := Lib.hid (by rw [← hF1, List.length_append, List.length_append, HF0.out]; have := HLk.out; simp; omega)
      have HC9 := Lib.hid (HC8.out.trans hc9)
      have HO9 := Lib.hid (HO8.out.fc hc9 (by have := HGS.out; omega) (by decide) (by decide))
      have q1' := HO9.out.cell 1
      simp at q1'
      clear hx9 hc9 q1 hF1
      go_wp2_with fail
      go_loopw [42] (fun i wr => ∃ j : Nat, j ≤ m ∧ i = .int .i64 (j : Int) ∧ Hid (Fst wr 52 (g + 1) g (F1 ++ fChT (M.take j))) ∧ Hid (Fc (g + 1) g W2 wr)) (fun i _ => m - (intOf i).toNat)
      case atStart => exact ⟨0, Nat.zero_le _, rfl, HX9, HC9⟩
      case round =>
        obtain ⟨j, hj, rfl, HXj, HCj⟩ := hrel
        rename World => w10
        have HSj : Hid (g + 1 ≤ w10.heap.size) := Lib.hid (by have := HCj.out.size; have := HS2.out; omega)
        have HBj : Hid (Below w.heap.size w w10) := Lib.hid (HB2.out.trans (HCj.out.below HB2.out.size (by have := HG.out; omega) (by have := HG.out; omega)))
        by_cases hlt2 : j < m
        · have hjL : j < M.length := by rw [HM.out]; exact hlt2
          obtain ⟨b2, off2, rfl, hb2, hc2⟩ := (HI2.out.1.below HBj.out HBw.out).ch (show 0 < M.length by omega)
          have e1 := hc2 j hjL
          clear hc2
          have hj0 : (0 : Int) ≤ (j : Int) := by omega
          have hj1 : (j : Int) < (m : Int) := by omega
          have HTj := Lib.hid (fChT_take hjL)
          have HVj := Lib.hid (HVk.out.2.2 j hlt2)
          have HFj : Hid ((F1 ++ fChT (M.take j)).length ≤ 900) := Lib.hid (by
            have := fChT_tlen (L := M) (fun i hi => (HVk.out.2.2 i (by rw [← HM.out]; exact hi)).1.2) j
            rw [List.length_append]
            have := HL1.out
            have := HM.out
            omega)
          have HIj := Lib.hid (HI2.out.2 _ (ct_mem hjL))
          generalize ct M j = cm at *
          obtain ⟨a3, c3, u3⟩ := cm
          simp only at e1 HTj HVj HIj
          have HCH := Lib.hid (lchain_any _ (g + 1) g u3 a3 c3 B w10 HXj.out HFj.out HSj.out (HIj.out.below HBj.out HBw.out) (by have := HBw.out; have := HG.out; omega) (by have := HBw.out; have := HG.out; omega) HVj.out.1 HVj.out.2)
          generalize u3.length = n3 at *
          go_wp2_with fail
          refine HCH.out.mono ?_
          rintro e w11 ⟨rfl, hx, hc⟩
          have HX11 := Lib.hid hx
          have HC11 := Lib.hid (HCj.out.trans hc)
          clear hx hc
          go_wp2_with fail
          go_roundw
          case rel => exact ⟨j + 1, by omega, by go_num, Lib.hid (by rw [HTj.out, ← List.append_assoc]; exact HX11.out), HC11⟩
          case measure => simp [intOf]; omega
        · obtain rfl : j = m := by omega
          have hXj := HXj.out
          rw [List.take_of_length_le (by rw [HM.out]; exact Nat.le_refl _), ← HF1.out] at hXj
          have HXe : Hid (Fst w10 52 (g + 1) g (F0 ++ fSgT (L.take (k + 1)))) := Lib.hid (by rw [HT.out]; simpa using hXj)
          clear hXj
          go_wp2_with fail
          go_roundw
          case rel => exact ⟨k + 1, by omega, by go_num, HXe, HCj⟩
          case measure => simp [intOf]; omega
    · obtain rfl : k = n := by omega
      have hX := HX.out
      rw [List.take_of_length_le (by rw [HN.out]; exact Nat.le_refl _), ← HF.out] at hX
      obtain ⟨v1, v2, h1, h2, h3⟩ := hX
      have q0 := h1.cell 0
      have q1 := h1.cell 1
      have hzg := h1.lt
      simp at q0 q1
      obtain ⟨a1, cc1, rfl, r1, _, _⟩ := h2.form
      obtain ⟨a2, cc2, rfl, r2, _, _⟩ := h3.form
      have HP := Lib.hid (pack_yes (fw (fLy x)) (fv (fLy x)) a1 a2 cc1 cc2 w6.heap.size w6 r1 r2 (Nat.le_refl _) (by rw [fw_length]; have := HLN.out; omega) HOK.out.pack)
      simp only [i64s_length, u64s_length, fw_length, fv_length] at q0 q1 HP
      generalize (fLy x).length = ln at *
      clear h1 h2 h3 r1 r2
      go_wp2_with fail
      refine HP.out.mono ?_
      rintro e w7 ⟨g7, cs, rfl, hg7, hpk, ho7, hb7⟩
      have HE := Lib.hid (And.intro hg7 (And.intro hpk (And.intro ho7 (HBK.out.trans (hb7.mono HBK.out.size)))))
      clear hg7 hpk ho7 hb7
      go_wp2_with fail
      go_ret2
      exact ⟨g7, cs, rfl, Nat.le_trans HBK.out.size HE.out.1, HE.out.2.1, HE.out.2.2.1, HE.out.2.2.2⟩
end Go.Proofs.Ytkdgoopldaoihaa
namespace Go.Proofs.Ytkdgoopldaoihaa
open Go.RowKit Go.Deep
set_option linter.unusedVariables false
set_option linter.unusedSimpArgs false

theorem Lst.cap_le {w : World} {base : Nat} {e : TypeId} {a : Option Addr} {n c : Nat} {xs : List Value} (h : Lst w base e (.slice a n c) xs) : c ≤ maxLen := by
  unfold Lst at h
  rcases h.2 with ⟨h1, _⟩ | ⟨g, cap, cur, h1, _, _, _, h2, _⟩
  · injection h1 with _ _ h3; subst h3; decide
  · injection h1 with _ _ h3; subst h3; exact h2
theorem vals_take (x : Ce) (k : Nat) (h : k < x.b.length) : (headN x.b.length x.d.length :: (x.b.take (k + 1)).map fieldN) = (headN x.b.length x.d.length :: (x.b.take k).map fieldN) ++ [fieldN (bk x.b k)] := by
  rw [bk_take h]; simp
end Go.Proofs.Ytkdgoopldaoihaa
