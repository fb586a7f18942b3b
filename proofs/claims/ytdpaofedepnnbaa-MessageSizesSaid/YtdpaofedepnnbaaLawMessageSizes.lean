/-
  The statement MessageSizes: the walk of its Go text, by the contracts of what it calls.
-/
import Derived.Test.YtdpaofedepnnbaaAlv10
import Derived.Test.YtdpaofedepnnbaaOp10
namespace Go.Proofs.Ytdpaofedepnnbaa
open Go.RowKit Go.Deep Go.Shelf
set_option linter.unusedVariables false
set_option linter.unusedSimpArgs false

theorem me_len {x : Mg} {bs cb lb : List UInt8} (h : IsME x bs) (hc : CB x.c cb) (hl : LB x.ly lb) : bs.length = (154 + 4 * x.st.length + 46 * x.bk.length + 8 * cb.length + 8 * lb.length + 7) / 8 := by
  obtain ⟨cb', lb', h1, h2, h3⟩ := h
  obtain rfl := hc.unique h1
  obtain rfl := hl.unique h2
  have := h3.1
  rw [nat_fw_sum, fMg_sum] at this
  exact this
set_option maxHeartbeats 8000000 in
set_option maxRecDepth 100000 in
theorem messageSizes_any (w : World) {A : MgT} (hA : MgOk w A) :
    Calls Try.prog 8 #[.agg A.cs.toArray] w fun e w' => e = .returned (.bool true) ∧ Below w.heap.size w w' := by
  obtain ⟨W, HWW⟩ : ∃ W, Hid (w.alloc (.cells A.cs.toArray 59) = W) := ⟨_, Lib.hid rfl⟩
  have hWb : Below w.heap.size w W := by rw [← HWW.out]; exact (Below.refl _ _).alloc (Nat.le_refl _) _
  have HO := Lib.hid (show Own W w.heap.size 59 A.cs by rw [← HWW.out]; exact Own.new w _ _)
  have HB := Lib.hid hWb
  have HAL := Lib.hid alive10_any
  have hin := fun (W' : World) (hb : Below w.heap.size w W') => hA.inn.below hb (Nat.le_refl _)
  have HF := Lib.hid (fun (W' : World) (hb : Below w.heap.size w W') => fits10_any A w.heap.size W' (hin W' hb) hb.size hA.fit)
  have HEN := Lib.hid (fun (W' : World) (hb : Below w.heap.size w W') (hr : mright A.x = false) => menc_no A w.heap.size W' (hin W' hb) hb.size hA.fit hr)
  have HEY := Lib.hid (fun (W' : World) (hb : Below w.heap.size w W') (hr : mright A.x = true) => menc_yes A w.heap.size W' (hin W' hb) hb.size hA.fit hr)
  have HCE := Lib.hid (fun (W' : World) (hb : Below w.heap.size w W') => cenc_u A.c A.ca A.cc A.ca2 A.cc2 w.heap.size W' (hin W' hb).d (hin W' hb).b hb.size hA.fit.fb hA.fit.b hA.fit.d)
  have HLE := Lib.hid (fun (W' : World) (hb : Below w.heap.size w W') => lenc_b A.ly w.heap.size W' (hin W' hb).ly hb.size hA.fit.ly)
  simp only [LyT.val] at HLE
  have HMR := Lib.hid (@mright_all A.x)
  have HLEN := Lib.hid (fun (bs cb lb : List UInt8) (h : IsME A.x bs) (hc : CB A.c cb) (hl : LB A.ly.x lb) => me_len h hc hl)
  have hcs : A.x.st = A.st ∧ A.x.bk = A.bk := ⟨rfl, rfl⟩
  rw [hcs.1, hcs.2] at HLEN
  simp only [MgT.val] at *
  clear hWb hA hin hcs
  go_enter Try.func8, Try.ntmps8
  go_upto_region 1 with fail
  rw [HWW.out]
  go_wp2_with (refine wpList_loadMg rfl (.tmp 1) rfl w.heap.size rfl A HO.out ?_)
  refine (HF.out W HB.out).mono ?_
  rintro e w1 ⟨⟨t1, rfl⟩, hb⟩
  have HB1 := Lib.hid (HB.out.trans (hb.mono HB.out.size))
  have HO1 := Lib.hid (HO.out.below hb HO.out.lt)
  clear hb
  go_wp2_with (refine wpList_loadMg rfl (.tmp 1) rfl w.heap.size rfl A HO1.out ?_)
  cases hr : mright A.x with
  | false =>
    refine (HEN.out w1 HB1.out hr).mono ?_
    rintro e w2 ⟨rfl, hb⟩
    have HB2 := Lib.hid (HB1.out.trans (hb.mono HB1.out.size))
    clear hb hr
    cases t1 with
    | false =>
      go_wp2_with fail
      refine (HAL.out w2).mono ?_
      rintro e w3 ⟨rfl, hb⟩
      have HB3 := Lib.hid (HB2.out.trans (hb.mono HB2.out.size))
      clear hb
      go_wp2_with fail
      go_ret
      exact ⟨rfl, HB3.out⟩
    | true =>
      go_wp2_with fail
      refine (HAL.out w2).mono ?_
      rintro e w3 ⟨rfl, hb⟩
      have HB3 := Lib.hid (HB2.out.trans (hb.mono HB2.out.size))
      clear hb
      go_wp2_with fail
      go_ret
      exact ⟨rfl, HB3.out⟩
  | true =>
    refine (HEY.out w1 HB1.out hr).mono ?_
    rintro e w2 ⟨g, cs, rfl, -, he, -, hb⟩
    have HB2 := Lib.hid (HB1.out.trans (hb.mono HB1.out.size))
    have HO2 := Lib.hid (HO1.out.below hb HO1.out.lt)
    have HME := Lib.hid he
    have HRR := Lib.hid (HMR.out hr)
    clear hb hr he
    obtain ⟨nl, hnl⟩ : ∃ n, cs.length = n := ⟨_, rfl⟩
    have HNL := Lib.hid hnl
    rw [hnl]
    clear hnl
    cases t1 with
    | false =>
      go_wp2_with fail
      refine (HAL.out w2).mono ?_
      rintro e w3 ⟨rfl, hb⟩
      have HB3 := Lib.hid (HB2.out.trans (hb.mono HB2.out.size))
      clear hb
      go_wp2_with fail
      go_ret
      exact ⟨rfl, HB3.out⟩
    | true =>
      have c0 := HO2.out.cell 10
      have c1 := HO2.out.cell 11
      have c2 := HO2.out.cell 12
      have hz := HO2.out.lt
      simp [MgT.cs] at c0 c1 c2
      go_wp2_with fail
      refine (HCE.out w2 HB2.out).mono ?_
      rintro e w3 ⟨cb, a3, c3, g3, rfl, hcb, -, hb⟩
      have HB3 := Lib.hid (HB2.out.trans (hb.mono HB2.out.size))
      have HO3 := Lib.hid (HO2.out.below hb HO2.out.lt)
      have HCB := Lib.hid hcb
      clear hb c0 c1 c2 hz hcb
      have c0 := HO3.out.cell 19
      have c1 := HO3.out.cell 20
      have c2 := HO3.out.cell 21
      have hz := HO3.out.lt
      simp [MgT.cs] at c0 c1 c2
      go_wp2_with fail
      refine (HLE.out w3 HB3.out).mono ?_
      rintro e w4 ⟨lb, a4, c4, g4, rfl, hlb, -, hb⟩
      have HB4 := Lib.hid (HB3.out.trans (hb.mono HB3.out.size))
      have HO4 := Lib.hid (HO3.out.below hb HO3.out.lt)
      have HLB := Lib.hid hlb
      clear hb c0 c1 c2 hz hlb
      have c0 := HO4.out.cell 13
      have c1 := HO4.out.cell 14
      have hz := HO4.out.lt
      simp [MgT.cs] at c0 c1
      have hlen := HLEN.out cs cb lb HME.out HCB.out HLB.out
      rw [HNL.out] at hlen
      have h1 : A.st.length ≤ 4 := HRR.out.st.1
      have h2 : A.bk.length ≤ 16 := HRR.out.bk.1
      have h3 := HCB.out.len
      have h4 := HLB.out.len
      obtain ⟨n1, e1⟩ : ∃ n, A.st.length = n := ⟨_, rfl⟩
      obtain ⟨n2, e2⟩ : ∃ n, A.bk.length = n := ⟨_, rfl⟩
      obtain ⟨n3, e3⟩ : ∃ n, cb.length = n := ⟨_, rfl⟩
      obtain ⟨n4, e4⟩ : ∃ n, lb.length = n := ⟨_, rfl⟩
      rw [e1] at hlen h1 c0
      rw [e2] at hlen h2 c1
      rw [e3] at hlen h3 ⊢
      rw [e4] at hlen h4 ⊢
      have HL := Lib.hid hlen
      have HX := Lib.hid (And.intro h1 (And.intro h2 (And.intro h3 h4)))
      have i1 : (n1 : Int) ≤ 4 := by omega
      have i2 : (n2 : Int) ≤ 16 := by omega
      have i3 : (n3 : Int) ≤ 125 := by omega
      have i4 : (n4 : Int) ≤ 59 := by omega
      clear hlen h1 h2 h3 h4 e1 e2 e3 e4
      go_wp2_with fail
      refine (HAL.out w4).mono ?_
      rintro e w5 ⟨rfl, hb⟩
      have HB5 := Lib.hid (HB4.out.trans (hb.mono HB4.out.size))
      clear hb c0 c1 hz
      go_wp2_with fail
      go_ret
      refine ⟨ret_bool ?_, HB5.out⟩
      have := HL.out
      rw [beq_iff_eq]
      omega
end Go.Proofs.Ytdpaofedepnnbaa
