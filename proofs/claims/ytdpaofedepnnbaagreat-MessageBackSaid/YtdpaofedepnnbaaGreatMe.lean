/-
  Encode of package message, by its contracts. No claim of its own.
-/
import Derived.Test.YtdpaofedepnnbaaGreatMrt
import Derived.Test.YtdpaofedepnnbaaGreatMh
import Derived.Test.YtdpaofedepnnbaaGreatLe
import Derived.Test.YtdpaofedepnnbaaGreatCeD
import Derived.Deep.MidRow
namespace Go.Proofs.YtdpaofedepnnbaaGreat
open Go.RowKit Go.Deep Go.Shelf
set_option linter.unusedVariables false
set_option linter.unusedSimpArgs false

theorem Own.roq {w : World} {g b n : Nat} {T : TypeId} {vs cs : List Value} (h : Own w b 5 vs) (hg : Own w g T cs) (hT : T ≠ 5) : RoQ w g (some ⟨b, 0, none⟩) vs := by
  refine .inr ⟨b, 0, rfl, h.lt, fun e => ?_, h.quiT (by decide) (by decide), fun i hi => ?_⟩
  · subst e
    unfold Own at h hg
    rw [h] at hg
    injection hg with hg
    injection hg with _ hg _
    exact hT hg.symm
  · rw [Nat.zero_add, h.cell i]
    simp [List.getD, hi]
theorem Lst.roq {w : World} {base g n c : Nat} {a : Option Addr} {T : TypeId} {vs cs : List Value} (h : Lst w base 5 (.slice a n c) vs) (hg : Own w g T cs) (hT : T ≠ 5) : RoQ w g a vs := by
  obtain ⟨a', c', he, hr, _⟩ := h.form
  injection he with h1 _ _
  subst h1
  rcases hr with hr | ⟨b, off, h1, h2, h3⟩
  · exact .inl hr
  · rcases h.2 with ⟨hv, _⟩ | ⟨k, cap, cur, hv, _, hh, _⟩
    · injection hv with hv _ _
      rw [hv] at h1; cases h1
    · injection hv with hv _ _
      rw [hv] at h1
      injection h1 with h1
      injection h1 with h1 h1' _
      subst h1
      refine .inr ⟨k, off, by rw [hv, h1'], h2, fun e => ?_, fun cur' => ⟨fun e => ?_, fun e => ?_⟩, h3⟩
      · subst e
        unfold Own at hg
        rw [hh] at hg
        injection hg with hg
        injection hg with _ hg _
        exact hT hg.symm
      · rw [hh] at e
        injection e with e
        injection e with _ e _
        exact absurd e (by decide)
      · rw [hh] at e
        injection e with e
        injection e with _ e _
        exact absurd e (by decide)
/-- Encode of a cell, valid or not -/
theorem cenc_u (x : Ce) (a : Option Addr) (c : Nat) (a2 : Option Addr) (c2 B : Nat) (w : World) (hro0 : Ro w B a (u8s x.d)) (hro : Ro w B a2 (bcs x.b)) (hB : B ≤ w.heap.size) (hfit : ∀ b ∈ x.b, FitB b) (hl : x.b.length ≤ 9223372036854775807) (hl2 : x.d.length ≤ 9223372036854775807) :
    Calls Tryz.prog 22 #[cev x.k a x.d.length c a2 x.b.length c2] w fun e w' => ∃ bs a' c' g, e = .returned (.tuple #[.slice a' bs.length c', .int .i64 g]) ∧ CB x bs ∧ (∀ g T cs, Own w' g T cs → T ≠ 5 → RoQ w' g a' (u8s bs)) ∧ Below w.heap.size w w' := by
  cases hr : right x with
  | false =>
    refine (enc_no x a c a2 c2 B w hro hB hl hl2 hr).mono ?_
    rintro e w' ⟨rfl, hb⟩
    exact ⟨[], none, 0, 71, rfl, .inr ⟨hr, rfl⟩, fun _ _ _ _ _ => .inl rfl, hb⟩
  | true =>
    rcases right_kind hr with hk | hk
    · have := enc_data x a c a2 c2 B w hro0 hro hB hfit hk hr
      rw [← hk] at this
      refine this.mono ?_
      rintro e w' ⟨bs, a', c', rfl, he, _, _, hb, hl⟩
      exact ⟨bs, a', c', 0, rfl, .inl ⟨hr, he⟩, fun g T cs hg hT => hl.roq hg hT, hb⟩
    · obtain rfl := right_junk hr hk
      refine (enc_junk a c a2 c2 w).mono ?_
      rintro e w' ⟨g, rfl, ho, hb⟩
      exact ⟨[2], some ⟨g, 0, none⟩, 1, 0, rfl, .inl ⟨rfl, .inl ⟨rfl, rfl⟩⟩, fun g' T cs hg hT => ho.roq (n := 0) hg hT, hb⟩
theorem lenc_b (A : LyT) (B : Nat) (w : World) (h : LyIn w B A) (hB : B ≤ w.heap.size) (hf : SgFit A.sg) :
    Calls Tryz.prog 24 #[A.val] w fun e w' => ∃ bs a' c' g, e = .returned (.tuple #[.slice a' bs.length c', .int .i64 g]) ∧ LB A.x bs ∧ (∀ g T cs, Own w' g T cs → T ≠ 5 → RoQ w' g a' (u8s bs)) ∧ Below w.heap.size w w' := by
  cases hr : lright A.x with
  | false =>
    refine (lenc_no A B w h hB hf hr).mono ?_
    rintro e w' ⟨rfl, hb⟩
    exact ⟨[], none, 0, 91, rfl, .inr ⟨hr, rfl⟩, fun _ _ _ _ _ => .inl rfl, hb⟩
  | true =>
    refine (lenc_yes A B w h hB hf hr).mono ?_
    rintro e w' ⟨g, cs, rfl, _, he, ho, hb⟩
    exact ⟨cs, _, _, 0, rfl, .inl ⟨hr, he⟩, fun g' T cs' hg hT => ho.roq (n := 0) hg hT, hb⟩

theorem infoMg : (Tryz.prog.info? 40).map (·.size) = some 22 := by kernel_rfl
theorem Own.range {w : World} {b : Nat} {t : TypeId} {cs : List Value} (h : Own w b t cs) : w.rangeAt b 0 cs := fun j v hv => by
  rw [Nat.zero_add, h.cell j]; exact hv
/-- a message is loaded whole -/
theorem wpList_loadMg {ops : Array Oper} {rest : List Oper} {o : Oper} {a : Act} {w : World} {Q : Exit → Act → World → Prop} (hgd : o.guard = none) (x : Operand) (ho : o.op = .load 40 x) (b : Nat) (hx : a.eval x = .pointer (some ⟨b, 0, none⟩)) (A : MgT) (hr : Own w b 40 A.cs)
    (h : wpList Tryz.prog ops Q rest (a.put o.dst (.agg A.cs.toArray)) w) : wpList Tryz.prog ops Q (o :: rest) a w :=
  wpList_load_mid hgd _ x ho b 0 hx A.cs _ hr.range Tryz.underlying40 rfl infoMg h

set_option maxHeartbeats 4000000 in
theorem menc_no (A : MgT) (B : Nat) (w : World) (h : MgIn w B A) (hB : B ≤ w.heap.size) (hf : MgFit A) (hr : mright A.x = false) :
    Calls Tryz.prog 7 #[A.val] w fun e w' => e = .returned (.tuple #[.slice none 0 0, .int .i64 101]) ∧ Below w.heap.size w w' := by
  obtain ⟨W, HWW⟩ : ∃ W, Hid (w.alloc (.cells A.cs.toArray 40) = W) := ⟨_, Lib.hid rfl⟩
  have hWb : Below w.heap.size w W := by rw [← HWW.out]; exact (Below.refl _ _).alloc (Nat.le_refl _) _
  have HO := Lib.hid (show Own W w.heap.size 40 A.cs by rw [← HWW.out]; exact Own.new w _ _)
  have HB := Lib.hid hWb
  have HR := Lib.hid (mright_any A B W (h.below hWb hB) (Nat.le_trans hB hWb.size) hf)
  rw [hr] at HR
  simp only [MgT.val] at *
  clear hWb h hB hf hr
  go_enter Tryz.func7, Tryz.ntmps7
  go_upto_region 1 with fail
  rw [HWW.out]
  go_wp2_with (refine wpList_loadMg rfl (.tmp 1) rfl w.heap.size rfl A HO.out ?_)
  refine HR.out.mono ?_
  rintro e w1 ⟨rfl, hb⟩
  have HB1 := Lib.hid (HB.out.trans (hb.mono HB.out.size))
  clear hb
  go_wp2_with fail
  go_ret2
  exact ⟨rfl, HB1.out⟩

set_option maxHeartbeats 8000000 in
set_option maxRecDepth 100000 in
theorem menc_yes (A : MgT) (B : Nat) (w : World) (h : MgIn w B A) (hB : B ≤ w.heap.size) (hf : MgFit A) (hr : mright A.x = true) :
    Calls Tryz.prog 7 #[A.val] w fun e w' => ∃ (g : Nat) (cs : List UInt8), e = .returned (.tuple #[.slice (some ⟨g, 0, none⟩) cs.length cs.length, .int .i64 0]) ∧ w.heap.size ≤ g ∧ IsME A.x cs ∧ Own w' g 5 (u8s cs) ∧ Below w.heap.size w w' := by
  obtain ⟨W, HWW⟩ : ∃ W, Hid (w.alloc (.cells A.cs.toArray 40) = W) := ⟨_, Lib.hid rfl⟩
  have hWb : Below w.heap.size w W := by rw [← HWW.out]; exact (Below.refl _ _).alloc (Nat.le_refl _) _
  have HO := Lib.hid (show Own W w.heap.size 40 A.cs by rw [← HWW.out]; exact Own.new w _ _)
  have HB := Lib.hid hWb
  have HR := Lib.hid (mright_any A B W (h.below hWb hB) (Nat.le_trans hB hWb.size) hf)
  rw [hr] at HR
  have hm := mright_all hr
  have HIN := Lib.hid (fun (W' : World) (hb : Below w.heap.size w W') => h.below hb hB)
  have HBW := Lib.hid hB
  have HHD := Lib.hid (fun (base g : Nat) (W' : World) (h1 : Fst W' 55 base g []) (h2 : base ≤ W'.heap.size) => mhead_any A base g W' h1 h2 hm)
  have HST := Lib.hid (fun (F : List (Nat × Nat)) (base g : Nat) (W' : World) (h1 : Fst W' 55 base g F) (h2 : F.length ≤ 900) (h3 : base ≤ W'.heap.size) (h4 : Below w.heap.size w W') (h5 : B ≤ base) (h6 : B ≤ g) => mstreams_any F base g A.st A.sa A.sc B W' h1 h2 h3 (HIN.out W' h4).st h5 h6 hm.st.1 hm.st.2)
  have HBK := Lib.hid (fun (F : List (Nat × Nat)) (base g : Nat) (W' : World) (h1 : Fst W' 55 base g F) (h2 : F.length ≤ 900) (h3 : base ≤ W'.heap.size) (h4 : Below w.heap.size w W') (h5 : B ≤ base) (h6 : B ≤ g) => mbacks_any F base g A.bk A.ka A.kc B W' h1 h2 h3 (HIN.out W' h4).bk h5 h6 hm.bk.1 (fun b hb => ⟨(hm.bk.2 b hb).1, (hm.bk.2 b hb).2.1⟩) hf.fk)
  have HCE := Lib.hid (fun (W' : World) (hb : Below w.heap.size w W') => cenc_u A.c A.ca A.cc A.ca2 A.cc2 B W' (HIN.out W' hb).d (HIN.out W' hb).b (Nat.le_trans hB hb.size) hf.fb hf.b hf.d)
  have HLE := Lib.hid (fun (W' : World) (hb : Below w.heap.size w W') => lenc_b A.ly B W' (HIN.out W' hb).ly (Nat.le_trans hB hb.size) hf.ly)
  have HMG : Hid (∀ cb lb, CB A.x.c cb → LB A.x.ly lb → FOk (fMg A.x cb lb) ∧ (fMg A.x cb lb).length ≤ 300 ∧ fMg A.x cb lb = fHd A.x ++ fSt A.st ++ fBks A.bk ++ fBy cb ++ fBy lb) := Lib.hid (fun cb lb h1 h2 => ⟨fMg_ok hm h1 h2, fMg_len hm h1 h2, by simp [fMg, MgT.x]⟩)
  have HLN : Hid ((fHd A.x ++ fSt A.st ++ fBks A.bk).length ≤ 200) := Lib.hid (by
    have e1 := fflat_le (f := fun s : Int => [(4, s.toNat)]) (n := 1) (xs := A.st) (fun u _ => by simp)
    have e2 := fflat_le (f := fBk) (n := 3) (xs := A.bk) (fun u _ => by simp [fBk])
    have e3 : A.st.length ≤ 4 := hm.st.1
    have e4 : A.bk.length ≤ 16 := hm.bk.1
    have e5 : (fHd A.x).length = 14 := rfl
    unfold fSt fBks
    simp only [List.length_append, List.length_cons]
    omega)
  simp only [MgT.val] at *
  have HMS : Hid (∀ (W' : World) (b : Nat), Own W' b 40 A.cs → (W'.cell? ⟨b, 13, none⟩ = some (.slice A.sa A.st.length A.sc) ∧ W'.cell? ⟨b, 14, none⟩ = some (.slice A.ka A.bk.length A.kc)) ∧ (W'.cell? ⟨b, 10, none⟩ = some (.int .i64 A.c.k) ∧ W'.cell? ⟨b, 11, none⟩ = some (.slice A.ca A.c.d.length A.cc) ∧ W'.cell? ⟨b, 12, none⟩ = some (.slice A.ca2 A.c.b.length A.cc2)) ∧ W'.cell? ⟨b, 19, none⟩ = some (.int .u64 (A.ly.e : Int)) ∧ W'.cell? ⟨b, 20, none⟩ = some (.slice A.ly.a A.ly.sg.length A.ly.c) ∧ W'.cell? ⟨b, 21, none⟩ = some (.int .i64 A.ly.q)) := Lib.hid (fun W' b h => ⟨⟨h.cell 13, h.cell 14⟩, ⟨h.cell 10, h.cell 11, h.cell 12⟩, h.cell 19, h.cell 20, h.cell 21⟩)
  simp only [LyT.val] at HLE
  have HME : Hid (∀ cb lb bs, CB A.x.c cb → LB A.x.ly lb → IsPack (fw (fMg A.x cb lb)) (fv (fMg A.x cb lb)) bs → IsME A.x bs) := Lib.hid (fun cb lb bs h1 h2 h3 => ⟨cb, lb, h1, h2, h3⟩)
  have HCX : Hid (A.x.c = A.c ∧ A.x.ly = A.ly.x) := Lib.hid ⟨rfl, rfl⟩
  clear hWb h hf hr hm HIN hB
  go_enter Tryz.func7, Tryz.ntmps7
  go_upto_region 1 with fail
  rw [HWW.out]
  go_wp2_with (refine wpList_loadMg rfl (.tmp 1) rfl w.heap.size rfl A HO.out ?_)
  refine HR.out.mono ?_
  rintro e w1 ⟨rfl, hb⟩
  have HB1 := Lib.hid (HB.out.trans (hb.mono HB.out.size))
  have HO1 := Lib.hid (HO.out.below hb HO.out.lt)
  clear hb
  go_upto_region 4 with fail
  obtain ⟨g, hg⟩ : ∃ g, w1.heap.size = g := ⟨_, rfl⟩
  obtain ⟨W2, hW2⟩ : ∃ W2, w1.alloc (.cells #[.slice none 0 0, .slice none 0 0] 55) = W2 := ⟨_, rfl⟩
  have HG : Hid (w.heap.size < g) := Lib.hid (by rw [← hg]; exact HO1.out.lt)
  have HS2 : Hid (W2.heap.size = g + 1) := Lib.hid (by rw [← hW2, ← hg]; simp)
  have HX2 : Hid (Fst W2 55 (g + 1) g []) := Lib.hid (by rw [← hW2, ← hg]; exact Fst.new w1 _ _)
  have HB2 : Hid (Below w.heap.size w W2) := Lib.hid (by rw [← hW2]; exact HB1.out.alloc HB1.out.size _)
  have HO2 : Hid (Own W2 w.heap.size 40 A.cs) := Lib.hid (by rw [← hW2]; exact HO1.out.alloc _)
  have HBG : Hid (B ≤ g) := Lib.hid (by have := HBW.out; have := HG.out; omega)
  have HFB : Hid (∀ W', Fc (g + 1) g W2 W' → Below w.heap.size w W' ∧ g + 1 ≤ W'.heap.size) := Lib.hid (fun W' h => ⟨HB2.out.trans (h.below HB2.out.size (by have := HG.out; omega) (by have := HG.out; omega)), by have := h.size; have := HS2.out; omega⟩)
  rw [hW2, hg]
  clear hW2 hg
  go_wp2_with (refine wpList_loadMg rfl (.tmp 1) rfl w.heap.size rfl A HO2.out ?_)
  refine (HHD.out (g + 1) g W2 HX2.out (by rw [HS2.out]; exact Nat.le_refl _)).mono ?_
  rintro e w3 ⟨rfl, h1, h2⟩
  have HX3 := Lib.hid h1
  have HC3 := Lib.hid h2
  have HO3 := Lib.hid (HO2.out.fcl h2 (by have := HG.out; omega) (by have := HG.out; omega))
  clear h1 h2
  obtain ⟨⟨q0, q1⟩, -, -⟩ := HMS.out w3 _ HO3.out
  go_wp2_with fail
  refine (HST.out _ (g + 1) g w3 HX3.out (by have := HLN.out; simp only [List.length_append] at this; omega) (HFB.out _ HC3.out).2 (HFB.out _ HC3.out).1 (by have := HBG.out; omega) HBG.out).mono ?_
  rintro e w4 ⟨rfl, h1, h2⟩
  have HX4 := Lib.hid h1
  have HC4 := Lib.hid (HC3.out.trans h2)
  have HO4 := Lib.hid (HO3.out.fcl h2 (by have := HG.out; omega) (by have := HG.out; omega))
  clear h1 h2 q0 q1
  obtain ⟨⟨q0, q1⟩, -, -⟩ := HMS.out w4 _ HO4.out
  go_wp2_with fail
  refine (HBK.out _ (g + 1) g w4 HX4.out (by have := HLN.out; simp only [List.length_append] at this ⊢; omega) (HFB.out _ HC4.out).2 (HFB.out _ HC4.out).1 (by have := HBG.out; omega) HBG.out).mono ?_
  rintro e w5 ⟨rfl, h1, h2⟩
  have HX5 := Lib.hid h1
  have HC5 := Lib.hid (HC4.out.trans h2)
  have HO5 := Lib.hid (HO4.out.fcl h2 (by have := HG.out; omega) (by have := HG.out; omega))
  clear h1 h2 q0 q1
  obtain ⟨-, ⟨q0, q1, q2⟩, -⟩ := HMS.out w5 _ HO5.out
  go_wp2_with fail
  refine (HCE.out w5 (HFB.out _ HC5.out).1).mono ?_
  rintro e w6 ⟨cb, a6, c6, g6, rfl, hcb, hroq, hb⟩
  have HX6 := Lib.hid (HX5.out.below hb)
  have HC6 := Lib.hid (HC5.out.trans (.of_below hb))
  have HO6 := Lib.hid (HO5.out.below hb HO5.out.lt)
  have HCB : Hid (CB A.x.c cb) := Lib.hid (by rw [HCX.out.1]; exact hcb)
  have HRQ := Lib.hid (by obtain ⟨v1, v2, o1, _⟩ := HX6.out; exact hroq g 55 _ o1 (by decide))
  clear hb hcb hroq q0 q1 q2
  have HCL := Lib.hid HCB.out.len
  obtain ⟨ncb, hncb⟩ : ∃ n, cb.length = n := ⟨_, rfl⟩
  have HNCB := Lib.hid hncb
  rw [hncb]
  clear hncb
  go_wp2_with fail
  have HAB := Lib.hid (mbytes_any _ (g + 1) g cb a6 c6 w6 HX6.out (by have := HLN.out; omega) (HFB.out _ HC6.out).2 HRQ.out (by have := HCL.out; omega))
  rw [HNCB.out] at HAB
  refine HAB.out.mono ?_
  rintro e w7 ⟨rfl, h1, h2⟩
  have HX7 := Lib.hid h1
  have HC7 := Lib.hid (HC6.out.trans h2)
  have HO7 := Lib.hid (HO6.out.fcl h2 (by have := HG.out; omega) (by have := HG.out; omega))
  clear h1 h2 HAB
  obtain ⟨-, -, q0, q1, q2⟩ := HMS.out w7 _ HO7.out
  go_wp2_with fail
  refine (HLE.out w7 (HFB.out _ HC7.out).1).mono ?_
  rintro e w8 ⟨lb, a8, c8, g8, rfl, hlb, hroq, hb⟩
  have HX8 := Lib.hid (HX7.out.below hb)
  have HC8 := Lib.hid (HC7.out.trans (.of_below hb))
  have HLB : Hid (LB A.x.ly lb) := Lib.hid (by rw [HCX.out.2]; exact hlb)
  have HRQ2 := Lib.hid (by obtain ⟨v1, v2, o1, _⟩ := HX8.out; exact hroq g 55 _ o1 (by decide))
  clear hb hlb hroq q0 q1 q2
  have HLL := Lib.hid HLB.out.len
  obtain ⟨nlb, hnlb⟩ : ∃ n, lb.length = n := ⟨_, rfl⟩
  have HNLB := Lib.hid hnlb
  rw [hnlb]
  clear hnlb
  go_wp2_with fail
  obtain ⟨HOK, HLEN, HEQ⟩ := HMG.out cb lb HCB.out HLB.out
  have HAB := Lib.hid (mbytes_any _ (g + 1) g lb a8 c8 w8 HX8.out (by
    have := HLEN
    rw [HEQ] at this
    rw [List.length_append] at this
    omega) (HFB.out _ HC8.out).2 HRQ2.out (by have := HLL.out; omega))
  rw [HNLB.out] at HAB
  rw [← HEQ] at HAB
  have HPOK := Lib.hid HOK
  have HPLN := Lib.hid HLEN
  clear HOK HLEN HEQ
  refine HAB.out.mono ?_
  rintro e w9 ⟨rfl, h1, h2⟩
  have HC9 := Lib.hid (HC8.out.trans h2)
  obtain ⟨v1, v2, o1, o2, o3⟩ := h1
  have q0 := o1.cell 0
  have q1 := o1.cell 1
  have hzg := o1.lt
  simp at q0 q1
  obtain ⟨b1, cc1, rfl, r1, _, _⟩ := o2.form
  obtain ⟨b2, cc2, rfl, r2, _, _⟩ := o3.form
  have HP := Lib.hid (pack_yes (fw (fMg A.x cb lb)) (fv (fMg A.x cb lb)) b1 b2 cc1 cc2 w9.heap.size w9 r1 r2 (Nat.le_refl _) (by rw [fw_length]; have := HPLN.out; omega) HPOK.out.pack)
  have HME2 := Lib.hid (fun bs => HME.out cb lb bs HCB.out HLB.out)
  simp only [i64s_length, u64s_length, fw_length, fv_length] at q0 q1 HP
  generalize (fMg A.x cb lb).length = ln at *
  clear o1 o2 o3 r1 r2 h2 HAB
  go_wp2_with fail
  refine HP.out.mono ?_
  rintro e w10 ⟨g7, cs, rfl, hg7, hpk, ho7, hb7⟩
  have HE := Lib.hid (And.intro (Nat.le_trans (HFB.out _ HC9.out).1.size hg7) (And.intro (HME2.out cs hpk) (And.intro ho7 ((HFB.out _ HC9.out).1.trans (hb7.mono (HFB.out _ HC9.out).1.size)))))
  clear hg7 hpk ho7 hb7
  go_wp2_with fail
  go_ret2
  exact ⟨g7, cs, rfl, HE.out.1, HE.out.2.1, HE.out.2.2.1, HE.out.2.2.2⟩
end Go.Proofs.YtdpaofedepnnbaaGreat
