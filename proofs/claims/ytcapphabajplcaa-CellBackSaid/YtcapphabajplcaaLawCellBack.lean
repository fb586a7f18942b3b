/-
  The statement CellBack: the walk of its Go text, by the contracts of what it calls.
-/
import Derived.Test.YtcapphabajplcaaOp7
import Derived.Test.YtcapphabajplcaaAlv7
namespace Go.Proofs.Ytcapphabajplcaa
open Go.RowKit Go.Deep
set_option linter.unusedVariables false
set_option linter.unusedSimpArgs false

theorem num_head (bs : List UInt8) : num bs 0 12 / 1024 = num bs 0 2 := by
  have h := num_add bs 0 2 10
  have h2 := num_lt bs (0 + 2) 10
  rw [show (2 + 10 : Nat) = 12 by rfl] at h
  omega
/-- no valid cell's bytes begin another one's -/
theorem enc_prefix {x z : Ce} {bs ext : List UInt8} (hx : right x = true) (h1 : IsEnc x bs) (hz : right z = true) (h2 : IsEnc z (bs ++ ext)) : ext = [] := by
  rcases right_kind hx with kx | kx <;> rcases right_kind hz with kz | kz
  · have d1 := dec_of_enc h1 hx kx
    have d2 := dec_of_enc h2 hz kz
    obtain ⟨a1, a2, a3, a4, a5⟩ := d1
    obtain ⟨b1, b2, b3, b4, b5⟩ := d2
    have e : num (bs ++ ext) 0 12 = num bs 0 12 := num_left _ _ _ _ (by omega)
    have l1 := a4.2.1
    have l2 := b4.2.1
    rw [wid_sum, List.length_take] at l1 l2
    have ec : cntOf (bs ++ ext) = cntOf bs := by unfold cntOf; rw [e]
    rw [ec] at l2
    unfold begOf at l1 l2
    rw [e, List.length_append] at l2
    rw [e, List.length_append] at b3
    apply List.eq_nil_of_length_eq_zero
    omega
  · have l1 := enc_length h1 hx
    have l2 := enc_length h2 hz
    rw [List.length_append] at l2
    omega
  · obtain rfl := right_junk hx kx
    rcases h1 with ⟨_, rfl⟩ | ⟨h, _⟩
    · have d2 := dec_of_enc h2 hz kz
      have h := d2.2.1
      rw [num_head, ← num_take _ 1 _ _ (by omega)] at h
      have e : ([2] ++ ext : List UInt8).take 1 = [2] := rfl
      rw [e] at h
      exact absurd h (by decide)
    · simp at h
  · have l1 := enc_length h1 hx
    have l2 := enc_length h2 hz
    rw [List.length_append] at l2
    apply List.eq_nil_of_length_eq_zero
    omega
theorem fit_right {x : Ce} (h : right x = true) : ∀ b ∈ x.b, FitB b := by
  intro b hb
  rcases right_kind h with k | k
  · obtain ⟨_, _, h3⟩ := right_data h k
    obtain ⟨i, hi, rfl⟩ := List.getElem_of_mem hb
    have h4 := backsOk_at h3 i hi
    have e : bk x.b i = x.b[i] := by simp [bk, List.getD, hi]
    rw [e] at h4
    have h5 := lastOk_iff.1 h4.2.2.2
    unfold FitB
    omega
  · rw [right_junk h k] at hb; cases hb
theorem len_right {x : Ce} (h : right x = true) : x.d.length ≤ 1000 ∧ x.b.length ≤ 1000 := by
  rcases right_kind h with k | k
  · have := right_data h k; omega
  · rw [right_junk h k]; simp
theorem bytes_beq2 (l l' : List UInt8) : (({ data := l.toArray } : ByteArray) == ({ data := l'.toArray } : ByteArray)) = decide (l = l') := by
  rw [beq_toListBytes, ByteArray.toList_eq, ByteArray.toList_eq]
  by_cases h : l = l'
  · subst h; simp
  · simp [h]
set_option maxRecDepth 100000 in
set_option maxHeartbeats 8000000 in
theorem cellBack_any (w : World) {A : CeT} (h : CeOk w A) {ab : Option Addr} {nb cb : Nat} {zs : List Int} (hrow : IsRow .u8 w ab nb cb zs) :
    Calls Try.prog 3 #[A.val, .slice ab nb cb] w fun e w' => e = .returned (.bool true) ∧ Below w.heap.size w w' := by
  obtain ⟨x, a, c, a2, c2⟩ := A
  obtain ⟨-, hd, hdl, hb, hbl, hfit⟩ := h
  simp only at hd hdl hb hbl hfit
  obtain ⟨bs, hbs, hnc, -, hrb⟩ := hrow.u8s
  have hcap := hrow.cap_le
  clear hrow
  unfold CeT.val
  simp only
  have HAl := Lib.hid (fun W => alive_any W)
  have HD := Lib.hid hd
  have HBk := Lib.hid hb
  have HRb := Lib.hid hrb
  have HF := Lib.hid (fun W => fits_any x.k a x.d.length c a2 x.b.length c2 W)
  obtain ⟨f, hf⟩ : ∃ f, f = (decide (x.d.length ≤ 400) && decide (x.b.length ≤ 30)) := ⟨_, rfl⟩
  rw [← hf] at HF
  have HR : Hid (f = true → ∀ W, Below w.heap.size w W → Calls Try.prog 11 #[cev x.k a x.d.length c a2 x.b.length c2] W fun e w' => e = .returned (.bool (right x)) ∧ Below W.heap.size W w') := Lib.hid fun h1 W hW => right_any x a c a2 c2 w.heap.size W (HBk.out.below hW (Nat.le_refl _)) hW.size hbl hdl
  have HE0 : Hid (right x = false → ∀ W, Below w.heap.size w W → Calls Try.prog 10 #[cev x.k a x.d.length c a2 x.b.length c2] W fun e w' => e = .returned (.tuple #[.slice none 0 0, .int .i64 71]) ∧ Below W.heap.size W w') := Lib.hid fun hr W hW => enc_no x a c a2 c2 w.heap.size W (HBk.out.below hW (Nat.le_refl _)) hW.size hbl hdl hr
  have HE1 := Lib.hid (fun (hr : right x = true) W (hW : Below w.heap.size w W) => enc_yes x a c a2 c2 w.heap.size W (HD.out.below hW (Nat.le_refl _)) (HBk.out.below hW (Nat.le_refl _)) hW.size hfit hr)
  have HD0 : Hid (nb ≤ 400 → (∀ z, right z = true → ¬ IsEnc z bs) → ∀ W, Below w.heap.size w W → Calls Try.prog 9 #[.slice ab nb cb] W fun e w' => e = .returned (.tuple #[cev 0 none 0 0 none 0 0, .int .i64 71]) ∧ Below W.heap.size W w') := Lib.hid fun h4 hno W hW => dec_no bs nb ab cb w.heap.size W hbs (HRb.out.below hW (Nat.le_refl _)) hW.size hnc hcap (by omega) hno
  have HD1 : Hid (nb ≤ 400 → ∀ z, right z = true → IsEnc z bs → ∀ W, Below w.heap.size w W → Calls Try.prog 9 #[.slice ab nb cb] W (DcP W z (.int .i64 0))) := Lib.hid fun h4 z hz he W hW => dec_yes bs nb ab cb w.heap.size W hbs (HRb.out.below hW (Nat.le_refl _)) hW.size hnc hcap (by omega) z he hz
  have HFit := Lib.hid hfit
  have HBs := Lib.hid hbs
  clear hd hdl hb hbl hfit hrb hcap hnc hbs hf
  generalize hnd : x.d.length = nd at *
  generalize hnk : x.b.length = nk at *
  have HNd := Lib.hid hnd
  have HNk := Lib.hid hnk
  clear hnd hnk
  obtain ⟨w1, hW1⟩ : ∃ W, w.alloc (.cells #[.int .i64 x.k, .slice a nd c, .slice a2 nk c2] 26) = W := ⟨_, rfl⟩
  have HB1 : Hid (Below w.heap.size w w1) := Lib.hid (by rw [← hW1]; exact (Below.refl _ _).alloc (Nat.le_refl _) _)
  have HC1 : Hid (Own w1 w.heap.size 26 [.int .i64 x.k, .slice a nd c, .slice a2 nk c2]) := Lib.hid (by rw [← hW1]; exact Own.new w _ _)
  have HW1 := Lib.hid hW1
  clear hW1
  by_cases h4 : f = false ∨ 400 < nb
  · clear HR HE0 HE1 HD0 HD1
    have hcase : f = false ∨ f = true ∧ 400 < (nb : Int) := by cases f <;> simp_all <;> omega
    clear h4
    rcases hcase with rfl | ⟨rfl, h4⟩
    all_goals
      go_enter Try.func3, Try.ntmps3
      go_wp2_with fail
      rw [HW1.out]
      refine (HF.out _).mono ?_
      rintro e w2 ⟨rfl, hb⟩
      have HB2 := Lib.hid (HB1.out.trans (hb.mono HB1.out.size))
      have HC2 := Lib.hid (HC1.out.below hb HC1.out.lt)
      clear hb
      have i00 := HC2.out.cell 0
      have i01 := HC2.out.cell 1
      have i02 := HC2.out.cell 2
      have hz0 := HC2.out.lt
      simp at i00 i01 i02
      go_wp2_with fail
      refine (HAl.out _).mono ?_
      clear i00 i01 i02 hz0
      rintro e w3 ⟨rfl, hb⟩
      have HB3 := Lib.hid (HB2.out.trans (hb.mono HB2.out.size))
      have HC3 := Lib.hid (HC2.out.below hb HC2.out.lt)
      clear hb
      have i00 := HC3.out.cell 0
      have i01 := HC3.out.cell 1
      have i02 := HC3.out.cell 2
      have hz0 := HC3.out.lt
      simp at i00 i01 i02
      go_wp2_with fail
      go_ret
      exact ⟨rfl, HB3.out⟩
  · obtain rfl : f = true := by cases f <;> simp_all
    have h5 : nb ≤ 400 := by omega
    have h6 : (nb : Int) ≤ 400 := by omega
    have HD0a := Lib.hid (HD0.out h5)
    have HD1a := Lib.hid (HD1.out h5)
    have HRa := Lib.hid (HR.out rfl)
    have H5 := Lib.hid h5
    clear h4 h5 HD0 HD1 HR
    by_cases hz : ∃ z, right z = true ∧ IsEnc z bs
    · obtain ⟨z, hz1, hz2⟩ := hz
      have HDz := Lib.hid (HD1a.out z hz1 hz2)
      have HZr := Lib.hid hz1
      have HZe := Lib.hid hz2
      clear HD0a HD1a hz1 hz2
      cases hrx : right x
      · have HE := Lib.hid (HE0.out hrx)
        have HRx := HRa
        rw [hrx] at HRx
        have HRi := Lib.hid hrx
        clear HE0 HE1 HRa hrx
        go_enter Try.func3, Try.ntmps3
        go_wp2_with fail
        rw [HW1.out]
        refine (HF.out _).mono ?_
        rintro e w2 ⟨rfl, hb⟩
        have HB2 := Lib.hid (HB1.out.trans (hb.mono HB1.out.size))
        have HC2 := Lib.hid (HC1.out.below hb HC1.out.lt)
        clear hb
        have i00 := HC2.out.cell 0
        have i01 := HC2.out.cell 1
        have i02 := HC2.out.cell 2
        have hz0 := HC2.out.lt
        simp at i00 i01 i02
        go_wp2_with fail
        refine (HDz.out _ HB2.out).mono ?_
        clear i00 i01 i02 hz0
        rintro e w3 hdp
        unfold DcP at hdp
        obtain ⟨a3, c3, a4, c4, rfl, hr1, hr2, -, -, hb⟩ := hdp
        have HB3 := Lib.hid (HB2.out.trans (hb.mono HB2.out.size))
        have HC3 := Lib.hid (HC2.out.below hb HC2.out.lt)
        have HU3 := Lib.hid hr1
        have HV3 := Lib.hid hr2
        clear hr1 hr2
        clear hb
        have i00 := HC3.out.cell 0
        have i01 := HC3.out.cell 1
        have i02 := HC3.out.cell 2
        have hz0 := HC3.out.lt
        simp at i00 i01 i02
        have HFz : Hid (∀ b ∈ z.b, FitB b) := Lib.hid (fit_right HZr.out)
        have HLz : Hid (z.d.length ≤ 1000 ∧ z.b.length ≤ 1000) := Lib.hid (len_right HZr.out)
        obtain ⟨w4, hw⟩ : ∃ W, w3.alloc (.cells #[.int .i64 z.k, .slice a3 z.d.length c3, .slice a4 z.b.length c4] 26) = W := ⟨_, rfl⟩
        have HB4 : Hid (Below w.heap.size w w4) := Lib.hid (by rw [← hw]; exact HB3.out.alloc HB3.out.size _)
        have HC4 := Lib.hid (show Own w4 _ _ _ by rw [← hw]; exact HC3.out.alloc _)
        have HU4 := Lib.hid (show Ro w4 w4.heap.size _ _ by rw [← hw]; exact (HU3.out.below ((Below.refl _ _).alloc (Nat.le_refl _) _) (Nat.le_refl _)).mono (by simp))
        have HV4 := Lib.hid (show Ro w4 w4.heap.size _ _ by rw [← hw]; exact (HV3.out.below ((Below.refl _ _).alloc (Nat.le_refl _) _) (Nat.le_refl _)).mono (by simp))
        have HQz4 : Hid (Own w4 w3.heap.size 26 [.int .i64 z.k, .slice a3 z.d.length c3, .slice a4 z.b.length c4]) := Lib.hid (by rw [← hw]; exact Own.new w3 _ _)
        have HW4 := Lib.hid hw
        clear hw
        go_wp2_with fail
        rw [HW4.out]
        refine (enc_yes z a3 c3 a4 c4 w4.heap.size w4 HU4.out HV4.out (Nat.le_refl _) HFz.out HZr.out).mono ?_
        clear i00 i01 i02 hz0
        rintro e w5 ⟨ws, a8, c8, rfl, hen, hro, -, hb⟩
        obtain rfl := hen.unique HZe.out
        have HB5 := Lib.hid (HB4.out.trans (hb.mono HB4.out.size))
        have HC5 := Lib.hid (HC4.out.below hb HC4.out.lt)
        have HQz5 := Lib.hid (HQz4.out.below hb HQz4.out.lt)
        have HU5 := Lib.hid ((HU4.out.below hb (Nat.le_refl _)).mono hb.size)
        have HV5 := Lib.hid ((HV4.out.below hb (Nat.le_refl _)).mono hb.size)
        have hcv1 := conv_ro (c := c8) hro HBs.out
        have hcv2 := conv_ro (c := cb) (HRb.out.below HB5.out (Nat.le_refl _)) HBs.out
        have hs1 : (!(({ data := ws.toArray } : ByteArray) == ({ data := ws.toArray } : ByteArray))) = false := by rw [bytes_beq2]; simp
        rw [HBs.out]
        clear hb hen hro
        have i00 := HC5.out.cell 0
        have i01 := HC5.out.cell 1
        have i02 := HC5.out.cell 2
        have hz0 := HC5.out.lt
        have i10 := HQz5.out.cell 0
        have i11 := HQz5.out.cell 1
        have i12 := HQz5.out.cell 2
        have hz1 := HQz5.out.lt
        simp at i00 i01 i02 i10 i11 i12
        go_wp2_with fail
        refine (right_any z a3 c3 a4 c4 w5.heap.size w5 HV5.out (Nat.le_refl _) (by have := HLz.out; omega) (by have := HLz.out; omega)).mono ?_
        clear i00 i01 i02 i10 i11 i12 hz0 hz1
        rintro e w6 hrz
        rw [HZr.out] at hrz
        obtain ⟨rfl, hb⟩ := hrz
        have HB6 := Lib.hid (HB5.out.trans (hb.mono HB5.out.size))
        have HC6 := Lib.hid (HC5.out.below hb HC5.out.lt)
        have HQz6 := Lib.hid (HQz5.out.below hb HQz5.out.lt)
        have HU6 := Lib.hid ((HU5.out.below hb (Nat.le_refl _)).mono hb.size)
        have HV6 := Lib.hid ((HV5.out.below hb (Nat.le_refl _)).mono hb.size)
        clear hcv1 hcv2 hs1
        clear hb
        have i00 := HC6.out.cell 0
        have i01 := HC6.out.cell 1
        have i02 := HC6.out.cell 2
        have hz0 := HC6.out.lt
        have i10 := HQz6.out.cell 0
        have i11 := HQz6.out.cell 1
        have i12 := HQz6.out.cell 2
        have hz1 := HQz6.out.lt
        simp at i00 i01 i02 i10 i11 i12
        go_wp2_with fail
        refine (HE.out _ HB6.out).mono ?_
        clear i00 i01 i02 hz0
        rintro e w7 ⟨rfl, hb⟩
        have HB7 := Lib.hid (HB6.out.trans (hb.mono HB6.out.size))
        have HC7 := Lib.hid (HC6.out.below hb HC6.out.lt)
        clear hb
        have i00 := HC7.out.cell 0
        have i01 := HC7.out.cell 1
        have i02 := HC7.out.cell 2
        have hz0 := HC7.out.lt
        simp at i00 i01 i02
        go_wp2_with fail
        refine (HAl.out _).mono ?_
        clear i00 i01 i02 hz0
        rintro e w8 ⟨rfl, hb⟩
        have HB8 := Lib.hid (HB7.out.trans (hb.mono HB7.out.size))
        have HC8 := Lib.hid (HC7.out.below hb HC7.out.lt)
        clear hb
        have i00 := HC8.out.cell 0
        have i01 := HC8.out.cell 1
        have i02 := HC8.out.cell 2
        have hz0 := HC8.out.lt
        simp at i00 i01 i02
        go_wp2_with fail
        refine (HRx.out _ HB8.out).mono ?_
        clear i00 i01 i02 hz0
        rintro e w9 ⟨rfl, hb⟩
        have HB9 := Lib.hid (HB8.out.trans (hb.mono HB8.out.size))
        have HC9 := Lib.hid (HC8.out.below hb HC8.out.lt)
        clear hb
        have i00 := HC9.out.cell 0
        have i01 := HC9.out.cell 1
        have i02 := HC9.out.cell 2
        have hz0 := HC9.out.lt
        simp at i00 i01 i02
        go_wp2_with fail
        go_ret
        exact ⟨rfl, HB9.out⟩
      · have HE := Lib.hid (HE1.out hrx)
        have HRx := HRa
        rw [hrx] at HRx
        have HRi := Lib.hid hrx
        clear HE0 HE1 HRa hrx
        go_enter Try.func3, Try.ntmps3
        go_wp2_with fail
        rw [HW1.out]
        refine (HF.out _).mono ?_
        rintro e w2 ⟨rfl, hb⟩
        have HB2 := Lib.hid (HB1.out.trans (hb.mono HB1.out.size))
        have HC2 := Lib.hid (HC1.out.below hb HC1.out.lt)
        clear hb
        have i00 := HC2.out.cell 0
        have i01 := HC2.out.cell 1
        have i02 := HC2.out.cell 2
        have hz0 := HC2.out.lt
        simp at i00 i01 i02
        go_wp2_with fail
        refine (HDz.out _ HB2.out).mono ?_
        clear i00 i01 i02 hz0
        rintro e w3 hdp
        unfold DcP at hdp
        obtain ⟨a3, c3, a4, c4, rfl, hr1, hr2, -, -, hb⟩ := hdp
        have HB3 := Lib.hid (HB2.out.trans (hb.mono HB2.out.size))
        have HC3 := Lib.hid (HC2.out.below hb HC2.out.lt)
        have HU3 := Lib.hid hr1
        have HV3 := Lib.hid hr2
        clear hr1 hr2
        clear hb
        have i00 := HC3.out.cell 0
        have i01 := HC3.out.cell 1
        have i02 := HC3.out.cell 2
        have hz0 := HC3.out.lt
        simp at i00 i01 i02
        have HFz : Hid (∀ b ∈ z.b, FitB b) := Lib.hid (fit_right HZr.out)
        have HLz : Hid (z.d.length ≤ 1000 ∧ z.b.length ≤ 1000) := Lib.hid (len_right HZr.out)
        obtain ⟨w4, hw⟩ : ∃ W, w3.alloc (.cells #[.int .i64 z.k, .slice a3 z.d.length c3, .slice a4 z.b.length c4] 26) = W := ⟨_, rfl⟩
        have HB4 : Hid (Below w.heap.size w w4) := Lib.hid (by rw [← hw]; exact HB3.out.alloc HB3.out.size _)
        have HC4 := Lib.hid (show Own w4 _ _ _ by rw [← hw]; exact HC3.out.alloc _)
        have HU4 := Lib.hid (show Ro w4 w4.heap.size _ _ by rw [← hw]; exact (HU3.out.below ((Below.refl _ _).alloc (Nat.le_refl _) _) (Nat.le_refl _)).mono (by simp))
        have HV4 := Lib.hid (show Ro w4 w4.heap.size _ _ by rw [← hw]; exact (HV3.out.below ((Below.refl _ _).alloc (Nat.le_refl _) _) (Nat.le_refl _)).mono (by simp))
        have HQz4 : Hid (Own w4 w3.heap.size 26 [.int .i64 z.k, .slice a3 z.d.length c3, .slice a4 z.b.length c4]) := Lib.hid (by rw [← hw]; exact Own.new w3 _ _)
        have HW4 := Lib.hid hw
        clear hw
        go_wp2_with fail
        rw [HW4.out]
        refine (enc_yes z a3 c3 a4 c4 w4.heap.size w4 HU4.out HV4.out (Nat.le_refl _) HFz.out HZr.out).mono ?_
        clear i00 i01 i02 hz0
        rintro e w5 ⟨ws, a8, c8, rfl, hen, hro, -, hb⟩
        obtain rfl := hen.unique HZe.out
        have HB5 := Lib.hid (HB4.out.trans (hb.mono HB4.out.size))
        have HC5 := Lib.hid (HC4.out.below hb HC4.out.lt)
        have HQz5 := Lib.hid (HQz4.out.below hb HQz4.out.lt)
        have HU5 := Lib.hid ((HU4.out.below hb (Nat.le_refl _)).mono hb.size)
        have HV5 := Lib.hid ((HV4.out.below hb (Nat.le_refl _)).mono hb.size)
        have hcv1 := conv_ro (c := c8) hro HBs.out
        have hcv2 := conv_ro (c := cb) (HRb.out.below HB5.out (Nat.le_refl _)) HBs.out
        have hs1 : (!(({ data := ws.toArray } : ByteArray) == ({ data := ws.toArray } : ByteArray))) = false := by rw [bytes_beq2]; simp
        rw [HBs.out]
        clear hb hen hro
        have i00 := HC5.out.cell 0
        have i01 := HC5.out.cell 1
        have i02 := HC5.out.cell 2
        have hz0 := HC5.out.lt
        have i10 := HQz5.out.cell 0
        have i11 := HQz5.out.cell 1
        have i12 := HQz5.out.cell 2
        have hz1 := HQz5.out.lt
        simp at i00 i01 i02 i10 i11 i12
        go_wp2_with fail
        refine (right_any z a3 c3 a4 c4 w5.heap.size w5 HV5.out (Nat.le_refl _) (by have := HLz.out; omega) (by have := HLz.out; omega)).mono ?_
        clear i00 i01 i02 i10 i11 i12 hz0 hz1
        rintro e w6 hrz
        rw [HZr.out] at hrz
        obtain ⟨rfl, hb⟩ := hrz
        have HB6 := Lib.hid (HB5.out.trans (hb.mono HB5.out.size))
        have HC6 := Lib.hid (HC5.out.below hb HC5.out.lt)
        have HQz6 := Lib.hid (HQz5.out.below hb HQz5.out.lt)
        have HU6 := Lib.hid ((HU5.out.below hb (Nat.le_refl _)).mono hb.size)
        have HV6 := Lib.hid ((HV5.out.below hb (Nat.le_refl _)).mono hb.size)
        clear hcv1 hcv2 hs1
        clear hb
        have i00 := HC6.out.cell 0
        have i01 := HC6.out.cell 1
        have i02 := HC6.out.cell 2
        have hz0 := HC6.out.lt
        have i10 := HQz6.out.cell 0
        have i11 := HQz6.out.cell 1
        have i12 := HQz6.out.cell 2
        have hz1 := HQz6.out.lt
        simp at i00 i01 i02 i10 i11 i12
        go_wp2_with fail
        refine (HE.out _ HB6.out).mono ?_
        clear i00 i01 i02 hz0
        rintro e w7 ⟨xs, a5, c5, rfl, hen, hro, hcp, hb⟩
        have HB7 := Lib.hid (HB6.out.trans (hb.mono HB6.out.size))
        have HC7 := Lib.hid (HC6.out.below hb HC6.out.lt)
        have HEn := Lib.hid hen
        have HX7 := Lib.hid hro
        have HCp := Lib.hid hcp
        have hlen : 0 < xs.length ∧ xs.length ≤ 10000 := by
          have := len_right HRi.out
          have := enc_length hen HRi.out
          omega
        obtain ⟨q, hq⟩ : ∃ q, xs.length = q + 1 := ⟨xs.length - 1, by omega⟩
        have hq1 : (q : Int) ≤ 10000 := by omega
        have hq2 : (q : Int) ≤ (c5 : Int) := by have := hcp.1; omega
        have HQ := Lib.hid hq
        have HLe := Lib.hid hlen
        rw [hq]
        clear hen hro hcp hq hlen
        clear hb
        have i00 := HC7.out.cell 0
        have i01 := HC7.out.cell 1
        have i02 := HC7.out.cell 2
        have hz0 := HC7.out.lt
        simp at i00 i01 i02
        go_wp2_with fail
        refine (dec_yes xs (q + 1) a5 c5 w7.heap.size w7 HQ.out HX7.out (Nat.le_refl _) (by have := HCp.out.1; rw [HQ.out] at this; exact this) (by unfold maxLen at *; have := HCp.out.2; unfold maxLen at this; omega) (by omega) x HEn.out HRi.out).mono ?_
        clear i00 i01 i02 hz0
        rintro e w8 hdp
        unfold DcP at hdp
        obtain ⟨a6, c6, a7, c7, rfl, hr1, hr2, -, -, hb⟩ := hdp
        rw [HNd.out, HNk.out]
        have HB8 := Lib.hid (HB7.out.trans (hb.mono HB7.out.size))
        have HC8 := Lib.hid (HC7.out.below hb HC7.out.lt)
        have HX8 := Lib.hid ((HX7.out.below hb (Nat.le_refl _)).mono hb.size)
        have HY8 := Lib.hid hr1
        have HK8 := Lib.hid hr2
        clear hr1 hr2
        clear hb
        have i00 := HC8.out.cell 0
        have i01 := HC8.out.cell 1
        have i02 := HC8.out.cell 2
        have hz0 := HC8.out.lt
        simp at i00 i01 i02
        have hcx0 := HX8.out
        obtain ⟨w9, hw⟩ : ∃ W, w8.alloc (.cells #[.int .i64 x.k, .slice a6 nd c6, .slice a7 nk c7] 26) = W := ⟨_, rfl⟩
        have HB9 : Hid (Below w.heap.size w w9) := Lib.hid (by rw [← hw]; exact HB8.out.alloc HB8.out.size _)
        have HC9 := Lib.hid (show Own w9 _ _ _ by rw [← hw]; exact HC8.out.alloc _)
        have HX9 := Lib.hid (show Ro w9 w9.heap.size _ _ by rw [← hw]; exact (HX8.out.below ((Below.refl _ _).alloc (Nat.le_refl _) _) (Nat.le_refl _)).mono (by simp))
        have HY9 := Lib.hid (show Ro w9 w9.heap.size _ _ by rw [← hw]; exact (HY8.out.below ((Below.refl _ _).alloc (Nat.le_refl _) _) (Nat.le_refl _)).mono (by simp))
        have HK9 := Lib.hid (show Ro w9 w9.heap.size _ _ by rw [← hw]; exact (HK8.out.below ((Below.refl _ _).alloc (Nat.le_refl _) _) (Nat.le_refl _)).mono (by simp))
        have HP9 : Hid (Own w9 w8.heap.size 26 [.int .i64 x.k, .slice a6 nd c6, .slice a7 nk c7]) := Lib.hid (by rw [← hw]; exact Own.new w8 _ _)
        have HW9 := Lib.hid hw
        clear hw
        clear hcx0
        have HNL : Hid (∀ z, right z = true → ¬ IsEnc z (xs.take q)) := Lib.hid fun z hz he => by
          have h := HEn.out
          rw [← List.take_append_drop q xs] at h
          have e := enc_prefix hz he HRi.out h
          have e2 := congrArg List.length e
          rw [List.length_drop, HQ.out] at e2
          simp at e2
        have HNM : Hid (∀ z, right z = true → ¬ IsEnc z (xs ++ [0])) := Lib.hid fun z hz he => by
          have e := enc_prefix HRi.out HEn.out hz he
          cases e
        go_wp2_with fail
        rw [HW9.out]
        refine (dec_no (xs.take q) q a5 c5 w9.heap.size w9 (by rw [List.length_take, HQ.out]; omega) (by have h := HX9.out.take q; rwa [show (u8s xs).take q = u8s (xs.take q) by simp [u8s]] at h) (Nat.le_refl _) (by have := HCp.out.1; rw [HQ.out] at this; omega) (by unfold maxLen at *; have := HCp.out.2; unfold maxLen at this; omega) (by omega) HNL.out).mono ?_
        clear i00 i01 i02 hz0
        rintro e w10 ⟨rfl, hb⟩
        have HB10 := Lib.hid (HB9.out.trans (hb.mono HB9.out.size))
        have HC10 := Lib.hid (HC9.out.below hb HC9.out.lt)
        have HP10 := Lib.hid (HP9.out.below hb HP9.out.lt)
        have HX10 := Lib.hid ((HX9.out.below hb (Nat.le_refl _)).mono hb.size)
        have HY10 := Lib.hid ((HY9.out.below hb (Nat.le_refl _)).mono hb.size)
        have HK10 := Lib.hid ((HK9.out.below hb (Nat.le_refl _)).mono hb.size)
        clear hb
        have i00 := HC10.out.cell 0
        have i01 := HC10.out.cell 1
        have i02 := HC10.out.cell 2
        have hz0 := HC10.out.lt
        have i10 := HP10.out.cell 0
        have i11 := HP10.out.cell 1
        have i12 := HP10.out.cell 2
        have hz1 := HP10.out.lt
        simp at i00 i01 i02 i10 i11 i12
        have HEl : Hid (Lst ((w10.alloc (.cells #[.int .i64 0, .slice none 0 0, .slice none 0 0] 26)).alloc (.cells #[] 5)) (w10.heap.size + 1) 5 (.slice (some ⟨w10.heap.size + 1, 0, none⟩) 0 0) []) := Lib.hid (by
          have h := (Own.new (w10.alloc (.cells #[.int .i64 0, .slice none 0 0, .slice none 0 0] 26)) 5 []).lst (Nat.le_refl _) 0 rfl (by decide)
          simp only [World.size_alloc] at h
          exact h)
        have HZb : Hid (Below w.heap.size w (w10.alloc (.cells #[.int .i64 0, .slice none 0 0, .slice none 0 0] 26))) := Lib.hid (HB10.out.alloc HB10.out.size _)
        have HZe : Hid (Below (w10.heap.size + 1) (w10.alloc (.cells #[.int .i64 0, .slice none 0 0, .slice none 0 0] 26)) ((w10.alloc (.cells #[.int .i64 0, .slice none 0 0, .slice none 0 0] 26)).alloc (.cells #[] 5))) := Lib.hid ((Below.refl _ _).alloc (by simp) _)
        have HZC : Hid (Own (w10.alloc (.cells #[.int .i64 0, .slice none 0 0, .slice none 0 0] 26)) w.heap.size _ _) := Lib.hid (HC10.out.alloc _)
        have HZP : Hid (Own (w10.alloc (.cells #[.int .i64 0, .slice none 0 0, .slice none 0 0] 26)) w8.heap.size _ _) := Lib.hid (HP10.out.alloc _)
        have HXZ : Hid (Ro (w10.alloc (.cells #[.int .i64 0, .slice none 0 0, .slice none 0 0] 26)) w10.heap.size _ _) := Lib.hid (HX10.out.below ((Below.refl w10.heap.size w10).alloc (Nat.le_refl _) (.cells #[.int .i64 0, .slice none 0 0, .slice none 0 0] 26)) (Nat.le_refl _))
        have HYZ : Hid (Ro (w10.alloc (.cells #[.int .i64 0, .slice none 0 0, .slice none 0 0] 26)) w10.heap.size _ _) := Lib.hid (HY10.out.below ((Below.refl w10.heap.size w10).alloc (Nat.le_refl _) (.cells #[.int .i64 0, .slice none 0 0, .slice none 0 0] 26)) (Nat.le_refl _))
        have HKZ : Hid (Ro (w10.alloc (.cells #[.int .i64 0, .slice none 0 0, .slice none 0 0] 26)) w10.heap.size _ _) := Lib.hid (HK10.out.below ((Below.refl w10.heap.size w10).alloc (Nat.le_refl _) (.cells #[.int .i64 0, .slice none 0 0, .slice none 0 0] 26)) (Nat.le_refl _))
        have HXE : Hid (Ro ((w10.alloc (.cells #[.int .i64 0, .slice none 0 0, .slice none 0 0] 26)).alloc (.cells #[] 5)) w10.heap.size a5 (u8s xs)) := Lib.hid (HXZ.out.below HZe.out (Nat.le_succ _))
        have HXl : Hid ((u8s xs).length = q + 1) := Lib.hid (by rw [u8s_length]; exact HQ.out)
        have HQ9 : Hid (q ≤ 10000) := Lib.hid (by omega)
        go_wp2_with (at_builtin; refine wpList_appB rfl (.tmp 86) (.tmp 87) 23 rfl (w10.heap.size + 1) 5 (.int .u8 0) 1 Try.underlying23 Try.info_u8 rfl (.slice (some ⟨w10.heap.size + 1, 0, none⟩) 0 0) [] rfl HEl.out a5 w10.heap.size (q + 1) c5 (u8s xs) rfl HXl.out HXE.out (u8s_oneCell _) (by simp; have := HQ9.out; omega) (by simp; have := HQ9.out; omega) (w10.heap.size + 1) (w10.alloc (.cells #[.int .i64 0, .slice none 0 0, .slice none 0 0] 26)) HZe.out (Nat.le_refl _) (by simp) ?_)
        intro v1 wa hl1 hb1 hs1
        have HL1 := Lib.hid (show Lst wa _ _ v1 (u8s xs) from hl1.out)
        have HBa := Lib.hid hb1
        have HSa : Hid ((w10.heap.size + 1) ≤ wa.heap.size) := Lib.hid (by have := hb1.size; simp at this; omega)
        clear hl1 hb1 hs1
        obtain ⟨a8, c8, rfl, -, -, -⟩ := HL1.out.form
        rw [HXl.out] at HL1 ⊢
        go_wp2_with (at_builtin; refine wpList_app1 rfl (.tmp 88) (.tmp 89) 23 rfl (w10.heap.size + 1) 5 (.int .u8 0) 1 Try.underlying23 Try.info_u8 rfl (.int .u8 0) rfl (.slice a8 (q + 1) c8) (u8s xs) rfl HL1.out rfl (by have := HXl.out; have := HQ9.out; omega) (by have := HXl.out; have := HQ9.out; omega) (w10.heap.size + 1) (w10.alloc (.cells #[.int .i64 0, .slice none 0 0, .slice none 0 0] 26)) HBa.out (Nat.le_refl _) HSa.out ?_)
        intro v2 wb hl2 hb2 hs2
        have HL2 := Lib.hid (show Lst wb _ _ v2 (u8s (xs ++ [0])) by have := hl2.out; simpa [u8s] using this)
        have HBb := Lib.hid hb2
        clear hl2 hb2 hs2
        obtain ⟨a9, c9, rfl, hr9, hc9, -⟩ := HL2.out.form
        have HX9l : Hid ((xs ++ [0]).length = q + 2) := Lib.hid (by rw [List.length_append, HQ.out]; rfl)
        have HR9 := Lib.hid hr9
        have HC9 : Hid (q + 2 ≤ c9 ∧ c9 ≤ maxLen) := Lib.hid ⟨by rw [u8s_length, HX9l.out] at hc9; exact hc9, HL2.out.cap_le⟩
        clear hr9 hc9
        rw [u8s_length, HX9l.out]
        have HBw : Hid (Below w.heap.size w wb) := Lib.hid (HZb.out.trans (HBb.out.mono (by have := HB10.out.size; omega)))
        have HCb := Lib.hid (HZC.out.below HBb.out (by have := HB10.out.size; omega))
        have HPb := Lib.hid (HZP.out.below HBb.out (by have := HP10.out.lt; omega))
        have HXb : Hid (Ro wb wb.heap.size _ _) := Lib.hid ((HXZ.out.below HBb.out (Nat.le_succ _)).mono (by have := HBb.out.size; simp at this; omega))
        have HYb : Hid (Ro wb wb.heap.size _ _) := Lib.hid ((HYZ.out.below HBb.out (Nat.le_succ _)).mono (by have := HBb.out.size; simp at this; omega))
        have HKb : Hid (Ro wb wb.heap.size _ _) := Lib.hid ((HKZ.out.below HBb.out (Nat.le_succ _)).mono (by have := HBb.out.size; simp at this; omega))
        clear i00 i01 i02 i10 i11 i12 hz0 hz1
        go_wp2_with fail
        refine (dec_no (xs ++ [0]) (q + 2) a9 c9 wb.heap.size wb HX9l.out HR9.out (Nat.le_refl _) HC9.out.1 (by have := HC9.out.2; unfold maxLen at this; omega) (by have := HQ9.out; omega) HNM.out).mono ?_
        rintro e wc ⟨rfl, hb⟩
        have HBc : Hid (Below w.heap.size w wc) := Lib.hid (HBw.out.trans (hb.mono HBw.out.size))
        have HCc := Lib.hid (HCb.out.below hb HCb.out.lt)
        have HPc := Lib.hid (HPb.out.below hb HPb.out.lt)
        have HXc : Hid (Ro wc wc.heap.size _ _) := Lib.hid ((HXb.out.below hb (Nat.le_refl _)).mono hb.size)
        have HYc : Hid (Ro wc wc.heap.size _ _) := Lib.hid ((HYb.out.below hb (Nat.le_refl _)).mono hb.size)
        have HKc : Hid (Ro wc wc.heap.size _ _) := Lib.hid ((HKb.out.below hb (Nat.le_refl _)).mono hb.size)
        have hz0 := HCc.out.lt
        have hz1 := HPc.out.lt
        clear hb
        go_wp2_with fail
        refine (HAl.out _).mono ?_
        rintro e wd ⟨rfl, hb⟩
        have hbd : Below wc.heap.size wc wd := ((Below.refl _ _).alloc (Nat.le_refl _) _).trans (hb.mono (by simp))
        have HBd : Hid (Below w.heap.size w wd) := Lib.hid (HBc.out.trans (hbd.mono HBc.out.size))
        have HCd := Lib.hid (HCc.out.below hbd HCc.out.lt)
        have HPd := Lib.hid (HPc.out.below hbd HPc.out.lt)
        have HXd : Hid (Ro wd wd.heap.size _ _) := Lib.hid ((HXc.out.below hbd (Nat.le_refl _)).mono hbd.size)
        have HYd : Hid (Ro wd wd.heap.size _ _) := Lib.hid ((HYc.out.below hbd (Nat.le_refl _)).mono hbd.size)
        have HKd : Hid (Ro wd wd.heap.size _ _) := Lib.hid ((HKc.out.below hbd (Nat.le_refl _)).mono hbd.size)
        clear hb hbd hz0 hz1
        have i00 := HCd.out.cell 0
        have i01 := HCd.out.cell 1
        have i02 := HCd.out.cell 2
        have i10 := HPd.out.cell 0
        have i11 := HPd.out.cell 1
        have i12 := HPd.out.cell 2
        simp at i00 i01 i02 i10 i11 i12
        have HSm : Hid (Calls Try.prog 12 #[cev x.k a6 nd c6 a7 nk c7, cev x.k a nd c a2 nk c2] wd fun e w' => e = .returned (.bool true) ∧ Below wd.heap.size wd w') := Lib.hid (by
          have h := same_any x x a6 c6 a7 c7 a c a2 c2 wd.heap.size wd HYd.out HKd.out ((HD.out.below HBd.out (Nat.le_refl _)).mono HBd.out.size) ((HBk.out.below HBd.out (Nat.le_refl _)).mono HBd.out.size) (Nat.le_refl _) (by have := len_right HRi.out; omega) (by have := len_right HRi.out; omega)
          rw [alike_iff.2 rfl, HNd.out, HNk.out] at h
          exact h)
        go_wp2_with fail
        refine HSm.out.mono ?_
        rintro e we ⟨rfl, hb⟩
        have HBz := Lib.hid (HBd.out.trans (hb.mono HBd.out.size))
        clear hb i00 i01 i02 i10 i11 i12
        go_wp2_with fail
        go_ret
        exact ⟨rfl, HBz.out⟩
    · have HDz := Lib.hid (HD0a.out (fun z h1 h2 => hz ⟨z, h1, h2⟩))
      clear HD0a HD1a hz
      cases hrx : right x
      · have HE := Lib.hid (HE0.out hrx)
        have HRx := HRa
        rw [hrx] at HRx
        have HRi := Lib.hid hrx
        clear HE0 HE1 HRa hrx
        go_enter Try.func3, Try.ntmps3
        go_wp2_with fail
        rw [HW1.out]
        refine (HF.out _).mono ?_
        rintro e w2 ⟨rfl, hb⟩
        have HB2 := Lib.hid (HB1.out.trans (hb.mono HB1.out.size))
        have HC2 := Lib.hid (HC1.out.below hb HC1.out.lt)
        clear hb
        have i00 := HC2.out.cell 0
        have i01 := HC2.out.cell 1
        have i02 := HC2.out.cell 2
        have hz0 := HC2.out.lt
        simp at i00 i01 i02
        go_wp2_with fail
        refine (HDz.out _ HB2.out).mono ?_
        clear i00 i01 i02 hz0
        rintro e w3 ⟨rfl, hb⟩
        have HB3 := Lib.hid (HB2.out.trans (hb.mono HB2.out.size))
        have HC3 := Lib.hid (HC2.out.below hb HC2.out.lt)
        clear hb
        have i00 := HC3.out.cell 0
        have i01 := HC3.out.cell 1
        have i02 := HC3.out.cell 2
        have hz0 := HC3.out.lt
        simp at i00 i01 i02
        obtain ⟨w4, hw⟩ : ∃ W, w3.alloc (.cells #[.int .i64 0, .slice none 0 0, .slice none 0 0] 26) = W := ⟨_, rfl⟩
        have HB4 : Hid (Below w.heap.size w w4) := Lib.hid (by rw [← hw]; exact HB3.out.alloc HB3.out.size _)
        have HC4 := Lib.hid (show Own w4 _ _ _ by rw [← hw]; exact HC3.out.alloc _)
        have HW4 := Lib.hid hw
        clear hw
        go_wp2_with fail
        rw [HW4.out]
        refine (HE.out _ HB4.out).mono ?_
        clear i00 i01 i02 hz0
        rintro e w5 ⟨rfl, hb⟩
        have HB5 := Lib.hid (HB4.out.trans (hb.mono HB4.out.size))
        have HC5 := Lib.hid (HC4.out.below hb HC4.out.lt)
        clear hb
        have i00 := HC5.out.cell 0
        have i01 := HC5.out.cell 1
        have i02 := HC5.out.cell 2
        have hz0 := HC5.out.lt
        simp at i00 i01 i02
        go_wp2_with fail
        refine (HAl.out _).mono ?_
        clear i00 i01 i02 hz0
        rintro e w6 ⟨rfl, hb⟩
        have HB6 := Lib.hid (HB5.out.trans (hb.mono HB5.out.size))
        have HC6 := Lib.hid (HC5.out.below hb HC5.out.lt)
        clear hb
        have i00 := HC6.out.cell 0
        have i01 := HC6.out.cell 1
        have i02 := HC6.out.cell 2
        have hz0 := HC6.out.lt
        simp at i00 i01 i02
        go_wp2_with fail
        refine (HRx.out _ HB6.out).mono ?_
        clear i00 i01 i02 hz0
        rintro e w7 ⟨rfl, hb⟩
        have HB7 := Lib.hid (HB6.out.trans (hb.mono HB6.out.size))
        have HC7 := Lib.hid (HC6.out.below hb HC6.out.lt)
        clear hb
        have i00 := HC7.out.cell 0
        have i01 := HC7.out.cell 1
        have i02 := HC7.out.cell 2
        have hz0 := HC7.out.lt
        simp at i00 i01 i02
        go_wp2_with fail
        go_ret
        exact ⟨rfl, HB7.out⟩
      · have HE := Lib.hid (HE1.out hrx)
        have HRx := HRa
        rw [hrx] at HRx
        have HRi := Lib.hid hrx
        clear HE0 HE1 HRa hrx
        go_enter Try.func3, Try.ntmps3
        go_wp2_with fail
        rw [HW1.out]
        refine (HF.out _).mono ?_
        rintro e w2 ⟨rfl, hb⟩
        have HB2 := Lib.hid (HB1.out.trans (hb.mono HB1.out.size))
        have HC2 := Lib.hid (HC1.out.below hb HC1.out.lt)
        clear hb
        have i00 := HC2.out.cell 0
        have i01 := HC2.out.cell 1
        have i02 := HC2.out.cell 2
        have hz0 := HC2.out.lt
        simp at i00 i01 i02
        go_wp2_with fail
        refine (HDz.out _ HB2.out).mono ?_
        clear i00 i01 i02 hz0
        rintro e w3 ⟨rfl, hb⟩
        have HB3 := Lib.hid (HB2.out.trans (hb.mono HB2.out.size))
        have HC3 := Lib.hid (HC2.out.below hb HC2.out.lt)
        clear hb
        have i00 := HC3.out.cell 0
        have i01 := HC3.out.cell 1
        have i02 := HC3.out.cell 2
        have hz0 := HC3.out.lt
        simp at i00 i01 i02
        obtain ⟨w4, hw⟩ : ∃ W, w3.alloc (.cells #[.int .i64 0, .slice none 0 0, .slice none 0 0] 26) = W := ⟨_, rfl⟩
        have HB4 : Hid (Below w.heap.size w w4) := Lib.hid (by rw [← hw]; exact HB3.out.alloc HB3.out.size _)
        have HC4 := Lib.hid (show Own w4 _ _ _ by rw [← hw]; exact HC3.out.alloc _)
        have HW4 := Lib.hid hw
        clear hw
        go_wp2_with fail
        rw [HW4.out]
        refine (HE.out _ HB4.out).mono ?_
        clear i00 i01 i02 hz0
        rintro e w5 ⟨xs, a5, c5, rfl, hen, hro, hcp, hb⟩
        have HB5 := Lib.hid (HB4.out.trans (hb.mono HB4.out.size))
        have HC5 := Lib.hid (HC4.out.below hb HC4.out.lt)
        have HEn := Lib.hid hen
        have HX5 := Lib.hid hro
        have HCp := Lib.hid hcp
        have hlen : 0 < xs.length ∧ xs.length ≤ 10000 := by
          have := len_right HRi.out
          have := enc_length hen HRi.out
          omega
        obtain ⟨q, hq⟩ : ∃ q, xs.length = q + 1 := ⟨xs.length - 1, by omega⟩
        have hq1 : (q : Int) ≤ 10000 := by omega
        have hq2 : (q : Int) ≤ (c5 : Int) := by have := hcp.1; omega
        have HQ := Lib.hid hq
        have HLe := Lib.hid hlen
        rw [hq]
        clear hen hro hcp hq hlen
        clear hb
        have i00 := HC5.out.cell 0
        have i01 := HC5.out.cell 1
        have i02 := HC5.out.cell 2
        have hz0 := HC5.out.lt
        simp at i00 i01 i02
        go_wp2_with fail
        refine (dec_yes xs (q + 1) a5 c5 w5.heap.size w5 HQ.out HX5.out (Nat.le_refl _) (by have := HCp.out.1; rw [HQ.out] at this; exact this) (by unfold maxLen at *; have := HCp.out.2; unfold maxLen at this; omega) (by omega) x HEn.out HRi.out).mono ?_
        clear i00 i01 i02 hz0
        rintro e w6 hdp
        unfold DcP at hdp
        obtain ⟨a6, c6, a7, c7, rfl, hr1, hr2, -, -, hb⟩ := hdp
        rw [HNd.out, HNk.out]
        have HB6 := Lib.hid (HB5.out.trans (hb.mono HB5.out.size))
        have HC6 := Lib.hid (HC5.out.below hb HC5.out.lt)
        have HX6 := Lib.hid ((HX5.out.below hb (Nat.le_refl _)).mono hb.size)
        have HY6 := Lib.hid hr1
        have HK6 := Lib.hid hr2
        clear hr1 hr2
        clear hb
        have i00 := HC6.out.cell 0
        have i01 := HC6.out.cell 1
        have i02 := HC6.out.cell 2
        have hz0 := HC6.out.lt
        simp at i00 i01 i02
        have hcx0 := HX6.out
        obtain ⟨w7, hw⟩ : ∃ W, w6.alloc (.cells #[.int .i64 x.k, .slice a6 nd c6, .slice a7 nk c7] 26) = W := ⟨_, rfl⟩
        have HB7 : Hid (Below w.heap.size w w7) := Lib.hid (by rw [← hw]; exact HB6.out.alloc HB6.out.size _)
        have HC7 := Lib.hid (show Own w7 _ _ _ by rw [← hw]; exact HC6.out.alloc _)
        have HX7 := Lib.hid (show Ro w7 w7.heap.size _ _ by rw [← hw]; exact (HX6.out.below ((Below.refl _ _).alloc (Nat.le_refl _) _) (Nat.le_refl _)).mono (by simp))
        have HY7 := Lib.hid (show Ro w7 w7.heap.size _ _ by rw [← hw]; exact (HY6.out.below ((Below.refl _ _).alloc (Nat.le_refl _) _) (Nat.le_refl _)).mono (by simp))
        have HK7 := Lib.hid (show Ro w7 w7.heap.size _ _ by rw [← hw]; exact (HK6.out.below ((Below.refl _ _).alloc (Nat.le_refl _) _) (Nat.le_refl _)).mono (by simp))
        have HP7 : Hid (Own w7 w6.heap.size 26 [.int .i64 x.k, .slice a6 nd c6, .slice a7 nk c7]) := Lib.hid (by rw [← hw]; exact Own.new w6 _ _)
        have HW7 := Lib.hid hw
        clear hw
        clear hcx0
        have HNL : Hid (∀ z, right z = true → ¬ IsEnc z (xs.take q)) := Lib.hid fun z hz he => by
          have h := HEn.out
          rw [← List.take_append_drop q xs] at h
          have e := enc_prefix hz he HRi.out h
          have e2 := congrArg List.length e
          rw [List.length_drop, HQ.out] at e2
          simp at e2
        have HNM : Hid (∀ z, right z = true → ¬ IsEnc z (xs ++ [0])) := Lib.hid fun z hz he => by
          have e := enc_prefix HRi.out HEn.out hz he
          cases e
        go_wp2_with fail
        rw [HW7.out]
        refine (dec_no (xs.take q) q a5 c5 w7.heap.size w7 (by rw [List.length_take, HQ.out]; omega) (by have h := HX7.out.take q; rwa [show (u8s xs).take q = u8s (xs.take q) by simp [u8s]] at h) (Nat.le_refl _) (by have := HCp.out.1; rw [HQ.out] at this; omega) (by unfold maxLen at *; have := HCp.out.2; unfold maxLen at this; omega) (by omega) HNL.out).mono ?_
        clear i00 i01 i02 hz0
        rintro e w8 ⟨rfl, hb⟩
        have HB8 := Lib.hid (HB7.out.trans (hb.mono HB7.out.size))
        have HC8 := Lib.hid (HC7.out.below hb HC7.out.lt)
        have HP8 := Lib.hid (HP7.out.below hb HP7.out.lt)
        have HX8 := Lib.hid ((HX7.out.below hb (Nat.le_refl _)).mono hb.size)
        have HY8 := Lib.hid ((HY7.out.below hb (Nat.le_refl _)).mono hb.size)
        have HK8 := Lib.hid ((HK7.out.below hb (Nat.le_refl _)).mono hb.size)
        clear hb
        have i00 := HC8.out.cell 0
        have i01 := HC8.out.cell 1
        have i02 := HC8.out.cell 2
        have hz0 := HC8.out.lt
        have i10 := HP8.out.cell 0
        have i11 := HP8.out.cell 1
        have i12 := HP8.out.cell 2
        have hz1 := HP8.out.lt
        simp at i00 i01 i02 i10 i11 i12
        have HEl : Hid (Lst ((w8.alloc (.cells #[.int .i64 0, .slice none 0 0, .slice none 0 0] 26)).alloc (.cells #[] 5)) (w8.heap.size + 1) 5 (.slice (some ⟨w8.heap.size + 1, 0, none⟩) 0 0) []) := Lib.hid (by
          have h := (Own.new (w8.alloc (.cells #[.int .i64 0, .slice none 0 0, .slice none 0 0] 26)) 5 []).lst (Nat.le_refl _) 0 rfl (by decide)
          simp only [World.size_alloc] at h
          exact h)
        have HZb : Hid (Below w.heap.size w (w8.alloc (.cells #[.int .i64 0, .slice none 0 0, .slice none 0 0] 26))) := Lib.hid (HB8.out.alloc HB8.out.size _)
        have HZe : Hid (Below (w8.heap.size + 1) (w8.alloc (.cells #[.int .i64 0, .slice none 0 0, .slice none 0 0] 26)) ((w8.alloc (.cells #[.int .i64 0, .slice none 0 0, .slice none 0 0] 26)).alloc (.cells #[] 5))) := Lib.hid ((Below.refl _ _).alloc (by simp) _)
        have HZC : Hid (Own (w8.alloc (.cells #[.int .i64 0, .slice none 0 0, .slice none 0 0] 26)) w.heap.size _ _) := Lib.hid (HC8.out.alloc _)
        have HZP : Hid (Own (w8.alloc (.cells #[.int .i64 0, .slice none 0 0, .slice none 0 0] 26)) w6.heap.size _ _) := Lib.hid (HP8.out.alloc _)
        have HXZ : Hid (Ro (w8.alloc (.cells #[.int .i64 0, .slice none 0 0, .slice none 0 0] 26)) w8.heap.size _ _) := Lib.hid (HX8.out.below ((Below.refl w8.heap.size w8).alloc (Nat.le_refl _) (.cells #[.int .i64 0, .slice none 0 0, .slice none 0 0] 26)) (Nat.le_refl _))
        have HYZ : Hid (Ro (w8.alloc (.cells #[.int .i64 0, .slice none 0 0, .slice none 0 0] 26)) w8.heap.size _ _) := Lib.hid (HY8.out.below ((Below.refl w8.heap.size w8).alloc (Nat.le_refl _) (.cells #[.int .i64 0, .slice none 0 0, .slice none 0 0] 26)) (Nat.le_refl _))
        have HKZ : Hid (Ro (w8.alloc (.cells #[.int .i64 0, .slice none 0 0, .slice none 0 0] 26)) w8.heap.size _ _) := Lib.hid (HK8.out.below ((Below.refl w8.heap.size w8).alloc (Nat.le_refl _) (.cells #[.int .i64 0, .slice none 0 0, .slice none 0 0] 26)) (Nat.le_refl _))
        have HXE : Hid (Ro ((w8.alloc (.cells #[.int .i64 0, .slice none 0 0, .slice none 0 0] 26)).alloc (.cells #[] 5)) w8.heap.size a5 (u8s xs)) := Lib.hid (HXZ.out.below HZe.out (Nat.le_succ _))
        have HXl : Hid ((u8s xs).length = q + 1) := Lib.hid (by rw [u8s_length]; exact HQ.out)
        have HQ9 : Hid (q ≤ 10000) := Lib.hid (by omega)
        go_wp2_with (at_builtin; refine wpList_appB rfl (.tmp 86) (.tmp 87) 23 rfl (w8.heap.size + 1) 5 (.int .u8 0) 1 Try.underlying23 Try.info_u8 rfl (.slice (some ⟨w8.heap.size + 1, 0, none⟩) 0 0) [] rfl HEl.out a5 w8.heap.size (q + 1) c5 (u8s xs) rfl HXl.out HXE.out (u8s_oneCell _) (by simp; have := HQ9.out; omega) (by simp; have := HQ9.out; omega) (w8.heap.size + 1) (w8.alloc (.cells #[.int .i64 0, .slice none 0 0, .slice none 0 0] 26)) HZe.out (Nat.le_refl _) (by simp) ?_)
        intro v1 wa hl1 hb1 hs1
        have HL1 := Lib.hid (show Lst wa _ _ v1 (u8s xs) from hl1.out)
        have HBa := Lib.hid hb1
        have HSa : Hid ((w8.heap.size + 1) ≤ wa.heap.size) := Lib.hid (by have := hb1.size; simp at this; omega)
        clear hl1 hb1 hs1
        obtain ⟨a8, c8, rfl, -, -, -⟩ := HL1.out.form
        rw [HXl.out] at HL1 ⊢
        go_wp2_with (at_builtin; refine wpList_app1 rfl (.tmp 88) (.tmp 89) 23 rfl (w8.heap.size + 1) 5 (.int .u8 0) 1 Try.underlying23 Try.info_u8 rfl (.int .u8 0) rfl (.slice a8 (q + 1) c8) (u8s xs) rfl HL1.out rfl (by have := HXl.out; have := HQ9.out; omega) (by have := HXl.out; have := HQ9.out; omega) (w8.heap.size + 1) (w8.alloc (.cells #[.int .i64 0, .slice none 0 0, .slice none 0 0] 26)) HBa.out (Nat.le_refl _) HSa.out ?_)
        intro v2 wb hl2 hb2 hs2
        have HL2 := Lib.hid (show Lst wb _ _ v2 (u8s (xs ++ [0])) by have := hl2.out; simpa [u8s] using this)
        have HBb := Lib.hid hb2
        clear hl2 hb2 hs2
        obtain ⟨a9, c9, rfl, hr9, hc9, -⟩ := HL2.out.form
        have HX9l : Hid ((xs ++ [0]).length = q + 2) := Lib.hid (by rw [List.length_append, HQ.out]; rfl)
        have HR9 := Lib.hid hr9
        have HC9 : Hid (q + 2 ≤ c9 ∧ c9 ≤ maxLen) := Lib.hid ⟨by rw [u8s_length, HX9l.out] at hc9; exact hc9, HL2.out.cap_le⟩
        clear hr9 hc9
        rw [u8s_length, HX9l.out]
        have HBw : Hid (Below w.heap.size w wb) := Lib.hid (HZb.out.trans (HBb.out.mono (by have := HB8.out.size; omega)))
        have HCb := Lib.hid (HZC.out.below HBb.out (by have := HB8.out.size; omega))
        have HPb := Lib.hid (HZP.out.below HBb.out (by have := HP8.out.lt; omega))
        have HXb : Hid (Ro wb wb.heap.size _ _) := Lib.hid ((HXZ.out.below HBb.out (Nat.le_succ _)).mono (by have := HBb.out.size; simp at this; omega))
        have HYb : Hid (Ro wb wb.heap.size _ _) := Lib.hid ((HYZ.out.below HBb.out (Nat.le_succ _)).mono (by have := HBb.out.size; simp at this; omega))
        have HKb : Hid (Ro wb wb.heap.size _ _) := Lib.hid ((HKZ.out.below HBb.out (Nat.le_succ _)).mono (by have := HBb.out.size; simp at this; omega))
        clear i00 i01 i02 i10 i11 i12 hz0 hz1
        go_wp2_with fail
        refine (dec_no (xs ++ [0]) (q + 2) a9 c9 wb.heap.size wb HX9l.out HR9.out (Nat.le_refl _) HC9.out.1 (by have := HC9.out.2; unfold maxLen at this; omega) (by have := HQ9.out; omega) HNM.out).mono ?_
        rintro e wc ⟨rfl, hb⟩
        have HBc : Hid (Below w.heap.size w wc) := Lib.hid (HBw.out.trans (hb.mono HBw.out.size))
        have HCc := Lib.hid (HCb.out.below hb HCb.out.lt)
        have HPc := Lib.hid (HPb.out.below hb HPb.out.lt)
        have HXc : Hid (Ro wc wc.heap.size _ _) := Lib.hid ((HXb.out.below hb (Nat.le_refl _)).mono hb.size)
        have HYc : Hid (Ro wc wc.heap.size _ _) := Lib.hid ((HYb.out.below hb (Nat.le_refl _)).mono hb.size)
        have HKc : Hid (Ro wc wc.heap.size _ _) := Lib.hid ((HKb.out.below hb (Nat.le_refl _)).mono hb.size)
        have hz0 := HCc.out.lt
        have hz1 := HPc.out.lt
        clear hb
        go_wp2_with fail
        refine (HAl.out _).mono ?_
        rintro e wd ⟨rfl, hb⟩
        have hbd : Below wc.heap.size wc wd := ((Below.refl _ _).alloc (Nat.le_refl _) _).trans (hb.mono (by simp))
        have HBd : Hid (Below w.heap.size w wd) := Lib.hid (HBc.out.trans (hbd.mono HBc.out.size))
        have HCd := Lib.hid (HCc.out.below hbd HCc.out.lt)
        have HPd := Lib.hid (HPc.out.below hbd HPc.out.lt)
        have HXd : Hid (Ro wd wd.heap.size _ _) := Lib.hid ((HXc.out.below hbd (Nat.le_refl _)).mono hbd.size)
        have HYd : Hid (Ro wd wd.heap.size _ _) := Lib.hid ((HYc.out.below hbd (Nat.le_refl _)).mono hbd.size)
        have HKd : Hid (Ro wd wd.heap.size _ _) := Lib.hid ((HKc.out.below hbd (Nat.le_refl _)).mono hbd.size)
        clear hb hbd hz0 hz1
        have i00 := HCd.out.cell 0
        have i01 := HCd.out.cell 1
        have i02 := HCd.out.cell 2
        have i10 := HPd.out.cell 0
        have i11 := HPd.out.cell 1
        have i12 := HPd.out.cell 2
        simp at i00 i01 i02 i10 i11 i12
        have HSm : Hid (Calls Try.prog 12 #[cev x.k a6 nd c6 a7 nk c7, cev x.k a nd c a2 nk c2] wd fun e w' => e = .returned (.bool true) ∧ Below wd.heap.size wd w') := Lib.hid (by
          have h := same_any x x a6 c6 a7 c7 a c a2 c2 wd.heap.size wd HYd.out HKd.out ((HD.out.below HBd.out (Nat.le_refl _)).mono HBd.out.size) ((HBk.out.below HBd.out (Nat.le_refl _)).mono HBd.out.size) (Nat.le_refl _) (by have := len_right HRi.out; omega) (by have := len_right HRi.out; omega)
          rw [alike_iff.2 rfl, HNd.out, HNk.out] at h
          exact h)
        go_wp2_with fail
        refine HSm.out.mono ?_
        rintro e we ⟨rfl, hb⟩
        have HBz := Lib.hid (HBd.out.trans (hb.mono HBd.out.size))
        clear hb i00 i01 i02 i10 i11 i12
        go_wp2_with fail
        go_ret
        exact ⟨rfl, HBz.out⟩
end Go.Proofs.Ytcapphabajplcaa
