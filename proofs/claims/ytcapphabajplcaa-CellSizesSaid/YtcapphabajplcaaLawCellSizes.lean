/-
  The statement CellSizes: the walk of its Go text, by the contracts of what it calls.
-/
import Derived.Test.YtcapphabajplcaaOp7
import Derived.Test.YtcapphabajplcaaAlv7
namespace Go.Proofs.Ytcapphabajplcaa
open Go.RowKit Go.Deep
set_option linter.unusedVariables false
set_option linter.unusedSimpArgs false

set_option maxRecDepth 100000 in
set_option maxHeartbeats 8000000 in
theorem cellSizes_any (w : World) {A : CeT} (h : CeOk w A) :
    Calls Try.prog 6 #[A.val] w fun e w' => e = .returned (.bool true) ∧ Below w.heap.size w w' := by
  obtain ⟨x, a, c, a2, c2⟩ := A
  obtain ⟨hk, hd, hdl, hb, hbl, hfit⟩ := h
  simp only at hk hd hdl hb hbl hfit
  unfold CeT.val
  simp only
  have HAl := Lib.hid (fun W => alive_any W)
  have HF := Lib.hid (fun W => fits_any x.k a x.d.length c a2 x.b.length c2 W)
  obtain ⟨W1, hW1⟩ : ∃ W, w.alloc (.cells #[.int .i64 x.k, .slice a x.d.length c, .slice a2 x.b.length c2] 26) = W := ⟨_, rfl⟩
  have hb1 : Below w.heap.size w W1 := by rw [← hW1]; exact (Below.refl _ _).alloc (Nat.le_refl _) _
  have o1 : Own W1 w.heap.size 26 [.int .i64 x.k, .slice a x.d.length c, .slice a2 x.b.length c2] := by rw [← hW1]; exact Own.new w _ _
  have HB1 := Lib.hid hb1
  have HO1 := Lib.hid o1
  have HW1 := Lib.hid hW1
  have HD := Lib.hid hd
  have HBk := Lib.hid hb
  have HFit := Lib.hid hfit
  cases hr : right x with
  | false =>
    have HE := Lib.hid (fun W (hW : Below w.heap.size w W) => enc_no x a c a2 c2 w.heap.size W (HBk.out.below hW (Nat.le_refl _)) hW.size hbl hdl hr)
    obtain ⟨f, hf⟩ : ∃ f, f = (decide (x.d.length ≤ 400) && decide (x.b.length ≤ 30)) := ⟨_, rfl⟩
    rw [← hf] at HF
    clear hr hW1 hb1 hd hb hfit hf hbl hdl o1
    cases f
    all_goals
      go_enter Try.func6, Try.ntmps6
      go_wp2_with fail
      rw [HW1.out]
      refine (HF.out _).mono ?_
      rintro e w2 ⟨rfl, hb2⟩
      have HB2 := Lib.hid (HB1.out.trans (hb2.mono HB1.out.size))
      have o2 := HO1.out.below hb2 HO1.out.lt
      have c0 := o2.cell 0
      have c1 := o2.cell 1
      have c2' := o2.cell 2
      simp at c0 c1 c2'
      clear hb2 o2
      go_wp2_with fail
      refine (HE.out _ HB2.out).mono ?_
      rintro e w3 ⟨rfl, hb3⟩
      have HB3 := Lib.hid (HB2.out.trans (hb3.mono HB2.out.size))
      clear hb3
      go_wp2_with fail
      refine (HAl.out _).mono ?_
      rintro e w4 ⟨rfl, hb4⟩
      have HB4 := Lib.hid (HB3.out.trans (hb4.mono HB3.out.size))
      clear hb4
      go_wp2_with fail
      go_ret
      exact ⟨rfl, HB4.out⟩
  | true =>
    have HE := Lib.hid (fun W (hW : Below w.heap.size w W) => enc_yes x a c a2 c2 w.heap.size W (HD.out.below hW (Nat.le_refl _)) (HBk.out.below hW (Nat.le_refl _)) hW.size hfit hr)
    have HRi := Lib.hid hr
    rcases right_kind hr with hk2 | hk2
    · obtain ⟨hd1, hb1', -⟩ := right_data hr hk2
      have hf : (decide (x.d.length ≤ 400) && decide (x.b.length ≤ 30)) = true := by simp; omega
      rw [hf] at HF
      rw [hk2] at HF HE HW1 HO1 ⊢
      clear hr hW1 hb1 hd hb hfit hf hbl hdl o1 hk
      generalize hmd : x.d.length = m at *
      generalize hnb : x.b.length = n at *
      have HMd := Lib.hid hmd
      have HNb := Lib.hid hnb
      clear hmd hnb
      go_enter Try.func6, Try.ntmps6
      go_wp2_with fail
      rw [HW1.out]
      refine (HF.out _).mono ?_
      rintro e w2 ⟨rfl, hb2⟩
      have HB2 := Lib.hid (HB1.out.trans (hb2.mono HB1.out.size))
      have o2 := HO1.out.below hb2 HO1.out.lt
      have c0 := o2.cell 0
      have c1 := o2.cell 1
      have c2' := o2.cell 2
      simp at c0 c1 c2'
      have HO2 := Lib.hid o2
      clear hb2 o2
      go_wp2_with fail
      refine (HE.out _ HB2.out).mono ?_
      rintro e w3 ⟨bs, a', c', rfl, hen, hro, hcap, hb3⟩
      have HB3 := Lib.hid (HB2.out.trans (hb3.mono HB2.out.size))
      have HO3 := Lib.hid (HO2.out.below hb3 HO2.out.lt)
      have d0 := HO3.out.cell 0
      have d1 := HO3.out.cell 1
      have d2 := HO3.out.cell 2
      simp at d0 d1 d2
      have HRo := Lib.hid hro
      obtain ⟨hp1, hp2⟩ : bs.length = (12 + 46 * n + 7) / 8 + m ∧ bs.drop ((12 + 46 * n + 7) / 8) = x.d := by
        rcases enc_length hen HRi.out with ⟨h, _⟩ | ⟨_, h1, h2⟩
        · omega
        · rw [HNb.out] at h1 h2
          rw [HMd.out] at h1
          exact ⟨h1, h2⟩
      obtain ⟨hcap1, hcap2⟩ := hcap
      clear hen hb3 hro c0 c1 c2'
      obtain ⟨hh, hhd⟩ : ∃ hh, (12 + 46 * n + 7) / 8 = hh := ⟨_, rfl⟩
      rw [hhd] at hp1 hp2
      have hh2 : 0 < hh := by omega
      obtain ⟨b, off, rfl, hb0, -⟩ := HRo.out.u8 (by omega)
      have hro2 := HRo.out
      rw [hp1] at hcap1 ⊢
      obtain ⟨ad, hif⟩ : ∃ ad : Addr, (if c' = hh then some (⟨b, off, none⟩ : Addr) else some ⟨b, off + hh, none⟩) = some ad := by
        by_cases h : c' = hh
        · exact ⟨_, if_pos h⟩
        · exact ⟨_, if_neg h⟩
      have hdr : Ro w3 w3.heap.size (some ad) (u8s x.d) := by
        have h := hro2.drop hh c' (by rw [u8s_length]; omega)
        rw [show (u8s bs).drop hh = u8s x.d by rw [← hp2]; simp [u8s]] at h
        rw [← hif]
        by_cases h' : c' = hh
        · rw [if_pos h'] at h ⊢; exact h
        · rw [if_neg h'] at h ⊢
          rw [Option.map_some, add_off] at h
          exact h
      have HS : Hid (∀ W, Below w3.heap.size w3 W → W.cell? ⟨w.heap.size, 1, none⟩ = some (.slice a m c) ∧ (convert 23 9 (.slice (some ad) m (c' - hh))).run Try.prog W = .ok (.string ⟨x.d.toArray⟩) W ∧ (convert 23 9 (.slice a m c)).run Try.prog W = .ok (.string ⟨x.d.toArray⟩) W) :=
        Lib.hid fun W hW => ⟨by simpa using (HO3.out.below hW HO3.out.lt).cell 1, conv_ro (hdr.below hW (Nat.le_refl _)) HMd.out, conv_ro ((HD.out.below HB3.out (Nat.le_refl _)).below hW HB3.out.size) HMd.out⟩
      have he : (12 + 46 * (n : Int) + 7) / 8 = (hh : Int) := by omega
      have hc1 : (hh : Int) ≤ (c' : Int) := by omega
      have hc2 : (hh : Int) ≤ 10000 := by omega
      have hm1 : (m : Int) ≤ 100 := by omega
      have hc3 : (hh : Int) ≤ (hh : Int) + (m : Int) := by omega
      have hn1 : (n : Int) ≤ 4 := by omega
      have HC2 := Lib.hid hcap2
      clear hhd hp1 hp2 hcap1 hcap2 hdr hro2 hh2 hd1 hb1'
      go_wp2_with fail
      simp only [he]
      have hws : IntKind.i64.wrap ((hh : Int) + (m : Int)) = (hh : Int) + (m : Int) := IntWalk.i64_in _ (by omega)
      clear he hn1
      refine wp_region_held_drew (S := (fun W => W.cell? ⟨w.heap.size, 1, none⟩ = some (.slice a m c) ∧ (convert 23 9 (.slice (some ad) m (c' - hh))).run Try.prog W = .ok (.string ⟨x.d.toArray⟩) W ∧ (convert 23 9 (.slice a m c)).run Try.prog W = .ok (.string ⟨x.d.toArray⟩) W)) (by kernel_rfl) (HS.out _ (Below.refl _ w3).drew) (fun hHeld => ?_)
      clear d0 d1 d2
      refine wpAnyH_ready (rs := [0]) (by kernel_rfl) (by simp) (AllReadyH.cons rfl (fun K hK => ?_) AllReadyH.nil)
      have hH := hHeld
      (go_simp; go_at_call 8; refine (HAl.out _).mono ?_; rintro e w9 ⟨rfl, hb9⟩)
      refine hK.out _ _ (by exact HS.out _ ((Below.refl _ w3).drew.trans hb9)) (fun hHq1 => ?_)
      clear hK K hH 
      (try simp only [Act.put, List.getElem_toArray, List.getElem_cons_succ, List.getElem_cons_zero, List.setIfInBounds_toArray, List.set_cons_zero, List.set_cons_succ])
      refine wpAnyH_take (i := 1) (v := ?_) rfl (by kernel_rfl) (by kernel_rfl) (by kernel_rfl) (fun _ _ _ h => h) (Or.inl ⟨by kernel_rfl, ?_⟩) hHq1 ?_
      rotate_left
      · (intro w hSw; first | (go_simp; done) | (go_simp; with_reducible rfl))
      (try simp only [Act.put, List.getElem_toArray, List.getElem_cons_succ, List.getElem_cons_zero, List.setIfInBounds_toArray, List.set_cons_zero, List.set_cons_succ])
      refine wpAnyH_take (i := 2) (v := ?_) rfl (by kernel_rfl) (by kernel_rfl) (by kernel_rfl) (fun _ _ _ h => h) (Or.inl ⟨by kernel_rfl, ?_⟩) hHq1 ?_
      rotate_left
      · (intro w hSw; first | (go_simp; done) | (go_simp; with_reducible rfl))
      (try simp only [Act.put, List.getElem_toArray, List.getElem_cons_succ, List.getElem_cons_zero, List.setIfInBounds_toArray, List.set_cons_zero, List.set_cons_succ])
      refine wpAnyH_take (i := 3) (v := ?_) rfl (by kernel_rfl) (by kernel_rfl) (by kernel_rfl) (fun _ _ _ h => h) (Or.inl ⟨by kernel_rfl, ?_⟩) hHq1 ?_
      rotate_left
      · (intro w hSw; first | (go_simp; done) | (go_simp; with_reducible rfl))
      (try simp only [Act.put, List.getElem_toArray, List.getElem_cons_succ, List.getElem_cons_zero, List.setIfInBounds_toArray, List.set_cons_zero, List.set_cons_succ])
      refine wpAnyH_take (i := 4) (v := ?_) rfl (by kernel_rfl) (by kernel_rfl) (by kernel_rfl) (fun _ _ _ h => h) (Or.inl ⟨by kernel_rfl, ?_⟩) hHq1 ?_
      rotate_left
      · (intro w hSw; first | (go_simp; done) | (go_simp; with_reducible rfl))
      (try simp only [Act.put, List.getElem_toArray, List.getElem_cons_succ, List.getElem_cons_zero, List.setIfInBounds_toArray, List.set_cons_zero, List.set_cons_succ])
      refine wpAnyH_take (i := 5) (v := ?_) rfl (by kernel_rfl) (by kernel_rfl) (by kernel_rfl) (fun _ _ _ h => h) (Or.inl ⟨by kernel_rfl, ?_⟩) hHq1 ?_
      rotate_left
      · (intro w hSw; first | (go_simp; done) | (go_simp; with_reducible rfl))
      (try simp only [Act.put, List.getElem_toArray, List.getElem_cons_succ, List.getElem_cons_zero, List.setIfInBounds_toArray, List.set_cons_zero, List.set_cons_succ])
      refine wpAnyH_take (i := 6) (v := ?_) rfl (by kernel_rfl) (by kernel_rfl) (by kernel_rfl) (fun _ _ _ h => h) (Or.inl ⟨by kernel_rfl, ?_⟩) hHq1 ?_
      rotate_left
      · (intro w hSw; first | (go_simp; done) | (go_simp; with_reducible rfl))
      (try simp only [Act.put, List.getElem_toArray, List.getElem_cons_succ, List.getElem_cons_zero, List.setIfInBounds_toArray, List.set_cons_zero, List.set_cons_succ])
      refine wpAnyH_take (i := 7) (v := ?_) rfl (by kernel_rfl) (by kernel_rfl) (by kernel_rfl) (fun _ _ _ h => h) (Or.inl ⟨by kernel_rfl, ?_⟩) hHq1 ?_
      rotate_left
      · (intro w hSw; first | (go_simp; done) | (go_simp; with_reducible rfl))
      (try simp only [Act.put, List.getElem_toArray, List.getElem_cons_succ, List.getElem_cons_zero, List.setIfInBounds_toArray, List.set_cons_zero, List.set_cons_succ])
      refine wpAnyH_take (i := 8) (v := ?_) rfl (by kernel_rfl) (by kernel_rfl) (by kernel_rfl) (fun _ _ _ h => h) (Or.inl ⟨by kernel_rfl, ?_⟩) hHq1 ?_
      rotate_left
      · (intro w hSw; first | (go_simp; done) | (go_simp; with_reducible rfl))
      (try simp only [Act.put, List.getElem_toArray, List.getElem_cons_succ, List.getElem_cons_zero, List.setIfInBounds_toArray, List.set_cons_zero, List.set_cons_succ])
      refine wpAnyH_take (i := 9) (v := ?_) rfl (by kernel_rfl) (by kernel_rfl) (by kernel_rfl) (fun _ _ _ h => h) (Or.inl ⟨by kernel_rfl, ?_⟩) hHq1 ?_
      rotate_left
      · (intro w hSw; first | (go_simp; done) | (go_simp; with_reducible rfl))
      (try simp only [Act.put, List.getElem_toArray, List.getElem_cons_succ, List.getElem_cons_zero, List.setIfInBounds_toArray, List.set_cons_zero, List.set_cons_succ])
      refine wpAnyH_take (i := 10) (v := ?_) rfl (by kernel_rfl) (by kernel_rfl) (by kernel_rfl) (fun _ _ _ h => h) (Or.inl ⟨by kernel_rfl, ?_⟩) hHq1 ?_
      rotate_left
      · (intro w hSw; first | (go_simp; done) | (go_simp; with_reducible rfl))
      (try simp only [Act.put, List.getElem_toArray, List.getElem_cons_succ, List.getElem_cons_zero, List.setIfInBounds_toArray, List.set_cons_zero, List.set_cons_succ])
      refine wpAnyH_take (i := 11) (v := ?_) rfl (by kernel_rfl) (by kernel_rfl) (by kernel_rfl) (fun _ _ _ h => h) (Or.inl ⟨by kernel_rfl, ?_⟩) hHq1 ?_
      rotate_left
      · (intro w hSw; first | (go_simp; done) | (go_simp; with_reducible rfl))
      (try simp only [Act.put, List.getElem_toArray, List.getElem_cons_succ, List.getElem_cons_zero, List.setIfInBounds_toArray, List.set_cons_zero, List.set_cons_succ])
      refine wpAnyH_take (i := 12) (v := ?_) rfl (by kernel_rfl) (by kernel_rfl) (by kernel_rfl) (fun _ _ _ h => h) (Or.inl ⟨by kernel_rfl, ?_⟩) hHq1 ?_
      rotate_left
      · (intro w hSw; first | (go_simp; done) | (go_simp; with_reducible rfl))
      (try simp only [Act.put, List.getElem_toArray, List.getElem_cons_succ, List.getElem_cons_zero, List.setIfInBounds_toArray, List.set_cons_zero, List.set_cons_succ])
      refine wpAnyH_take (i := 13) (v := ?_) rfl (by kernel_rfl) (by kernel_rfl) (by kernel_rfl) (fun _ _ _ h => h) (Or.inl ⟨by kernel_rfl, ?_⟩) hHq1 ?_
      rotate_left
      · (intro w hSw; first | (go_simp; done) | (go_simp; with_reducible rfl))
      (try simp only [Act.put, List.getElem_toArray, List.getElem_cons_succ, List.getElem_cons_zero, List.setIfInBounds_toArray, List.set_cons_zero, List.set_cons_succ])
      refine wpAnyH_take (i := 14) (v := ?_) rfl (by kernel_rfl) (by kernel_rfl) (by kernel_rfl) (fun _ _ _ h => h) (Or.inl ⟨by kernel_rfl, ?_⟩) hHq1 ?_
      rotate_left
      · (intro w hSw; first | (go_simp; done) | (go_simp; with_reducible rfl))
      (try simp only [Act.put, List.getElem_toArray, List.getElem_cons_succ, List.getElem_cons_zero, List.setIfInBounds_toArray, List.set_cons_zero, List.set_cons_succ])
      refine wpAnyH_take (i := 15) (v := ?_) rfl (by kernel_rfl) (by kernel_rfl) (by kernel_rfl) (fun _ _ _ h => h) (Or.inl ⟨by kernel_rfl, ?_⟩) hHq1 ?_
      rotate_left
      · (intro w hSw; first | (go_simp; done) | (go_simp; with_reducible rfl))
      (try simp only [Act.put, List.getElem_toArray, List.getElem_cons_succ, List.getElem_cons_zero, List.setIfInBounds_toArray, List.set_cons_zero, List.set_cons_succ])
      refine wpAnyH_take (i := 16) (v := ?_) rfl (by kernel_rfl) (by kernel_rfl) (by kernel_rfl) (fun _ _ _ h => h) (Or.inl ⟨by kernel_rfl, ?_⟩) hHq1 ?_
      rotate_left
      · (intro w hSw; first | (go_simp; done) | (go_simp; with_reducible rfl))
      (try simp only [Act.put, List.getElem_toArray, List.getElem_cons_succ, List.getElem_cons_zero, List.setIfInBounds_toArray, List.set_cons_zero, List.set_cons_succ])
      refine wpAnyH_take (i := 17) (v := ?_) rfl (by kernel_rfl) (by kernel_rfl) (by kernel_rfl) (fun _ _ _ h => h) (Or.inl ⟨by kernel_rfl, ?_⟩) hHq1 ?_
      rotate_left
      · (intro w hSw; first | (go_simp; done) | (go_simp; with_reducible rfl))
      (try simp only [Act.put, List.getElem_toArray, List.getElem_cons_succ, List.getElem_cons_zero, List.setIfInBounds_toArray, List.set_cons_zero, List.set_cons_succ])
      refine wpAnyH_take (i := 18) (v := ?_) rfl (by kernel_rfl) (by kernel_rfl) (by kernel_rfl) (fun _ _ _ h => h) (Or.inl ⟨by kernel_rfl, ?_⟩) hHq1 ?_
      rotate_left
      · (intro w hSw; first | (go_simp; done) | (go_simp; with_reducible rfl))
      (try simp only [Act.put, List.getElem_toArray, List.getElem_cons_succ, List.getElem_cons_zero, List.setIfInBounds_toArray, List.set_cons_zero, List.set_cons_succ])
      refine wpAnyH_take (i := 19) (v := ?_) rfl (by kernel_rfl) (by kernel_rfl) (by kernel_rfl) (fun _ _ _ h => h) (Or.inl ⟨by kernel_rfl, ?_⟩) hHq1 ?_
      rotate_left
      · (intro w hSw; first | (go_simp; done) | (go_simp; with_reducible rfl))
      (try simp only [Act.put, List.getElem_toArray, List.getElem_cons_succ, List.getElem_cons_zero, List.setIfInBounds_toArray, List.set_cons_zero, List.set_cons_succ])
      refine wpAnyH_take (i := 20) (v := ?_) rfl (by kernel_rfl) (by kernel_rfl) (by kernel_rfl) (fun _ _ _ h => h) (Or.inl ⟨by kernel_rfl, ?_⟩) hHq1 ?_
      rotate_left
      · (intro w hSw; first | (go_simp; done) | (go_simp; with_reducible rfl))
      (try simp only [Act.put, List.getElem_toArray, List.getElem_cons_succ, List.getElem_cons_zero, List.setIfInBounds_toArray, List.set_cons_zero, List.set_cons_succ])
      refine wpAnyH_take (i := 21) (v := ?_) rfl (by kernel_rfl) (by kernel_rfl) (by kernel_rfl) (fun _ _ _ h => h) (Or.inl ⟨by kernel_rfl, ?_⟩) hHq1 ?_
      rotate_left
      · (intro w hSw; first | (go_simp; done) | (go_simp; with_reducible rfl))
      (try simp only [Act.put, List.getElem_toArray, List.getElem_cons_succ, List.getElem_cons_zero, List.setIfInBounds_toArray, List.set_cons_zero, List.set_cons_succ])
      refine wpAnyH_done (by kernel_rfl) ?_ _
      have hEnd := hHq1
      have HB9 := Lib.hid (HB3.out.trans (((Below.refl w3.heap.size w3).drew.trans hb9).mono HB3.out.size))
      clear hEnd hHeld hb9
      go_wp2_with fail
      go_ret
      exact ⟨by simp, HB9.out⟩
    · obtain rfl := right_junk hr hk2
      clear hr hW1 hb1 hd hb hfit hbl hdl o1 hk hk2
      simp only [List.length_nil] at HF HE HW1 HO1 ⊢
      change Hid (∀ W, Calls _ _ _ _ fun e w' => e = .returned (.bool true) ∧ _) at HF
      go_enter Try.func6, Try.ntmps6
      go_wp2_with fail
      rw [HW1.out]
      refine (HF.out _).mono ?_
      rintro e w2 ⟨rfl, hb2⟩
      have HB2 := Lib.hid (HB1.out.trans (hb2.mono HB1.out.size))
      have o2 := HO1.out.below hb2 HO1.out.lt
      have c0 := o2.cell 0
      have c1 := o2.cell 1
      have c2' := o2.cell 2
      simp at c0 c1 c2'
      have HO2 := Lib.hid o2
      clear hb2 o2
      go_wp2_with fail
      refine (HE.out _ HB2.out).mono ?_
      rintro e w3 ⟨bs, a', c', rfl, hen, hro, hcap, hb3⟩
      have HB3 := Lib.hid (HB2.out.trans (hb3.mono HB2.out.size))
      have d0 := (HO2.out.below hb3 HO2.out.lt).cell 0
      simp at d0
      obtain rfl : bs = [2] := by
        rcases hen with ⟨_, h⟩ | ⟨h, _⟩
        · exact h
        · simp at h
      simp only [List.length_cons, List.length_nil, Nat.zero_add]
      clear hen hro hcap hb3 c0 c1 c2'
      go_wp2_with fail
      refine (HAl.out _).mono ?_
      rintro e w4 ⟨rfl, hb4⟩
      have HB4 := Lib.hid (HB3.out.trans (hb4.mono HB3.out.size))
      clear hb4
      go_wp2_with fail
      go_ret
      exact ⟨rfl, HB4.out⟩
end Go.Proofs.Ytcapphabajplcaa
