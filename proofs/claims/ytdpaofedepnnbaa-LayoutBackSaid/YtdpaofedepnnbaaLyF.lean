/-
  Chain of package layout, by its contract. No claim of its own.
-/
import Derived.Test.YtdpaofedepnnbaaLyC
import Derived.Test.YtdpaofedepnnbaaLyD
import Derived.Deep.RegionHeld3

namespace Go.Proofs.Ytdpaofedepnnbaa
open Go.RowKit Go.Deep Go.Shelf
set_option linter.unusedVariables false
set_option linter.unusedSimpArgs false

/-- the chain of an address; none: [] -/
def chainOf (x : Ly) (a : Nat) : List Int := if lright x = true ∧ a < 1048576 then cx (sx x.s (segN x a)).2 ((a - (sx x.s (segN x a)).1) % (sx x.s (segN x a)).2.length) else []
theorem ch_small {L : List (List Int)} (h : chOk L = true) {i : Nat} (hi : i < L.length) : 1 ≤ (cx L i).length ∧ (cx L i).length ≤ 4 := (chOk_iff.1 h).2.1 _ (cx_mem hi)
set_option maxHeartbeats 2000000 in
theorem chain_any (A : LyT) (B : Nat) (a : Nat) (w : World) (h : LyIn w B A) (hB : B ≤ w.heap.size) (hf : SgFit A.sg) :
    Calls Try.prog 17 #[A.val, .int .u64 (a : Int)] w fun e w' => ∃ v, e = .returned v ∧ Lst w' w.heap.size 3 v (i64s (chainOf A.x a)) ∧ Below w.heap.size w w' := by
  obtain ⟨W, HWW⟩ : ∃ W, Hid (w.alloc (.cells #[.int .u64 (A.e : Int), .slice A.a A.sg.length A.c, .int .i64 A.q] 25) = W) := ⟨_, Lib.hid rfl⟩
  have hWb : Below w.heap.size w W := by rw [← HWW.out]; exact (Below.refl _ _).alloc (Nat.le_refl _) _
  have hws : W.heap.size = w.heap.size + 1 := by rw [← HWW.out]; simp
  have hR := segment_any A B a W (h.below hWb hB) (by omega) hf
  have o1 : Own W w.heap.size 25 [.int .u64 (A.e : Int), .slice A.a A.sg.length A.c, .int .i64 A.q] := by rw [← HWW.out]; exact Own.new w _ _
  have HI := Lib.hid h
  have HB := Lib.hid hWb
  have HO := Lib.hid o1
  have HS := Lib.hid hB
  have HF := Lib.hid hf
  have hz := o1.lt
  have c0 := o1.cell 0
  have c1 := o1.cell 1
  have c2 := o1.cell 2
  simp at c0 c1 c2
  clear hWb o1 h hB hf hws
  unfold segI at hR
  unfold chainOf
  by_cases hc : lright A.x = true ∧ a < 1048576
  · rw [if_pos hc] at hR ⊢
    have HR := Lib.hid hR
    clear hR
    obtain ⟨g1, g2, g3⟩ := segN_is hc.1 a
    have hok := ((sgOk_iff.1 (lright_iff.1 hc.1).2.2).2.2.1 _ g1).2
    have hn4 := (sgOk_iff.1 (lright_iff.1 hc.1).2.2).1
    have hc2 := hc.2
    clear g3 hc
    generalize segN A.x a = i at *
    have hs : sx A.x.s i = (st A.sg i).x := sx_sgx A.sg i
    rw [hs] at g2 hok ⊢
    have hiL : i < A.sg.length := by simpa [LyT.x] using g1
    have hsn : A.sg.length ≤ 4 := by have := hn4.2; simpa [LyT.x] using this
    have hin := HI.out.2 _ (st_mem hiL)
    have hcl := (chOk_iff.1 hok).1
    simp only [SgT.x, chx_length] at g2 hcl ⊢
    have hokc : ∀ j, j < (st A.sg i).ch.length → 1 ≤ (ct (st A.sg i).ch j).u.length ∧ (ct (st A.sg i).ch j).u.length ≤ 4 := fun j hj => by
      have := ch_small hok (i := j) (by simpa [SgT.x] using hj)
      simpa [SgT.x, cx_chx] using this
    obtain ⟨b, off, ea, hb, hcs⟩ := HI.out.1.sg (by omega)
    obtain ⟨s1, s2⟩ := hcs i hiL
    clear hcs hok hs g1 hn4
    obtain ⟨ep, sa, c, L, q⟩ := A
    simp only [LyT.val] at *
    subst ea
    have HHB := Lib.hid hb
    have HL : Hid (L.length ≤ 4 ∧ i < L.length) := Lib.hid ⟨hsn, hiL⟩
    have hi1 : (i : Int) < (L.length : Int) := by omega
    have hi0 : ¬ ((i : Int) < 0) := by omega
    generalize L.length = n at *
    generalize st L i = sg at *
    obtain ⟨f, ca, cc, M⟩ := sg
    simp only at s1 s2 hokc hcl g2 hin ⊢
    obtain ⟨b2, off2, ea2, hb2, hcs2⟩ := hin.1.ch (by omega)
    obtain ⟨j, hj⟩ : ∃ j, (a - f) % M.length = j := ⟨_, rfl⟩
    have hjl : j < M.length := by rw [← hj]; exact Nat.mod_lt _ (by omega)
    have s3 := hcs2 j hjl
    have hok := hokc j hjl
    rw [hj, cx_chx]
    have hU := hin.2 _ (ct_mem hjl)
    clear hcs2 hokc
    subst ea2
    obtain ⟨d, hd⟩ : ∃ d, a - f = d := ⟨_, rfl⟩
    rw [hd] at hj
    have e1 : (a : Int) - (f : Int) = (d : Int) := by omega
    have e2 : (d : Int) % (M.length : Int) = (j : Int) := by omega
    have hjl2 : (j : Int) < (M.length : Int) := by omega
    have hm0 : (1 : Int) ≤ (M.length : Int) := by omega
    have hm4 : (M.length : Int) ≤ 4 := by omega
    have e3 : Int.tmod (d : Int) (M.length : Int) = (j : Int) := by rw [Int.tmod_eq_emod_of_nonneg (by omega)]; exact e2
    have e4 : IntKind.u64.wrap (d : Int) = (d : Int) := wrap_u64_nat _ (by omega)
    have e5 : IntKind.u64.wrap (M.length : Int) = (M.length : Int) := wrap_u64_nat _ (by omega)
    have e6 : ¬ (M.length = 0) := by omega
    clear e2
    have HJ : Hid (j < M.length) := Lib.hid hjl
    generalize M.length = m at *
    generalize (ct M j) = y at *
    obtain ⟨ua, uc, us⟩ := y
    simp only at s3 hok hU ⊢
    have HC := Lib.hid (fun (W : World) (hb : Below B w W) => clone_int ua uc B us W (hU.below hb (Nat.le_refl _)) (by omega) (by omega))
    have HBB : Hid (∀ W, Below w.heap.size w W → Below B w W) := Lib.hid (fun W h => h.mono HS.out)
    generalize us.length = un at *
    have H3 := Lib.hid s3
    have HB2 := Lib.hid (Nat.lt_of_lt_of_le hb2 HS.out)
    have HGB := Lib.hid (Nat.lt_of_lt_of_le HHB.out HS.out)
    clear hok hU hin hb2 hj hd hsn hiL hcl g2 hc2 hb hjl
    go_enter Try.func17, Try.ntmps17
    go_upto_region 1 with fail
    rw [HWW.out]
    go_wp2_with fail
    refine HR.out.mono ?_
    rintro e w1 ⟨rfl, hb⟩
    have hbw := HB.out.trans (hb.mono HB.out.size)
    have HBw := Lib.hid hbw
    have HO2 := Lib.hid (HO.out.below hb HO.out.lt)
    have d0 := HO2.out.cell 0
    have d1 := HO2.out.cell 1
    have d2 := HO2.out.cell 2
    have hz1 := HO2.out.lt
    simp at d0 d1 d2
    have t1 := cell_keep hbw s1 HGB.out
    have t2 := cell_keep hbw s2 HGB.out
    clear hb hbw s1 s2 s3 c0 c1 c2
    go_wp2_with fail
    have o5 := Own.new w1 68 [.int .u64 (f : Int), .slice (some ⟨b2, off2, none⟩) m cc]
    have hS0 : Below w.heap.size w (w1.alloc (.cells #[.int .u64 (f : Int), .slice (some ⟨b2, off2, none⟩) m cc] 68)) := HBw.out.alloc HBw.out.size _
    have HSS : Hid (Below w.heap.size w (w1.alloc (.cells #[.int .u64 (f : Int), .slice (some ⟨b2, off2, none⟩) m cc] 68)).drew ∧ (w1.alloc (.cells #[.int .u64 (f : Int), .slice (some ⟨b2, off2, none⟩) m cc] 68)).drew.cell? ⟨w1.heap.size, 0, none⟩ = some (.int .u64 (f : Int)) ∧ (w1.alloc (.cells #[.int .u64 (f : Int), .slice (some ⟨b2, off2, none⟩) m cc] 68)).drew.cell? ⟨w1.heap.size, 1, none⟩ = some (.slice (some ⟨b2, off2, none⟩) m cc) ∧ (w1.alloc (.cells #[.int .u64 (f : Int), .slice (some ⟨b2, off2, none⟩) m cc] 68)).drew.cell? ⟨b2, off2 + j, none⟩ = some (.slice ua un uc)) :=
      Lib.hid ⟨hS0.drew, by simp, by simp, cell_keep hS0.drew H3.out HB2.out⟩
    have HW1 : Hid (w1.heap.size < (w1.alloc (.cells #[.int .u64 (f : Int), .slice (some ⟨b2, off2, none⟩) m cc] 68)).drew.heap.size) := Lib.hid (by simp)
    clear o5 hS0
    generalize (w1.alloc (.cells #[.int .u64 (f : Int), .slice (some ⟨b2, off2, none⟩) m cc] 68)) = w5 at *
    clear d0 d1 d2 t1 t2
    refine wp_region_held_drew (S := (fun W => Below w.heap.size w W ∧ W.cell? ⟨w1.heap.size, 0, none⟩ = some (.int .u64 (f : Int)) ∧ W.cell? ⟨w1.heap.size, 1, none⟩ = some (.slice (some ⟨b2, off2, none⟩) m cc) ∧ W.cell? ⟨b2, off2 + j, none⟩ = some (.slice ua un uc))) (by kernel_rfl) HSS.out (fun hHeld => ?_)
    refine wpAnyH_take (i := 0) (v := ?_) rfl (by kernel_rfl) (by kernel_rfl) (by kernel_rfl) (fun _ _ _ h => h) (Or.inl ⟨by kernel_rfl, ?_⟩) hHeld ?_
    rotate_left
    · (intro w hSw; first | (go_simp; done) | (go_simp; with_reducible rfl))
    (try simp only [Act.put, List.getElem_toArray, List.getElem_cons_succ, List.getElem_cons_zero, List.setIfInBounds_toArray, List.set_cons_zero, List.set_cons_succ])
    refine wpAnyH_take (i := 1) (v := ?_) rfl (by kernel_rfl) (by kernel_rfl) (by kernel_rfl) (fun _ _ _ h => h) (Or.inl ⟨by kernel_rfl, ?_⟩) hHeld ?_
    rotate_left
    · (intro w hSw; first | (go_simp; done) | (go_simp; with_reducible rfl))
    (try simp only [Act.put, List.getElem_toArray, List.getElem_cons_succ, List.getElem_cons_zero, List.setIfInBounds_toArray, List.set_cons_zero, List.set_cons_succ])
    refine wpAnyH_take (i := 2) (v := ?_) rfl (by kernel_rfl) (by kernel_rfl) (by kernel_rfl) (fun _ _ _ h => h) (Or.inl ⟨by kernel_rfl, ?_⟩) hHeld ?_
    rotate_left
    · (intro w hSw; first | (go_simp; done) | (go_simp; with_reducible rfl))
    (try simp only [Act.put, List.getElem_toArray, List.getElem_cons_succ, List.getElem_cons_zero, List.setIfInBounds_toArray, List.set_cons_zero, List.set_cons_succ])
    refine wpAnyH_take (i := 3) (v := ?_) rfl (by kernel_rfl) (by kernel_rfl) (by kernel_rfl) (fun _ _ _ h => h) (Or.inl ⟨by kernel_rfl, ?_⟩) hHeld ?_
    rotate_left
    · (intro w hSw; first | (go_simp; done) | (go_simp; with_reducible rfl))
    (try simp only [Act.put, List.getElem_toArray, List.getElem_cons_succ, List.getElem_cons_zero, List.setIfInBounds_toArray, List.set_cons_zero, List.set_cons_succ])
    refine wpAnyH_take (i := 4) (v := ?_) rfl (by kernel_rfl) (by kernel_rfl) (by kernel_rfl) (fun _ _ _ h => h) (Or.inl ⟨by kernel_rfl, ?_⟩) hHeld ?_
    rotate_left
    · (intro w hSw; first | (go_simp; done) | (go_simp; with_reducible rfl))
    (try simp only [Act.put, List.getElem_toArray, List.getElem_cons_succ, List.getElem_cons_zero, List.setIfInBounds_toArray, List.set_cons_zero, List.set_cons_succ])
    refine wpAnyH_take (i := 5) (v := ?_) rfl (by kernel_rfl) (by kernel_rfl) (by kernel_rfl) (fun _ _ _ h => h) (Or.inl ⟨by kernel_rfl, ?_⟩) hHeld ?_
    rotate_left
    · (intro w hSw; first | (go_simp; done) | (go_simp; with_reducible rfl))
    (try simp only [Act.put, List.getElem_toArray, List.getElem_cons_succ, List.getElem_cons_zero, List.setIfInBounds_toArray, List.set_cons_zero, List.set_cons_succ])
    refine wpAnyH_take (i := 6) (v := ?_) rfl (by kernel_rfl) (by kernel_rfl) (by kernel_rfl) (fun _ _ _ h => h) (Or.inl ⟨by kernel_rfl, ?_⟩) hHeld ?_
    rotate_left
    · (intro w hSw; first | (go_simp; done) | (go_simp; with_reducible rfl))
    (try simp only [Act.put, List.getElem_toArray, List.getElem_cons_succ, List.getElem_cons_zero, List.setIfInBounds_toArray, List.set_cons_zero, List.set_cons_succ])
    refine wpAnyH_take (i := 7) (v := ?_) rfl (by kernel_rfl) (by kernel_rfl) (by kernel_rfl) (fun _ _ _ h => h) (Or.inl ⟨by kernel_rfl, ?_⟩) hHeld ?_
    rotate_left
    · (intro w hSw; first | (go_simp; done) | (go_simp; with_reducible rfl))
    (try simp only [Act.put, List.getElem_toArray, List.getElem_cons_succ, List.getElem_cons_zero, List.setIfInBounds_toArray, List.set_cons_zero, List.set_cons_succ])
    refine wpAnyH_take (i := 8) (v := ?_) rfl (by kernel_rfl) (by kernel_rfl) (by kernel_rfl) (fun _ _ _ h => h) (Or.inl ⟨by kernel_rfl, ?_⟩) hHeld ?_
    rotate_left
    · (intro w hSw; first | (go_simp; done) | (go_simp; with_reducible rfl))
    (try simp only [Act.put, List.getElem_toArray, List.getElem_cons_succ, List.getElem_cons_zero, List.setIfInBounds_toArray, List.set_cons_zero, List.set_cons_succ])
    refine wpAnyH_take (i := 9) (v := ?_) rfl (by kernel_rfl) (by kernel_rfl) (by kernel_rfl) (fun _ _ _ h => h) (Or.inl ⟨by kernel_rfl, ?_⟩) hHeld ?_
    rotate_left
    · (intro w hSw; first | (go_simp; done) | (go_simp; with_reducible rfl))
    (try simp only [Act.put, List.getElem_toArray, List.getElem_cons_succ, List.getElem_cons_zero, List.setIfInBounds_toArray, List.set_cons_zero, List.set_cons_succ])
    refine wpAnyH_take (i := 10) (v := ?_) rfl (by kernel_rfl) (by kernel_rfl) (by kernel_rfl) (fun _ _ _ h => h) (Or.inl ⟨by kernel_rfl, ?_⟩) hHeld ?_
    rotate_left
    · (intro w hSw; first | (go_simp; done) | (go_simp; with_reducible rfl))
    (try simp only [Act.put, List.getElem_toArray, List.getElem_cons_succ, List.getElem_cons_zero, List.setIfInBounds_toArray, List.set_cons_zero, List.set_cons_succ])
    refine wpAnyH_take (i := 11) (v := ?_) rfl (by kernel_rfl) (by kernel_rfl) (by kernel_rfl) (fun _ _ _ h => h) (Or.inl ⟨by kernel_rfl, ?_⟩) hHeld ?_
    rotate_left
    · (intro w hSw; first | (go_simp; done) | (go_simp; with_reducible rfl))
    (try simp only [Act.put, List.getElem_toArray, List.getElem_cons_succ, List.getElem_cons_zero, List.setIfInBounds_toArray, List.set_cons_zero, List.set_cons_succ])
    refine wpAnyH_take (i := 12) (v := ?_) rfl (by kernel_rfl) (by kernel_rfl) (by kernel_rfl) (fun _ _ _ h => h) (Or.inl ⟨by kernel_rfl, ?_⟩) hHeld ?_
    rotate_left
    · (intro w hSw; first | (go_simp; done) | (go_simp; with_reducible rfl))
    (try simp only [Act.put, List.getElem_toArray, List.getElem_cons_succ, List.getElem_cons_zero, List.setIfInBounds_toArray, List.set_cons_zero, List.set_cons_succ])
    refine wpAnyH_ready (rs := [13]) (by kernel_rfl) (by simp) (AllReadyH.cons rfl (fun K hK => ?_) AllReadyH.nil)
    have hH := hHeld
    (go_simp; go_at_call 48; refine (HC.out _ (HBB.out _ hH.1)).mono ?_; rintro e w6 ⟨v, rfl, hl6, hb6⟩; have HL6 := Lib.hid (hl6.base (base' := w.heap.size) hH.1.size))
    refine hK.out _ _ (by exact ⟨hH.1.trans (hb6.mono hH.1.size), cell_keep hb6 hH.2.1 (World.block_lt_of_cell? _ _ hH.2.1), cell_keep hb6 hH.2.2.1 (World.block_lt_of_cell? _ _ hH.2.2.1), cell_keep hb6 hH.2.2.2 (World.block_lt_of_cell? _ _ hH.2.2.2)⟩) (fun hHq1 => ?_)
    clear hK K hH 
    (try simp only [Act.put, List.getElem_toArray, List.getElem_cons_succ, List.getElem_cons_zero, List.setIfInBounds_toArray, List.set_cons_zero, List.set_cons_succ])
    refine wpAnyH_take (i := 14) (v := ?_) rfl (by kernel_rfl) (by kernel_rfl) (by kernel_rfl) (fun _ _ _ h => h) (Or.inl ⟨by kernel_rfl, ?_⟩) hHq1 ?_
    rotate_left
    · (intro w hSw; first | (go_simp; done) | (go_simp; with_reducible rfl))
    (try simp only [Act.put, List.getElem_toArray, List.getElem_cons_succ, List.getElem_cons_zero, List.setIfInBounds_toArray, List.set_cons_zero, List.set_cons_succ])
    refine wpAnyH_done (by kernel_rfl) ?_ _
    have hEnd := hHq1
    have HE := Lib.hid hEnd.1
    clear hHeld hEnd hl6 hb6
    go_wp2_with fail
    go_ret
    exact ⟨_, rfl, HL6.out, HE.out⟩
  · rw [if_neg hc] at hR ⊢
    have HR := Lib.hid hR
    clear hR hc
    obtain ⟨ep, sa, c, L, q⟩ := A
    simp only [LyT.val] at *
    generalize L.length = n at *
    go_enter Try.func17, Try.ntmps17
    go_upto_region 1 with fail
    rw [HWW.out]
    go_wp2_with fail
    refine HR.out.mono ?_
    rintro e w' ⟨rfl, hb⟩
    have H2 := Lib.hid (HB.out.trans (hb.mono HB.out.size))
    clear hb
    go_wp2_with fail
    go_ret
    exact ⟨_, rfl, Lst.nil _ _ _, H2.out⟩
end Go.Proofs.Ytdpaofedepnnbaa
