/-
  The statement SequencerNil: the walk of its Go text, by the contracts of what it calls.
-/
import Derived.Test.YtdblplkaobeimaaGa12
import Derived.Test.YtdblplkaobeimaaGa6
namespace Go.Proofs.Ytdblplkaobeimaa
open Go.RowKit Go.Deep Go.Shelf
set_option linter.unusedVariables false
set_option linter.unusedSimpArgs false

set_option maxHeartbeats 4000000 in
set_option maxRecDepth 100000 in
theorem Serve_nil (A : MgT) (w : World) :
    Calls Try.prog 9 #[.pointer none, .agg A.cs.toArray] w fun e w' => e = .returned (.tuple #[.agg zmT.cs.toArray, .bool false]) ∧ Below w.heap.size w w' := by
  obtain ⟨W, HWW, HO1, HO2, HC⟩ := two_new A w
  go_enter Try.func9, Try.ntmps9
  go_upto_region 1 with fail
  rw [HWW.out]
  have HST : Hid (Chg [] w W.drew) := Lib.hid HC.out.drew
  refine wp_region_held_drew (S := (fun w' => Chg [] w w')) (by kernel_rfl) HST.out (fun hHeld => ?_)
  refine wpAnyH_take (i := 0) (v := ?_) rfl (by kernel_rfl) (by kernel_rfl) (by kernel_rfl) (fun _ _ _ h => h) (Or.inl ⟨by kernel_rfl, ?_⟩) hHeld ?_
  rotate_left
  · (intro w hSw; first | (go_simp; done) | (go_simp; with_reducible rfl))
  (try simp only [Act.put, List.getElem_toArray, List.getElem_cons_succ, List.getElem_cons_zero, List.setIfInBounds_toArray, List.set_cons_zero, List.set_cons_succ])
  refine wpAnyH_take (i := 1) (v := ?_) rfl (by kernel_rfl) (by kernel_rfl) (by kernel_rfl) (fun _ _ _ h => h) (Or.inl ⟨by kernel_rfl, ?_⟩) hHeld ?_
  rotate_left
  · (intro w hSw; first | (go_simp; done) | (go_simp; with_reducible rfl))
  (try simp only [Act.put, List.getElem_toArray, List.getElem_cons_succ, List.getElem_cons_zero, List.setIfInBounds_toArray, List.set_cons_zero, List.set_cons_succ])
  refine wpAnyH_take (i := 2) (v := ?_) rfl (by kernel_rfl) (by kernel_rfl) (by kernel_rfl) (fun _ _ _ h => h) (Or.inl ⟨by kernel_rfl, ?_⟩) hHeld ?_
  rotate_left
  · (intro w hSw; first | (go_simp; done) | (go_simp; with_reducible rfl))
  (try simp only [Act.put, List.getElem_toArray, List.getElem_cons_succ, List.getElem_cons_zero, List.setIfInBounds_toArray, List.set_cons_zero, List.set_cons_succ])
  refine wpAnyH_take (i := 3) (v := undef) rfl (by kernel_rfl) (by kernel_rfl) (by kernel_rfl) (fun _ _ _ h => h) (Or.inr ⟨by kernel_rfl, rfl⟩) hHeld ?_
  (try simp only [Act.put, List.getElem_toArray, List.getElem_cons_succ, List.getElem_cons_zero, List.setIfInBounds_toArray, List.set_cons_zero, List.set_cons_succ])
  refine wpAnyH_take (i := 4) (v := undef) rfl (by kernel_rfl) (by kernel_rfl) (by kernel_rfl) (fun _ _ _ h => h) (Or.inr ⟨by kernel_rfl, rfl⟩) hHeld ?_
  (try simp only [Act.put, List.getElem_toArray, List.getElem_cons_succ, List.getElem_cons_zero, List.setIfInBounds_toArray, List.set_cons_zero, List.set_cons_succ])
  refine wpAnyH_take (i := 5) (v := undef) rfl (by kernel_rfl) (by kernel_rfl) (by kernel_rfl) (fun _ _ _ h => h) (Or.inr ⟨by kernel_rfl, rfl⟩) hHeld ?_
  (try simp only [Act.put, List.getElem_toArray, List.getElem_cons_succ, List.getElem_cons_zero, List.setIfInBounds_toArray, List.set_cons_zero, List.set_cons_succ])
  refine wpAnyH_take (i := 6) (v := ?_) rfl (by kernel_rfl) (by kernel_rfl) (by kernel_rfl) (fun _ _ _ h => h) (Or.inl ⟨by kernel_rfl, ?_⟩) hHeld ?_
  rotate_left
  · (intro w hSw; first | (go_simp; done) | (go_simp; with_reducible rfl))
  (try simp only [Act.put, List.getElem_toArray, List.getElem_cons_succ, List.getElem_cons_zero, List.setIfInBounds_toArray, List.set_cons_zero, List.set_cons_succ])
  refine wpAnyH_take (i := 7) (v := ?_) rfl (by kernel_rfl) (by kernel_rfl) (by kernel_rfl) (fun _ _ _ h => h) (Or.inl ⟨by kernel_rfl, ?_⟩) hHeld ?_
  rotate_left
  · (intro w hSw; first | (go_simp; done) | (go_simp; with_reducible rfl))
  (try simp only [Act.put, List.getElem_toArray, List.getElem_cons_succ, List.getElem_cons_zero, List.setIfInBounds_toArray, List.set_cons_zero, List.set_cons_succ])
  refine wpAnyH_take (i := 8) (v := undef) rfl (by kernel_rfl) (by kernel_rfl) (by kernel_rfl) (fun _ _ _ h => h) (Or.inr ⟨by kernel_rfl, rfl⟩) hHeld ?_
  (try simp only [Act.put, List.getElem_toArray, List.getElem_cons_succ, List.getElem_cons_zero, List.setIfInBounds_toArray, List.set_cons_zero, List.set_cons_succ])
  refine wpAnyH_take (i := 9) (v := undef) rfl (by kernel_rfl) (by kernel_rfl) (by kernel_rfl) (fun _ _ _ h => h) (Or.inr ⟨by kernel_rfl, rfl⟩) hHeld ?_
  (try simp only [Act.put, List.getElem_toArray, List.getElem_cons_succ, List.getElem_cons_zero, List.setIfInBounds_toArray, List.set_cons_zero, List.set_cons_succ])
  refine wpAnyH_take (i := 10) (v := undef) rfl (by kernel_rfl) (by kernel_rfl) (by kernel_rfl) (fun _ _ _ h => h) (Or.inr ⟨by kernel_rfl, rfl⟩) hHeld ?_
  (try simp only [Act.put, List.getElem_toArray, List.getElem_cons_succ, List.getElem_cons_zero, List.setIfInBounds_toArray, List.set_cons_zero, List.set_cons_succ])
  refine wpAnyH_take (i := 11) (v := undef) rfl (by kernel_rfl) (by kernel_rfl) (by kernel_rfl) (fun _ _ _ h => h) (Or.inr ⟨by kernel_rfl, rfl⟩) hHeld ?_
  (try simp only [Act.put, List.getElem_toArray, List.getElem_cons_succ, List.getElem_cons_zero, List.setIfInBounds_toArray, List.set_cons_zero, List.set_cons_succ])
  refine wpAnyH_take (i := 12) (v := undef) rfl (by kernel_rfl) (by kernel_rfl) (by kernel_rfl) (fun _ _ _ h => h) (Or.inr ⟨by kernel_rfl, rfl⟩) hHeld ?_
  (try simp only [Act.put, List.getElem_toArray, List.getElem_cons_succ, List.getElem_cons_zero, List.setIfInBounds_toArray, List.set_cons_zero, List.set_cons_succ])
  refine wpAnyH_take (i := 13) (v := ?_) rfl (by kernel_rfl) (by kernel_rfl) (by kernel_rfl) (fun _ _ _ h => h) (Or.inl ⟨by kernel_rfl, ?_⟩) hHeld ?_
  rotate_left
  · (intro w hSw; first | (go_simp; done) | (go_simp; with_reducible rfl))
  (try simp only [Act.put, List.getElem_toArray, List.getElem_cons_succ, List.getElem_cons_zero, List.setIfInBounds_toArray, List.set_cons_zero, List.set_cons_succ])
  refine wpAnyH_done (by kernel_rfl) ?_ _
  have hEnd := hHeld
  clear hEnd hHeld
  have HO2' : Hid (Own W.drew (w.heap.size + 1) 40 zmT.cs) := Lib.hid HO2.out
  go_wp2_with (refine wpList_storeMg rfl (.tmp 4) (.tmp 20) rfl (w.heap.size + 1) rfl zmT rfl zmT.cs HO2'.out rfl ?_)
  intro w7 ho hc
  go_wp2_with fail
  refine bodyPost_ret (results_row_tmpQ Try.results9 _ _ (w.heap.size + 1) 40 _ (0, 0) _ rfl ho Try.underlying40 rfl (by kernel_rfl)) rfl ?_
  exact ⟨rfl, (HST.out.then hc (fun x hx => by simp only [List.mem_singleton] at hx; subst hx; exact .inr (Nat.le_succ _))).low⟩
theorem Epoch_nil (w : World) : Calls Try.prog 10 #[.pointer none] w fun e w' => e = .returned (.int .u64 0) ∧ w' = w := by
  go_enter Try.func10, Try.ntmps10
  go_wp2_with fail
  go_ret
  exact ⟨rfl, rfl⟩
theorem Tail_nil (w : World) : Calls Try.prog 12 #[.pointer none] w fun e w' => e = .returned (.int .u64 0) ∧ w' = w := by
  go_enter Try.func12, Try.ntmps12
  go_wp2_with fail
  go_ret
  exact ⟨rfl, rfl⟩
set_option maxHeartbeats 2000000 in
set_option maxRecDepth 100000 in
theorem Last_nil (k : Int) (w : World) :
    Calls Try.prog 11 #[.pointer none, .int .i64 k] w fun e w' => e = .returned (.agg #[.int .u64 18446744073709551615, .int .u64 18446744073709551615]) ∧ Below w.heap.size w w' := by
  have HFD := Lib.hid (fun W => find_u [] none 0 0 k W (Ro.nil _ _ _) (Nat.zero_le _) (by simp))
  rw [fstB_nil] at HFD
  obtain ⟨W, hW⟩ : ∃ W, Hid (w.alloc (.cells #[.int .u64 0, .int .u64 0] 50) = W) := ⟨_, Lib.hid rfl⟩
  have HO : Hid (Own W w.heap.size 50 [.int .u64 0, .int .u64 0]) := Lib.hid (by rw [← hW.out]; exact Own.new w _ _)
  have HB : Hid (Below w.heap.size w W) := Lib.hid (by rw [← hW.out]; exact (Below.refl _ _).alloc (Nat.le_refl _) _)
  go_enter Try.func11, Try.ntmps11
  go_upto_region 1 with fail
  rw [hW.out]
  go_wp2_with fail
  refine (HFD.out _).mono ?_
  rintro e w2 ⟨u, rfl, hb⟩
  have o2 := HO.out.below hb HO.out.lt
  have HB2 := Lib.hid (HB.out.trans (hb.mono HB.out.size))
  have d0 := o2.cell 0
  have d1 := o2.cell 1
  have f0 := o2.frozen 0
  have f1 := o2.frozen 1
  have hz := o2.lt
  simp at d0 d1
  have HO2 := Lib.hid o2
  clear hb o2
  go_wp2_with fail
  refine bodyPost_ret (results_cell_row Try.results11 _ _ w.heap.size 50 _ (0, 0) _ rfl (((HO2.out.set 0 (.int .u64 (noLa.1 : Int))).set 1 (.int .u64 (noLa.2 : Int))).alloc _) Try.underlying50 rfl (by kernel_rfl)) rfl ?_
  exact ⟨rfl, (((HB2.out.setCell (by simp) _).setCell (by simp) _).alloc (by simp [set_size]; exact HB2.out.size) _)⟩

set_option maxHeartbeats 8000000 in
set_option maxRecDepth 100000 in
theorem sequencerNil_any (w : World) {A : MgT} (hA : MgOk w A) :
    Calls Try.prog 4 #[.agg A.cs.toArray] w fun z w' => z = .returned (.bool true) ∧ Below w.heap.size w w' := by
  obtain ⟨W, HWW⟩ : ∃ W, Hid (w.alloc (.cells A.cs.toArray 40) = W) := ⟨_, Lib.hid rfl⟩
  have hWb : Below w.heap.size w W := by rw [← HWW.out]; exact (Below.refl _ _).alloc (Nat.le_refl _) _
  have HO := Lib.hid (show Own W w.heap.size 40 A.cs by rw [← HWW.out]; exact Own.new w _ _)
  have HB := Lib.hid hWb
  have HAL := Lib.hid alive15_any
  have HF := Lib.hid (fun (W' : World) (hb : Below w.heap.size w W') => fits10_any A w.heap.size W' (hA.inn.below hb (Nat.le_refl _)) hb.size hA.fit)
  have HSV := Lib.hid (fun V => Serve_nil A V)
  have HEP := Lib.hid Epoch_nil
  have HTL := Lib.hid Tail_nil
  have HLS := Lib.hid (fun V => Last_nil 0 V)
  try simp only [MgT.val] at *
  clear hWb hA
  go_enter Try.func4, Try.ntmps4
  go_upto_region 1 with fail
  rw [HWW.out]
  go_wp2_with (refine wpList_loadMg rfl (.tmp 1) rfl w.heap.size rfl A HO.out ?_)
  refine (HF.out W HB.out).mono ?_
  rintro z w1 ⟨⟨t1, rfl⟩, hb⟩
  have HB1 := Lib.hid (HB.out.trans (hb.mono HB.out.size))
  have HO1 := Lib.hid (HO.out.below hb HO.out.lt)
  clear hb
  cases t1 with
  | false =>
    go_wp2_with fail
    refine (HAL.out w1).mono ?_
    rintro z w2 ⟨rfl, hb⟩
    have HB2 := Lib.hid (HB1.out.trans (hb.mono HB1.out.size))
    clear hb
    go_wp2_with fail
    go_ret
    exact ⟨rfl, HB2.out⟩
  | true =>
  go_wp2_with (refine wpList_loadMg rfl (.tmp 1) rfl w.heap.size rfl A HO1.out ?_)
  refine (HSV.out w1).mono ?_
  rintro z w2 ⟨rfl, hb⟩
  have HB2 := Lib.hid (HB1.out.trans (hb.mono HB1.out.size))
  clear hb
  go_wp2_with (refine wpList_storeMg rfl (.tmp 5) (.tmp 16) rfl w2.heap.size rfl zmT rfl zmT.cs (zm_new w2) rfl ?_)
  intro w3 ho hc
  have hc3 : Chg [] w2 w3 := ((Chg.refl [] w2).alloc _).then hc (fun x hx => by simp only [List.mem_singleton] at hx; subst hx; exact .inr (Nat.le_refl _))
  have HB3 := Lib.hid (HB2.out.trans (hc3.low.mono HB2.out.size))
  obtain ⟨g, hg⟩ : ∃ g, w2.heap.size = g := ⟨_, rfl⟩
  rw [hg] at ho ⊢
  have HM := Lib.hid ho
  clear ho hc hc3 hg
  go_wp2_with fail
  refine (HAL.out w3).mono ?_
  rintro z w4 ⟨rfl, hb⟩
  have HB4 := Lib.hid (HB3.out.trans (hb.mono HB3.out.size))
  have hm := HM.out.below hb HM.out.lt
  have q0 : w4.cell? ⟨g, 0, none⟩ = some (.int .i64 0) := hm.cell 0
  have hz := hm.lt
  clear hb hm
  go_wp2_with fail
  refine (HEP.out w4).mono ?_
  rintro z w5 ⟨rfl, rfl⟩
  go_wp2_with fail
  refine (HTL.out w5).mono ?_
  rintro z w6 ⟨rfl, rfl⟩
  go_wp2_with fail
  refine (HLS.out w6).mono ?_
  rintro z w7 ⟨rfl, hb⟩
  have HB7 := Lib.hid (HB4.out.trans (hb.mono HB4.out.size))
  have heq : ∀ w, (Op.equalIn 10000 50 (.agg #[.int .u64 18446744073709551615, .int .u64 18446744073709551615]) (.agg #[.int .u64 18446744073709551615, .int .u64 18446744073709551615])).run Try.prog w = .ok true w := fun w => eq_two 9998 18446744073709551615 18446744073709551615 18446744073709551615 18446744073709551615 w
  clear hb
  go_wp2_with fail
  go_ret
  exact ⟨rfl, HB7.out⟩
end Go.Proofs.Ytdblplkaobeimaa
