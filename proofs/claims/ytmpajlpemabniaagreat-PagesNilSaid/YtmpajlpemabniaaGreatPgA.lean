/-
  A record's bytes. No claim of their own.
-/
import Derived.Test.YtmpajlpemabniaaGreatJ29
namespace Go.Proofs.YtmpajlpemabniaaGreat
open Go.RowKit Go.Maps Go.Shelf Go.Deep
set_option linter.unusedVariables false
set_option linter.unusedSimpArgs false

/-- the box of a record -/
def EnS (w1 : World) (g0 : Nat) (k n t : Nat) (W : World) : Prop :=
  W.cell? ⟨g0, 0, none⟩ = some (.int .u64 (k : Int)) ∧ W.cell? ⟨g0, 1, none⟩ = some (.int .u64 (n : Int)) ∧ W.cell? ⟨g0, 2, none⟩ = some (.int .u64 (t : Int)) ∧ Chg [] w1 W
theorem EnS.step {w1 : World} {g0 k n t : Nat} {W W' : World} (h : EnS w1 g0 k n t W) (hc : Chg [] W W') : EnS w1 g0 k n t W' :=
  ⟨hc.cell h.1 (by simp), hc.cell h.2.1 (by simp), hc.cell h.2.2.1 (by simp), h.2.2.2.trans hc⟩
theorem ro2 (w1 : World) (x y : List Value) (tx ty : TypeId) : Ro ((w1.alloc (.cells x.toArray tx)).alloc (.cells y.toArray ty)).drew ((w1.alloc (.cells x.toArray tx)).alloc (.cells y.toArray ty)).drew.heap.size (some ⟨w1.heap.size, 0, none⟩) x ∧ Ro ((w1.alloc (.cells x.toArray tx)).alloc (.cells y.toArray ty)).drew ((w1.alloc (.cells x.toArray tx)).alloc (.cells y.toArray ty)).drew.heap.size (some ⟨w1.heap.size + 1, 0, none⟩) y := by
  have h1 : Own ((w1.alloc (.cells x.toArray tx)).alloc (.cells y.toArray ty)).drew w1.heap.size tx x := (Own.new w1 tx x).alloc _
  have h2 : Own ((w1.alloc (.cells x.toArray tx)).alloc (.cells y.toArray ty)).drew (w1.heap.size + 1) ty y := by
    have h9 := Own.new (w1.alloc (.cells x.toArray tx)) ty y
    rw [World.size_alloc] at h9
    exact h9
  exact ⟨h1.ro _ h1.lt, h2.ro _ h2.lt⟩
/-- packed -/
def PkP (w1 : World) (bs : List UInt8) (p : Nat) (v3 v4 : Value) (W : World) : Prop :=
  ∃ g, v3 = .slice (some ⟨g, 0, none⟩) p p ∧ v4 = .bool true ∧ w1.heap.size ≤ g ∧ Own W g 5 (u8s bs) ∧ Chg [] w1 W
set_option maxHeartbeats 1000000 in
set_option maxRecDepth 100000 in
theorem encoded_any (w : World) (r : Rc) (A : CeT) (ho : okN r) (hA : r.k = 2 → A.x = r.c ∧ Ro w w.heap.size A.a (u8s A.x.d) ∧ Ro w w.heap.size A.a2 (bcs A.x.b)) :
    Calls Tryz.prog 122 #[rcv (r.k : Int) r.n r.t A] w fun e w' => ∃ a c, e = .returned (.slice a (encR r).length c) ∧ Ro w' w'.heap.size a (u8s (encR r)) ∧ (∀ ad, a = some ad → w.heap.size ≤ ad.block) ∧ Chg [] w w' := by
  have hpk := ho.pack
  obtain ⟨k, n, t, c⟩ := r
  simp only at hA hpk ⊢
  obtain ⟨bs, hbs⟩ : ∃ x, Hid (packL (wid3 k) [k, n, t] = x) := ⟨_, Lib.hid rfl⟩
  obtain ⟨p, hp⟩ : ∃ x, Hid (bs.length = x) := ⟨_, Lib.hid rfl⟩
  have HW := Lib.hid (fun W => pwidths_any k (by have := ho.k1; simpa using this) (by have := ho.k5; simpa using this) W)
  have HP : Hid (∀ W aw av, Ro W W.heap.size (some ⟨aw, 0, none⟩) (i64s (wid3 k)) → Ro W W.heap.size (some ⟨av, 0, none⟩) (u64s [k, n, t]) → Calls Tryz.prog 179 #[.slice (some ⟨aw, 0, none⟩) 3 3, .slice (some ⟨av, 0, none⟩) 3 3] W fun e w' => ∃ g, e = .returned (.tuple #[.slice (some ⟨g, 0, none⟩) p p, .bool true]) ∧ W.heap.size ≤ g ∧ Own w' g 5 (u8s bs) ∧ Chg [] W w') := by
    apply Lib.hid
    intro W aw av g1 g2
    have := pack_yes (wid3 k) [k, n, t] (some ⟨aw, 0, none⟩) (some ⟨av, 0, none⟩) 3 3 W.heap.size W g1 g2 (Nat.le_refl _) (by rw [wid3_len]; omega) hpk
    rw [wid3_len] at this
    refine this.mono ?_
    rintro e w' ⟨g, cs, h1, h2, h3, h4, h5⟩
    have e9 : cs = bs := by rw [← hbs.out]; exact h3.unique (packL_is (wid3_len k))
    subst e9
    rw [hp.out] at h1
    exact ⟨g, h1, h2, h4, low_chg h5⟩
  obtain ⟨w1, HW1⟩ : ∃ W, Hid (w.alloc (rcb (k : Int) n t A) = W) := ⟨_, Lib.hid rfl⟩
  have hC1 : Chg [] w w1 := by rw [← HW1.out]; exact (Chg.refl [] w).alloc _
  have hob : Own w1 w.heap.size 101 [.int .u64 (k : Int), .int .u64 (n : Int), .int .u64 (t : Int), .int .i64 A.x.k, .slice A.a A.x.d.length A.c, .slice A.a2 A.x.b.length A.c2] := by rw [← HW1.out]; exact Own.new w _ _
  have HS : Hid (EnS w1 w.heap.size k n t w1) := Lib.hid ⟨by rw [hob.cell]; rfl, by rw [hob.cell]; rfl, by rw [hob.cell]; rfl, Chg.refl [] w1⟩
  have HO := Lib.hid hob
  have HC1 := Lib.hid hC1
  have HA := Lib.hid hA
  have HOK := Lib.hid ho
  have HKK := Lib.hid hpk
  clear hpk hC1 hob hA ho
  obtain ⟨⟨ck, cd, cb⟩, a1, c1, a2, c2⟩ := A
  simp only at HA HO HW1
  unfold rcv
  unfold rcb at HW1
  simp only at HW1 ⊢
  obtain ⟨dn, hdn⟩ : ∃ x, Hid (cd.length = x) := ⟨_, Lib.hid rfl⟩
  obtain ⟨bn, hbn⟩ : ∃ x, Hid (cb.length = x) := ⟨_, Lib.hid rfl⟩
  rw [hdn.out, hbn.out] at HW1 HO ⊢
  go_enter Tryz.func122, Tryz.ntmps122
  go_upto_region 1 with fail
  rw [HW1.out]
  go_cut [3, 4] from 3 to 20 (fun v3 v4 wx => PkP w1 bs p v3 v4 wx)
  case first =>
    refine wp_region_held_drew (S := (fun W : World => W.cell? ⟨w.heap.size, 0, none⟩ = some (.int .u64 (k : Int)) ∧ W.cell? ⟨w.heap.size, 1, none⟩ = some (.int .u64 (n : Int)) ∧ W.cell? ⟨w.heap.size, 2, none⟩ = some (.int .u64 (t : Int)) ∧ Chg [] w1 W)) (by kernel_rfl) (by have h9 := HS.out.step (Chg.refl [] w1).drew; exact h9) (fun hHeld => ?_)
    refine wpAnyH_take (i := 0) (v := ?_) rfl (by kernel_rfl) (by kernel_rfl) (by kernel_rfl) (fun _ _ _ h => h) (Or.inl ⟨by kernel_rfl, ?_⟩) hHeld ?_
    rotate_left
    · (intro w hSw; first | (go_simp; done) | (go_simp; with_reducible rfl))
    (try simp only [Act.put, List.getElem_toArray, List.getElem_cons_succ, List.getElem_cons_zero, List.setIfInBounds_toArray, List.set_cons_zero, List.set_cons_succ])
    refine wpAnyH_take (i := 1) (v := ?_) rfl (by kernel_rfl) (by kernel_rfl) (by kernel_rfl) (fun _ _ _ h => h) (Or.inl ⟨by kernel_rfl, ?_⟩) hHeld ?_
    rotate_left
    · (intro w hSw; first | (go_simp; done) | (go_simp; with_reducible rfl))
    (try simp only [Act.put, List.getElem_toArray, List.getElem_cons_succ, List.getElem_cons_zero, List.setIfInBounds_toArray, List.set_cons_zero, List.set_cons_succ])
    refine wpAnyH_take (i := 3) (v := ?_) rfl (by kernel_rfl) (by kernel_rfl) (by kernel_rfl) (fun _ _ _ h => h) (Or.inl ⟨by kernel_rfl, ?_⟩) hHeld ?_
    rotate_left
    · (intro w hSw; first | (go_simp; done) | (go_simp; with_reducible rfl))
    (try simp only [Act.put, List.getElem_toArray, List.getElem_cons_succ, List.getElem_cons_zero, List.setIfInBounds_toArray, List.set_cons_zero, List.set_cons_succ])
    refine wpAnyH_take (i := 4) (v := ?_) rfl (by kernel_rfl) (by kernel_rfl) (by kernel_rfl) (fun _ _ _ h => h) (Or.inl ⟨by kernel_rfl, ?_⟩) hHeld ?_
    rotate_left
    · (intro w hSw; first | (go_simp; done) | (go_simp; with_reducible rfl))
    (try simp only [Act.put, List.getElem_toArray, List.getElem_cons_succ, List.getElem_cons_zero, List.setIfInBounds_toArray, List.set_cons_zero, List.set_cons_succ])
    refine wpAnyH_take (i := 5) (v := ?_) rfl (by kernel_rfl) (by kernel_rfl) (by kernel_rfl) (fun _ _ _ h => h) (Or.inl ⟨by kernel_rfl, ?_⟩) hHeld ?_
    rotate_left
    · (intro w hSw; first | (go_simp; done) | (go_simp; with_reducible rfl))
    (try simp only [Act.put, List.getElem_toArray, List.getElem_cons_succ, List.getElem_cons_zero, List.setIfInBounds_toArray, List.set_cons_zero, List.set_cons_succ])
    refine wpAnyH_take (i := 6) (v := ?_) rfl (by kernel_rfl) (by kernel_rfl) (by kernel_rfl) (fun _ _ _ h => h) (Or.inl ⟨by kernel_rfl, ?_⟩) hHeld ?_
    rotate_left
    · (intro w hSw; first | (go_simp; done) | (go_simp; with_reducible rfl))
    (try simp only [Act.put, List.getElem_toArray, List.getElem_cons_succ, List.getElem_cons_zero, List.setIfInBounds_toArray, List.set_cons_zero, List.set_cons_succ])
    refine wpAnyH_take (i := 7) (v := ?_) rfl (by kernel_rfl) (by kernel_rfl) (by kernel_rfl) (fun _ _ _ h => h) (Or.inl ⟨by kernel_rfl, ?_⟩) hHeld ?_
    rotate_left
    · (intro w hSw; first | (go_simp; done) | (go_simp; with_reducible rfl))
    (try simp only [Act.put, List.getElem_toArray, List.getElem_cons_succ, List.getElem_cons_zero, List.setIfInBounds_toArray, List.set_cons_zero, List.set_cons_succ])
    refine wpAnyH_take (i := 8) (v := ?_) rfl (by kernel_rfl) (by kernel_rfl) (by kernel_rfl) (fun _ _ _ h => h) (Or.inl ⟨by kernel_rfl, ?_⟩) hHeld ?_
    rotate_left
    · (intro w hSw; first | (go_simp; done) | (go_simp; with_reducible rfl))
    (try simp only [Act.put, List.getElem_toArray, List.getElem_cons_succ, List.getElem_cons_zero, List.setIfInBounds_toArray, List.set_cons_zero, List.set_cons_succ])
    refine wpAnyH_ready (rs := [2,9]) (by kernel_rfl) (by simp) (AllReadyH.cons rfl (fun K hK => ?_) (AllReadyH.cons rfl (fun K hK => ?_) AllReadyH.nil))
    · have hH := hHeld
      (go_simp; go_at_call 88; refine (HW.out _).mono ?_; rintro e w2 ⟨rfl, rfl⟩)
      refine hK.out _ _ (by exact EnS.step hH ((Chg.refl [] _).alloc _)) (fun hHq1 => ?_)
      clear hK K hH 
      (try simp only [Act.put, List.getElem_toArray, List.getElem_cons_succ, List.getElem_cons_zero, List.setIfInBounds_toArray, List.set_cons_zero, List.set_cons_succ])
      refine wpAnyH_ready (rs := [9]) (by kernel_rfl) (by simp) (AllReadyH.cons rfl (fun K hK => ?_) AllReadyH.nil)
      have hH := hHq1
      (go_simp; skip)
      refine hK.out _ _ (by exact EnS.step hH ((Chg.refl [] _).alloc _)) (fun hHq2 => ?_)
      clear hK K hH hHq1
      (try simp only [Act.put, List.getElem_toArray, List.getElem_cons_succ, List.getElem_cons_zero, List.setIfInBounds_toArray, List.set_cons_zero, List.set_cons_succ])
      refine wpAnyH_ready (rs := [10]) (by kernel_rfl) (by simp) (AllReadyH.cons rfl (fun K hK => ?_) AllReadyH.nil)
      have hH := hHq2
      (go_simp; go_at_call 179; refine (HP.out _ _ _ (by first | exact (ro2 _ _ _ _ _).1 | exact (ro2 _ _ _ _ _).2) (by first | exact (ro2 _ _ _ _ _).1 | exact (ro2 _ _ _ _ _).2)).mono ?_; rintro e w5 ⟨g5, rfl, hg5, ho5, hc5⟩)
      refine hK.out _ _ (by exact EnS.step hH hc5) (fun hHq3 => ?_)
      clear hK K hH hHq2
      (try simp only [Act.put, List.getElem_toArray, List.getElem_cons_succ, List.getElem_cons_zero, List.setIfInBounds_toArray, List.set_cons_zero, List.set_cons_succ])
      refine wpAnyH_take (i := 11) (v := ?_) rfl (by kernel_rfl) (by kernel_rfl) (by kernel_rfl) (fun _ _ _ h => h) (Or.inl ⟨by kernel_rfl, ?_⟩) hHq3 ?_
      rotate_left
      · (intro w hSw; first | (go_simp; done) | (go_simp; with_reducible rfl))
      (try simp only [Act.put, List.getElem_toArray, List.getElem_cons_succ, List.getElem_cons_zero, List.setIfInBounds_toArray, List.set_cons_zero, List.set_cons_succ])
      refine wpAnyH_take (i := 12) (v := ?_) rfl (by kernel_rfl) (by kernel_rfl) (by kernel_rfl) (fun _ _ _ h => h) (Or.inl ⟨by kernel_rfl, ?_⟩) hHq3 ?_
      rotate_left
      · (intro w hSw; first | (go_simp; done) | (go_simp; with_reducible rfl))
      (try simp only [Act.put, List.getElem_toArray, List.getElem_cons_succ, List.getElem_cons_zero, List.setIfInBounds_toArray, List.set_cons_zero, List.set_cons_succ])
      refine wpAnyH_take (i := 13) (v := ?_) rfl (by kernel_rfl) (by kernel_rfl) (by kernel_rfl) (fun _ _ _ h => h) (Or.inl ⟨by kernel_rfl, ?_⟩) hHq3 ?_
      rotate_left
      · (intro w hSw; first | (go_simp; done) | (go_simp; with_reducible rfl))
      (try simp only [Act.put, List.getElem_toArray, List.getElem_cons_succ, List.getElem_cons_zero, List.setIfInBounds_toArray, List.set_cons_zero, List.set_cons_succ])
      refine wpAnyH_take (i := 14) (v := ?_) rfl (by kernel_rfl) (by kernel_rfl) (by kernel_rfl) (fun _ _ _ h => h) (Or.inl ⟨by kernel_rfl, ?_⟩) hHq3 ?_
      rotate_left
      · (intro w hSw; first | (go_simp; done) | (go_simp; with_reducible rfl))
      (try simp only [Act.put, List.getElem_toArray, List.getElem_cons_succ, List.getElem_cons_zero, List.setIfInBounds_toArray, List.set_cons_zero, List.set_cons_succ])
      refine wpAnyH_take (i := 15) (v := ?_) rfl (by kernel_rfl) (by kernel_rfl) (by kernel_rfl) (fun _ _ _ h => h) (Or.inl ⟨by kernel_rfl, ?_⟩) hHq3 ?_
      rotate_left
      · (intro w hSw; first | (go_simp; done) | (go_simp; with_reducible rfl))
      (try simp only [Act.put, List.getElem_toArray, List.getElem_cons_succ, List.getElem_cons_zero, List.setIfInBounds_toArray, List.set_cons_zero, List.set_cons_succ])
      refine wpAnyH_done (by kernel_rfl) ?_ _
      have hEnd := hHq3
      (go_wp2_with fail; go_meet; (case rel => exact ⟨g5, rfl, rfl, Nat.le_trans (((Chg.refl [] w1).alloc _).alloc _).drew.size hg5, ho5, hEnd.2.2.2⟩))
    · have hH := hHeld
      (go_simp; skip)
      refine hK.out _ _ (by exact EnS.step hH ((Chg.refl [] _).alloc _)) (fun hHq4 => ?_)
      clear hK K hH 
      (try simp only [Act.put, List.getElem_toArray, List.getElem_cons_succ, List.getElem_cons_zero, List.setIfInBounds_toArray, List.set_cons_zero, List.set_cons_succ])
      refine wpAnyH_ready (rs := [2]) (by kernel_rfl) (by simp) (AllReadyH.cons rfl (fun K hK => ?_) AllReadyH.nil)
      have hH := hHq4
      (go_simp; go_at_call 88; refine (HW.out _).mono ?_; rintro e w2 ⟨rfl, rfl⟩)
      refine hK.out _ _ (by exact EnS.step hH ((Chg.refl [] _).alloc _)) (fun hHq5 => ?_)
      clear hK K hH hHq4
      (try simp only [Act.put, List.getElem_toArray, List.getElem_cons_succ, List.getElem_cons_zero, List.setIfInBounds_toArray, List.set_cons_zero, List.set_cons_succ])
      refine wpAnyH_ready (rs := [10]) (by kernel_rfl) (by simp) (AllReadyH.cons rfl (fun K hK => ?_) AllReadyH.nil)
      have hH := hHq5
      (go_simp; go_at_call 179; refine (HP.out _ _ _ (by first | exact (ro2 _ _ _ _ _).1 | exact (ro2 _ _ _ _ _).2) (by first | exact (ro2 _ _ _ _ _).1 | exact (ro2 _ _ _ _ _).2)).mono ?_; rintro e w5 ⟨g5, rfl, hg5, ho5, hc5⟩)
      refine hK.out _ _ (by exact EnS.step hH hc5) (fun hHq6 => ?_)
      clear hK K hH hHq5
      (try simp only [Act.put, List.getElem_toArray, List.getElem_cons_succ, List.getElem_cons_zero, List.setIfInBounds_toArray, List.set_cons_zero, List.set_cons_succ])
      refine wpAnyH_take (i := 11) (v := ?_) rfl (by kernel_rfl) (by kernel_rfl) (by kernel_rfl) (fun _ _ _ h => h) (Or.inl ⟨by kernel_rfl, ?_⟩) hHq6 ?_
      rotate_left
      · (intro w hSw; first | (go_simp; done) | (go_simp; with_reducible rfl))
      (try simp only [Act.put, List.getElem_toArray, List.getElem_cons_succ, List.getElem_cons_zero, List.setIfInBounds_toArray, List.set_cons_zero, List.set_cons_succ])
      refine wpAnyH_take (i := 12) (v := ?_) rfl (by kernel_rfl) (by kernel_rfl) (by kernel_rfl) (fun _ _ _ h => h) (Or.inl ⟨by kernel_rfl, ?_⟩) hHq6 ?_
      rotate_left
      · (intro w hSw; first | (go_simp; done) | (go_simp; with_reducible rfl))
      (try simp only [Act.put, List.getElem_toArray, List.getElem_cons_succ, List.getElem_cons_zero, List.setIfInBounds_toArray, List.set_cons_zero, List.set_cons_succ])
      refine wpAnyH_take (i := 13) (v := ?_) rfl (by kernel_rfl) (by kernel_rfl) (by kernel_rfl) (fun _ _ _ h => h) (Or.inl ⟨by kernel_rfl, ?_⟩) hHq6 ?_
      rotate_left
      · (intro w hSw; first | (go_simp; done) | (go_simp; with_reducible rfl))
      (try simp only [Act.put, List.getElem_toArray, List.getElem_cons_succ, List.getElem_cons_zero, List.setIfInBounds_toArray, List.set_cons_zero, List.set_cons_succ])
      refine wpAnyH_take (i := 14) (v := ?_) rfl (by kernel_rfl) (by kernel_rfl) (by kernel_rfl) (fun _ _ _ h => h) (Or.inl ⟨by kernel_rfl, ?_⟩) hHq6 ?_
      rotate_left
      · (intro w hSw; first | (go_simp; done) | (go_simp; with_reducible rfl))
      (try simp only [Act.put, List.getElem_toArray, List.getElem_cons_succ, List.getElem_cons_zero, List.setIfInBounds_toArray, List.set_cons_zero, List.set_cons_succ])
      refine wpAnyH_take (i := 15) (v := ?_) rfl (by kernel_rfl) (by kernel_rfl) (by kernel_rfl) (fun _ _ _ h => h) (Or.inl ⟨by kernel_rfl, ?_⟩) hHq6 ?_
      rotate_left
      · (intro w hSw; first | (go_simp; done) | (go_simp; with_reducible rfl))
      (try simp only [Act.put, List.getElem_toArray, List.getElem_cons_succ, List.getElem_cons_zero, List.setIfInBounds_toArray, List.set_cons_zero, List.set_cons_succ])
      refine wpAnyH_done (by kernel_rfl) ?_ _
      have hEnd := hHq6
      (go_wp2_with fail; go_meet; (case rel => exact ⟨g5, rfl, rfl, Nat.le_trans (((Chg.refl [] w1).alloc _).alloc _).drew.size hg5, ho5, hEnd.2.2.2⟩))
  case rest =>
    rename World => wx
    obtain ⟨g, rfl, rfl, hg, hog, hcx⟩ := hcut
    have hO2 := HO.out.chg hcx (by simp)
    have HG := Lib.hid (And.intro hg (And.intro hog hcx))
    have q0 : wx.cell? ⟨w.heap.size, 0, none⟩ = some (.int .u64 (k : Int)) := by rw [hO2.cell]; rfl
    have q3 : wx.cell? ⟨w.heap.size, 3, none⟩ = some (.int .i64 ck) := by rw [hO2.cell]; rfl
    have q4 : wx.cell? ⟨w.heap.size, 4, none⟩ = some (.slice a1 dn c1) := by rw [hO2.cell]; rfl
    have q5 : wx.cell? ⟨w.heap.size, 5, none⟩ = some (.slice a2 bn c2) := by rw [hO2.cell]; rfl
    clear hg hog hcx hO2
    by_cases hk : k = 2
    · subst hk
      have hA2 := HA.out rfl
      obtain ⟨e1, hr1, hr2⟩ := hA2
      subst e1
      have hcw := HC1.out.trans HG.out.2.2
      have hrt := HOK.out.c2 rfl
      have hE := enc_yes ⟨ck, cd, cb⟩ a1 c1 a2 c2 w.heap.size wx (hr1.below hcw.low (Nat.le_refl _)) (hr2.below hcw.low (Nat.le_refl _)) hcw.size (right_fit hrt) hrt
      simp only [hdn.out, hbn.out] at hE
      obtain ⟨es, hes⟩ : ∃ x, Hid (encC ⟨ck, cd, cb⟩ = x) := ⟨_, Lib.hid rfl⟩
      obtain ⟨m, hm⟩ : ∃ x, Hid (es.length = x) := ⟨_, Lib.hid rfl⟩
      have HE : Hid (Calls Tryz.prog 180 #[.agg #[.int .i64 ck, .slice a1 dn c1, .slice a2 bn c2]] wx fun e w' => ∃ a' c', e = .returned (.tuple #[.slice a' m c', .int .i64 0]) ∧ Ro w' w'.heap.size a' (u8s es) ∧ Below wx.heap.size wx w') := by
        apply Lib.hid
        refine Calls.mono (R' := _) hE ?_
        rintro e w' ⟨bs', a', c', h1, h2, h3, _, h5⟩
        have e9 : bs' = es := by rw [← hes.out]; exact h2.unique (encC_is hrt)
        subst e9
        rw [hm.out] at h1
        exact ⟨a', c', h1, h3, h5⟩
      have hlen := (encC_len hrt).2
      rw [hes.out, hm.out] at hlen
      have hpl : p ≤ 10 := by
        have h9 := (packL_is (l := wid3 2) (vs := [2, n, t]) (wid3_len 2)).1
        rw [hbs.out, hp.out] at h9
        rw [wid3_bytes] at h9
        simp at h9; omega
      have HCW := Lib.hid hcw
      clear hE hr1 hr2 hcw hrt HP HW HS HA
      have HCl : Hid ((u8s bs).length = p) := Lib.hid (by rw [u8s_length]; exact hp.out)
      go_wp2_with (first
        | (go_at_call 180; refine HE.out.mono ?_; rintro e w6 ⟨a', c', rfl, hr6, hb6⟩; have HR6 := Lib.hid hr6; have HB6 := Lib.hid (HCW.out.trans (low_chg hb6)); have HLs : Hid (Lst w6 w.heap.size 5 (.slice (some ⟨g, 0, none⟩) p p) (u8s bs)) := Lib.hid ((HG.out.2.1.below hb6 HG.out.2.1.lt).lst (Nat.le_trans HC1.out.size HG.out.1) p HCl.out (by unfold maxLen; omega)); clear hr6 hb6)
        | (at_builtin; refine wpList_appB rfl (.tmp 37) (.tmp 38) 39 rfl w.heap.size 5 (.int .u8 0) 1 Tryz.underlying39 Tryz.info_u8 rfl (.slice (some ⟨g, 0, none⟩) p p) (u8s bs) rfl HLs.out a' w6.heap.size m c' (u8s es) rfl (by rw [u8s_length]; exact hm.out) HR6.out (u8s_oneCell _) (by have := HCl.out; omega) (by have := HCl.out; omega) w.heap.size w HB6.out.low (Nat.le_refl _) HB6.out.size ?_; intro v' w8 hl8 hb8 hs8)
        | fail)
      have HL8 := Lib.hid hl8.out
      clear hl8 hs8
      go_ret
      obtain ⟨a8, c8, e8, hr8, hc8, _⟩ := HL8.out.form
      have e9 : u8s bs ++ u8s es = u8s (bs ++ es) := by simp [u8s]
      have hR : encR ⟨2, n, t, ⟨ck, cd, cb⟩⟩ = bs ++ es := by unfold encR; simp only [if_true]; rw [hbs.out, hes.out]
      rw [e9] at e8 hr8
      rw [hR]
      have hlt := HL8.out.lt
      refine ⟨a8, c8, by rw [← u8s_length]; exact congrArg _ e8, hr8, fun ad e => ?_, low_chg hb8⟩
      subst e
      exact (hlt ad.block (by rw [e8]; rfl)).1
    · have e1 : ((k : Int) != 2) = true := by simp; omega
      have e2 : ((k : Int) == 2) = false := by simp; omega
      clear HP HW HS
      go_wp2_with fail
      go_ret
      have hR : encR ⟨k, n, t, c⟩ = bs := by unfold encR; simp only [if_neg hk, List.append_nil]; exact hbs.out
      rw [hR, hp.out]
      exact ⟨some ⟨g, 0, none⟩, p, rfl, HG.out.2.1.ro _ HG.out.2.1.lt, fun ad e => by cases e; exact Nat.le_trans HC1.out.size HG.out.1, HC1.out.trans HG.out.2.2⟩
end Go.Proofs.YtmpajlpemabniaaGreat
