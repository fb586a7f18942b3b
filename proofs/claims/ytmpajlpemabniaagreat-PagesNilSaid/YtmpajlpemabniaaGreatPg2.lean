/-
  Pages in memory: copyOf, widths. No claim of their own.
-/
import Derived.Test.YtmpajlpemabniaaGreatJ28
namespace Go.Proofs.YtmpajlpemabniaaGreat
open Go.RowKit Go.Maps Go.Shelf Go.Deep
set_option linter.unusedVariables false
set_option linter.unusedSimpArgs false

/-- the kinds' widths -/
theorem pwidths_any (k : Nat) (h1 : 1 ≤ k) (h5 : k ≤ 5) (w : World) : Calls Tryz.prog 88 #[.int .u64 (k : Int)] w fun e w' => e = .returned (.slice (some ⟨w.heap.size, 0, none⟩) 3 3) ∧ w' = w.alloc (.cells (i64s (wid3 k)).toArray 3) := by
  have hk : k = 1 ∨ k = 2 ∨ k = 3 ∨ k = 4 ∨ k = 5 := by omega
  rcases hk with rfl | rfl | rfl | rfl | rfl <;>
  · go_enter Tryz.func88, Tryz.ntmps88
    go_wp2_with fail
    go_ret
    exact ⟨rfl, rfl⟩
theorem pwidths_none (k : Nat) (h : k = 0 ∨ 6 ≤ k) (w : World) : Calls Tryz.prog 88 #[.int .u64 (k : Int)] w fun e w' => e = .returned (.slice none 0 0) ∧ w' = w := by
  have e1 : ((k : Int) == 1) = false := beq_eq_false_iff_ne.2 (by omega)
  have e2 : ((k : Int) == 2) = false := beq_eq_false_iff_ne.2 (by omega)
  have e3 : ((k : Int) == 3) = false := beq_eq_false_iff_ne.2 (by omega)
  have e4 : ((k : Int) == 4) = false := beq_eq_false_iff_ne.2 (by omega)
  have e5 : ((k : Int) == 5) = false := beq_eq_false_iff_ne.2 (by omega)
  clear h
  go_enter Tryz.func88, Tryz.ntmps88
  go_wp2_with fail
  go_ret
  exact ⟨rfl, rfl⟩
theorem Chg.fro {l : List Nat} {a w : World} (h : Chg l a w) {b o : Nat} {v : Value} (hc : a.cell? ⟨b, o, none⟩ = some v) (hf : a.frozen? ⟨b, o, none⟩ = false) (hb : b ∉ l) : w.frozen? ⟨b, o, none⟩ = false :=
  (World.frozen?_of_block (w := a) (w' := w) (a := ⟨b, o, none⟩) (h.block b (World.block_lt_of_cell? a _ hc) hb)).trans hf
/-- the box of a cell that is copied, and the result's cell -/
def CpS (w : World) (b1 b2 : Nat) (k : Int) (a : Option Addr) (n c : Nat) (a2 : Option Addr) (m c2 : Nat) (W : World) : Prop :=
  W.cell? ⟨b1, 0, none⟩ = some (.int .i64 k) ∧ W.cell? ⟨b1, 1, none⟩ = some (.slice a n c) ∧ W.cell? ⟨b1, 2, none⟩ = some (.slice a2 m c2) ∧ Chg [] w W ∧
  ∃ r : List Value, r.length = 3 ∧ Own W b2 42 r
theorem CpS.step {w W W' : World} {b1 b2 : Nat} {k : Int} {a : Option Addr} {n c : Nat} {a2 : Option Addr} {m c2 : Nat} (h : CpS w b1 b2 k a n c a2 m c2 W) (hc : Chg [] W W') : CpS w b1 b2 k a n c a2 m c2 W' := by
  obtain ⟨h1, h2, h3, h4, r, h5, h6⟩ := h
  exact ⟨hc.cell h1 (by simp), hc.cell h2 (by simp), hc.cell h3 (by simp), h4.trans hc, r, h5, h6.chg hc (by simp)⟩
theorem cpS_end {w W : World} {b1 b2 : Nat} {k : Int} {a : Option Addr} {n c : Nat} {a2 : Option Addr} {m c2 : Nat} {r1 r2 r3 : Value} (g1 : W.cell? ⟨b1, 0, none⟩ = some (.int .i64 k)) (g2 : W.cell? ⟨b1, 1, none⟩ = some (.slice a n c)) (g3 : W.cell? ⟨b1, 2, none⟩ = some (.slice a2 m c2)) (g4 : Chg [] w W)
    (g6 : Own W b2 42 [r1, r2, r3]) (hb : w.heap.size = b1) (hb2 : b1 ≤ b2 ∧ b1 ≠ b2) (k' : Int) (a5 : Option Addr) (n5 c5 : Nat) (a6 : Option Addr) (m6 c6 : Nat) :
    CpS w b1 b2 k a n c a2 m c2 (((W.setCell ⟨b2, 0, none⟩ (.int .i64 k')).setCell ⟨b2, 1, none⟩ (.slice a5 n5 c5)).setCell ⟨b2, 2, none⟩ (.slice a6 m6 c6)) := by
  have hc : Chg [b2] W (((W.setCell ⟨b2, 0, none⟩ (.int .i64 k')).setCell ⟨b2, 1, none⟩ (.slice a5 n5 c5)).setCell ⟨b2, 2, none⟩ (.slice a6 m6 c6)) :=
    (((Chg.refl [b2] W).setCell (.inl (by simp)) _).setCell (.inl (by simp)) _).setCell (.inl (by simp)) _
  have hn : b1 ∉ [b2] := by simpa using hb2.2
  refine ⟨hc.cell g1 hn, hc.cell g2 hn, hc.cell g3 hn, g4.then hc (fun x hx => .inr (by simp at hx; omega)), _, ?_, ((g6.set 0 _).set 1 _).set 2 _⟩
  rfl
theorem cpS_cells {W : World} {b2 : Nat} {r1 r2 r3 : Value} (g6 : Own W b2 42 [r1, r2, r3]) (k' : Int) (a5 : Option Addr) (n5 c5 : Nat) (a6 : Option Addr) (m6 c6 : Nat) :
    (((W.setCell ⟨b2, 0, none⟩ (.int .i64 k')).setCell ⟨b2, 1, none⟩ (.slice a5 n5 c5)).setCell ⟨b2, 2, none⟩ (.slice a6 m6 c6)).cell? ⟨b2, 0, none⟩ = some (.int .i64 k') ∧
    (((W.setCell ⟨b2, 0, none⟩ (.int .i64 k')).setCell ⟨b2, 1, none⟩ (.slice a5 n5 c5)).setCell ⟨b2, 2, none⟩ (.slice a6 m6 c6)).cell? ⟨b2, 1, none⟩ = some (.slice a5 n5 c5) ∧
    (((W.setCell ⟨b2, 0, none⟩ (.int .i64 k')).setCell ⟨b2, 1, none⟩ (.slice a5 n5 c5)).setCell ⟨b2, 2, none⟩ (.slice a6 m6 c6)).cell? ⟨b2, 2, none⟩ = some (.slice a6 m6 c6) := by
  have h := ((g6.set 0 (.int .i64 k')).set 1 (.slice a5 n5 c5)).set 2 (.slice a6 m6 c6)
  exact ⟨by rw [h.cell]; rfl, by rw [h.cell]; rfl, by rw [h.cell]; rfl⟩
set_option maxHeartbeats 1000000 in
theorem copyOf_any (A : CeT) (C : List Nat) (w : World) (h : CellV w C A) (hd : A.x.d.length ≤ 1000000) (hb : A.x.b.length ≤ 1000000) :
    Calls Tryz.prog 70 #[A.val] w fun e w' => ∃ A' : CeT, e = .returned A'.val ∧ A'.x = A.x ∧ Hid (NewC w w' A') ∧ Chg [] w w' := by
  obtain ⟨⟨k, d, b⟩, a, c, a2, c2⟩ := A
  unfold CeT.val
  obtain ⟨h1, h2, _, _⟩ := h
  simp only at h1 h2 hd hb ⊢
  obtain ⟨n, hn⟩ : ∃ n, Hid (d.length = n) := ⟨_, Lib.hid rfl⟩
  obtain ⟨m, hm⟩ : ∃ n, Hid (b.length = n) := ⟨_, Lib.hid rfl⟩
  have HR := Lib.hid (And.intro h1 h2)
  have H1 := Lib.hid (fun W (hW : Chg [] w W) => bclone_any d n a c w.heap.size W hn.out (h1.below hW.low (Nat.le_refl _)) hW.size (by rw [← hn.out]; exact hd))
  have H2 := Lib.hid (fun W (hW : Chg [] w W) => kclone_any W a2 c2 w.heap.size b (h2.below hW.low (Nat.le_refl _)) hb)
  rw [hm.out] at H2
  rw [hn.out, hm.out]
  clear h1 h2 hd hb
  go_enter Tryz.func70, Tryz.ntmps70
  go_wp2_with fail
  obtain ⟨w1, HW1⟩ : ∃ W, Hid ((w.alloc (.cells #[.int .i64 k, .slice a n c, .slice a2 m c2] 42)).alloc (.cells #[.int .i64 0, .slice none 0 0, .slice none 0 0] 42) = W) := ⟨_, Lib.hid rfl⟩
  have hC1 : Chg [] w w1 := by rw [← HW1.out]; exact ((Chg.refl [] w).alloc _).alloc _
  have ho1 : Own w1 w.heap.size 42 [.int .i64 k, .slice a n c, .slice a2 m c2] := by rw [← HW1.out]; exact (Own.new w _ _).alloc _
  have ho2 : Own w1 (w.heap.size + 1) 42 [.int .i64 0, .slice none 0 0, .slice none 0 0] := by
    rw [← HW1.out]
    have h9 := Own.new (w.alloc (.cells #[.int .i64 k, .slice a n c, .slice a2 m c2] 42)) 42 [.int .i64 0, .slice none 0 0, .slice none 0 0]
    rw [World.size_alloc] at h9
    exact h9
  have HS0 : Hid (CpS w w.heap.size (w.heap.size + 1) k a n c a2 m c2 w1) := Lib.hid ⟨by rw [ho1.cell]; rfl, by rw [ho1.cell]; rfl, by rw [ho1.cell]; rfl, hC1, _, rfl, ho2⟩
  have HB2 : Hid (w.heap.size ≤ w.heap.size + 1 ∧ w.heap.size ≠ w.heap.size + 1) := Lib.hid (by omega)
  rw [HW1.out]
  clear hC1 ho1 ho2
  generalize hb2 : w.heap.size + 1 = b2 at HS0 HB2 ⊢
  clear hb2
  generalize hb1 : w.heap.size = b1 at HS0 HB2 ⊢
  refine wp_region_held_drew (S := (fun W : World => W.cell? ⟨b1, 0, none⟩ = some (.int .i64 k) ∧ W.cell? ⟨b1, 1, none⟩ = some (.slice a n c) ∧ W.cell? ⟨b1, 2, none⟩ = some (.slice a2 m c2) ∧ Chg [] w W ∧ ∃ r : List Value, r.length = 3 ∧ Own W b2 42 r)) (by kernel_rfl) (by have h9 := HS0.out.step (Chg.refl [] w1).drew; exact h9) (fun hHeld => ?_)
  have HB1 := Lib.hid hb1
  clear hb1
  refine wpAnyH_take (i := 0) (v := ?_) rfl (by kernel_rfl) (by kernel_rfl) (by kernel_rfl) (fun _ _ _ h => h) (Or.inl ⟨by kernel_rfl, ?_⟩) hHeld ?_
  rotate_left
  · (intro w hSw; first | (go_simp; done) | (go_simp; with_reducible rfl))
  (try simp only [Act.put, List.getElem_toArray, List.getElem_cons_succ, List.getElem_cons_zero, List.setIfInBounds_toArray, List.set_cons_zero, List.set_cons_succ])
  refine wpAnyH_take (i := 1) (v := ?_) rfl (by kernel_rfl) (by kernel_rfl) (by kernel_rfl) (fun _ _ _ h => h) (Or.inl ⟨by kernel_rfl, ?_⟩) hHeld ?_
  rotate_left
  · (intro w hSw; first | (go_simp; done) | (go_simp; with_reducible rfl))
  (try simp only [Act.put, List.getElem_toArray, List.getElem_cons_succ, List.getElem_cons_zero, List.setIfInBounds_toArray, List.set_cons_zero, List.set_cons_succ])
  refine wpAnyH_take (i := 2) (v := ?_) rfl (by kernel_rfl) (by kernel_rfl) (by kernel_rfl) (fun _ _ _ h => h) (Or.inl ⟨by kernel_rfl, ?_⟩) hHeld ?_
  rotate_left
  · (intro w hSw; first | (go_simp; done) | (go_simp; with_reducible rfl))
  (try simp only [Act.put, List.getElem_toArray, List.getElem_cons_succ, List.getElem_cons_zero, List.setIfInBounds_toArray, List.set_cons_zero, List.set_cons_succ])
  refine wpAnyH_take (i := 3) (v := ?_) rfl (by kernel_rfl) (by kernel_rfl) (by kernel_rfl) (fun _ _ _ h => h) (Or.inl ⟨by kernel_rfl, ?_⟩) hHeld ?_
  rotate_left
  · (intro w hSw; first | (go_simp; done) | (go_simp; with_reducible rfl))
  (try simp only [Act.put, List.getElem_toArray, List.getElem_cons_succ, List.getElem_cons_zero, List.setIfInBounds_toArray, List.set_cons_zero, List.set_cons_succ])
  refine wpAnyH_take (i := 5) (v := ?_) rfl (by kernel_rfl) (by kernel_rfl) (by kernel_rfl) (fun _ _ _ h => h) (Or.inl ⟨by kernel_rfl, ?_⟩) hHeld ?_
  rotate_left
  · (intro w hSw; first | (go_simp; done) | (go_simp; with_reducible rfl))
  (try simp only [Act.put, List.getElem_toArray, List.getElem_cons_succ, List.getElem_cons_zero, List.setIfInBounds_toArray, List.set_cons_zero, List.set_cons_succ])
  refine wpAnyH_take (i := 6) (v := ?_) rfl (by kernel_rfl) (by kernel_rfl) (by kernel_rfl) (fun _ _ _ h => h) (Or.inl ⟨by kernel_rfl, ?_⟩) hHeld ?_
  rotate_left
  · (intro w hSw; first | (go_simp; done) | (go_simp; with_reducible rfl))
  (try simp only [Act.put, List.getElem_toArray, List.getElem_cons_succ, List.getElem_cons_zero, List.setIfInBounds_toArray, List.set_cons_zero, List.set_cons_succ])
  refine wpAnyH_ready (rs := [4]) (by kernel_rfl) (by simp) (AllReadyH.cons rfl (fun K hK => ?_) AllReadyH.nil)
  have hH := hHeld
  (go_simp; go_at_call 126; refine (H1.out _ hH.2.2.2.1).mono ?_; rintro e w5 ⟨a5, c5, rfl, hr5, hn5, hb5⟩)
  refine hK.out _ _ (by exact CpS.step hH (low_chg hb5)) (fun hHq1 => ?_)
  clear hK K hH 
  (try simp only [Act.put, List.getElem_toArray, List.getElem_cons_succ, List.getElem_cons_zero, List.setIfInBounds_toArray, List.set_cons_zero, List.set_cons_succ])
  refine wpAnyH_ready (rs := [7]) (by kernel_rfl) (by simp) (AllReadyH.cons rfl (fun K hK => ?_) AllReadyH.nil)
  have hH := hHq1
  (go_simp; go_at_call 127; refine (H2.out _ hH.2.2.2.1).mono ?_; rintro e w6 ⟨a6, c6, rfl, hr6, hn6, hb6⟩)
  refine hK.out _ _ (by exact CpS.step hH (low_chg hb6)) (fun hHq2 => ?_)
  clear hK K hH hHq1
  (try simp only [Act.put, List.getElem_toArray, List.getElem_cons_succ, List.getElem_cons_zero, List.setIfInBounds_toArray, List.set_cons_zero, List.set_cons_succ])
  refine wpAnyH_take (i := 8) (v := ?_) rfl (by kernel_rfl) (by kernel_rfl) (by kernel_rfl) (fun _ _ _ h => h) (Or.inl ⟨by kernel_rfl, ?_⟩) hHq2 ?_
  rotate_left
  · (intro w hSw; first | (go_simp; done) | (go_simp; with_reducible rfl))
  (try simp only [Act.put, List.getElem_toArray, List.getElem_cons_succ, List.getElem_cons_zero, List.setIfInBounds_toArray, List.set_cons_zero, List.set_cons_succ])
  refine wpAnyH_ready (rs := [9]) (by kernel_rfl) (by simp) (AllReadyH.cons rfl (fun K hK => ?_) AllReadyH.nil)
  have hH := hHq2
  (go_simp; have hHc := hH; obtain ⟨g1, g2, g3, g4, r, g5, g6⟩ := hHc; obtain ⟨r1, r2, r3, rfl⟩ : ∃ x y z, r = [x, y, z] := by { rcases r with _ | ⟨x, _ | ⟨y, _ | ⟨z, _ | ⟨_, _⟩⟩⟩⟩ <;> simp at g5; exact ⟨_, _, _, rfl⟩ }; have q0 := g6.cell 0; have q1 := g6.cell 1; have q2 := g6.cell 2; have f0 := g6.frozen 0; have f1 := g6.frozen 1; have f2 := g6.frozen 2; simp only [List.getElem?_cons_zero, List.getElem?_cons_succ] at q0 q1 q2; go_simp)
  refine hK.out _ _ (by exact (cpS_end g1 g2 g3 g4 g6 HB1.out HB2.out k a5 n c5 a6 m c6)) (fun hHq3 => ?_)
  clear hK K hH hHq2
  (try simp only [Act.put, List.getElem_toArray, List.getElem_cons_succ, List.getElem_cons_zero, List.setIfInBounds_toArray, List.set_cons_zero, List.set_cons_succ])
  refine wpAnyH_done (by kernel_rfl) ?_ _
  have hEnd := hHq3
  have hE2 := ((g6.set 0 (.int .i64 k)).set 1 (.slice a5 n c5)).set 2 (.slice a6 m c6)
  simp only [List.set_cons_zero, List.set_cons_succ] at hE2
  have hb2s : b2 < w1.heap.size := by obtain ⟨_, _, _, _, _, _, h9⟩ := HS0.out; exact h9.lt
  have hCe : Chg [b2] w6 (((w6.setCell ⟨b2, 0, none⟩ (.int .i64 k)).setCell ⟨b2, 1, none⟩ (.slice a5 n c5)).setCell ⟨b2, 2, none⟩ (.slice a6 m c6)) :=
    (((Chg.refl [b2] w6).setCell (.inl (by simp)) _).setCell (.inl (by simp)) _).setCell (.inl (by simp)) _
  have hs1 : w1.heap.size ≤ w5.heap.size := hb5.size
  have hNC : Hid (NewC w (((w6.setCell ⟨b2, 0, none⟩ (.int .i64 k)).setCell ⟨b2, 1, none⟩ (.slice a5 n c5)).setCell ⟨b2, 2, none⟩ (.slice a6 m c6)) ⟨⟨k, d, b⟩, a5, c5, a6, c6⟩) := by
    refine Lib.hid ⟨(hr5.chg2 (low_chg hb6) (fun _ _ => by simp)).chg2 hCe (fun ad e => ?_), hr6.chg2 hCe (fun ad e => ?_), fun ad e => ?_, fun ad e => ?_⟩
    · have h9 : w1.heap.size ≤ ad.block := hn5 ad e
      simp; omega
    · have h9 : w5.heap.size ≤ ad.block := hn6 ad e
      simp; omega
    · have h9 : w1.heap.size ≤ ad.block := hn5 ad e
      have h8 := HS0.out.2.2.2.1.size
      exact Nat.le_trans h8 h9
    · have h9 : w5.heap.size ≤ ad.block := hn6 ad e
      have h8 := HS0.out.2.2.2.1.size
      show w.heap.size ≤ ad.block
      omega
  have hC6 := Lib.hid hEnd.2.2.2.1
  clear hHq3 hEnd hCe g1 g2 g3 g4 g6 f0 f1 f2 hr5 hr6 hn5 hn6 hb5 hb6 hHeld HS0
  generalize (((w6.setCell ⟨b2, 0, none⟩ (.int .i64 k)).setCell ⟨b2, 1, none⟩ (.slice a5 n c5)).setCell ⟨b2, 2, none⟩ (.slice a6 m c6)) = W7 at *
  go_wp2_with fail
  refine bodyPost_ret (results_cell_row Tryz.results70 _ _ b2 42 _ (0, 0) _ rfl hE2 Tryz.underlying42 rfl (by kernel_rfl)) rfl ?_
  exact ⟨⟨⟨k, d, b⟩, a5, c5, a6, c6⟩, by simp only [CeT.val]; rw [hn.out, hm.out], rfl, hNC, hC6.out⟩
end Go.Proofs.YtmpajlpemabniaaGreat
