/-
  A record out of its bytes. No claim of its own.
-/
import Derived.Test.YtmpajlpemabniaaGreatZq36
import Derived.Test.YtmpajlpemabniaaGreatZq35
namespace Go.Proofs.YtmpajlpemabniaaGreat
open Go.RowKit Go.Maps Go.Shelf Go.Deep
set_option linter.unusedVariables false
set_option linter.unusedSimpArgs false
theorem encR_unp {r : Rc} (ho : okN r) : IsUnp (wid3 r.k) (packL (wid3 r.k) [r.k, r.n, r.t]) [r.k, r.n, r.t] ∧ UnpOk (wid3 r.k) (packL (wid3 r.k) [r.k, r.n, r.t]) := by
  have hp := ho.pack
  have hl : (wid3 r.k).length = [r.k, r.n, r.t].length := by rw [wid3_len]; rfl
  exact ⟨isUnp_of_pack hp (packL_is hl), unpOk_of (wid3_span _) hl (packL_is hl)⟩
theorem encR_num {r : Rc} (ho : okN r) : num (encR r) 0 3 = r.k := by
  have h1 := (encR_unp ho).1.2 0 (by rw [wid3_len]; omega)
  have hlen : (packL (wid3 r.k) [r.k, r.n, r.t]).length = if r.k = 4 then 6 else 3 := by rw [packL_len, wid3_bytes]
  unfold encR
  rw [num_left _ _ _ _ (by rw [hlen]; split <;> omega)]
  have hw : ((wid3 r.k).getD 0 0).toNat = 3 := by
    unfold wid3
    split
    · rfl
    · split <;> rfl
  rw [hw] at h1
  simpa using h1.symm
def RoS (g : Nat) (k n t : Int) (w : World) (W : World) : Prop :=
  W.cell? ⟨g, 0, none⟩ = some (.int .u64 k) ∧ W.cell? ⟨g, 1, none⟩ = some (.int .u64 n) ∧ W.cell? ⟨g, 2, none⟩ = some (.int .u64 t) ∧ Chg [] w W
theorem RoS.step {g : Nat} {k n t : Int} {w W W' : World} (h : RoS g k n t w W) (hc : Chg [] W W') : RoS g k n t w W' := ⟨hc.cell h.1 (by simp), hc.cell h.2.1 (by simp), hc.cell h.2.2.1 (by simp), h.2.2.2.trans hc⟩
set_option maxHeartbeats 2000000 in
set_option maxRecDepth 100000 in
theorem recordOf_num (w : World) (r : Rc) (a : Option Addr) (c B : Nat) (ho : okN r) (hk : r.k ≠ 2) (hro : Ro w B a (u8s (encR r))) (hB : B ≤ w.heap.size) :
    Calls Tryz.prog 41 #[.slice a (encR r).length c] w fun e w' => e = .returned (.tuple #[rcv (r.k : Int) r.n r.t zA, .bool true]) ∧ Chg [] w w' := by
  obtain ⟨w1, HW1⟩ : ∃ W, Hid (w.alloc (.cells #[.int .u64 0, .int .u64 0, .int .u64 0, .int .i64 0, .slice none 0 0, .slice none 0 0] 101) = W) := ⟨_, Lib.hid rfl⟩
  have hC1 : Chg [] w w1 := by rw [← HW1.out]; exact (Chg.refl [] w).alloc _
  have hob : Own w1 w.heap.size 101 [.int .u64 0, .int .u64 0, .int .u64 0, .int .i64 0, .slice none 0 0, .slice none 0 0] := by rw [← HW1.out]; exact Own.new w _ _
  have hlen : (encR r).length ≤ 6 ∧ 3 ≤ (encR r).length := by rw [encR_len, if_neg hk]; split <;> omega
  have hnum := encR_num ho
  have hun := encR_unp ho
  have he : encR r = packL (wid3 r.k) [r.k, r.n, r.t] := by unfold encR; rw [if_neg hk, List.append_nil]
  rw [← he] at hun
  have HG : Hid (∀ W, Chg [] w W → Calls Tryz.prog 86 #[.slice a (encR r).length c, .int .i64 0, .int .i64 3] W fun e w' => e = .returned (.tuple #[.int .u64 (r.k : Int), .bool true]) ∧ Chg [] W w') := Lib.hid (fun W hW => by
    have h9 := get_yes (encR r) a c B 0 3 W (hro.chgs2 hW (fun _ _ _ => by simp)) (Nat.le_trans hB hW.size) (by omega) (by omega) (by omega) (by omega) (by omega)
    refine h9.mono ?_
    rintro e w' ⟨h1, h2⟩
    refine ⟨?_, low_chg h2⟩
    rw [h1]
    show Ending.returned (.tuple #[.int .u64 ((num (encR r) 0 3 : Nat) : Int), .bool true]) = _
    rw [hnum])
  have HWD : Hid (∀ W, Calls Tryz.prog 88 #[.int .u64 (r.k : Int)] W fun e w' => e = .returned (.slice (some ⟨W.heap.size, 0, none⟩) 3 3) ∧ w' = W.alloc (.cells (i64s (wid3 r.k)).toArray 3)) := Lib.hid (fun W => pwidths_any r.k ho.k1 ho.k5 W)
  have HUN : Hid (∀ W, Chg [] w W → Calls Tryz.prog 87 #[.slice (some ⟨W.heap.size, 0, none⟩) 3 3, .slice a (encR r).length c] (W.alloc (.cells (i64s (wid3 r.k)).toArray 3)) fun e w' => ∃ g, e = .returned (.tuple #[.slice (some ⟨g, 0, none⟩) 3 3, .bool true]) ∧ Hid (Own w' g 37 [.int .u64 (r.k : Int), .int .u64 (r.n : Int), .int .u64 (r.t : Int)]) ∧ Chg [] W w') := Lib.hid (fun W hW => by
    have hWa := hW.alloc (.cells (i64s (wid3 r.k)).toArray 3)
    have h9 := unpack_yes (wid3 r.k) (encR r) (some ⟨W.heap.size, 0, none⟩) a 3 c (W.alloc (.cells (i64s (wid3 r.k)).toArray 3)).heap.size (W.alloc (.cells (i64s (wid3 r.k)).toArray 3)) ((Own.new W 3 (i64s (wid3 r.k))).ro _ (by rw [World.size_alloc]; omega)) ((hro.chgs2 hWa (fun _ _ _ => by simp)).mono (Nat.le_trans hB hWa.size)) (Nat.le_refl _) (by rw [wid3_len]; omega) hun.2
    rw [wid3_len] at h9
    refine h9.mono ?_
    rintro e w' ⟨g, vs, h1, h2, h3, h4, h5⟩
    rw [h3.unique hun.1] at h4
    exact ⟨g, h1, Lib.hid h4, ((Chg.refl [] W).alloc _).trans (low_chg h5)⟩)
  have HC1 := Lib.hid hC1
  have HO := Lib.hid hob
  have e2 : ((r.k : Int) == 2) = false := by simp; omega
  have e2' : (r.k == 2) = false := by simpa using hk
  have e3 : decide ((r.k : Int) = 2) = false := decide_eq_false (by omega)
  clear hC1 hob hnum hun he hro
  obtain ⟨k, n, t, cc⟩ := r
  simp only at HG HWD HUN e2 e2' e3 hlen ⊢
  generalize (encR ⟨k, n, t, cc⟩).length = en at HG HUN hlen ⊢
  go_enter Tryz.func41, Tryz.ntmps41
  go_upto_region 1 with fail
  rw [HW1.out]
  go_wp2_with (first
    | (go_at_call 86; refine (HG.out _ HC1.out).mono ?_; rintro e w2 ⟨rfl, hc2⟩; have HC2 := Lib.hid (HC1.out.trans hc2); have HO2 := Lib.hid (HO.out.chg hc2 (by simp)); clear hc2)
    | (go_at_call 88; refine (HWD.out _).mono ?_; rintro e w3 ⟨rfl, rfl⟩)
    | (go_at_call 87; refine (HUN.out _ HC2.out).mono ?_; rintro e w4 ⟨g, rfl, ho4, hc4⟩; have HC4 := Lib.hid (HC2.out.trans hc4); have HO4 := Lib.hid (HO2.out.chg hc4 (by simp)); have HG4 := Lib.hid ho4.out; clear hc4 ho4)
    | fail)
  have HS : Hid (RoS g (k : Int) (n : Int) (t : Int) w4 w4) := Lib.hid ⟨by rw [HG4.out.cell]; rfl, by rw [HG4.out.cell]; rfl, by rw [HG4.out.cell]; rfl, Chg.refl _ _⟩
  refine wp_region_held_drew (S := (fun W : World => W.cell? ⟨g, 0, none⟩ = some (.int .u64 (k : Int)) ∧ W.cell? ⟨g, 1, none⟩ = some (.int .u64 (n : Int)) ∧ W.cell? ⟨g, 2, none⟩ = some (.int .u64 (t : Int)) ∧ Chg [] w4 W)) (by kernel_rfl) (by have h9 := HS.out.step (Chg.refl [] w4).drew; exact h9) (fun hHeld => ?_)
  refine tkH (i := 0) (v := ?_) rfl hHeld ?_ ?_
  rotate_left
  · (intro w hSw; first | (go_simp; done) | (go_simp; with_reducible rfl))
  (try simp only [Act.put, sTt, sZz, sSs, sGt, sGs, sGz])
  refine tkH (i := 1) (v := ?_) rfl hHeld ?_ ?_
  rotate_left
  · (intro w hSw; first | (go_simp; done) | (go_simp; with_reducible rfl))
  (try simp only [Act.put, sTt, sZz, sSs, sGt, sGs, sGz])
  refine tkH (i := 2) (v := ?_) rfl hHeld ?_ ?_
  rotate_left
  · (intro w hSw; first | (go_simp; done) | (go_simp; with_reducible rfl))
  (try simp only [Act.put, sTt, sZz, sSs, sGt, sGs, sGz])
  refine tkH (i := 3) (v := ?_) rfl hHeld ?_ ?_
  rotate_left
  · (intro w hSw; first | (go_simp; done) | (go_simp; with_reducible rfl))
  (try simp only [Act.put, sTt, sZz, sSs, sGt, sGs, sGz])
  refine tkH (i := 4) (v := ?_) rfl hHeld ?_ ?_
  rotate_left
  · (intro w hSw; first | (go_simp; done) | (go_simp; with_reducible rfl))
  (try simp only [Act.put, sTt, sZz, sSs, sGt, sGs, sGz])
  refine tkH (i := 5) (v := ?_) rfl hHeld ?_ ?_
  rotate_left
  · (intro w hSw; first | (go_simp; done) | (go_simp; with_reducible rfl))
  (try simp only [Act.put, sTt, sZz, sSs, sGt, sGs, sGz])
  refine tkH (i := 6) (v := ?_) rfl hHeld ?_ ?_
  rotate_left
  · (intro w hSw; first | (go_simp; done) | (go_simp; with_reducible rfl))
  (try simp only [Act.put, sTt, sZz, sSs, sGt, sGs, sGz])
  refine tkH (i := 7) (v := ?_) rfl hHeld ?_ ?_
  rotate_left
  · (intro w hSw; first | (go_simp; done) | (go_simp; with_reducible rfl))
  (try simp only [Act.put, sTt, sZz, sSs, sGt, sGs, sGz])
  refine tkH (i := 8) (v := ?_) rfl hHeld ?_ ?_
  rotate_left
  · (intro w hSw; first | (go_simp; done) | (go_simp; with_reducible rfl))
  (try simp only [Act.put, sTt, sZz, sSs, sGt, sGs, sGz])
  refine tkH (i := 9) (v := ?_) rfl hHeld ?_ ?_
  rotate_left
  · (intro w hSw; first | (go_simp; done) | (go_simp; with_reducible rfl))
  (try simp only [Act.put, sTt, sZz, sSs, sGt, sGs, sGz])
  refine wpAnyH_ready (rs := [10]) (by kernel_rfl) (by simp) (AllReadyH.cons rfl (fun K hK => ?_) AllReadyH.nil)
  have hH := hHeld
  (go_simp; skip)
  refine hK.out _ _ (by exact ⟨((Chg.refl [] _).alloc _).cell hH.1 (by simp), ((Chg.refl [] _).alloc _).cell hH.2.1 (by simp), ((Chg.refl [] _).alloc _).cell hH.2.2.1 (by simp), hH.2.2.2.alloc _⟩) (fun hHq1 => ?_)
  clear hK K hH 
  (try simp only [Act.put, sTt, sZz, sSs, sGt, sGs, sGz])
  refine wpAnyH_ready (rs := [11]) (by kernel_rfl) (by simp) (AllReadyH.cons rfl (fun K hK => ?_) AllReadyH.nil)
  have hH := hHq1
  (go_simp; skip)
  refine hK.out _ _ (by exact HS.out.step (((Chg.refl [] w4).alloc _).drew)) (fun hHq2 => ?_)
  clear hK K hH hHq1
  (try simp only [Act.put, sTt, sZz, sSs, sGt, sGs, sGz])
  refine wpAnyH_done (by kernel_rfl) ?_ _
  have hEnd := hHq2
  have hob5 : Own (w4.alloc (.cells #[.int .u64 (k : Int), .int .u64 (n : Int), .int .u64 (t : Int), .int .i64 0, .slice none 0 0, .slice none 0 0] 101)).drew w4.heap.size 101 [.int .u64 (k : Int), .int .u64 (n : Int), .int .u64 (t : Int), .int .i64 0, .slice none 0 0, .slice none 0 0] := (Own.new w4 _ _).chg ((Chg.refl [] _).drew) (by simp)
  have hc45 : Chg [] w4 (w4.alloc (.cells #[.int .u64 (k : Int), .int .u64 (n : Int), .int .u64 (t : Int), .int .i64 0, .slice none 0 0, .slice none 0 0] 101)).drew := ((Chg.refl [] w4).alloc _).drew
  clear hEnd hHeld
  generalize (w4.alloc (.cells #[.int .u64 (k : Int), .int .u64 (n : Int), .int .u64 (t : Int), .int .i64 0, .slice none 0 0, .slice none 0 0] 101)).drew = w5 at hob5 hc45 ⊢
  have hO5 := HO4.out.chg hc45 (by simp)
  have HO5 := Lib.hid hO5
  have HC5 := Lib.hid (HC4.out.trans hc45)
  have f0 := hO5.frozen 0
  have f1 := hO5.frozen 1
  have f2 := hO5.frozen 2
  have f3 := hO5.frozen 3
  have f4 := hO5.frozen 4
  have f5 := hO5.frozen 5
  have k0 := hO5.cell 0
  have k1 := hO5.cell 1
  have k2 := hO5.cell 2
  have k3 := hO5.cell 3
  have k4 := hO5.cell 4
  have k5 := hO5.cell 5
  have m0 := hob5.cell 0
  have m1 := hob5.cell 1
  have m2 := hob5.cell 2
  have m3 := hob5.cell 3
  have m4 := hob5.cell 4
  have m5 := hob5.cell 5
  simp only [List.getElem?_cons_zero, List.getElem?_cons_succ] at k0 k1 k2 k3 k4 k5 m0 m1 m2 m3 m4 m5
  clear hO5 hob5 hc45 HS
  go_wp2_with fail
  have hE2 := (((((HO5.out.set 0 (.int .u64 (k : Int))).set 1 (.int .u64 (n : Int))).set 2 (.int .u64 (t : Int))).set 3 (.int .i64 0)).set 4 (.slice none 0 0)).set 5 (.slice none 0 0)
  simp only [List.set_cons_zero, List.set_cons_succ] at hE2
  have r0 := hE2.cell 0
  have r1 := hE2.cell 1
  have r2 := hE2.cell 2
  have r3 := hE2.cell 3
  have r4 := hE2.cell 4
  have r5 := hE2.cell 5
  simp only [List.getElem?_cons_zero, List.getElem?_cons_succ] at r0 r1 r2 r3 r4 r5
  refine bodyPost_ret (v := .tuple #[.agg #[.int .u64 (k : Int), .int .u64 (n : Int), .int .u64 (t : Int), .int .i64 0, .slice none 0 0, .slice none 0 0], .bool true]) (by simp [results, Tryz.results41, go_sem, r0, r1, r2, r3, r4, r5]) rfl ⟨rfl, ?_⟩
  exact (((((HC5.out.setCell (.inr (Nat.le_refl _)) _).setCell (.inr (Nat.le_refl _)) _).setCell (.inr (Nat.le_refl _)) _).setCell (.inr (Nat.le_refl _)) _).setCell (.inr (Nat.le_refl _)) _).setCell (.inr (Nat.le_refl _)) _
set_option maxHeartbeats 2000000 in
set_option maxRecDepth 100000 in
theorem recordOf_cell (w : World) (r : Rc) (a : Option Addr) (c B : Nat) (ho : okN r) (hk : r.k = 2) (hro : Ro w B a (u8s (encR r))) (hB : B ≤ w.heap.size) (hlc : (encR r).length ≤ c) (hcm : c ≤ 9223372036854775807) :
    Calls Tryz.prog 41 #[.slice a (encR r).length c] w fun e w' => ∃ A : CeT, e = .returned (.tuple #[rcv (r.k : Int) r.n r.t A, .bool true]) ∧ A.x = r.c ∧ Hid (NewC w w' A) ∧ Chg [] w w' := by
  obtain ⟨w1, HW1⟩ : ∃ W, Hid (w.alloc (.cells #[.int .u64 0, .int .u64 0, .int .u64 0, .int .i64 0, .slice none 0 0, .slice none 0 0] 101) = W) := ⟨_, Lib.hid rfl⟩
  have hC1 : Chg [] w w1 := by rw [← HW1.out]; exact (Chg.refl [] w).alloc _
  have hob : Own w1 w.heap.size 101 [.int .u64 0, .int .u64 0, .int .u64 0, .int .i64 0, .slice none 0 0, .slice none 0 0] := by rw [← HW1.out]; exact Own.new w _ _
  have hcl := encC_len (ho.c2 hk)
  have hlen : (encR r).length = (encC r.c).length + 3 := by rw [encR_len, if_neg (by omega), if_pos hk]; omega
  have hnum := encR_num ho
  have hun := encR_unp ho
  have he : encR r = packL (wid3 r.k) [r.k, r.n, r.t] ++ encC r.c := by unfold encR; rw [if_pos hk]
  have hpl : (packL (wid3 r.k) [r.k, r.n, r.t]).length = 3 := by rw [packL_len, wid3_bytes, if_neg (by omega)]
  have ht : (encR r).take 3 = packL (wid3 r.k) [r.k, r.n, r.t] := by rw [he, ← hpl, List.take_left']; rfl
  have hd : (encR r).drop 3 = encC r.c := by rw [he, ← hpl, List.drop_left']; rfl
  obtain ⟨b, off, rfl, hb, _⟩ := hro.at_ (by intro e; have e2 := congrArg List.length e; rw [u8s_length, hlen] at e2; simp at e2)
  obtain ⟨cc, rfl⟩ : ∃ x, c = x + 3 := ⟨c - 3, by omega⟩
  have HG : Hid (∀ W, Chg [] w W → Calls Tryz.prog 86 #[.slice (some ⟨b, off, none⟩) ((encC r.c).length + 3) (cc + 3), .int .i64 0, .int .i64 3] W fun e w' => e = .returned (.tuple #[.int .u64 2, .bool true]) ∧ Chg [] W w') := Lib.hid (fun W hW => by
    have h9 := get_yes (encR r) (some ⟨b, off, none⟩) (cc + 3) B 0 3 W (hro.chgs2 hW (fun _ _ _ => by simp)) (Nat.le_trans hB hW.size) (by omega) (by omega) (by omega) (by omega) (by omega)
    rw [hlen] at h9
    refine h9.mono ?_
    rintro e w' ⟨h1, h2⟩
    refine ⟨?_, low_chg h2⟩
    rw [h1]
    show Ending.returned (.tuple #[.int .u64 ((num (encR r) 0 3 : Nat) : Int), .bool true]) = _
    rw [hnum, hk]
    rfl)
  have HWD : Hid (∀ W, Calls Tryz.prog 88 #[.int .u64 2] W fun e w' => e = .returned (.slice (some ⟨W.heap.size, 0, none⟩) 3 3) ∧ w' = W.alloc (.cells (i64s (wid3 2)).toArray 3)) := Lib.hid (fun W => pwidths_any 2 (by omega) (by omega) W)
  have HUN : Hid (∀ W, Chg [] w W → Calls Tryz.prog 87 #[.slice (some ⟨W.heap.size, 0, none⟩) 3 3, .slice (some ⟨b, off, none⟩) 3 (cc + 3)] (W.alloc (.cells (i64s (wid3 2)).toArray 3)) fun e w' => ∃ g, e = .returned (.tuple #[.slice (some ⟨g, 0, none⟩) 3 3, .bool true]) ∧ Hid (Own w' g 37 [.int .u64 2, .int .u64 (r.n : Int), .int .u64 (r.t : Int)]) ∧ Chg [] W w') := Lib.hid (fun W hW => by
    have hWa := hW.alloc (.cells (i64s (wid3 2)).toArray 3)
    have hro3 : Ro w B (some ⟨b, off, none⟩) (u8s (packL (wid3 2) [2, r.n, r.t])) := by
      have h9 := hro.take 3
      rw [show (u8s (encR r)).take 3 = u8s ((encR r).take 3) by simp [u8s], ht, hk] at h9
      exact h9
    have h9 := unpack_yes (wid3 2) (packL (wid3 2) [2, r.n, r.t]) (some ⟨W.heap.size, 0, none⟩) (some ⟨b, off, none⟩) 3 (cc + 3) (W.alloc (.cells (i64s (wid3 2)).toArray 3)).heap.size (W.alloc (.cells (i64s (wid3 2)).toArray 3)) ((Own.new W 3 (i64s (wid3 2))).ro _ (by rw [World.size_alloc]; omega)) ((hro3.chgs2 hWa (fun _ _ _ => by simp)).mono (Nat.le_trans hB hWa.size)) (Nat.le_refl _) (by rw [wid3_len]; omega) (by rw [hk] at hun; exact hun.2)
    rw [hk] at hpl
    rw [wid3_len, hpl] at h9
    refine h9.mono ?_
    rintro e w' ⟨g, vs, h1, h2, h3, h4, h5⟩
    rw [hk] at hun
    rw [h3.unique hun.1] at h4
    exact ⟨g, h1, Lib.hid h4, ((Chg.refl [] W).alloc _).trans (low_chg h5)⟩)
  have HDC : Hid (∀ W, Chg [] w W → Calls Tryz.prog 89 #[.slice (some ⟨b, off + 3, none⟩) (encC r.c).length cc] W fun e w' => ∃ A : CeT, e = .returned (.tuple #[A.val, .int .i64 0]) ∧ A.x = r.c ∧ Hid (NewC W w' A) ∧ Chg [] W w') := Lib.hid (fun W hW => by
    have hro4 : Ro w B (some ⟨b, off + 3, none⟩) (u8s (encC r.c)) := by
      have h9 := hro.drop 3 (cc + 3) (by rw [u8s_length]; omega)
      rw [show (u8s (encR r)).drop 3 = u8s ((encR r).drop 3) by simp [u8s], hd, if_neg (by omega)] at h9
      exact h9
    have h9 := dec_yes (encC r.c) _ (some ⟨b, off + 3, none⟩) cc B W rfl (hro4.chgs2 hW (fun _ _ _ => by simp)) (Nat.le_trans hB hW.size) (by omega) (by omega) (by omega) r.c (encC_is (ho.c2 hk)) (ho.c2 hk)
    refine h9.mono ?_
    rintro e w' ⟨a1, c1, a2, c2, h1, h2, h3, h4, h5, h6⟩
    exact ⟨⟨r.c, a1, c1, a2, c2⟩, h1, rfl, Lib.hid ⟨h2, h3, h4, h5⟩, low_chg h6⟩)
  have HC1 := Lib.hid hC1
  have HO := Lib.hid hob
  have hmin : min (3 : Int) (((encC r.c).length + 3 : Nat) : Int) = 3 := by omega
  have HK := Lib.hid hk
  have hle : (encC r.c).length ≤ cc ∧ 1 ≤ (encC r.c).length := by omega
  clear hC1 hob hnum hun he hro hpl ht hd hcl hlen hlc
  rw [encR_len, if_neg (by omega), if_pos hk, Nat.add_comm 3, hk]
  obtain ⟨k, n, t, cx⟩ := r
  simp only at HG HWD HUN HDC hmin hle hk ⊢
  generalize (encC cx).length = en at HG HUN HDC hmin hle ⊢
  have hmin2 : min (3 : Int) ((en : Int) + 3) = 3 := by omega
  have n1 : (0 : Int) ≤ (en : Int) := by omega
  have n2 : (cc : Int) + 3 ≤ 9223372036854775807 := by omega
  have n3 : (en : Int) ≤ (cc : Int) := by omega
  have n5 : (3 : Int) ≤ (cc : Int) + 3 := by omega
  have n6 : (3 : Int) ≤ (en : Int) + 3 := by omega
  have n7 : (cc = 0) = False := by simp; omega
  clear ho hk
  go_enter Tryz.func41, Tryz.ntmps41
  go_upto_region 1 with fail
  rw [HW1.out]
  go_wp2_with (first
    | (go_at_call 86; refine (HG.out _ HC1.out).mono ?_; rintro e w2 ⟨rfl, hc2⟩; have HC2 := Lib.hid (HC1.out.trans hc2); have HO2 := Lib.hid (HO.out.chg hc2 (by simp)); clear hc2)
    | fail)
  refine wp_region_held_drew (S := (fun W : World => Chg [] w2 W)) (by kernel_rfl) (by exact (Chg.refl [] w2).drew) (fun hHeld => ?_)
  refine tkH (i := 0) (v := ?_) rfl hHeld ?_ ?_
  rotate_left
  · (intro w hSw; first | (go_simp; done) | (go_simp; with_reducible rfl))
  (try simp only [Act.put, sTt, sZz, sSs, sGt, sGs, sGz])
  refine tkH (i := 1) (v := ?_) rfl hHeld ?_ ?_
  rotate_left
  · (intro w hSw; first | (go_simp; done) | (go_simp; with_reducible rfl))
  (try simp only [Act.put, sTt, sZz, sSs, sGt, sGs, sGz])
  refine tkH (i := 2) (v := ?_) rfl hHeld ?_ ?_
  rotate_left
  · (intro w hSw; first | (go_simp; done) | (go_simp; with_reducible rfl))
  (try simp only [Act.put, sTt, sZz, sSs, sGt, sGs, sGz])
  refine tkH (i := 3) (v := ?_) rfl hHeld ?_ ?_
  rotate_left
  · (intro w hSw; first | (go_simp; done) | (go_simp; with_reducible rfl))
  (try simp only [Act.put, sTt, sZz, sSs, sGt, sGs, sGz])
  refine tkH (i := 4) (v := ?_) rfl hHeld ?_ ?_
  rotate_left
  · (intro w hSw; first | (go_simp; done) | (go_simp; with_reducible rfl))
  (try simp only [Act.put, sTt, sZz, sSs, sGt, sGs, sGz])
  refine tkH (i := 5) (v := ?_) rfl hHeld ?_ ?_
  rotate_left
  · (intro w hSw; first | (go_simp; done) | (go_simp; with_reducible rfl))
  (try simp only [Act.put, sTt, sZz, sSs, sGt, sGs, sGz])
  refine tkH (i := 6) (v := ?_) rfl hHeld ?_ ?_
  rotate_left
  · (intro w hSw; first | (go_simp; done) | (go_simp; with_reducible rfl))
  (try simp only [Act.put, sTt, sZz, sSs, sGt, sGs, sGz])
  refine tkH (i := 7) (v := ?_) rfl hHeld ?_ ?_
  rotate_left
  · (intro w hSw; first | (go_simp; done) | (go_simp; with_reducible rfl))
  (try simp only [Act.put, sTt, sZz, sSs, sGt, sGs, sGz])
  refine wpAnyH_done (by kernel_rfl) ?_ _
  have hEnd := hHeld
  have HCE := Lib.hid hEnd
  clear hHeld hEnd
  go_wp2_with (first
    | (go_at_call 88; refine (HWD.out _).mono ?_; rintro e w3 ⟨rfl, rfl⟩)
    | (go_at_call 87; refine (HUN.out _ (HC2.out.drew)).mono ?_; rintro e w4 ⟨g, rfl, ho4, hc4⟩; have HC4 := Lib.hid (HC2.out.trans (((Chg.refl [] w2).drew).trans hc4)); have HO4 := Lib.hid (HO2.out.chg (((Chg.refl [] w2).drew).trans hc4) (by simp)); have HG4 := Lib.hid ho4.out; clear hc4 ho4)
    | fail)
  have HS : Hid (RoS g 2 (n : Int) (t : Int) w4 w4) := Lib.hid ⟨by rw [HG4.out.cell]; rfl, by rw [HG4.out.cell]; rfl, by rw [HG4.out.cell]; rfl, Chg.refl _ _⟩
  refine wp_region_held_drew (S := (fun W : World => W.cell? ⟨g, 0, none⟩ = some (.int .u64 2) ∧ W.cell? ⟨g, 1, none⟩ = some (.int .u64 (n : Int)) ∧ W.cell? ⟨g, 2, none⟩ = some (.int .u64 (t : Int)) ∧ Chg [] w4 W)) (by kernel_rfl) (by have h9 := HS.out.step (Chg.refl [] w4).drew; exact h9) (fun hHeld => ?_)
  refine tkH (i := 0) (v := ?_) rfl hHeld ?_ ?_
  rotate_left
  · (intro w hSw; first | (go_simp; done) | (go_simp; with_reducible rfl))
  (try simp only [Act.put, sTt, sZz, sSs, sGt, sGs, sGz])
  refine tkH (i := 1) (v := ?_) rfl hHeld ?_ ?_
  rotate_left
  · (intro w hSw; first | (go_simp; done) | (go_simp; with_reducible rfl))
  (try simp only [Act.put, sTt, sZz, sSs, sGt, sGs, sGz])
  refine tkH (i := 2) (v := ?_) rfl hHeld ?_ ?_
  rotate_left
  · (intro w hSw; first | (go_simp; done) | (go_simp; with_reducible rfl))
  (try simp only [Act.put, sTt, sZz, sSs, sGt, sGs, sGz])
  refine tkH (i := 3) (v := ?_) rfl hHeld ?_ ?_
  rotate_left
  · (intro w hSw; first | (go_simp; done) | (go_simp; with_reducible rfl))
  (try simp only [Act.put, sTt, sZz, sSs, sGt, sGs, sGz])
  refine tkH (i := 4) (v := ?_) rfl hHeld ?_ ?_
  rotate_left
  · (intro w hSw; first | (go_simp; done) | (go_simp; with_reducible rfl))
  (try simp only [Act.put, sTt, sZz, sSs, sGt, sGs, sGz])
  refine tkH (i := 5) (v := ?_) rfl hHeld ?_ ?_
  rotate_left
  · (intro w hSw; first | (go_simp; done) | (go_simp; with_reducible rfl))
  (try simp only [Act.put, sTt, sZz, sSs, sGt, sGs, sGz])
  refine tkH (i := 6) (v := ?_) rfl hHeld ?_ ?_
  rotate_left
  · (intro w hSw; first | (go_simp; done) | (go_simp; with_reducible rfl))
  (try simp only [Act.put, sTt, sZz, sSs, sGt, sGs, sGz])
  refine tkH (i := 7) (v := ?_) rfl hHeld ?_ ?_
  rotate_left
  · (intro w hSw; first | (go_simp; done) | (go_simp; with_reducible rfl))
  (try simp only [Act.put, sTt, sZz, sSs, sGt, sGs, sGz])
  refine tkH (i := 8) (v := ?_) rfl hHeld ?_ ?_
  rotate_left
  · (intro w hSw; first | (go_simp; done) | (go_simp; with_reducible rfl))
  (try simp only [Act.put, sTt, sZz, sSs, sGt, sGs, sGz])
  refine tkH (i := 9) (v := ?_) rfl hHeld ?_ ?_
  rotate_left
  · (intro w hSw; first | (go_simp; done) | (go_simp; with_reducible rfl))
  (try simp only [Act.put, sTt, sZz, sSs, sGt, sGs, sGz])
  refine wpAnyH_ready (rs := [10]) (by kernel_rfl) (by simp) (AllReadyH.cons rfl (fun K hK => ?_) AllReadyH.nil)
  have hH := hHeld
  (go_simp; skip)
  refine hK.out _ _ (by exact ⟨((Chg.refl [] _).alloc _).cell hH.1 (by simp), ((Chg.refl [] _).alloc _).cell hH.2.1 (by simp), ((Chg.refl [] _).alloc _).cell hH.2.2.1 (by simp), hH.2.2.2.alloc _⟩) (fun hHq1 => ?_)
  clear hK K hH 
  (try simp only [Act.put, sTt, sZz, sSs, sGt, sGs, sGz])
  refine wpAnyH_ready (rs := [11]) (by kernel_rfl) (by simp) (AllReadyH.cons rfl (fun K hK => ?_) AllReadyH.nil)
  have hH := hHq1
  (go_simp; skip)
  refine hK.out _ _ (by exact HS.out.step (((Chg.refl [] w4).alloc _).drew)) (fun hHq2 => ?_)
  clear hK K hH hHq1
  (try simp only [Act.put, sTt, sZz, sSs, sGt, sGs, sGz])
  refine wpAnyH_done (by kernel_rfl) ?_ _
  have hEnd := hHq2
  have hob5 : Own (w4.alloc (.cells #[.int .u64 2, .int .u64 (n : Int), .int .u64 (t : Int), .int .i64 0, .slice none 0 0, .slice none 0 0] 101)).drew w4.heap.size 101 [.int .u64 2, .int .u64 (n : Int), .int .u64 (t : Int), .int .i64 0, .slice none 0 0, .slice none 0 0] := (Own.new w4 _ _).chg ((Chg.refl [] _).drew) (by simp)
  have hc45 : Chg [] w4 (w4.alloc (.cells #[.int .u64 2, .int .u64 (n : Int), .int .u64 (t : Int), .int .i64 0, .slice none 0 0, .slice none 0 0] 101)).drew := ((Chg.refl [] w4).alloc _).drew
  clear hEnd hHeld
  generalize (w4.alloc (.cells #[.int .u64 2, .int .u64 (n : Int), .int .u64 (t : Int), .int .i64 0, .slice none 0 0, .slice none 0 0] 101)).drew = w5 at hob5 hc45 ⊢
  have HNE : Hid (w.heap.size < w4.heap.size) := Lib.hid HO4.out.lt
  have HO5 := Lib.hid (HO4.out.chg hc45 (by simp))
  have HC5 := Lib.hid (HC4.out.trans hc45)
  have HR5 := Lib.hid hob5
  have m0 := hob5.cell 0
  simp only [List.getElem?_cons_zero, List.getElem?_cons_succ] at m0
  clear hob5 hc45 HS
  obtain ⟨gR, hgR⟩ : ∃ x, Hid (w4.heap.size = x) := ⟨_, Lib.hid rfl⟩
  rw [hgR.out] at HR5 HNE m0 ⊢
  go_wp2_with fail
  refine (HDC.out _ HC5.out).mono ?_
  rintro e w6 ⟨A, rfl, hAx, hAN, hc6⟩
  have HO6 := Lib.hid (HO5.out.chg hc6 (by simp))
  have HR6 := Lib.hid (HR5.out.chg hc6 (by simp))
  have HC6 := Lib.hid (HC5.out.trans hc6)
  have HS5 := Lib.hid HC5.out.size
  clear m0 hc6
  obtain ⟨⟨ck, cd, cb⟩, a1, c1, a2, c2⟩ := A
  simp only at hAx
  subst hAx
  unfold CeT.val cev
  simp only
  obtain ⟨dn, hdn⟩ : ∃ x, Hid (cd.length = x) := ⟨_, Lib.hid rfl⟩
  obtain ⟨bn, hbn⟩ : ∃ x, Hid (cb.length = x) := ⟨_, Lib.hid rfl⟩
  rw [hdn.out, hbn.out]
  go_upto_region 14 with fail
  have hob7 := Own.new w6 42 [.int .i64 ck, .slice a1 dn c1, .slice a2 bn c2]
  have hc67 : Chg [] w6 (w6.alloc (.cells #[.int .i64 ck, .slice a1 dn c1, .slice a2 bn c2] 42)) := (Chg.refl [] w6).alloc _
  have hO7 := HO6.out.chg hc67 (by simp)
  have hR7 := HR6.out.chg hc67 (by simp)
  have hC7 := HC6.out.trans hc67
  have hN7 : NewC w5 (w6.alloc (.cells #[.int .i64 ck, .slice a1 dn c1, .slice a2 bn c2] 42)) ⟨⟨ck, cd, cb⟩, a1, c1, a2, c2⟩ := ⟨hAN.out.d.chg2 hc67 (fun _ _ => by simp), hAN.out.b.chg2 hc67 (fun _ _ => by simp), hAN.out.da, hAN.out.ba⟩
  clear hc67 hAN
  generalize w6.heap.size = gC at hob7 ⊢
  generalize w6.alloc (.cells #[.int .i64 ck, .slice a1 dn c1, .slice a2 bn c2] 42) = w7 at hob7 hO7 hR7 hC7 hN7 ⊢
  have y0 := hob7.cell 0
  have y1 := hob7.cell 1
  have y2 := hob7.cell 2
  have z3 := hR7.cell 3
  have z4 := hR7.cell 4
  have z5 := hR7.cell 5
  have v3 := hR7.frozen 3
  have v4 := hR7.frozen 4
  have v5 := hR7.frozen 5
  simp only [List.getElem?_cons_zero, List.getElem?_cons_succ] at y0 y1 y2 z3 z4 z5
  have HO7 := Lib.hid hO7
  have HR7 := Lib.hid hR7
  have HC7 := Lib.hid hC7
  have HN7 := Lib.hid hN7
  clear hO7 hR7 hC7 hN7 hob7
  go_upto_region 15 with fail
  have hE := ((HR7.out.set 3 (.int .i64 ck)).set 4 (.slice a1 dn c1)).set 5 (.slice a2 bn c2)
  have hCh : Chg [gR] w7 (((w7.setCell ⟨gR, 3, none⟩ (.int .i64 ck)).setCell ⟨gR, 4, none⟩ (.slice a1 dn c1)).setCell ⟨gR, 5, none⟩ (.slice a2 bn c2)) :=
    (((Chg.refl [gR] w7).setCell (.inl (by simp)) _).setCell (.inl (by simp)) _).setCell (.inl (by simp)) _
  simp only [List.set_cons_zero, List.set_cons_succ] at hE
  clear y0 y1 y2 z3 z4 z5 v3 v4 v5
  generalize (((w7.setCell ⟨gR, 3, none⟩ (.int .i64 ck)).setCell ⟨gR, 4, none⟩ (.slice a1 dn c1)).setCell ⟨gR, 5, none⟩ (.slice a2 bn c2)) = w8 at hE hCh ⊢
  have hO8 := HO7.out.chg hCh (by simp; have := HNE.out; omega)
  have HO8 := Lib.hid hO8
  have HC8 := Lib.hid (HC7.out.then hCh (fun x hx => .inr (by simp at hx; have := HNE.out; omega)))
  have hgl : gR < w5.heap.size := HR5.out.lt
  have HN8 : Hid (NewC w w8 ⟨⟨ck, cd, cb⟩, a1, c1, a2, c2⟩) := Lib.hid ⟨HN7.out.d.chg2 hCh (fun ad e => by have := HN7.out.da ad e; simp; omega), HN7.out.b.chg2 hCh (fun ad e => by have := HN7.out.ba ad e; simp; omega), fun ad e => Nat.le_trans HS5.out (HN7.out.da ad e), fun ad e => Nat.le_trans HS5.out (HN7.out.ba ad e)⟩
  have HGA : Hid (∀ ad, a1 = some ad → w5.heap.size ≤ ad.block) := Lib.hid HN7.out.da
  have HGB : Hid (∀ ad, a2 = some ad → w5.heap.size ≤ ad.block) := Lib.hid HN7.out.ba
  have hwl : w.heap.size < w5.heap.size := HO5.out.lt
  have HWL := Lib.hid hwl
  have f0 := hO8.frozen 0
  have f1 := hO8.frozen 1
  have f2 := hO8.frozen 2
  have f3 := hO8.frozen 3
  have f4 := hO8.frozen 4
  have f5 := hO8.frozen 5
  have k0 := hO8.cell 0
  have k1 := hO8.cell 1
  have k2 := hO8.cell 2
  have k3 := hO8.cell 3
  have k4 := hO8.cell 4
  have k5 := hO8.cell 5
  have m0 := hE.cell 0
  have m1 := hE.cell 1
  have m2 := hE.cell 2
  have m3 := hE.cell 3
  have m4 := hE.cell 4
  have m5 := hE.cell 5
  simp only [List.getElem?_cons_zero, List.getElem?_cons_succ] at k0 k1 k2 k3 k4 k5 m0 m1 m2 m3 m4 m5
  clear hO8 hE hCh hgl hwl
  go_wp2_with fail
  have hE2 := (((((HO8.out.set 0 (.int .u64 2)).set 1 (.int .u64 (n : Int))).set 2 (.int .u64 (t : Int))).set 3 (.int .i64 ck)).set 4 (.slice a1 dn c1)).set 5 (.slice a2 bn c2)
  have hCl : Chg [w.heap.size] w8 ((((((w8.setCell ⟨w.heap.size, 0, none⟩ (.int .u64 2)).setCell ⟨w.heap.size, 1, none⟩ (.int .u64 (n : Int))).setCell ⟨w.heap.size, 2, none⟩ (.int .u64 (t : Int))).setCell ⟨w.heap.size, 3, none⟩ (.int .i64 ck)).setCell ⟨w.heap.size, 4, none⟩ (.slice a1 dn c1)).setCell ⟨w.heap.size, 5, none⟩ (.slice a2 bn c2)) :=
    ((((((Chg.refl [w.heap.size] w8).setCell (.inl (by simp)) _).setCell (.inl (by simp)) _).setCell (.inl (by simp)) _).setCell (.inl (by simp)) _).setCell (.inl (by simp)) _).setCell (.inl (by simp)) _
  simp only [List.set_cons_zero, List.set_cons_succ] at hE2
  generalize ((((((w8.setCell ⟨w.heap.size, 0, none⟩ (.int .u64 2)).setCell ⟨w.heap.size, 1, none⟩ (.int .u64 (n : Int))).setCell ⟨w.heap.size, 2, none⟩ (.int .u64 (t : Int))).setCell ⟨w.heap.size, 3, none⟩ (.int .i64 ck)).setCell ⟨w.heap.size, 4, none⟩ (.slice a1 dn c1)).setCell ⟨w.heap.size, 5, none⟩ (.slice a2 bn c2)) = w9 at hE2 hCl ⊢
  have r0 := hE2.cell 0
  have r1 := hE2.cell 1
  have r2 := hE2.cell 2
  have r3 := hE2.cell 3
  have r4 := hE2.cell 4
  have r5 := hE2.cell 5
  simp only [List.getElem?_cons_zero, List.getElem?_cons_succ] at r0 r1 r2 r3 r4 r5
  refine bodyPost_ret (v := .tuple #[.agg #[.int .u64 2, .int .u64 (n : Int), .int .u64 (t : Int), .int .i64 ck, .slice a1 dn c1, .slice a2 bn c2], .bool true]) (by simp [results, Tryz.results41, go_sem, r0, r1, r2, r3, r4, r5]) rfl ?_
  refine ⟨⟨⟨ck, cd, cb⟩, a1, c1, a2, c2⟩, by unfold rcv; rw [← hdn.out, ← hbn.out]; rfl, rfl, Lib.hid ⟨HN8.out.d.chg2 hCl (fun ad e => by have := HGA.out ad e; have := HWL.out; simp; omega), HN8.out.b.chg2 hCl (fun ad e => by have := HGB.out ad e; have := HWL.out; simp; omega), HN8.out.da, HN8.out.ba⟩, HC8.out.then hCl (fun x hx => .inr (by simp at hx; omega))⟩
end Go.Proofs.YtmpajlpemabniaaGreat
namespace Go.Proofs.YtmpajlpemabniaaGreat
open Go.RowKit Go.Maps Go.Shelf Go.Deep
set_option linter.unusedVariables false
set_option linter.unusedSimpArgs false
set_option maxHeartbeats 2000000 in
set_option maxRecDepth 100000 in
theorem allows_yes (w : World) {q p : Nat} {v : Value} {b : Nat} {C : List Nat} {S : PS} (h : Sta w q p v b C S) (r : Rc) (A : CeT) (ho : okN r) (ha : allow S r = true) :
    Calls Tryz.prog 42 #[.pointer (some ⟨q, 0, none⟩), rcv (r.k : Int) r.n r.t A] w fun e w' => e = .returned (.bool true) ∧ Chg [] w w' := by
  obtain ⟨w1, HW1⟩ : ∃ W, Hid (w.alloc (rcb (r.k : Int) r.n r.t A) = W) := ⟨_, Lib.hid rfl⟩
  have hC1 : Chg [] w w1 := by rw [← HW1.out]; exact (Chg.refl [] w).alloc _
  have hob : Own w1 w.heap.size 101 [.int .u64 (r.k : Int), .int .u64 (r.n : Int), .int .u64 (r.t : Int), .int .i64 A.x.k, .slice A.a A.x.d.length A.c, .slice A.a2 A.x.b.length A.c2] := by rw [← HW1.out]; exact Own.new w _ _
  obtain ⟨h0, h1, h2, h3, h4⟩ := (h.kept hC1).cells
  have hH1 := h.kept hC1
  have HH := Lib.hid hH1
  have HC1 := Lib.hid hC1
  have hk5 : r.k = 1 ∨ r.k = 2 ∨ r.k = 3 ∨ r.k = 4 ∨ r.k = 5 := by have h8 := ho.k1; have h9 := ho.k5; omega
  obtain ⟨k, n, t, cx⟩ := r
  unfold rcb at HW1
  unfold rcv
  simp only at HW1 hob hk5 ⊢
  obtain ⟨ki, hki⟩ : ∃ z : Int, (k : Int) = z := ⟨_, rfl⟩
  rw [hki] at HW1 hob ⊢
  generalize A.x.d.length = dn at HW1 hob ⊢
  generalize A.x.b.length = bn at HW1 hob ⊢
  generalize A.x.k = ck at HW1 hob ⊢
  generalize A.a = a1 at HW1 hob ⊢
  generalize A.c = c1' at HW1 hob ⊢
  generalize A.a2 = a2 at HW1 hob ⊢
  generalize A.c2 = c2' at HW1 hob ⊢
  have c0 := hob.cell 0
  have c1 := hob.cell 1
  have c2 := hob.cell 2
  have c3 := hob.cell 3
  have c4 := hob.cell 4
  have c5 := hob.cell 5
  simp only [List.getElem?_cons_zero, List.getElem?_cons_succ] at c0 c1 c2 c3 c4 c5
  have HO := Lib.hid hob
  clear h hC1 hob hH1
  rcases hk5 with hk | hk | hk | hk | hk
  · obtain rfl : ki = 1 := by omega
    clear hki
    subst hk
    obtain ⟨z, hz⟩ : ∃ z, S.ep = z := ⟨_, rfl⟩
    have hd : z ≤ n ∧ n ≤ 1048576 := by
      have h9 := ha
      unfold allow at h9
      simp at h9
      rw [hz] at h9
      exact h9
    rw [hz] at h0
    have e1 : decide ((z : Int) ≤ (n : Int)) = true := decide_eq_true (by omega)
    have e1' : decide (z ≤ n) = true := decide_eq_true (by omega)
    have e2 : decide ((n : Int) ≤ 1048576) = true := decide_eq_true (by omega)
    have HS : Hid (w1.cell? ⟨w.heap.size, 1, none⟩ = some (.int .u64 (n : Int)) ∧ w1.cell? ⟨q, 0, none⟩ = some (.int .u64 (z : Int))) := Lib.hid ⟨c1, h0⟩
    clear hd hz h0 h1 h2 h3 h4 ha ho
    go_enter Tryz.func42, Tryz.ntmps42
    go_upto_region 1 with fail
    rw [HW1.out]
    go_upto_region 3 with fail
    refine wp_region_held_drew (S := (fun W : World => W.cell? ⟨w.heap.size, 1, none⟩ = some (.int .u64 (n : Int)) ∧ W.cell? ⟨q, 0, none⟩ = some (.int .u64 (z : Int)) ∧ Chg [] w1 W)) (by kernel_rfl) (by exact ⟨HS.out.1, HS.out.2, (Chg.refl [] w1).drew⟩) (fun hHeld => ?_)
    refine tkH (i := 0) (v := ?_) rfl hHeld ?_ ?_
    rotate_left
    · (intro w hSw; first | (go_simp; done) | (go_simp; with_reducible rfl))
    (try simp only [Act.put, sTt, sZz, sSs, sGt, sGs, sGz])
    refine tkH (i := 1) (v := ?_) rfl hHeld ?_ ?_
    rotate_left
    · (intro w hSw; first | (go_simp; done) | (go_simp; with_reducible rfl))
    (try simp only [Act.put, sTt, sZz, sSs, sGt, sGs, sGz])
    refine tkH (i := 2) (v := ?_) rfl hHeld ?_ ?_
    rotate_left
    · (intro w hSw; first | (go_simp; done) | (go_simp; with_reducible rfl))
    (try simp only [Act.put, sTt, sZz, sSs, sGt, sGs, sGz])
    refine tkH (i := 3) (v := ?_) rfl hHeld ?_ ?_
    rotate_left
    · (intro w hSw; first | (go_simp; done) | (go_simp; with_reducible rfl))
    (try simp only [Act.put, sTt, sZz, sSs, sGt, sGs, sGz])
    refine tkH (i := 4) (v := ?_) rfl hHeld ?_ ?_
    rotate_left
    · (intro w hSw; first | (go_simp; done) | (go_simp; with_reducible rfl))
    (try simp only [Act.put, sTt, sZz, sSs, sGt, sGs, sGz])
    refine tkH (i := 5) (v := ?_) rfl hHeld ?_ ?_
    rotate_left
    · (intro w hSw; first | (go_simp; done) | (go_simp; with_reducible rfl))
    (try simp only [Act.put, sTt, sZz, sSs, sGt, sGs, sGz])
    refine tkH (i := 6) (v := ?_) rfl hHeld ?_ ?_
    rotate_left
    · (intro w hSw; first | (go_simp; done) | (go_simp; with_reducible rfl))
    (try simp only [Act.put, sTt, sZz, sSs, sGt, sGs, sGz])
    refine tkH (i := 7) (v := ?_) rfl hHeld ?_ ?_
    rotate_left
    · (intro w hSw; first | (go_simp; done) | (go_simp; with_reducible rfl))
    (try simp only [Act.put, sTt, sZz, sSs, sGt, sGs, sGz])
    refine tkH (i := 8) (v := ?_) rfl hHeld ?_ ?_
    rotate_left
    · (intro w hSw; first | (go_simp; done) | (go_simp; with_reducible rfl))
    (try simp only [Act.put, sTt, sZz, sSs, sGt, sGs, sGz])
    refine tkH (i := 9) (v := ?_) rfl hHeld ?_ ?_
    rotate_left
    · (intro w hSw; first | (go_simp; done) | (go_simp; with_reducible rfl))
    (try simp only [Act.put, sTt, sZz, sSs, sGt, sGs, sGz])
    refine tkH (i := 10) (v := ?_) rfl hHeld ?_ ?_
    rotate_left
    · (intro w hSw; first | (go_simp; done) | (go_simp; with_reducible rfl))
    (try simp only [Act.put, sTt, sZz, sSs, sGt, sGs, sGz])
    refine tkH (i := 11) (v := ?_) rfl hHeld ?_ ?_
    rotate_left
    · (intro w hSw; first | (go_simp; done) | (go_simp; with_reducible rfl))
    (try simp only [Act.put, sTt, sZz, sSs, sGt, sGs, sGz])
    refine tkH (i := 12) (v := ?_) rfl hHeld ?_ ?_
    rotate_left
    · (intro w hSw; first | (go_simp; done) | (go_simp; with_reducible rfl))
    (try simp only [Act.put, sTt, sZz, sSs, sGt, sGs, sGz])
    refine wpAnyH_done (by kernel_rfl) ?_ _
    have hEnd := hHeld
    clear hHeld hEnd c0 c1 c2 c3 c4 c5
    go_wp2_with fail
    go_ret
    exact ⟨rfl, HC1.out.drew⟩
  · obtain rfl : ki = 2 := by omega
    clear hki
    subst hk
    have hd : S.tr n = false ∧ S.m n = none := by
      have h9 := ha
      unfold allow at h9
      simp at h9
      exact h9
    have hn : n < 1048576 := by have := ho.n; simpa using this
    have HT : Hid (∀ W, Chg [] w1 W → Calls Tryz.prog 67 #[.pointer (some ⟨q, 0, none⟩), .int .u64 (n : Int)] W fun e w' => e = .returned (.bool false) ∧ Chg [] W w') := Lib.hid (fun W hW => by
      have h9 := isTrimmed_any W (HH.out.kept hW) n (by omega)
      rwa [hd.1] at h9)
    have HI : Hid (∀ W, Chg [] w1 W → Calls Tryz.prog 68 #[.pointer (some ⟨q, 0, none⟩), .int .u64 (n : Int)] W fun e w' => e = .returned (.bool false) ∧ Chg [] W w') := Lib.hid (fun W hW => by
      have h9 := isWritten_any W (HH.out.kept hW) n (by omega)
      rwa [hd.2] at h9)
    clear hd hn ha ho h0 h1 h2 h3 h4
    go_enter Tryz.func42, Tryz.ntmps42
    go_upto_region 1 with fail
    rw [HW1.out]
    go_wp2_with (first
      | (go_at_call 67; refine (HT.out _ (Chg.refl [] w1)).mono ?_; rintro e w2 ⟨rfl, hc2⟩; have HC2 := Lib.hid hc2; have y1 := hc2.cell c1 (by simp); clear hc2)
      | (go_at_call 68; refine (HI.out _ HC2.out).mono ?_; rintro e w3 ⟨rfl, hc3⟩; have HC3 := Lib.hid (HC2.out.trans hc3); clear hc3)
      | fail)
    go_ret
    exact ⟨rfl, HC1.out.trans HC3.out⟩
  · obtain rfl : ki = 3 := by omega
    clear hki
    subst hk
    obtain ⟨z, hz⟩ : ∃ z, S.mr = z := ⟨_, rfl⟩
    have hd : z ≤ n ∧ n ≤ 1048576 := by
      have h9 := ha
      unfold allow at h9
      simp at h9
      rw [hz] at h9
      exact h9
    rw [hz] at h2
    have e1 : decide ((z : Int) ≤ (n : Int)) = true := decide_eq_true (by omega)
    have e1' : decide (z ≤ n) = true := decide_eq_true (by omega)
    have e2 : decide ((n : Int) ≤ 1048576) = true := decide_eq_true (by omega)
    have HS : Hid (w1.cell? ⟨w.heap.size, 1, none⟩ = some (.int .u64 (n : Int)) ∧ w1.cell? ⟨q, 2, none⟩ = some (.int .u64 (z : Int))) := Lib.hid ⟨c1, h2⟩
    clear hd hz h0 h1 h2 h3 h4 ha ho
    go_enter Tryz.func42, Tryz.ntmps42
    go_upto_region 1 with fail
    rw [HW1.out]
    go_upto_region 7 with fail
    refine wp_region_held_drew (S := (fun W : World => W.cell? ⟨w.heap.size, 1, none⟩ = some (.int .u64 (n : Int)) ∧ W.cell? ⟨q, 2, none⟩ = some (.int .u64 (z : Int)) ∧ Chg [] w1 W)) (by kernel_rfl) (by exact ⟨HS.out.1, HS.out.2, (Chg.refl [] w1).drew⟩) (fun hHeld => ?_)
    refine tkH (i := 0) (v := ?_) rfl hHeld ?_ ?_
    rotate_left
    · (intro w hSw; first | (go_simp; done) | (go_simp; with_reducible rfl))
    (try simp only [Act.put, sTt, sZz, sSs, sGt, sGs, sGz])
    refine tkH (i := 1) (v := ?_) rfl hHeld ?_ ?_
    rotate_left
    · (intro w hSw; first | (go_simp; done) | (go_simp; with_reducible rfl))
    (try simp only [Act.put, sTt, sZz, sSs, sGt, sGs, sGz])
    refine tkH (i := 2) (v := ?_) rfl hHeld ?_ ?_
    rotate_left
    · (intro w hSw; first | (go_simp; done) | (go_simp; with_reducible rfl))
    (try simp only [Act.put, sTt, sZz, sSs, sGt, sGs, sGz])
    refine tkH (i := 3) (v := ?_) rfl hHeld ?_ ?_
    rotate_left
    · (intro w hSw; first | (go_simp; done) | (go_simp; with_reducible rfl))
    (try simp only [Act.put, sTt, sZz, sSs, sGt, sGs, sGz])
    refine tkH (i := 4) (v := ?_) rfl hHeld ?_ ?_
    rotate_left
    · (intro w hSw; first | (go_simp; done) | (go_simp; with_reducible rfl))
    (try simp only [Act.put, sTt, sZz, sSs, sGt, sGs, sGz])
    refine tkH (i := 5) (v := ?_) rfl hHeld ?_ ?_
    rotate_left
    · (intro w hSw; first | (go_simp; done) | (go_simp; with_reducible rfl))
    (try simp only [Act.put, sTt, sZz, sSs, sGt, sGs, sGz])
    refine tkH (i := 6) (v := ?_) rfl hHeld ?_ ?_
    rotate_left
    · (intro w hSw; first | (go_simp; done) | (go_simp; with_reducible rfl))
    (try simp only [Act.put, sTt, sZz, sSs, sGt, sGs, sGz])
    refine tkH (i := 7) (v := ?_) rfl hHeld ?_ ?_
    rotate_left
    · (intro w hSw; first | (go_simp; done) | (go_simp; with_reducible rfl))
    (try simp only [Act.put, sTt, sZz, sSs, sGt, sGs, sGz])
    refine tkH (i := 8) (v := ?_) rfl hHeld ?_ ?_
    rotate_left
    · (intro w hSw; first | (go_simp; done) | (go_simp; with_reducible rfl))
    (try simp only [Act.put, sTt, sZz, sSs, sGt, sGs, sGz])
    refine tkH (i := 9) (v := ?_) rfl hHeld ?_ ?_
    rotate_left
    · (intro w hSw; first | (go_simp; done) | (go_simp; with_reducible rfl))
    (try simp only [Act.put, sTt, sZz, sSs, sGt, sGs, sGz])
    refine tkH (i := 10) (v := ?_) rfl hHeld ?_ ?_
    rotate_left
    · (intro w hSw; first | (go_simp; done) | (go_simp; with_reducible rfl))
    (try simp only [Act.put, sTt, sZz, sSs, sGt, sGs, sGz])
    refine tkH (i := 11) (v := ?_) rfl hHeld ?_ ?_
    rotate_left
    · (intro w hSw; first | (go_simp; done) | (go_simp; with_reducible rfl))
    (try simp only [Act.put, sTt, sZz, sSs, sGt, sGs, sGz])
    refine tkH (i := 12) (v := ?_) rfl hHeld ?_ ?_
    rotate_left
    · (intro w hSw; first | (go_simp; done) | (go_simp; with_reducible rfl))
    (try simp only [Act.put, sTt, sZz, sSs, sGt, sGs, sGz])
    refine wpAnyH_done (by kernel_rfl) ?_ _
    have hEnd := hHeld
    clear hHeld hEnd c0 c1 c2 c3 c4 c5
    go_wp2_with fail
    go_ret
    exact ⟨rfl, HC1.out.drew⟩
  · obtain rfl : ki = 4 := by omega
    clear hki
    subst hk
    have hd : n < t ∧ t ≤ 1048576 := by
      have h9 := ha
      unfold allow at h9
      simp at h9
      exact h9
    have e1 : decide ((n : Int) < (t : Int)) = true := decide_eq_true (by omega)
    have e1' : decide (n < t) = true := decide_eq_true (by omega)
    have e2 : decide ((t : Int) ≤ 1048576) = true := decide_eq_true (by omega)
    have e2' : decide (t ≤ 1048576) = true := decide_eq_true (by omega)
    clear hd ha ho h0 h1 h2 h3 h4
    go_enter Tryz.func42, Tryz.ntmps42
    go_upto_region 1 with fail
    rw [HW1.out]
    go_wp2_with fail
    go_ret
    exact ⟨rfl, HC1.out⟩
  · obtain rfl : ki = 5 := by omega
    clear hki
    subst hk
    obtain ⟨z, hz⟩ : ∃ z, S.op = z := ⟨_, rfl⟩
    have hd : z ≤ n ∧ n ≤ 1048576 := by
      have h9 := ha
      unfold allow at h9
      simp at h9
      rw [hz] at h9
      exact h9
    rw [hz] at h1
    have e1 : decide ((z : Int) ≤ (n : Int)) = true := decide_eq_true (by omega)
    have e1' : decide (z ≤ n) = true := decide_eq_true (by omega)
    have e2 : decide ((n : Int) ≤ 1048576) = true := decide_eq_true (by omega)
    have HS : Hid (w1.cell? ⟨w.heap.size, 1, none⟩ = some (.int .u64 (n : Int)) ∧ w1.cell? ⟨q, 1, none⟩ = some (.int .u64 (z : Int))) := Lib.hid ⟨c1, h1⟩
    clear hd hz h0 h1 h2 h3 h4 ha ho
    go_enter Tryz.func42, Tryz.ntmps42
    go_upto_region 1 with fail
    rw [HW1.out]
    go_upto_region 11 with fail
    refine wp_region_held_drew (S := (fun W : World => W.cell? ⟨w.heap.size, 1, none⟩ = some (.int .u64 (n : Int)) ∧ W.cell? ⟨q, 1, none⟩ = some (.int .u64 (z : Int)) ∧ Chg [] w1 W)) (by kernel_rfl) (by exact ⟨HS.out.1, HS.out.2, (Chg.refl [] w1).drew⟩) (fun hHeld => ?_)
    refine tkH (i := 0) (v := ?_) rfl hHeld ?_ ?_
    rotate_left
    · (intro w hSw; first | (go_simp; done) | (go_simp; with_reducible rfl))
    (try simp only [Act.put, sTt, sZz, sSs, sGt, sGs, sGz])
    refine tkH (i := 1) (v := ?_) rfl hHeld ?_ ?_
    rotate_left
    · (intro w hSw; first | (go_simp; done) | (go_simp; with_reducible rfl))
    (try simp only [Act.put, sTt, sZz, sSs, sGt, sGs, sGz])
    refine tkH (i := 2) (v := ?_) rfl hHeld ?_ ?_
    rotate_left
    · (intro w hSw; first | (go_simp; done) | (go_simp; with_reducible rfl))
    (try simp only [Act.put, sTt, sZz, sSs, sGt, sGs, sGz])
    refine tkH (i := 3) (v := ?_) rfl hHeld ?_ ?_
    rotate_left
    · (intro w hSw; first | (go_simp; done) | (go_simp; with_reducible rfl))
    (try simp only [Act.put, sTt, sZz, sSs, sGt, sGs, sGz])
    refine tkH (i := 4) (v := ?_) rfl hHeld ?_ ?_
    rotate_left
    · (intro w hSw; first | (go_simp; done) | (go_simp; with_reducible rfl))
    (try simp only [Act.put, sTt, sZz, sSs, sGt, sGs, sGz])
    refine tkH (i := 5) (v := ?_) rfl hHeld ?_ ?_
    rotate_left
    · (intro w hSw; first | (go_simp; done) | (go_simp; with_reducible rfl))
    (try simp only [Act.put, sTt, sZz, sSs, sGt, sGs, sGz])
    refine tkH (i := 6) (v := ?_) rfl hHeld ?_ ?_
    rotate_left
    · (intro w hSw; first | (go_simp; done) | (go_simp; with_reducible rfl))
    (try simp only [Act.put, sTt, sZz, sSs, sGt, sGs, sGz])
    refine tkH (i := 7) (v := ?_) rfl hHeld ?_ ?_
    rotate_left
    · (intro w hSw; first | (go_simp; done) | (go_simp; with_reducible rfl))
    (try simp only [Act.put, sTt, sZz, sSs, sGt, sGs, sGz])
    refine tkH (i := 8) (v := ?_) rfl hHeld ?_ ?_
    rotate_left
    · (intro w hSw; first | (go_simp; done) | (go_simp; with_reducible rfl))
    (try simp only [Act.put, sTt, sZz, sSs, sGt, sGs, sGz])
    refine tkH (i := 9) (v := ?_) rfl hHeld ?_ ?_
    rotate_left
    · (intro w hSw; first | (go_simp; done) | (go_simp; with_reducible rfl))
    (try simp only [Act.put, sTt, sZz, sSs, sGt, sGs, sGz])
    refine tkH (i := 10) (v := ?_) rfl hHeld ?_ ?_
    rotate_left
    · (intro w hSw; first | (go_simp; done) | (go_simp; with_reducible rfl))
    (try simp only [Act.put, sTt, sZz, sSs, sGt, sGs, sGz])
    refine tkH (i := 11) (v := ?_) rfl hHeld ?_ ?_
    rotate_left
    · (intro w hSw; first | (go_simp; done) | (go_simp; with_reducible rfl))
    (try simp only [Act.put, sTt, sZz, sSs, sGt, sGs, sGz])
    refine tkH (i := 12) (v := ?_) rfl hHeld ?_ ?_
    rotate_left
    · (intro w hSw; first | (go_simp; done) | (go_simp; with_reducible rfl))
    (try simp only [Act.put, sTt, sZz, sSs, sGt, sGs, sGz])
    refine wpAnyH_done (by kernel_rfl) ?_ _
    have hEnd := hHeld
    clear hHeld hEnd c0 c1 c2 c3 c4 c5
    go_wp2_with fail
    go_ret
    exact ⟨rfl, HC1.out.drew⟩
end Go.Proofs.YtmpajlpemabniaaGreat
