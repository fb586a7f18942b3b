/-
  Read, Tail. No claim of their own.
-/
import Derived.Test.YtmpajlpemabniaaGreatZk35
namespace Go.Proofs.YtmpajlpemabniaaGreat
open Go.RowKit Go.Maps Go.Shelf Go.Deep
set_option linter.unusedVariables false
set_option linter.unusedSimpArgs false

theorem MapV.look1 {w : World} {b : Nat} {V : Nat → Option Value} (h : MapV w b V) {t e : TypeId} (ht : Tryz.prog.underlying t = some (.map 37 e)) {z : Value} (hz : (zeroValue e).run Tryz.prog w = .ok z w) {a : Nat} (ha : a < 18446744073709551616) {u : Value} (hu : V a = some u) :
    (Instr.lookup t (.map (some b)) (.int .u64 (a : Int)) false).run Tryz.prog w = .ok u w := by
  obtain ⟨D, ho, hm⟩ := h.own
  obtain ⟨v, ps, hrun, hv⟩ := ho.lookup ukeyed ht hz (zd := .held z) (zp := []) rfl (keyOf_uk ha)
  have h2 := idR_inv hv
  rw [hrun]
  rw [(hm.some_ a u hu).2] at h2
  simp at h2
  simp [h2]
set_option maxHeartbeats 1000000 in
theorem Read_ok (w : World) {u : Nat} {l : List Nat} {q p g b n : Nat} {X : TS} {sq sp sb : Nat} {v : Value} {C : List Nat} {S : PS} (P : Pgs w u l q p g b n X sq sp sb v C S) (a : Nat) (c : Ce) (hc : S.m a = some c) :
    Calls Tryz.prog 32 #[.pointer (some ⟨u, 0, none⟩), .int .u64 (a : Int)] w fun e w' => ∃ A', e = .returned (.tuple #[A'.val, .int .i64 0]) ∧ A'.x = c ∧ Hid (NewC w w' A') ∧ Chg [] w w' := by
  obtain ⟨ha, hr, ht⟩ := P.sta.gd.cell a c hc
  obtain ⟨V, hV, hV2⟩ := P.sta.map
  obtain ⟨A, hAm, hAv, hAC⟩ : ∃ A : CeT, S.m a = some A.x ∧ V a = some A.val ∧ CellV w C A := by
    rcases hV2 a with ⟨h1, _⟩ | h1
    · rw [hc] at h1; cases h1
    · exact h1
  have hxc : A.x = c := by rw [hc] at hAm; exact (Option.some.inj hAm).symm
  have hlen := right_lens hr
  obtain ⟨w1, HW1⟩ : ∃ W, Hid (w.alloc (.cells #[.int .i64 0, .slice none 0 0, .slice none 0 0] 42) = W) := ⟨_, Lib.hid rfl⟩
  have hC1 : Chg [] w w1 := by rw [← HW1.out]; exact (Chg.refl [] w).alloc _
  have hob : Own w1 w.heap.size 42 [.int .i64 0, .slice none 0 0, .slice none 0 0] := by rw [← HW1.out]; exact Own.new w _ _
  have HTR : Hid (∀ W, Chg [] w W → Calls Tryz.prog 67 #[.pointer (some ⟨sq, 0, none⟩), .int .u64 (a : Int)] W fun e w' => e = .returned (.bool false) ∧ Chg [] W w') := Lib.hid (fun W hW => by
    have h9 := isTrimmed_any W (P.sta.kept hW) a (by omega)
    rwa [ht] at h9)
  have HWR : Hid (∀ W, Chg [] w W → Calls Tryz.prog 68 #[.pointer (some ⟨sq, 0, none⟩), .int .u64 (a : Int)] W fun e w' => e = .returned (.bool true) ∧ Chg [] W w') := Lib.hid (fun W hW => by
    have h9 := isWritten_any W (P.sta.kept hW) a (by omega)
    rwa [hc] at h9)
  have HLK : Hid (∀ W, Chg [] w W → (Instr.lookup 136 (.map (some sb)) (.int .u64 (a : Int)) false).run Tryz.prog W = .ok A.val W) := Lib.hid (fun W hW =>
    (hV.kept hW).look1 (t := 136) (e := 42) Tryz.underlying136 (z := .agg #[.int .i64 0, .slice none 0 0, .slice none 0 0]) (by kernel_rfl) (by omega) hAv)
  have HCO : Hid (∀ W, Chg [] w1 W → Calls Tryz.prog 70 #[A.val] W fun e w' => ∃ A', e = .returned A'.val ∧ A'.x = A.x ∧ Hid (NewC w1 w' A') ∧ Chg [] W w') := Lib.hid (fun W hW =>
    (copyOf_any A C W (hAC.chg (hC1.trans hW) (by simp)) (by rw [hxc]; omega) (by rw [hxc]; omega)).mono fun e w' ⟨A', x1, x2, x3, x4⟩ => ⟨A', x1, x2, Lib.hid ⟨x3.out.d, x3.out.b, fun ad e => Nat.le_trans hW.size (x3.out.da ad e), fun ad e => Nat.le_trans hW.size (x3.out.ba ad e)⟩, x4⟩)
  obtain ⟨u0, u1⟩ := (P.own.chg hC1 (by simp)).two
  obtain ⟨h0, h1, h2, h3, h4⟩ := (P.sta.kept hC1).cells
  have e1 : decide ((1048576 : Int) ≤ (a : Int)) = false := decide_eq_false (by omega)
  have HO := Lib.hid hob
  have HC1 := Lib.hid hC1
  have HXC := Lib.hid hxc
  have HB : Hid (∀ W, Chg [] w1 W → W.cell? ⟨u, 1, none⟩ = some (.pointer (some ⟨sq, 0, none⟩)) ∧ W.cell? ⟨sq, 4, none⟩ = some (.map (some sb))) := Lib.hid (fun W hW => ⟨hW.cell u1 (by simp), hW.cell h4 (by simp)⟩)
  have HUL : Hid (w1.heap.size = w.heap.size + 1) := Lib.hid (by rw [← HW1.out, World.size_alloc])
  clear P hc hr ht hV hV2 hAm hAv hAC hxc hlen hC1 hob h0 h1 h2 h3 h4
  obtain ⟨⟨ck, cd, cb⟩, a1, c1', a2, c2'⟩ := A
  unfold CeT.val at HLK HCO ⊢
  simp only at HLK HCO HXC ⊢
  generalize cd.length = dn at HLK HCO
  generalize cb.length = bn at HLK HCO
  go_enter Tryz.func32, Tryz.ntmps32
  go_upto_region 1 with fail
  simp only [HW1.out]
  go_wp2_with (first
    | (go_at_call 67; refine (HTR.out _ HC1.out).mono ?_; rintro e w3 ⟨rfl, hc3⟩
       obtain ⟨y3, y4⟩ := HB.out _ hc3
       have HC3 := Lib.hid hc3
       clear hc3)
    | (go_at_call 68; refine (HWR.out _ (HC1.out.trans HC3.out)).mono ?_; rintro e w4 ⟨rfl, hc4⟩
       obtain ⟨z3, z4⟩ := HB.out _ (HC3.out.trans hc4)
       have HC4 := Lib.hid (HC3.out.trans hc4)
       have hlk := HLK.out _ (HC1.out.trans (HC3.out.trans hc4))
       clear hc4)
    | (go_at_call 70; refine (HCO.out _ HC4.out).mono ?_; rintro e w5 ⟨A', rfl, hx5, hn5, hc5⟩
       have HC5 := Lib.hid (HC4.out.trans hc5)
       have HX5 := Lib.hid hx5
       have HN5 := Lib.hid hn5.out
       have HO5 := Lib.hid (HO.out.chg (HC4.out.trans hc5) (by simp))
       have k0 := HO5.out.cell 0
       have k1 := HO5.out.cell 1
       have k2 := HO5.out.cell 2
       have f0 := HO5.out.frozen 0
       have f1 := HO5.out.frozen 1
       have f2 := HO5.out.frozen 2
       simp only [List.getElem?_cons_zero, List.getElem?_cons_succ] at k0 k1 k2
       clear hx5 hn5 hc5
       obtain ⟨⟨k5, d5, b5⟩, a5, m5, a6, m6⟩ := A')
    | fail)
  have hE2 := ((HO5.out.set 0 (.int .i64 k5)).set 1 (.slice a5 d5.length m5)).set 2 (.slice a6 b5.length m6)
  simp only [List.set_cons_zero, List.set_cons_succ] at hE2
  have hCe : Chg [w.heap.size] w5 (((w5.setCell ⟨w.heap.size, 0, none⟩ (.int .i64 k5)).setCell ⟨w.heap.size, 1, none⟩ (.slice a5 d5.length m5)).setCell ⟨w.heap.size, 2, none⟩ (.slice a6 b5.length m6)) :=
    (((Chg.refl [w.heap.size] w5).setCell (.inl (by simp)) _).setCell (.inl (by simp)) _).setCell (.inl (by simp)) _
  generalize (((w5.setCell ⟨w.heap.size, 0, none⟩ (.int .i64 k5)).setCell ⟨w.heap.size, 1, none⟩ (.slice a5 d5.length m5)).setCell ⟨w.heap.size, 2, none⟩ (.slice a6 b5.length m6)) = W7 at hE2 hCe ⊢
  have r0 := hE2.cell 0
  have r1 := hE2.cell 1
  have r2 := hE2.cell 2
  simp only [List.getElem?_cons_zero, List.getElem?_cons_succ] at r0 r1 r2
  have hsz := HUL.out
  refine bodyPost_ret (v := .tuple #[cev k5 a5 d5.length m5 a6 b5.length m6, .int .i64 0]) (by simp [results, Tryz.results32, go_sem, r0, r1, r2]) rfl ?_
  refine ⟨⟨⟨k5, d5, b5⟩, a5, m5, a6, m6⟩, rfl, by rw [← HXC.out]; exact HX5.out, Lib.hid ⟨HN5.out.d.chg2 hCe (fun ad e => ?_), HN5.out.b.chg2 hCe (fun ad e => ?_), fun ad e => ?_, fun ad e => ?_⟩, (HC1.out.trans HC5.out).then hCe (fun x hx => .inr (by simp at hx; omega))⟩
  · have := HN5.out.da ad e; simp; omega
  · have := HN5.out.ba ad e; simp; omega
  · have := HN5.out.da ad e; omega
  · have := HN5.out.ba ad e; omega
set_option maxHeartbeats 1000000 in
theorem Read_tr (w : World) {u : Nat} {l : List Nat} {q p g b n : Nat} {X : TS} {sq sp sb : Nat} {v : Value} {C : List Nat} {S : PS} (P : Pgs w u l q p g b n X sq sp sb v C S) (a : Nat) (ha : a < 1048576) (ht : S.tr a = true) :
    Calls Tryz.prog 32 #[.pointer (some ⟨u, 0, none⟩), .int .u64 (a : Int)] w fun e w' => e = .returned (.tuple #[cev 0 none 0 0 none 0 0, .int .i64 83]) ∧ Chg [] w w' := by
  obtain ⟨w1, HW1⟩ : ∃ W, Hid (w.alloc (.cells #[.int .i64 0, .slice none 0 0, .slice none 0 0] 42) = W) := ⟨_, Lib.hid rfl⟩
  have hC1 : Chg [] w w1 := by rw [← HW1.out]; exact (Chg.refl [] w).alloc _
  have hob : Own w1 w.heap.size 42 [.int .i64 0, .slice none 0 0, .slice none 0 0] := by rw [← HW1.out]; exact Own.new w _ _
  have HTR : Hid (∀ W, Chg [] w W → Calls Tryz.prog 67 #[.pointer (some ⟨sq, 0, none⟩), .int .u64 (a : Int)] W fun e w' => e = .returned (.bool true) ∧ Chg [] W w') := Lib.hid (fun W hW => by
    have h9 := isTrimmed_any W (P.sta.kept hW) a (by omega)
    rwa [ht] at h9)
  obtain ⟨u0, u1⟩ := (P.own.chg hC1 (by simp)).two
  have e1 : decide ((1048576 : Int) ≤ (a : Int)) = false := decide_eq_false (by omega)
  have HO := Lib.hid hob
  have HC1 := Lib.hid hC1
  have HB : Hid (∀ W, Chg [] w1 W → W.cell? ⟨u, 1, none⟩ = some (.pointer (some ⟨sq, 0, none⟩)) ∧ W.cell? ⟨w.heap.size, 0, none⟩ = some (.int .i64 0) ∧ W.cell? ⟨w.heap.size, 1, none⟩ = some (.slice none 0 0) ∧ W.cell? ⟨w.heap.size, 2, none⟩ = some (.slice none 0 0) ∧ W.frozen? ⟨w.heap.size, 0, none⟩ = false ∧ W.frozen? ⟨w.heap.size, 1, none⟩ = false ∧ W.frozen? ⟨w.heap.size, 2, none⟩ = false) := Lib.hid (fun W hW => by
    have h9 := hob.chg hW (by simp)
    exact ⟨hW.cell u1 (by simp), by rw [h9.cell]; rfl, by rw [h9.cell]; rfl, by rw [h9.cell]; rfl, h9.frozen _, h9.frozen _, h9.frozen _⟩)
  clear P ht hC1 hob 
  go_enter Tryz.func32, Tryz.ntmps32
  go_upto_region 1 with fail
  simp only [HW1.out]
  go_wp2_with (first
    | (go_at_call 67; refine (HTR.out _ HC1.out).mono ?_; rintro e w3 ⟨rfl, hc3⟩
       obtain ⟨y1, y2, y3, y4, y5, y6, y7⟩ := HB.out _ hc3
       have HC3 := Lib.hid hc3
       clear hc3)
    | fail)
  have hE2 := (((HO.out.chg HC3.out (by simp)).set 0 (.int .i64 0)).set 1 (.slice none 0 0)).set 2 (.slice none 0 0)
  simp only [List.set_cons_zero, List.set_cons_succ] at hE2
  have r0 := hE2.cell 0
  have r1 := hE2.cell 1
  have r2 := hE2.cell 2
  simp only [List.getElem?_cons_zero, List.getElem?_cons_succ] at r0 r1 r2
  refine bodyPost_ret (v := .tuple #[cev 0 none 0 0 none 0 0, .int .i64 83]) (by simp [results, Tryz.results32, go_sem, r0, r1, r2]) rfl ⟨rfl, ?_⟩
  exact (((HC1.out.trans HC3.out).setCell (.inr (Nat.le_refl _)) _).setCell (.inr (Nat.le_refl _)) _).setCell (.inr (Nat.le_refl _)) _
set_option maxHeartbeats 1000000 in
theorem Read_un (w : World) {u : Nat} {l : List Nat} {q p g b n : Nat} {X : TS} {sq sp sb : Nat} {v : Value} {C : List Nat} {S : PS} (P : Pgs w u l q p g b n X sq sp sb v C S) (a : Nat) (ha : a < 1048576) (ht : S.tr a = false) (hm : S.m a = none) :
    Calls Tryz.prog 32 #[.pointer (some ⟨u, 0, none⟩), .int .u64 (a : Int)] w fun e w' => e = .returned (.tuple #[cev 0 none 0 0 none 0 0, .int .i64 82]) ∧ Chg [] w w' := by
  obtain ⟨w1, HW1⟩ : ∃ W, Hid (w.alloc (.cells #[.int .i64 0, .slice none 0 0, .slice none 0 0] 42) = W) := ⟨_, Lib.hid rfl⟩
  have hC1 : Chg [] w w1 := by rw [← HW1.out]; exact (Chg.refl [] w).alloc _
  have hob : Own w1 w.heap.size 42 [.int .i64 0, .slice none 0 0, .slice none 0 0] := by rw [← HW1.out]; exact Own.new w _ _
  have HTR : Hid (∀ W, Chg [] w W → Calls Tryz.prog 67 #[.pointer (some ⟨sq, 0, none⟩), .int .u64 (a : Int)] W fun e w' => e = .returned (.bool false) ∧ Chg [] W w') := Lib.hid (fun W hW => by
    have h9 := isTrimmed_any W (P.sta.kept hW) a (by omega)
    rwa [ht] at h9)
  have HWR : Hid (∀ W, Chg [] w W → Calls Tryz.prog 68 #[.pointer (some ⟨sq, 0, none⟩), .int .u64 (a : Int)] W fun e w' => e = .returned (.bool false) ∧ Chg [] W w') := Lib.hid (fun W hW => by
    have h9 := isWritten_any W (P.sta.kept hW) a (by omega)
    rwa [hm] at h9)
  obtain ⟨u0, u1⟩ := (P.own.chg hC1 (by simp)).two
  have e1 : decide ((1048576 : Int) ≤ (a : Int)) = false := decide_eq_false (by omega)
  have HO := Lib.hid hob
  have HC1 := Lib.hid hC1
  have HB : Hid (∀ W, Chg [] w1 W → W.cell? ⟨u, 1, none⟩ = some (.pointer (some ⟨sq, 0, none⟩)) ∧ W.cell? ⟨w.heap.size, 0, none⟩ = some (.int .i64 0) ∧ W.cell? ⟨w.heap.size, 1, none⟩ = some (.slice none 0 0) ∧ W.cell? ⟨w.heap.size, 2, none⟩ = some (.slice none 0 0) ∧ W.frozen? ⟨w.heap.size, 0, none⟩ = false ∧ W.frozen? ⟨w.heap.size, 1, none⟩ = false ∧ W.frozen? ⟨w.heap.size, 2, none⟩ = false) := Lib.hid (fun W hW => by
    have h9 := hob.chg hW (by simp)
    exact ⟨hW.cell u1 (by simp), by rw [h9.cell]; rfl, by rw [h9.cell]; rfl, by rw [h9.cell]; rfl, h9.frozen _, h9.frozen _, h9.frozen _⟩)
  clear P ht hC1 hob hm
  go_enter Tryz.func32, Tryz.ntmps32
  go_upto_region 1 with fail
  simp only [HW1.out]
  go_wp2_with (first
    | (go_at_call 67; refine (HTR.out _ HC1.out).mono ?_; rintro e w3 ⟨rfl, hc3⟩
       obtain ⟨y1, y2, y3, y4, y5, y6, y7⟩ := HB.out _ hc3
       have HC3 := Lib.hid hc3
       clear hc3)
    | (go_at_call 68; refine (HWR.out _ (HC1.out.trans HC3.out)).mono ?_; rintro e w4 ⟨rfl, hc4⟩
       obtain ⟨z1, z2, z3, z4, z5, z6, z7⟩ := HB.out _ (HC3.out.trans hc4)
       have HC4 := Lib.hid (HC3.out.trans hc4)
       clear hc4)
    | fail)
  have hE2 := (((HO.out.chg HC4.out (by simp)).set 0 (.int .i64 0)).set 1 (.slice none 0 0)).set 2 (.slice none 0 0)
  simp only [List.set_cons_zero, List.set_cons_succ] at hE2
  have r0 := hE2.cell 0
  have r1 := hE2.cell 1
  have r2 := hE2.cell 2
  simp only [List.getElem?_cons_zero, List.getElem?_cons_succ] at r0 r1 r2
  refine bodyPost_ret (v := .tuple #[cev 0 none 0 0 none 0 0, .int .i64 82]) (by simp [results, Tryz.results32, go_sem, r0, r1, r2]) rfl ⟨rfl, ?_⟩
  exact (((HC1.out.trans HC4.out).setCell (.inr (Nat.le_refl _)) _).setCell (.inr (Nat.le_refl _)) _).setCell (.inr (Nat.le_refl _)) _
theorem Tail_any (w : World) {u : Nat} {l : List Nat} {q p g b n : Nat} {X : TS} {sq sp sb : Nat} {v : Value} {C : List Nat} {S : PS} (P : Pgs w u l q p g b n X sq sp sb v C S) :
    Calls Tryz.prog 30 #[.pointer (some ⟨u, 0, none⟩)] w fun e w' => ∃ t : Nat, e = .returned (.int .u64 (t : Int)) ∧ IsTail S t ∧ Chg [] w w' := by
  have HT := Lib.hid (tail_any w P.sta)
  obtain ⟨u0, u1⟩ := P.own.two
  clear P
  go_enter Tryz.func30, Tryz.ntmps30
  go_wp2_with (first
    | (go_at_call 71; refine HT.out.mono ?_; rintro e w2 ⟨t, rfl, ht, hc2⟩)
    | fail)
  go_ret
  exact ⟨t, rfl, ht, hc2⟩
end Go.Proofs.YtmpajlpemabniaaGreat
namespace Go.Proofs.YtmpajlpemabniaaGreat
open Go.RowKit Go.Maps Go.Shelf Go.Deep
set_option linter.unusedVariables false
set_option linter.unusedSimpArgs false

theorem Mark_any (w : World) {u : Nat} {l : List Nat} {q p g b n : Nat} {X : TS} {sq sp sb : Nat} {v : Value} {C : List Nat} {S : PS} (P : Pgs w u l q p g b n X sq sp sb v C S) : Calls Tryz.prog 29 #[.pointer (some ⟨u, 0, none⟩)] w fun e w' => e = .returned (.int .u64 (S.mr : Int)) ∧ w' = w := by
  obtain ⟨u0, u1⟩ := P.own.two
  obtain ⟨h0, h1, h2, h3, h4⟩ := P.sta.cells
  clear P
  go_enter Tryz.func29, Tryz.ntmps29
  go_wp2_with fail
  go_ret
  exact ⟨rfl, rfl⟩
theorem Written_any (w : World) {u : Nat} {l : List Nat} {q p g b n : Nat} {X : TS} {sq sp sb : Nat} {v : Value} {C : List Nat} {S : PS} (P : Pgs w u l q p g b n X sq sp sb v C S) : Calls Tryz.prog 34 #[.pointer (some ⟨u, 0, none⟩)] w fun e w' => ∃ v, e = .returned v ∧ Lst w' w.heap.size 37 v (u64s (addrs S.m)) ∧ Chg [] w w' := by
  obtain ⟨u0, u1⟩ := P.own.two
  have HT := Lib.hid (written_any w P.sta)
  clear P
  go_enter Tryz.func34, Tryz.ntmps34
  go_wp2_with (first
    | (go_at_call 74; refine HT.out.mono ?_; rintro e w2 ⟨t, rfl, ht, hc2⟩)
    | fail)
  go_ret
  exact ⟨t, rfl, ht, hc2⟩
theorem Trimmed_any (w : World) {u : Nat} {l : List Nat} {q p g b n : Nat} {X : TS} {sq sp sb : Nat} {v : Value} {C : List Nat} {S : PS} (P : Pgs w u l q p g b n X sq sp sb v C S) : Calls Tryz.prog 35 #[.pointer (some ⟨u, 0, none⟩)] w fun e w' => ∃ v, e = .returned v ∧ Lr w' w.heap.size 86 v S.T ∧ Chg [] w w' := by
  obtain ⟨u0, u1⟩ := P.own.two
  obtain ⟨h0, h1, h2, h3, h4⟩ := P.sta.cells
  have HT := Lib.hid (Runs_some w sp v S.T P.sta.set)
  clear P
  go_enter Tryz.func35, Tryz.ntmps35
  go_wp2_with (first
    | (go_at_call 75; refine HT.out.mono ?_; rintro e w2 ⟨t, rfl, ht, hb2⟩)
    | fail)
  go_ret
  exact ⟨t, rfl, ht, low_chg hb2⟩
end Go.Proofs.YtmpajlpemabniaaGreat
namespace Go.Proofs.YtmpajlpemabniaaGreat
open Go.RowKit Go.Maps Go.Shelf Go.Deep
set_option linter.unusedVariables false
set_option linter.unusedSimpArgs false

theorem Pgs.fresh {w w2 w3 w5 : World} {l : List Nat} {q p g b n : Nat} {X : TS} {sq sp sb : Nat} {v : Value} {S : PS} (hc2 : Chg [] w w2) (ht : TD w2 l q p g b n X) (hl : ∀ x ∈ l, w.heap.size ≤ x) (hpg : p < w.heap.size ∧ g < w.heap.size ∧ b < w.heap.size)
    (hc3 : Chg [] w2 w3) (hs : Sta w3 sq sp v sb [] S) (hn : ∀ x ∈ sq :: sp :: sb :: rowOf v, w2.heap.size ≤ x) (hc5 : Chg [] (w3.alloc (.cells #[.pointer (some ⟨q, 0, none⟩), .pointer (some ⟨sq, 0, none⟩)] 95)) w5) :
    Pgs w5 w3.heap.size l q p g b n X sq sp sb v [] S ∧ (∀ x ∈ w3.heap.size :: l ++ stB sq sp sb v, w.heap.size ≤ x) ∧ Chg [] w w5 := by
  have hc4 : Chg [] w3 (w3.alloc (.cells #[.pointer (some ⟨q, 0, none⟩), .pointer (some ⟨sq, 0, none⟩)] 95)) := (Chg.refl [] w3).alloc _
  have h2 := hc2.size
  have h3 := hc3.size
  have hsl := hs.lt
  have hlt := ht.lt
  refine ⟨⟨(Own.new w3 95 [.pointer (some ⟨q, 0, none⟩), .pointer (some ⟨sq, 0, none⟩)]).chg hc5 (by simp), ht.kept ((hc3.trans hc4).trans hc5), hs.kept (hc4.trans hc5), fun hx => ?_, fun hx => Nat.lt_irrefl _ (hsl _ hx), fun x hx => ⟨fun hy => ?_, ?_⟩, fun x hx => by cases hx⟩, fun x hx => ?_, ((hc2.trans hc3).trans hc4).trans hc5⟩
  · rcases List.mem_append.1 hx with hx | hx
    · have := hlt _ hx; omega
    · simp at hx; omega
  · have h5 := hn x hx
    rcases List.mem_append.1 hy with hy | hy
    · have := hlt _ hy; omega
    · simp at hy; omega
  · have h5 := hn x hx; omega
  · rcases List.mem_append.1 hx with hx | hx
    · rcases List.mem_cons.1 hx with rfl | hx
      · omega
      · exact hl x hx
    · have := hn x hx; omega
set_option maxHeartbeats 1000000 in
theorem POpen_fresh (w : World) {p g b n : Nat} {F : Nat → Sec} {h : Nat} (hd : Dsk w p g b n F (fun _ => none)) (hn : 3 ≤ n) (o : Opens n F h []) :
    Calls Tryz.prog 12 #[.pointer (some ⟨p, 0, none⟩)] w fun e w' => ∃ u l q sq sp sb v, e = .returned (.tuple #[.pointer (some ⟨u, 0, none⟩), .int .i64 0]) ∧ Hid (Pgs w' u l q p g b n (calm F (fun _ => none) h []) sq sp sb v [] PS.zero) ∧ Hid (∀ x ∈ u :: l ++ stB sq sp sb v, w.heap.size ≤ x) ∧ Chg [] w w' := by
  have hnn : now F (fun _ => none) = F := rfl
  have HO := Lib.hid (open_at w hd hn (h := h) (L := []) (by rw [hnn]; exact o))
  have HD := Lib.hid hd
  clear hd o hnn
  go_enter Tryz.func12, Tryz.ntmps12
  go_wp2_with (first
    | (go_at_call 37; refine HO.out.mono ?_; rintro e w2 ⟨q, l, rfl, ht, hl, hc2⟩
       have HC2 := Lib.hid hc2; clear hc2)
    | (go_at_call 38; refine (newState_any _).mono ?_; rintro e w3 ⟨sq, sp, v, sb, rfl, hs3, hl3, hc3⟩
       have HS3 := Lib.hid hs3; have HL3 := Lib.hid hl3; have HC3 := Lib.hid hc3; clear hs3 hl3 hc3
       have HLEN := Lib.hid (len_TD (ht.out.kept (HC3.out.alloc (.cells #[.pointer (some ⟨q, 0, none⟩), .pointer (some ⟨sq, 0, none⟩)] 95))))
       simp only [calm, List.length_nil] at HLEN)
    | (go_at_call 39; refine HLEN.out.mono ?_; rintro e w5 ⟨rfl, hc5⟩)
    | fail)
  refine wp_loop_rounds 1 ?_
  rw [rounds_succ]
  go_wp2_with fail
  go_ret2
  obtain ⟨r1, r2, r3⟩ := Pgs.fresh HC2.out ht.out hl.out ⟨HD.out.ltp, HD.out.ltg, HD.out.ltb⟩ HC3.out HS3.out HL3.out hc5
  exact ⟨_, l, q, sq, sp, sb, v, rfl, Lib.hid r1, Lib.hid r2, r3⟩
end Go.Proofs.YtmpajlpemabniaaGreat
namespace Go.Proofs.YtmpajlpemabniaaGreat
open Go.RowKit Go.Maps Go.Shelf Go.Deep
set_option linter.unusedVariables false
set_option linter.unusedSimpArgs false

theorem Pgs.kept {w w' : World} {u : Nat} {l : List Nat} {q p g b n : Nat} {X : TS} {sq sp sb : Nat} {v : Value} {C : List Nat} {S : PS} (P : Pgs w u l q p g b n X sq sp sb v C S) (hc : Chg [] w w') : Pgs w' u l q p g b n X sq sp sb v C S :=
  ⟨P.own.chg hc (by simp), P.td.kept hc, P.sta.kept hc, P.ul, P.us, P.sl, P.cl⟩
theorem Pgs.wide {w W : World} {u : Nat} {l : List Nat} {q p g b n : Nat} {X : TS} {sq sp sb : Nat} {v : Value} {C : List Nat} {S : PS} (P : Pgs w u l q p g b n X sq sp sb v C S) (hc : Chg [] w W) {A : CeT} (hA : NewC w W A) : Pgs W u l q p g b n X sq sp sb v (C ++ A.blocks) S := by
  have hd := P.td.dlt
  refine ⟨P.own.chg hc (by simp), P.td.kept hc, (P.sta.kept hc).mono (fun x hx => List.mem_append_left _ hx) (fun x hx => ?_), P.ul, P.us, P.sl, fun x hx => ?_⟩
  · rcases List.mem_append.1 hx with hx | hx
    · exact ⟨Nat.lt_of_lt_of_le (P.sta.ap x hx).1 hc.size, (P.sta.ap x hx).2⟩
    · have h1 := hA.new x hx
      refine ⟨h1.2, fun h2 => ?_⟩
      have := P.sta.lt x h2
      omega
  · rcases List.mem_append.1 hx with hx | hx
    · exact P.cl x hx
    · have h1 := hA.new x hx
      intro h2
      rcases List.mem_append.1 h2 with h2 | h2
      · have := P.td.lt x h2; omega
      · simp at h2; omega
def Pgc (w : World) (u : Nat) (l : List Nat) (q p g b n : Nat) (sq sp sb : Nat) (v : Value) (X : TS) (S : PS) (w' : World) : Prop :=
  ∃ l' v' C', Pgs w' u l' q p g b n X sq sp sb v' C' S ∧ (∀ x ∈ l', x ∈ l ∨ w.heap.size ≤ x) ∧ Nb w v v' ∧ Chg (l ++ [g, b] ++ stB sq sp sb v) w w'
theorem Write_room (w : World) {u : Nat} {l : List Nat} {q p g b n : Nat} {F : Nat → Sec} {h : Nat} {L : List Rec} {sq sp sb : Nat} {v : Value} {C : List Nat} {S : PS} (P : Pgs w u l q p g b n (calm F (fun _ => none) h L) sq sp sb v C S) (a : Nat) (A : CeT) (ha : a < 1048576)
    (h1 : Ro w w.heap.size A.a (u8s A.x.d)) (h2 : Ro w w.heap.size A.a2 (bcs A.x.b)) (hr : right A.x = true) (ht : S.tr a = false) (hm : S.m a = none) (hl : S.T.length ≤ 999999) (hfit : (frs L).length + 2 + (encR ⟨2, a, 0, A.x⟩).length ≤ hsec n * 64) :
    Calls Tryz.prog 23 #[.pointer (some ⟨u, 0, none⟩), .int .u64 (a : Int), A.val] w fun e w' => e = .returned (.int .i64 0) ∧ Hid (Pgc w u l q p g b n sq sp sb v (calm (cmF n F h h L (L ++ [encR ⟨2, a, 0, A.x⟩])) (fun _ => none) h (L ++ [encR ⟨2, a, 0, A.x⟩])) (exec S ⟨2, a, 0, A.x⟩) w') := by
  have hok : okN ⟨2, a, 0, A.x⟩ := ⟨by simp, by simp, by simpa using ha, by simp, by simp, fun _ => hr, by simp⟩
  have hal : allow S ⟨2, a, 0, A.x⟩ = true := by simp [allow, ht, hm]
  refine Write_go w P a A ha h1 h2 hr ht hm 0 _ (fun W A' hW hx hN => ?_)
  have hP := P.wide hW hN
  have hC : CellV W (C ++ A'.blocks) A' := hN.cellV.mono (fun x hx => List.mem_append_right _ hx)
  have hch := change_room W hP ⟨2, a, 0, A.x⟩ A' (fun _ => ⟨hx, hC⟩) hok hal hl hfit
  refine Calls.mono (R' := _) hch ?_
  rintro e w' ⟨he, l', v', hp, hl', hn, hc⟩
  exact ⟨he, Lib.hid ⟨l', v', _, hp.out, fun x hx => (hl' x hx).imp id (fun h9 => Nat.le_trans hW.size h9), hn.mono hW.size, (hW.mono (by simp)).trans hc⟩⟩
theorem TrimOne_room (w : World) {u : Nat} {l : List Nat} {q p g b n : Nat} {F : Nat → Sec} {h : Nat} {L : List Rec} {sq sp sb : Nat} {v : Value} {C : List Nat} {S : PS} (P : Pgs w u l q p g b n (calm F (fun _ => none) h L) sq sp sb v C S) (a : Nat) (ha : a < 1048576)
    (ht : S.tr a = false) (hl : S.T.length ≤ 999999) (hfit : (frs L).length + 2 + (encR ⟨4, a, a + 1, zCe⟩).length ≤ hsec n * 64) :
    Calls Tryz.prog 25 #[.pointer (some ⟨u, 0, none⟩), .int .u64 (a : Int)] w fun e w' => e = .returned (.int .i64 0) ∧ Hid (Pgc w u l q p g b n sq sp sb v (calm (cmF n F h h L (L ++ [encR ⟨4, a, a + 1, zCe⟩])) (fun _ => none) h (L ++ [encR ⟨4, a, a + 1, zCe⟩])) (exec S ⟨4, a, a + 1, zCe⟩) w') := by
  have hok : okN ⟨4, a, a + 1, zCe⟩ := ⟨by simp, by simp, by simp; omega, by simp; omega, by simp, by simp, by simp⟩
  have hal : allow S ⟨4, a, a + 1, zCe⟩ = true := by simp [allow]; omega
  refine TrimOne_go w P a ha ht 0 _ (fun W hW => ?_)
  have hP := P.kept hW
  have hch := change_room W hP ⟨4, a, a + 1, zCe⟩ zA (fun e => by simp at e) hok hal hl hfit
  refine Calls.mono (R' := _) hch ?_
  rintro e w' ⟨he, l', v', hp, hl', hn, hc⟩
  exact ⟨he, Lib.hid ⟨l', v', _, hp.out, fun x hx => (hl' x hx).imp id (fun h9 => Nat.le_trans hW.size h9), hn.mono hW.size, (hW.mono (by simp)).trans hc⟩⟩
end Go.Proofs.YtmpajlpemabniaaGreat
namespace Go.Proofs.YtmpajlpemabniaaGreat
open Go.RowKit Go.Maps Go.Shelf Go.Deep
set_option linter.unusedVariables false
set_option linter.unusedSimpArgs false

def jC : Ce := ⟨2, [], []⟩
def dC : Ce := ⟨1, [], []⟩
def jA : CeT := ⟨jC, none, 0, none, 0⟩
def dA : CeT := ⟨dC, none, 0, none, 0⟩
def aS1 : PS := exec PS.zero ⟨2, 5, 0, jC⟩
def aS2 : PS := exec aS1 ⟨4, 7, 7 + 1, zCe⟩
theorem jright : right jC = true := by decide
theorem dright : right dC = true := by decide
theorem aS1_tr (a : Nat) : aS1.tr a = false := by
  unfold PS.tr aS1 exec PS.zero
  simp [mem]
theorem aS1_m : aS1.m 5 = some jC := by simp [aS1, exec, updC]
theorem aS2_m : aS2.m 5 = some jC := by simp [aS2, exec, rmC, aS1_m]
theorem aS2_tr : aS2.tr 7 = true := by
  have h : aS2.T = [(7, 8)] := by decide
  unfold PS.tr
  rw [h]
  simp [mem, inR]
theorem aS2_tail : IsTail aS2 8 := by
  have h : aS2.T = [(7, 8)] := by decide
  have hm : aS2.mr = 0 := by decide
  refine ⟨by rw [hm]; omega, fun r hr => ?_, fun a ha => ?_, .inr (.inl ⟨(7, 8), by rw [h]; simp, rfl⟩)⟩
  · rw [h] at hr; simp at hr; subst hr; exact Nat.le_refl _
  · have h2 := (mem_addrs.1 ha).2
    have h3 : a = 5 := by
      by_cases e : a = 5
      · exact e
      · simp [aS2, exec, rmC, aS1, updC, PS.zero, e] at h2
    omega
theorem aL1 : (encR ⟨2, 5, 0, jC⟩).length = 4 := by
  rw [encR_len]
  simp [encC, jC]
theorem aL2 : (encR ⟨4, 7, 7 + 1, zCe⟩).length = 6 := by
  rw [encR_len]
  simp
theorem frs_one8 (r : Rec) : (frs [r]).length = r.length + 2 := by
  show (frame r ++ frs []).length = _
  rw [List.length_append, frame_len]
  show 2 + r.length + 0 = _
  omega
theorem pnew_ex (w : World) (n : Nat) (h1 : 1 ≤ n) (h2 : n ≤ 1024) :
    Calls Tryz.prog 10 #[.int .i64 n] w fun e w' => ∃ p g b, e = .returned (.tuple #[.pointer (some ⟨p, 0, none⟩), .int .i64 0]) ∧ w.heap.size ≤ p ∧ w.heap.size ≤ g ∧ w.heap.size ≤ b ∧ Dsk w' p g b n (fun _ => zsec) (fun _ => none) ∧ Chg [] w w' :=
  (new_ok w n h1 h2).mono fun e w' ⟨he, hd, hc⟩ => ⟨_, _, _, he, by omega, by omega, by omega, hd, hc⟩
theorem Pgc.low {w0 w w' : World} {u : Nat} {l : List Nat} {q p g b n sq sp sb : Nat} {v : Value} {X : TS} {S : PS} (h : Pgc w u l q p g b n sq sp sb v X S w') (hc : Chg [] w0 w) (hn : ∀ x ∈ l ++ [g, b] ++ stB sq sp sb v, w0.heap.size ≤ x) :
    ∃ l' v' C', Pgs w' u l' q p g b n X sq sp sb v' C' S ∧ (∀ x ∈ l' ++ [g, b] ++ stB sq sp sb v', w0.heap.size ≤ x) ∧ Chg [] w0 w' := by
  obtain ⟨l', v', C', h1, h2, h3, h4⟩ := h
  have hsz := hc.size
  refine ⟨l', v', C', h1, fun x hx => ?_, hc.then h4 (fun x hx => .inr (hn x hx))⟩
  simp only [List.mem_append, stB, List.mem_cons, mem_rowOf] at hx hn
  rcases hx with (hx | hx) | hx
  · rcases h2 x hx with h5 | h5
    · exact hn x (.inl (.inl h5))
    · omega
  · exact hn x (.inl (.inr hx))
  · rcases hx with e | e | e | e
    · exact hn x (.inr (.inl e))
    · exact hn x (.inr (.inr (.inl e)))
    · exact hn x (.inr (.inr (.inr (.inl e))))
    · rcases h3 with h5 | h5
      · exact hn x (.inr (.inr (.inr (.inr (h5 ▸ e)))))
      · have := h5 x e; omega
theorem aw1 (w : World) {u : Nat} {l : List Nat} {q p g b sq sp sb : Nat} {v : Value} {C : List Nat} (P : Pgs w u l q p g b 9 (calm (fun _ => zsec) (fun _ => none) 0 []) sq sp sb v C PS.zero) :
    Calls Tryz.prog 23 #[.pointer (some ⟨u, 0, none⟩), .int .u64 5, .agg #[.int .i64 2, .slice none 0 0, .slice none 0 0]] w fun e w' => ∃ F L, e = .returned (.int .i64 0) ∧ Hid (Pgc w u l q p g b 9 sq sp sb v (calm F (fun _ => none) 0 L) aS1 w') ∧ Hid ((frs L).length = 6) := by
  have h := Write_room w P 5 jA (by omega) (Ro.nil _ _ _) (Ro.nil _ _ _) jright (by simp [PS.zero, PS.tr, mem]) rfl (by simp [PS.zero]) (by show (frs []).length + 2 + (encR ⟨2, 5, 0, jC⟩).length ≤ _; rw [aL1]; decide)
  refine Calls.mono (R' := _) h ?_
  rintro e w' ⟨h1, h2⟩
  exact ⟨_, _, h1, h2, Lib.hid (by rw [List.nil_append, frs_one8]; show (encR ⟨2, 5, 0, jC⟩).length + 2 = 6; rw [aL1])⟩
theorem aw2 (w : World) {u : Nat} {l : List Nat} {q p g b sq sp sb : Nat} {v : Value} {C : List Nat} {X : TS} (P : Pgs w u l q p g b 9 X sq sp sb v C aS1) :
    Calls Tryz.prog 23 #[.pointer (some ⟨u, 0, none⟩), .int .u64 5, .agg #[.int .i64 1, .slice none 0 0, .slice none 0 0]] w fun e w' => e = .returned (.int .i64 81) ∧ Chg [] w w' :=
  Write_wr w P 5 dA (by omega) (Ro.nil _ _ _) (Ro.nil _ _ _) dright (aS1_tr 5) (by rw [aS1_m]; rfl)
theorem aS1_T : aS1.T.length ≤ 999999 := by
  have h : aS1.T = [] := rfl
  rw [h]; simp
theorem at7 (w : World) {u : Nat} {l : List Nat} {q p g b sq sp sb : Nat} {v : Value} {C : List Nat} {F : Nat → Sec} {L : List Rec} (P : Pgs w u l q p g b 9 (calm F (fun _ => none) 0 L) sq sp sb v C aS1) (hL : (frs L).length = 6) :
    Calls Tryz.prog 25 #[.pointer (some ⟨u, 0, none⟩), .int .u64 7] w fun e w' => ∃ X, e = .returned (.int .i64 0) ∧ Hid (Pgc w u l q p g b 9 sq sp sb v X aS2 w') := by
  have hf : (frs L).length + 2 + (encR ⟨4, 7, 7 + 1, zCe⟩).length ≤ hsec 9 * 64 := by rw [hL, aL2]; decide
  have h := TrimOne_room w P 7 (by omega) (aS1_tr 7) aS1_T hf
  refine Calls.mono (R' := _) h ?_
  rintro e w' ⟨h1, h2⟩
  exact ⟨_, h1, h2⟩
theorem ar5 (w : World) {u : Nat} {l : List Nat} {q p g b sq sp sb : Nat} {v : Value} {C : List Nat} {X : TS} (P : Pgs w u l q p g b 9 X sq sp sb v C aS2) :
    Calls Tryz.prog 32 #[.pointer (some ⟨u, 0, none⟩), .int .u64 5] w fun e w' => ∃ a n c a' n' c', e = .returned (.tuple #[cev 2 a n c a' n' c', .int .i64 0]) ∧ Chg [] w w' := by
  refine Calls.mono (R' := _) (Read_ok w P 5 jC aS2_m) ?_
  rintro e w' ⟨⟨⟨k6, d6, b6⟩, a6, c6, aa6, cc6⟩, h1, hx6, _, hc6⟩
  have hk6 : k6 = 2 := congrArg Ce.k hx6
  subst hk6
  exact ⟨_, _, _, _, _, _, h1, hc6⟩
theorem ar7 (w : World) {u : Nat} {l : List Nat} {q p g b sq sp sb : Nat} {v : Value} {C : List Nat} {X : TS} (P : Pgs w u l q p g b 9 X sq sp sb v C aS2) :
    Calls Tryz.prog 32 #[.pointer (some ⟨u, 0, none⟩), .int .u64 7] w fun e w' => e = .returned (.tuple #[cev 0 none 0 0 none 0 0, .int .i64 83]) ∧ Chg [] w w' :=
  Read_tr w P 7 (by omega) aS2_tr
theorem at8 (w : World) {u : Nat} {l : List Nat} {q p g b sq sp sb : Nat} {v : Value} {C : List Nat} {X : TS} (P : Pgs w u l q p g b 9 X sq sp sb v C aS2) :
    Calls Tryz.prog 30 #[.pointer (some ⟨u, 0, none⟩)] w fun e w' => e = .returned (.int .u64 8) ∧ Chg [] w w' := by
  refine Calls.mono (R' := _) (Tail_any w P) ?_
  rintro e w' ⟨t, h1, ht, hc⟩
  obtain rfl := ht.uniq aS2_tail
  exact ⟨h1, hc⟩
set_option maxHeartbeats 2000000 in
set_option maxRecDepth 100000 in
theorem alive8_any (w : World) : Calls Tryz.prog 9 #[] w fun e w' => e = .returned (.bool true) ∧ Chg [] w w' := by
  have H0 := Lib.hid (pnew_ex w 9 (by omega) (by omega))
  go_enter Tryz.func9, Tryz.ntmps9
  go_wp2_with fail
  refine H0.out.mono ?_
  rintro e w1 ⟨p, g, b, rfl, hp, hg, hb, hd1, hc1⟩
  have HC1 := Lib.hid hc1
  have HO := Lib.hid (POpen_fresh w1 hd1 (by omega) (opens_zero 9))
  have HB := Lib.hid (And.intro hg hb)
  clear hd1 hc1 hp hg hb
  go_wp2_with fail
  refine HO.out.mono ?_
  rintro e w2 ⟨u, l, q, sq, sp, sb, v, rfl, hP2, hl2, hc2⟩
  have HC2 := Lib.hid (HC1.out.trans hc2)
  have HL2 : Hid (∀ x ∈ l ++ [g, b] ++ stB sq sp sb v, w.heap.size ≤ x) := Lib.hid (fun x hx => by
    have h1 := HC1.out.size
    have h2 := HB.out
    have h3 := hl2.out x
    simp only [List.mem_append, List.mem_cons, List.not_mem_nil, or_false] at hx h3
    rcases hx with (hx | hx | hx) | hx
    · exact Nat.le_trans h1 (h3 (.inl (.inr hx)))
    · omega
    · omega
    · exact Nat.le_trans h1 (h3 (.inr hx)))
  have HW1 := Lib.hid (aw1 w2 hP2.out)
  clear hc2 hl2
  go_wp2_with fail
  refine HW1.out.mono ?_
  rintro e w3 ⟨F3, L3', rfl, hp3, hf3⟩
  obtain ⟨l3, v3, C3, hP3, hL3, hc3⟩ := hp3.out.low HC2.out HL2.out
  have HP3 := Lib.hid hP3; have HL3 := Lib.hid hL3; have HC3 := Lib.hid hc3
  clear hp3 hP3 hL3 hc3
  have HW2 := Lib.hid (aw2 w3 HP3.out)
  go_wp2_with fail
  refine HW2.out.mono ?_
  rintro e w4 ⟨rfl, hc4⟩
  have HP4 := Lib.hid (HP3.out.kept hc4)
  have HC4 := Lib.hid (HC3.out.trans hc4)
  clear hc4
  have HT := Lib.hid (at7 w4 HP4.out hf3.out)
  go_wp2_with fail
  refine HT.out.mono ?_
  rintro e w5 ⟨X5, rfl, hp5⟩
  obtain ⟨l5, v5, C5, hP5, hL5, hc5⟩ := hp5.out.low HC4.out HL3.out
  have HP5 := Lib.hid hP5; have HC5 := Lib.hid hc5
  clear hp5 hP5 hL5 hc5
  have HR1 := Lib.hid (ar5 w5 HP5.out)
  go_wp2_with fail
  refine HR1.out.mono ?_
  rintro e w6 ⟨a6, n6, c6, aa6, nn6, cc6, rfl, hc6⟩
  have HC6 := Lib.hid (HC5.out.trans hc6)
  have HP6 := Lib.hid (HP5.out.kept hc6)
  have hob := Own.new w6 42 [.int .i64 2, .slice a6 n6 c6, .slice aa6 nn6 cc6]
  have HOB := Lib.hid hob
  have HR2 := Lib.hid (fun o => ar7 (w6.alloc o) (HP6.out.kept ((Chg.refl [] w6).alloc o)))
  clear hc6 hob
  go_wp2_with fail
  refine (HR2.out _).mono ?_
  rintro e w7 ⟨rfl, hc7⟩
  have hk7 : ∀ o, (w7.alloc o).cell? ⟨w6.heap.size, 0, none⟩ = some (.int .i64 2) := fun o => (hc7.alloc o).cell (by exact (HOB.out.cell 0).trans rfl) (by simp)
  have HC7 := Lib.hid ((HC6.out.alloc _).trans hc7)
  have HT8 := Lib.hid (fun o => at8 (w7.alloc o) (HP6.out.kept ((((Chg.refl [] w6).alloc _).trans hc7).alloc o)))
  clear hc7
  go_wp2_with fail
  refine (HT8.out _).mono ?_
  rintro e w8 ⟨rfl, hc8⟩
  go_wp2_with fail
  go_ret
  exact ⟨rfl, (HC7.out.alloc _).trans hc8⟩
end Go.Proofs.YtmpajlpemabniaaGreat
namespace Go.Proofs.YtmpajlpemabniaaGreat
open Go.RowKit Go.Maps Go.Shelf Go.Deep
set_option linter.unusedVariables false
set_option linter.unusedSimpArgs false

structure RT where
  r : Rc
  A : CeT
def RT.cells (x : RT) : List Value := [.int .u64 (x.r.k : Int), .int .u64 (x.r.n : Int), .int .u64 (x.r.t : Int), .int .i64 x.A.x.k, .slice x.A.a x.A.x.d.length x.A.c, .slice x.A.a2 x.A.x.b.length x.A.c2]
def rts : List RT → List Value
  | [] => []
  | x :: L => x.cells ++ rts L
@[simp] theorem rts_length (L : List RT) : (rts L).length = L.length * 6 := by
  induction L with
  | nil => rfl
  | cons r L ih => simp [rts, RT.cells, ih]; omega
theorem rts_append (A B : List RT) : rts (A ++ B) = rts A ++ rts B := by
  induction A with
  | nil => rfl
  | cons r A ih => simp [rts, ih]
theorem rts_one (L : List RT) : ∀ v ∈ rts L, v.oneCell' = true := by
  induction L with
  | nil => intro v hv; cases hv
  | cons r L ih =>
    intro v hv
    simp only [rts, RT.cells, List.cons_append, List.nil_append, List.mem_cons] at hv
    rcases hv with rfl | rfl | rfl | rfl | rfl | rfl | hv
    · rfl
    · rfl
    · rfl
    · rfl
    · rfl
    · rfl
    · exact ih v hv
theorem rts_get : ∀ (L : List RT) (i j : Nat), j < 6 → (rts L)[i * 6 + j]? = L[i]?.bind fun x => x.cells[j]?
  | [], i, j, _ => by simp [rts]
  | r :: L, 0, j, hj => by
    rw [rts, List.getElem?_append_left (by simp [RT.cells]; omega)]
    simp
  | r :: L, i + 1, j, hj => by
    rw [rts, List.getElem?_append_right (by simp [RT.cells]; omega)]
    have := rts_get L i j hj
    rw [show (i + 1) * 6 + j - r.cells.length = i * 6 + j from by simp [RT.cells]; omega]
    simpa using this
def Rl (w : World) (base : Nat) (v : Value) (L : List RT) : Prop := w.ownsRow base 101 6 v L.length (rts L)
theorem Rl.nil (w : World) (base : Nat) : Rl w base (.slice none 0 0) [] := World.ownsRow_nil w base _ 6
theorem Rl.alloc {w : World} {base : Nat} {v : Value} {L : List RT} (h : Rl w base v L) (o : Obj) : Rl (w.alloc o) base v L := World.ownsRow.alloc h o
theorem Rl.lt {w : World} {base : Nat} {v : Value} {L : List RT} (h : Rl w base v L) : ∀ k, v.ownBlock = some k → base ≤ k ∧ k < w.heap.size := World.ownsRow.lt h
theorem Rl.chg {l : List Nat} {w w' : World} {base : Nat} {v : Value} {L : List RT} (h : Rl w base v L) (hc : Chg l w w') (hl : ∀ k, v.ownBlock = some k → k ∉ l) : Rl w' base v L := by
  refine ⟨h.1, ?_⟩
  rcases h.2 with h1 | ⟨g, cap, cur, h2, hb, hh, h4⟩
  · exact .inl h1
  · subst h2
    refine .inr ⟨g, cap, cur, rfl, hb, ?_, h4⟩
    rw [hc.block g (World.ownsRow.lt h g rfl).2 (hl g rfl)]
    exact hh
theorem Rl.kept {w w' : World} {base : Nat} {v : Value} {L : List RT} (h : Rl w base v L) (hc : Chg [] w w') : Rl w' base v L := h.chg hc (by simp)
theorem Rl.base {w : World} {base base' : Nat} {v : Value} {L : List RT} (h : Rl w base v L) (hb : base' ≤ base) : Rl w base' v L := by
  unfold Rl at h ⊢
  obtain ⟨h0, h1⟩ := h
  refine ⟨h0, ?_⟩
  rcases h1 with h1 | ⟨g, cap, cur, h2, h3, h4⟩
  · exact .inl h1
  · exact .inr ⟨g, cap, cur, h2, by omega, h4⟩
theorem Rl.form {w : World} {base : Nat} {v : Value} {L : List RT} (h : Rl w base v L) : ∃ a c, v = .slice a L.length c ∧ Ro w w.heap.size a (rts L) ∧ L.length ≤ c := by
  unfold Rl at h
  rcases h.2 with ⟨rfl, h0⟩ | ⟨g, cap, cur, rfl, hb, hh, hle, hm, hrest⟩
  · have : L = [] := by simpa using h0
    subst this
    exact ⟨none, 0, rfl, .inl rfl, by simp⟩
  · refine ⟨some ⟨g, 0, none⟩, cap, rfl, .inr ⟨g, 0, rfl, ?_, fun i hi => ?_⟩, hle⟩
    · exact (World.ownsRow.lt h g rfl).2
    · have := World.ownsRow.cellAt h i (by rw [rts_length] at hi; exact hi)
      rw [Nat.zero_add, this]
      simp only [List.getD, List.getElem?_eq_getElem hi, Option.getD_some]
theorem Rl.lit (w : World) (base : Nat) (x : RT) (hb : base ≤ w.heap.size) : Rl (w.alloc (.cells x.cells.toArray 101)) base (.slice (some ⟨w.heap.size, 0, none⟩) 1 1) [x] := by
  have := World.ownsRow_lit (base := base) (e := 101) (size := 6) w x.cells.toArray 1 hb (by decide) (by simp [RT.cells])
  unfold Rl
  simpa [rts] using this
theorem Ro.rt {w : World} {B : Nat} {a : Option Addr} {L : List RT} (h : Ro w B a (rts L)) {i : Nat} (hi : i < L.length) :
    ∃ b off, a = some ⟨b, off, none⟩ ∧ b < B ∧ ∀ i (hi : i < L.length) j (hj : j < 6), w.cell? ⟨b, off + (i * 6 + j), none⟩ = some (L[i].cells[j]'(by simpa [RT.cells] using hj)) := by
  obtain ⟨b, off, h1, h2, h3⟩ := h.at_ (by intro e; have e2 := congrArg List.length e; simp at e2; omega)
  refine ⟨b, off, h1, h2, fun i hi j hj => ?_⟩
  rw [h3 (i * 6 + j) (by simp; omega)]
  have := rts_get L i j hj
  rw [List.getElem?_eq_getElem hi] at this
  rw [List.getD_eq_getElem?_getD, this]
  simp only [Option.bind_some]
  rw [List.getElem?_eq_getElem (by simpa [RT.cells] using hj)]
  rfl
theorem Tryz.info_rec : (Tryz.prog.info? 101).map (fun i => (i.zero, i.size, i.bytes)) = some (some (.agg #[.int .u64 0, .int .u64 0, .int .u64 0, .int .i64 0, .slice none 0 0, .slice none 0 0]), 6, 80) := by kernel_rfl
theorem wp_app6 {o : Oper} {a : Act} {w : World} {K : Act → World → Prop} {Q : Exit → Act → World → Prop} (s x : Operand)
    (ho : o.op = .call { callee := .builtin .append, args := #[s, x], argTypes := #[247, 247] })
    (base : Nat) (v : Value) (L : List RT) (hs : a.eval s = v) (hown : Rl w base v L) (g : Nat) (y : RT) (t : TypeId) (hnew : Own w g t y.cells)
    (hx : a.eval x = .slice (some ⟨g, 0, none⟩) 1 1) (hlen : L.length ≤ 2000000) (hbase : base ≤ w.heap.size)
    (h : ∀ v' w', Hid (Rl w' base v' (L ++ [y])) → w.grownBy w' v.ownBlock → K (a.put o.dst v') w') : o.wp Tryz.prog a w K Q := by
  obtain ⟨i, hi, hzz⟩ := Option.map_eq_some_iff.1 Tryz.info_rec
  simp only [Prod.mk.injEq] at hzz
  obtain ⟨hz, hsz, hby⟩ := hzz
  refine wp_append_own w s x 247 ho base 101 i _ 6 80 Tryz.underlying247 hi hz hsz hby rfl (by omega) v L.length (rts L) hs hown ⟨g, 0, none⟩ 1 1 (rts [y]) hx (by simp) (fun j u hu => ?_) (rts_one _) (by unfold maxLen; omega) (by omega) hbase fun v' w' h2 h3 _ => h v' w' ?_ h3
  · rw [add_off, Nat.zero_add, hnew.cell j]
    simpa [rts] using hu
  · show w'.ownsRow base 101 6 v' (L ++ [y]).length (rts (L ++ [y]))
    rw [List.length_append, rts_append]
    exact h2
theorem wpList_app6 {ops : Array Oper} {rest : List Oper} {o : Oper} {a : Act} {w : World} {Q : Exit → Act → World → Prop} (hgd : o.guard = none) (s x : Operand)
    (ho : o.op = .call { callee := .builtin .append, args := #[s, x], argTypes := #[247, 247] })
    (base : Nat) (v : Value) (L : List RT) (hs : a.eval s = v) (hown : Rl w base v L) (g : Nat) (y : RT) (t : TypeId) (hnew : Own w g t y.cells)
    (hx : a.eval x = .slice (some ⟨g, 0, none⟩) 1 1) (hlen : L.length ≤ 2000000) (hbase : base ≤ w.heap.size)
    (h : ∀ v' w', Hid (Rl w' base v' (L ++ [y])) → w.grownBy w' v.ownBlock → wpList Tryz.prog ops Q rest (a.put o.dst v') w') : wpList Tryz.prog ops Q (o :: rest) a w :=
  wpList_plain hgd fun _ hK => wp_app6 s x ho base v L hs hown g y t hnew hx hlen hbase fun v' w' h2 h3 => hK _ _ (h v' w' h2 h3)
def RtsOk (w : World) (C : List Nat) (L : List RT) : Prop := ∀ x ∈ L, okN x.r ∧ (x.r.k = 2 → x.A.x = x.r.c ∧ CellV w C x.A)
theorem RtsOk.kept {w w' : World} {C : List Nat} {L : List RT} (h : RtsOk w C L) (hc : Chg [] w w') : RtsOk w' C L := fun x hx => ⟨(h x hx).1, fun e => ⟨((h x hx).2 e).1, ((h x hx).2 e).2.chg hc (by simp)⟩⟩
theorem RtsOk.append {w : World} {C : List Nat} {A B : List RT} (h : RtsOk w C A) (k : RtsOk w C B) : RtsOk w C (A ++ B) := fun x hx => by
  rcases List.mem_append.1 hx with hx | hx
  · exact h x hx
  · exact k x hx
theorem RtsOk.nil (w : World) (C : List Nat) : RtsOk w C [] := fun x hx => by cases hx
end Go.Proofs.YtmpajlpemabniaaGreat
