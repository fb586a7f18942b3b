/-
  Write: what it asks ahead of its change. No claim of their own.
-/
import Derived.Test.YtmpajlpemabniaaGreatZk34
namespace Go.Proofs.YtmpajlpemabniaaGreat
open Go.RowKit Go.Maps Go.Shelf Go.Deep
set_option linter.unusedVariables false
set_option linter.unusedSimpArgs false

theorem right_lens {x : Ce} (h : right x = true) : x.d.length ≤ 100 ∧ x.b.length ≤ 4 := by
  rcases right_kind h with hk | hk
  · exact ⟨(right_data h hk).1, (right_data h hk).2.1⟩
  · rw [right_junk h hk]; exact ⟨Nat.zero_le _, Nat.zero_le _⟩
set_option maxHeartbeats 1000000 in
theorem Write_go (w : World) {u : Nat} {l : List Nat} {q p g b n : Nat} {X : TS} {sq sp sb : Nat} {v : Value} {C : List Nat} {S : PS} (P : Pgs w u l q p g b n X sq sp sb v C S) (a : Nat) (A : CeT) (ha : a < 1048576)
    (h1 : Ro w w.heap.size A.a (u8s A.x.d)) (h2 : Ro w w.heap.size A.a2 (bcs A.x.b)) (hr : right A.x = true) (ht : S.tr a = false) (hm : S.m a = none) (E : Int) (Q : World → Prop)
    (hch : ∀ W A', Chg [] w W → A'.x = A.x → NewC w W A' → Calls Tryz.prog 69 #[.pointer (some ⟨u, 0, none⟩), rcv 2 a 0 A'] W fun e w' => e = .returned (.int .i64 E) ∧ Q w') :
    Calls Tryz.prog 23 #[.pointer (some ⟨u, 0, none⟩), .int .u64 (a : Int), A.val] w fun e w' => e = .returned (.int .i64 E) ∧ Q w' := by
  obtain ⟨w1, HW1⟩ : ∃ W, Hid (w.alloc (.cells #[.int .i64 A.x.k, .slice A.a A.x.d.length A.c, .slice A.a2 A.x.b.length A.c2] 42) = W) := ⟨_, Lib.hid rfl⟩
  have hC1 : Chg [] w w1 := by rw [← HW1.out]; exact (Chg.refl [] w).alloc _
  have hob : Own w1 w.heap.size 42 [.int .i64 A.x.k, .slice A.a A.x.d.length A.c, .slice A.a2 A.x.b.length A.c2] := by rw [← HW1.out]; exact Own.new w _ _
  have hlen := right_lens hr
  have HRI : Hid (∀ W, Chg [] w W → Calls Tryz.prog 66 #[A.val] W fun e w' => e = .returned (.bool true) ∧ Chg [] W w') := Lib.hid (fun W hW => by
    have h9 := right_any A.x A.a A.c A.a2 A.c2 w.heap.size W (h2.below hW.low (Nat.le_refl _)) hW.size (by omega) (by omega)
    rw [hr] at h9
    exact h9.mono fun e w' ⟨x, y⟩ => ⟨x, low_chg y⟩)
  have HTR : Hid (∀ W, Chg [] w W → Calls Tryz.prog 67 #[.pointer (some ⟨sq, 0, none⟩), .int .u64 (a : Int)] W fun e w' => e = .returned (.bool false) ∧ Chg [] W w') := Lib.hid (fun W hW => by
    have h9 := isTrimmed_any W (P.sta.kept hW) a (by omega)
    rwa [ht] at h9)
  have HWR : Hid (∀ W, Chg [] w W → Calls Tryz.prog 68 #[.pointer (some ⟨sq, 0, none⟩), .int .u64 (a : Int)] W fun e w' => e = .returned (.bool false) ∧ Chg [] W w') := Lib.hid (fun W hW => by
    have h9 := isWritten_any W (P.sta.kept hW) a (by omega)
    rwa [hm] at h9)
  have HCO : Hid (∀ W, Chg [] w W → Calls Tryz.prog 70 #[A.val] W fun e w' => ∃ A', e = .returned A'.val ∧ A'.x = A.x ∧ Hid (NewC w w' A') ∧ Chg [] W w') := Lib.hid (fun W hW =>
    (copyOf_any A A.blocks W ⟨(h1.below hW.low (Nat.le_refl _)).mono hW.size, (h2.below hW.low (Nat.le_refl _)).mono hW.size, fun h0 _ e => CeT.mem_a h0 e, fun h0 _ e => CeT.mem_b h0 e⟩ (by omega) (by omega)).mono fun e w' ⟨A', x1, x2, x3, x4⟩ => ⟨A', x1, x2, Lib.hid ⟨x3.out.d, x3.out.b, fun ad e => Nat.le_trans hW.size (x3.out.da ad e), fun ad e => Nat.le_trans hW.size (x3.out.ba ad e)⟩, x4⟩)
  have HCH := Lib.hid hch
  have HC1 := Lib.hid hC1
  obtain ⟨u0, u1⟩ := (P.own.chg hC1 (by simp)).two
  have HU := Lib.hid P.own
  have e1 : decide ((1048576 : Int) ≤ (a : Int)) = false := decide_eq_false (by omega)
  have c0 : w1.cell? ⟨w.heap.size, 0, none⟩ = some (.int .i64 A.x.k) := by rw [hob.cell]; rfl
  have c1 : w1.cell? ⟨w.heap.size, 1, none⟩ = some (.slice A.a A.x.d.length A.c) := by rw [hob.cell]; rfl
  have c2 : w1.cell? ⟨w.heap.size, 2, none⟩ = some (.slice A.a2 A.x.b.length A.c2) := by rw [hob.cell]; rfl
  have HO := Lib.hid hob
  clear P hch hC1 hob h1 h2 hr ht hm hlen
  obtain ⟨⟨ck, cd, cb⟩, a1, c1', a2, c2'⟩ := A
  unfold CeT.val at HRI HCO ⊢
  simp only at HRI HCO HW1 HO c0 c1 c2 ⊢
  generalize cd.length = dn at HRI HCO HW1 HO c0 c1 c2 ⊢
  generalize cb.length = bn at HRI HCO HW1 HO c0 c1 c2 ⊢
  go_enter Tryz.func23, Tryz.ntmps23
  go_upto_region 1 with fail
  simp only [HW1.out]
  have HB : Hid (∀ W, Chg [] w1 W → W.cell? ⟨w.heap.size, 0, none⟩ = some (.int .i64 ck) ∧ W.cell? ⟨w.heap.size, 1, none⟩ = some (.slice a1 dn c1') ∧ W.cell? ⟨w.heap.size, 2, none⟩ = some (.slice a2 bn c2') ∧ W.cell? ⟨u, 1, none⟩ = some (.pointer (some ⟨sq, 0, none⟩))) := Lib.hid (fun W hW => ⟨hW.cell c0 (by simp), hW.cell c1 (by simp), hW.cell c2 (by simp), hW.cell u1 (by simp)⟩)
  go_wp2_with (first
    | (go_at_call 66; refine (HRI.out _ HC1.out).mono ?_; rintro e w2 ⟨rfl, hc2⟩
       obtain ⟨x0, x1, x2, x3⟩ := HB.out _ hc2
       have HC2 := Lib.hid hc2
       clear hc2)
    | (go_at_call 67; refine (HTR.out _ (HC1.out.trans HC2.out)).mono ?_; rintro e w3 ⟨rfl, hc3⟩
       obtain ⟨y0, y1, y2, y3⟩ := HB.out _ (HC2.out.trans hc3)
       have HC3 := Lib.hid (HC2.out.trans hc3)
       clear hc3)
    | (go_at_call 68; refine (HWR.out _ (HC1.out.trans HC3.out)).mono ?_; rintro e w4 ⟨rfl, hc4⟩
       obtain ⟨z0, z1, z2, z3⟩ := HB.out _ (HC3.out.trans hc4)
       have HC4 := Lib.hid (HC3.out.trans hc4)
       clear hc4)
    | (go_at_call 70; refine (HCO.out _ (HC1.out.trans HC4.out)).mono ?_; rintro e w5 ⟨A', rfl, hx5, hn5, hc5⟩
       have HCX := Lib.hid (HCH.out w5 A' (HC1.out.trans (HC4.out.trans hc5)) hx5 hn5.out)
       clear hx5 hn5 hc5
       obtain ⟨⟨k5, d5, b5⟩, a5, m5, a6, m6⟩ := A'
       unfold rcv at HCX
       simp only at HCX)
    | (go_at_call 69; refine HCX.out.mono ?_; rintro e w6 ⟨rfl, hq⟩)
    | fail)
  go_ret
  exact ⟨rfl, hq⟩
end Go.Proofs.YtmpajlpemabniaaGreat
namespace Go.Proofs.YtmpajlpemabniaaGreat
open Go.RowKit Go.Maps Go.Shelf Go.Deep
set_option linter.unusedVariables false
set_option linter.unusedSimpArgs false

def zA : CeT := ⟨zCe, none, 0, none, 0⟩
set_option maxHeartbeats 1000000 in
theorem Write_wr (w : World) {u : Nat} {l : List Nat} {q p g b n : Nat} {X : TS} {sq sp sb : Nat} {v : Value} {C : List Nat} {S : PS} (P : Pgs w u l q p g b n X sq sp sb v C S) (a : Nat) (A : CeT) (ha : a < 1048576)
    (h1 : Ro w w.heap.size A.a (u8s A.x.d)) (h2 : Ro w w.heap.size A.a2 (bcs A.x.b)) (hr : right A.x = true) (ht : S.tr a = false) (hm : (S.m a).isSome = true) :
    Calls Tryz.prog 23 #[.pointer (some ⟨u, 0, none⟩), .int .u64 (a : Int), A.val] w fun e w' => e = .returned (.int .i64 81) ∧ Chg [] w w' := by
  obtain ⟨w1, HW1⟩ : ∃ W, Hid (w.alloc (.cells #[.int .i64 A.x.k, .slice A.a A.x.d.length A.c, .slice A.a2 A.x.b.length A.c2] 42) = W) := ⟨_, Lib.hid rfl⟩
  have hC1 : Chg [] w w1 := by rw [← HW1.out]; exact (Chg.refl [] w).alloc _
  have hob : Own w1 w.heap.size 42 [.int .i64 A.x.k, .slice A.a A.x.d.length A.c, .slice A.a2 A.x.b.length A.c2] := by rw [← HW1.out]; exact Own.new w _ _
  have hlen := right_lens hr
  have HRI : Hid (∀ W, Chg [] w W → Calls Tryz.prog 66 #[A.val] W fun e w' => e = .returned (.bool true) ∧ Chg [] W w') := Lib.hid (fun W hW => by
    have h9 := right_any A.x A.a A.c A.a2 A.c2 w.heap.size W (h2.below hW.low (Nat.le_refl _)) hW.size (by omega) (by omega)
    rw [hr] at h9
    exact h9.mono fun e w' ⟨x, y⟩ => ⟨x, low_chg y⟩)
  have HTR : Hid (∀ W, Chg [] w W → Calls Tryz.prog 67 #[.pointer (some ⟨sq, 0, none⟩), .int .u64 (a : Int)] W fun e w' => e = .returned (.bool false) ∧ Chg [] W w') := Lib.hid (fun W hW => by
    have h9 := isTrimmed_any W (P.sta.kept hW) a (by omega)
    rwa [ht] at h9)
  have HWR : Hid (∀ W, Chg [] w W → Calls Tryz.prog 68 #[.pointer (some ⟨sq, 0, none⟩), .int .u64 (a : Int)] W fun e w' => e = .returned (.bool true) ∧ Chg [] W w') := Lib.hid (fun W hW => by
    have h9 := isWritten_any W (P.sta.kept hW) a (by omega)
    rwa [hm] at h9)
  have HC1 := Lib.hid hC1
  obtain ⟨u0, u1⟩ := (P.own.chg hC1 (by simp)).two
  have HU := Lib.hid P.own
  have e1 : decide ((1048576 : Int) ≤ (a : Int)) = false := decide_eq_false (by omega)
  have c0 : w1.cell? ⟨w.heap.size, 0, none⟩ = some (.int .i64 A.x.k) := by rw [hob.cell]; rfl
  have c1 : w1.cell? ⟨w.heap.size, 1, none⟩ = some (.slice A.a A.x.d.length A.c) := by rw [hob.cell]; rfl
  have c2 : w1.cell? ⟨w.heap.size, 2, none⟩ = some (.slice A.a2 A.x.b.length A.c2) := by rw [hob.cell]; rfl
  have HO := Lib.hid hob
  clear P hC1 hob h1 h2 hr ht hm hlen
  obtain ⟨⟨ck, cd, cb⟩, a1, c1', a2, c2'⟩ := A
  unfold CeT.val at HRI ⊢
  simp only at HRI HW1 HO c0 c1 c2 ⊢
  generalize cd.length = dn at HRI HW1 HO c0 c1 c2 ⊢
  generalize cb.length = bn at HRI HW1 HO c0 c1 c2 ⊢
  go_enter Tryz.func23, Tryz.ntmps23
  go_upto_region 1 with fail
  simp only [HW1.out]
  have HB : Hid (∀ W, Chg [] w1 W → W.cell? ⟨w.heap.size, 0, none⟩ = some (.int .i64 ck) ∧ W.cell? ⟨w.heap.size, 1, none⟩ = some (.slice a1 dn c1') ∧ W.cell? ⟨w.heap.size, 2, none⟩ = some (.slice a2 bn c2') ∧ W.cell? ⟨u, 1, none⟩ = some (.pointer (some ⟨sq, 0, none⟩))) := Lib.hid (fun W hW => ⟨hW.cell c0 (by simp), hW.cell c1 (by simp), hW.cell c2 (by simp), hW.cell u1 (by simp)⟩)
  go_wp2_with (first
    | (go_at_call 66; refine (HRI.out _ HC1.out).mono ?_; rintro e w2 ⟨rfl, hc2⟩
       obtain ⟨x0, x1, x2, x3⟩ := HB.out _ hc2
       have HC2 := Lib.hid hc2
       clear hc2)
    | (go_at_call 67; refine (HTR.out _ (HC1.out.trans HC2.out)).mono ?_; rintro e w3 ⟨rfl, hc3⟩
       obtain ⟨y0, y1, y2, y3⟩ := HB.out _ (HC2.out.trans hc3)
       have HC3 := Lib.hid (HC2.out.trans hc3)
       clear hc3)
    | (go_at_call 68; refine (HWR.out _ (HC1.out.trans HC3.out)).mono ?_; rintro e w4 ⟨rfl, hc4⟩
       obtain ⟨z0, z1, z2, z3⟩ := HB.out _ (HC3.out.trans hc4)
       have HC4 := Lib.hid (HC3.out.trans hc4)
       clear hc4)
    | fail)
  go_ret
  exact ⟨rfl, HC1.out.trans HC4.out⟩
set_option maxHeartbeats 1000000 in
theorem Write_tr (w : World) {u : Nat} {l : List Nat} {q p g b n : Nat} {X : TS} {sq sp sb : Nat} {v : Value} {C : List Nat} {S : PS} (P : Pgs w u l q p g b n X sq sp sb v C S) (a : Nat) (A : CeT) (ha : a < 1048576)
    (h1 : Ro w w.heap.size A.a (u8s A.x.d)) (h2 : Ro w w.heap.size A.a2 (bcs A.x.b)) (hr : right A.x = true) (ht : S.tr a = true) :
    Calls Tryz.prog 23 #[.pointer (some ⟨u, 0, none⟩), .int .u64 (a : Int), A.val] w fun e w' => e = .returned (.int .i64 83) ∧ Chg [] w w' := by
  obtain ⟨w1, HW1⟩ : ∃ W, Hid (w.alloc (.cells #[.int .i64 A.x.k, .slice A.a A.x.d.length A.c, .slice A.a2 A.x.b.length A.c2] 42) = W) := ⟨_, Lib.hid rfl⟩
  have hC1 : Chg [] w w1 := by rw [← HW1.out]; exact (Chg.refl [] w).alloc _
  have hob : Own w1 w.heap.size 42 [.int .i64 A.x.k, .slice A.a A.x.d.length A.c, .slice A.a2 A.x.b.length A.c2] := by rw [← HW1.out]; exact Own.new w _ _
  have hlen := right_lens hr
  have HRI : Hid (∀ W, Chg [] w W → Calls Tryz.prog 66 #[A.val] W fun e w' => e = .returned (.bool true) ∧ Chg [] W w') := Lib.hid (fun W hW => by
    have h9 := right_any A.x A.a A.c A.a2 A.c2 w.heap.size W (h2.below hW.low (Nat.le_refl _)) hW.size (by omega) (by omega)
    rw [hr] at h9
    exact h9.mono fun e w' ⟨x, y⟩ => ⟨x, low_chg y⟩)
  have HTR : Hid (∀ W, Chg [] w W → Calls Tryz.prog 67 #[.pointer (some ⟨sq, 0, none⟩), .int .u64 (a : Int)] W fun e w' => e = .returned (.bool true) ∧ Chg [] W w') := Lib.hid (fun W hW => by
    have h9 := isTrimmed_any W (P.sta.kept hW) a (by omega)
    rwa [ht] at h9)
  have HC1 := Lib.hid hC1
  obtain ⟨u0, u1⟩ := (P.own.chg hC1 (by simp)).two
  have HU := Lib.hid P.own
  have e1 : decide ((1048576 : Int) ≤ (a : Int)) = false := decide_eq_false (by omega)
  have c0 : w1.cell? ⟨w.heap.size, 0, none⟩ = some (.int .i64 A.x.k) := by rw [hob.cell]; rfl
  have c1 : w1.cell? ⟨w.heap.size, 1, none⟩ = some (.slice A.a A.x.d.length A.c) := by rw [hob.cell]; rfl
  have c2 : w1.cell? ⟨w.heap.size, 2, none⟩ = some (.slice A.a2 A.x.b.length A.c2) := by rw [hob.cell]; rfl
  have HO := Lib.hid hob
  clear P hC1 hob h1 h2 hr ht hlen
  obtain ⟨⟨ck, cd, cb⟩, a1, c1', a2, c2'⟩ := A
  unfold CeT.val at HRI ⊢
  simp only at HRI HW1 HO c0 c1 c2 ⊢
  generalize cd.length = dn at HRI HW1 HO c0 c1 c2 ⊢
  generalize cb.length = bn at HRI HW1 HO c0 c1 c2 ⊢
  go_enter Tryz.func23, Tryz.ntmps23
  go_upto_region 1 with fail
  simp only [HW1.out]
  have HB : Hid (∀ W, Chg [] w1 W → W.cell? ⟨w.heap.size, 0, none⟩ = some (.int .i64 ck) ∧ W.cell? ⟨w.heap.size, 1, none⟩ = some (.slice a1 dn c1') ∧ W.cell? ⟨w.heap.size, 2, none⟩ = some (.slice a2 bn c2') ∧ W.cell? ⟨u, 1, none⟩ = some (.pointer (some ⟨sq, 0, none⟩))) := Lib.hid (fun W hW => ⟨hW.cell c0 (by simp), hW.cell c1 (by simp), hW.cell c2 (by simp), hW.cell u1 (by simp)⟩)
  go_wp2_with (first
    | (go_at_call 66; refine (HRI.out _ HC1.out).mono ?_; rintro e w2 ⟨rfl, hc2⟩
       obtain ⟨x0, x1, x2, x3⟩ := HB.out _ hc2
       have HC2 := Lib.hid hc2
       clear hc2)
    | (go_at_call 67; refine (HTR.out _ (HC1.out.trans HC2.out)).mono ?_; rintro e w3 ⟨rfl, hc3⟩
       obtain ⟨y0, y1, y2, y3⟩ := HB.out _ (HC2.out.trans hc3)
       have HC3 := Lib.hid (HC2.out.trans hc3)
       clear hc3)
    | fail)
  go_ret
  exact ⟨rfl, HC1.out.trans HC3.out⟩
set_option maxHeartbeats 1000000 in
theorem TrimOne_go (w : World) {u : Nat} {l : List Nat} {q p g b n : Nat} {X : TS} {sq sp sb : Nat} {v : Value} {C : List Nat} {S : PS} (P : Pgs w u l q p g b n X sq sp sb v C S) (a : Nat) (ha : a < 1048576) (ht : S.tr a = false) (E : Int) (Q : World → Prop)
    (hch : ∀ W, Chg [] w W → Calls Tryz.prog 69 #[.pointer (some ⟨u, 0, none⟩), rcv 4 a (a + 1) zA] W fun e w' => e = .returned (.int .i64 E) ∧ Q w') :
    Calls Tryz.prog 25 #[.pointer (some ⟨u, 0, none⟩), .int .u64 (a : Int)] w fun e w' => e = .returned (.int .i64 E) ∧ Q w' := by
  have HTR := isTrimmed_any w P.sta a (by omega)
  rw [ht] at HTR
  have HT := Lib.hid HTR
  have HCH : Hid (∀ W, Chg [] w W → Calls Tryz.prog 69 #[.pointer (some ⟨u, 0, none⟩), .agg #[.int .u64 4, .int .u64 (a : Int), .int .u64 ((a : Int) + 1), .int .i64 0, .slice none 0 0, .slice none 0 0]] W fun e w' => e = .returned (.int .i64 E) ∧ Q w') := Lib.hid hch
  obtain ⟨u0, u1⟩ := P.own.two
  have e1 : decide ((1048576 : Int) ≤ (a : Int)) = false := decide_eq_false (by omega)
  have hx0 : (0 : Int) ≤ (a : Int) := by omega
  have hx1 : (a : Int) < 1048576 := by omega
  clear P hch ht HTR
  go_enter Tryz.func25, Tryz.ntmps25
  go_wp2_with (first
    | (go_at_call 67; refine HT.out.mono ?_; rintro e w2 ⟨rfl, hc2⟩)
    | (go_at_call 69; refine (HCH.out _ hc2).mono ?_; rintro e w6 ⟨rfl, hq⟩)
    | fail)
  go_ret
  exact ⟨rfl, hq⟩
theorem TrimOne_tr (w : World) {u : Nat} {l : List Nat} {q p g b n : Nat} {X : TS} {sq sp sb : Nat} {v : Value} {C : List Nat} {S : PS} (P : Pgs w u l q p g b n X sq sp sb v C S) (a : Nat) (ha : a < 1048576) (ht : S.tr a = true) :
    Calls Tryz.prog 25 #[.pointer (some ⟨u, 0, none⟩), .int .u64 (a : Int)] w fun e w' => e = .returned (.int .i64 0) ∧ Chg [] w w' := by
  have HTR := isTrimmed_any w P.sta a (by omega)
  rw [ht] at HTR
  have HT := Lib.hid HTR
  obtain ⟨u0, u1⟩ := P.own.two
  have e1 : decide ((1048576 : Int) ≤ (a : Int)) = false := decide_eq_false (by omega)
  clear P ht HTR
  go_enter Tryz.func25, Tryz.ntmps25
  go_wp2_with (first
    | (go_at_call 67; refine HT.out.mono ?_; rintro e w2 ⟨rfl, hc2⟩)
    | fail)
  go_ret
  exact ⟨rfl, hc2⟩
theorem Trim_go (w : World) {u : Nat} {l : List Nat} {q p g b n : Nat} {X : TS} {sq sp sb : Nat} {v : Value} {C : List Nat} {S : PS} (P : Pgs w u l q p g b n X sq sp sb v C S) (a : Nat) (ha : a ≤ 1048576) (ht : S.mr < a) (E : Int) (Q : World → Prop)
    (hch : Calls Tryz.prog 69 #[.pointer (some ⟨u, 0, none⟩), rcv 3 a 0 zA] w fun e w' => e = .returned (.int .i64 E) ∧ Q w') :
    Calls Tryz.prog 24 #[.pointer (some ⟨u, 0, none⟩), .int .u64 (a : Int)] w fun e w' => e = .returned (.int .i64 E) ∧ Q w' := by
  have HCH : Hid (Calls Tryz.prog 69 #[.pointer (some ⟨u, 0, none⟩), .agg #[.int .u64 3, .int .u64 (a : Int), .int .u64 0, .int .i64 0, .slice none 0 0, .slice none 0 0]] w fun e w' => e = .returned (.int .i64 E) ∧ Q w') := Lib.hid hch
  obtain ⟨u0, u1⟩ := P.own.two
  obtain ⟨h0, h1, h2, h3, h4⟩ := P.sta.cells
  obtain ⟨z, hz⟩ : ∃ z, S.mr = z := ⟨_, rfl⟩
  rw [hz] at ht h2
  have e1 : decide ((1048576 : Int) < (a : Int)) = false := decide_eq_false (by omega)
  have e2 : decide ((a : Int) ≤ (z : Int)) = false := decide_eq_false (by omega)
  have e3 : decide (a ≤ z) = false := decide_eq_false (by omega)
  clear P hch ht hz
  go_enter Tryz.func24, Tryz.ntmps24
  go_wp2_with (first
    | (go_at_call 69; refine HCH.out.mono ?_; rintro e w6 ⟨rfl, hq⟩)
    | fail)
  go_ret
  exact ⟨rfl, hq⟩
theorem Trim_no (w : World) {u : Nat} {l : List Nat} {q p g b n : Nat} {X : TS} {sq sp sb : Nat} {v : Value} {C : List Nat} {S : PS} (P : Pgs w u l q p g b n X sq sp sb v C S) (a : Nat) (ha : a ≤ 1048576) (ht : a ≤ S.mr) :
    Calls Tryz.prog 24 #[.pointer (some ⟨u, 0, none⟩), .int .u64 (a : Int)] w fun e w' => e = .returned (.int .i64 0) ∧ w' = w := by
  obtain ⟨u0, u1⟩ := P.own.two
  obtain ⟨h0, h1, h2, h3, h4⟩ := P.sta.cells
  obtain ⟨z, hz⟩ : ∃ z, S.mr = z := ⟨_, rfl⟩
  rw [hz] at ht h2
  have e1 : decide ((1048576 : Int) < (a : Int)) = false := decide_eq_false (by omega)
  have e2 : decide ((a : Int) ≤ (z : Int)) = true := decide_eq_true (by omega)
  have e3 : decide (a ≤ z) = true := decide_eq_true (by omega)
  clear P ht hz
  go_enter Tryz.func24, Tryz.ntmps24
  go_wp2_with fail
  go_ret
  exact ⟨rfl, rfl⟩
theorem Trim_arg (w : World) (u : Nat) (a : Nat) (ha : 1048576 < a) :
    Calls Tryz.prog 24 #[.pointer (some ⟨u, 0, none⟩), .int .u64 (a : Int)] w fun e w' => e = .returned (.int .i64 1) ∧ w' = w := by
  have e1 : decide ((1048576 : Int) < (a : Int)) = true := decide_eq_true (by omega)
  clear ha
  go_enter Tryz.func24, Tryz.ntmps24
  go_wp2_with fail
  go_ret
  exact ⟨rfl, rfl⟩
theorem Seal_go (w : World) {u : Nat} {l : List Nat} {q p g b n : Nat} {X : TS} {sq sp sb : Nat} {v : Value} {C : List Nat} {S : PS} (P : Pgs w u l q p g b n X sq sp sb v C S) (a : Nat) (ha : a ≤ 1048576) (ht : S.ep < a) (E : Int) (Q : World → Prop)
    (hch : Calls Tryz.prog 69 #[.pointer (some ⟨u, 0, none⟩), rcv 1 a 0 zA] w fun e w' => e = .returned (.int .i64 E) ∧ Q w') :
    Calls Tryz.prog 26 #[.pointer (some ⟨u, 0, none⟩), .int .u64 (a : Int)] w fun e w' => e = .returned (.int .i64 E) ∧ Q w' := by
  have HCH : Hid (Calls Tryz.prog 69 #[.pointer (some ⟨u, 0, none⟩), .agg #[.int .u64 1, .int .u64 (a : Int), .int .u64 0, .int .i64 0, .slice none 0 0, .slice none 0 0]] w fun e w' => e = .returned (.int .i64 E) ∧ Q w') := Lib.hid hch
  obtain ⟨u0, u1⟩ := P.own.two
  obtain ⟨h0, h1, h2, h3, h4⟩ := P.sta.cells
  obtain ⟨z, hz⟩ : ∃ z, S.ep = z := ⟨_, rfl⟩
  rw [hz] at ht h0
  have e1 : decide ((1048576 : Int) < (a : Int)) = false := decide_eq_false (by omega)
  have e2 : decide ((a : Int) ≤ (z : Int)) = false := decide_eq_false (by omega)
  have e3 : decide (a ≤ z) = false := decide_eq_false (by omega)
  clear P hch ht hz
  go_enter Tryz.func26, Tryz.ntmps26
  go_wp2_with (first
    | (go_at_call 69; refine HCH.out.mono ?_; rintro e w6 ⟨rfl, hq⟩)
    | fail)
  go_ret
  exact ⟨rfl, hq⟩
theorem Seal_no (w : World) {u : Nat} {l : List Nat} {q p g b n : Nat} {X : TS} {sq sp sb : Nat} {v : Value} {C : List Nat} {S : PS} (P : Pgs w u l q p g b n X sq sp sb v C S) (a : Nat) (ha : a ≤ 1048576) (ht : a ≤ S.ep) :
    Calls Tryz.prog 26 #[.pointer (some ⟨u, 0, none⟩), .int .u64 (a : Int)] w fun e w' => e = .returned (.int .i64 84) ∧ w' = w := by
  obtain ⟨u0, u1⟩ := P.own.two
  obtain ⟨h0, h1, h2, h3, h4⟩ := P.sta.cells
  obtain ⟨z, hz⟩ : ∃ z, S.ep = z := ⟨_, rfl⟩
  rw [hz] at ht h0
  have e1 : decide ((1048576 : Int) < (a : Int)) = false := decide_eq_false (by omega)
  have e2 : decide ((a : Int) ≤ (z : Int)) = true := decide_eq_true (by omega)
  have e3 : decide (a ≤ z) = true := decide_eq_true (by omega)
  clear P ht hz
  go_enter Tryz.func26, Tryz.ntmps26
  go_wp2_with fail
  go_ret
  exact ⟨rfl, rfl⟩
theorem Seal_arg (w : World) (u : Nat) (a : Nat) (ha : 1048576 < a) :
    Calls Tryz.prog 26 #[.pointer (some ⟨u, 0, none⟩), .int .u64 (a : Int)] w fun e w' => e = .returned (.int .i64 1) ∧ w' = w := by
  have e1 : decide ((1048576 : Int) < (a : Int)) = true := decide_eq_true (by omega)
  clear ha
  go_enter Tryz.func26, Tryz.ntmps26
  go_wp2_with fail
  go_ret
  exact ⟨rfl, rfl⟩
theorem OpenE_go (w : World) {u : Nat} {l : List Nat} {q p g b n : Nat} {X : TS} {sq sp sb : Nat} {v : Value} {C : List Nat} {S : PS} (P : Pgs w u l q p g b n X sq sp sb v C S) (a : Nat) (ha : a ≤ 1048576) (ht : S.op < a) (E : Int) (Q : World → Prop)
    (hch : Calls Tryz.prog 69 #[.pointer (some ⟨u, 0, none⟩), rcv 5 a 0 zA] w fun e w' => e = .returned (.int .i64 E) ∧ Q w') :
    Calls Tryz.prog 27 #[.pointer (some ⟨u, 0, none⟩), .int .u64 (a : Int)] w fun e w' => e = .returned (.int .i64 E) ∧ Q w' := by
  have HCH : Hid (Calls Tryz.prog 69 #[.pointer (some ⟨u, 0, none⟩), .agg #[.int .u64 5, .int .u64 (a : Int), .int .u64 0, .int .i64 0, .slice none 0 0, .slice none 0 0]] w fun e w' => e = .returned (.int .i64 E) ∧ Q w') := Lib.hid hch
  obtain ⟨u0, u1⟩ := P.own.two
  obtain ⟨h0, h1, h2, h3, h4⟩ := P.sta.cells
  obtain ⟨z, hz⟩ : ∃ z, S.op = z := ⟨_, rfl⟩
  rw [hz] at ht h1
  have e1 : decide ((1048576 : Int) < (a : Int)) = false := decide_eq_false (by omega)
  have e2 : decide ((a : Int) ≤ (z : Int)) = false := decide_eq_false (by omega)
  have e3 : decide (a ≤ z) = false := decide_eq_false (by omega)
  clear P hch ht hz
  go_enter Tryz.func27, Tryz.ntmps27
  go_wp2_with (first
    | (go_at_call 69; refine HCH.out.mono ?_; rintro e w6 ⟨rfl, hq⟩)
    | fail)
  go_ret
  exact ⟨rfl, hq⟩
theorem OpenE_no (w : World) {u : Nat} {l : List Nat} {q p g b n : Nat} {X : TS} {sq sp sb : Nat} {v : Value} {C : List Nat} {S : PS} (P : Pgs w u l q p g b n X sq sp sb v C S) (a : Nat) (ha : a ≤ 1048576) (ht : a ≤ S.op) :
    Calls Tryz.prog 27 #[.pointer (some ⟨u, 0, none⟩), .int .u64 (a : Int)] w fun e w' => e = .returned (.int .i64 0) ∧ w' = w := by
  obtain ⟨u0, u1⟩ := P.own.two
  obtain ⟨h0, h1, h2, h3, h4⟩ := P.sta.cells
  obtain ⟨z, hz⟩ : ∃ z, S.op = z := ⟨_, rfl⟩
  rw [hz] at ht h1
  have e1 : decide ((1048576 : Int) < (a : Int)) = false := decide_eq_false (by omega)
  have e2 : decide ((a : Int) ≤ (z : Int)) = true := decide_eq_true (by omega)
  have e3 : decide (a ≤ z) = true := decide_eq_true (by omega)
  clear P ht hz
  go_enter Tryz.func27, Tryz.ntmps27
  go_wp2_with fail
  go_ret
  exact ⟨rfl, rfl⟩
theorem OpenE_arg (w : World) (u : Nat) (a : Nat) (ha : 1048576 < a) :
    Calls Tryz.prog 27 #[.pointer (some ⟨u, 0, none⟩), .int .u64 (a : Int)] w fun e w' => e = .returned (.int .i64 1) ∧ w' = w := by
  have e1 : decide ((1048576 : Int) < (a : Int)) = true := decide_eq_true (by omega)
  clear ha
  go_enter Tryz.func27, Tryz.ntmps27
  go_wp2_with fail
  go_ret
  exact ⟨rfl, rfl⟩
theorem TrimOne_arg (w : World) (u : Nat) (a : Nat) (ha : 1048576 ≤ a) :
    Calls Tryz.prog 25 #[.pointer (some ⟨u, 0, none⟩), .int .u64 (a : Int)] w fun e w' => e = .returned (.int .i64 1) ∧ w' = w := by
  have e1 : decide ((1048576 : Int) ≤ (a : Int)) = true := decide_eq_true (by omega)
  clear ha
  go_enter Tryz.func25, Tryz.ntmps25
  go_wp2_with fail
  go_ret
  exact ⟨rfl, rfl⟩
end Go.Proofs.YtmpajlpemabniaaGreat
namespace Go.Proofs.YtmpajlpemabniaaGreat
open Go.RowKit Go.Maps Go.Shelf Go.Deep
set_option linter.unusedVariables false
set_option linter.unusedSimpArgs false

structure Top (mr : Nat) (L : List Rn) (ss : List Nat) (n : Nat) : Prop where
  ge : mr ≤ n
  run : ∀ r ∈ L, r.2 ≤ n
  adr : ∀ a ∈ ss, a + 1 ≤ n
  is : n = mr ∨ (∃ r ∈ L, n = r.2) ∨ ∃ a ∈ ss, n = a + 1
theorem Top.start (mr : Nat) : Top mr [] [] mr := ⟨Nat.le_refl _, by simp, by simp, .inl rfl⟩
theorem Top.more {mr : Nat} {L : List Rn} {n : Nat} (h : Top mr L [] n) (x : Rn) : Top mr (L ++ [x]) [] (max n x.2) := by
  refine ⟨Nat.le_trans h.ge (Nat.le_max_left _ _), fun r hr => ?_, by simp, ?_⟩
  · rcases List.mem_append.1 hr with hr | hr
    · exact Nat.le_trans (h.run r hr) (Nat.le_max_left _ _)
    · simp at hr; subst hr; exact Nat.le_max_right _ _
  · by_cases e : n ≤ x.2
    · exact .inr (.inl ⟨x, by simp, by omega⟩)
    · have e2 : max n x.2 = n := by omega
      rw [e2]
      rcases h.is with h1 | ⟨r, h1, h2⟩ | ⟨a, h1, _⟩
      · exact .inl h1
      · exact .inr (.inl ⟨r, List.mem_append_left _ h1, h2⟩)
      · cases h1
theorem Top.key {mr : Nat} {L : List Rn} {ss : List Nat} {n : Nat} (h : Top mr L ss n) (x : Nat) : Top mr L (ss ++ [x]) (max n (x + 1)) := by
  refine ⟨Nat.le_trans h.ge (Nat.le_max_left _ _), fun r hr => Nat.le_trans (h.run r hr) (Nat.le_max_left _ _), fun a ha => ?_, ?_⟩
  · rcases List.mem_append.1 ha with hr | hr
    · exact Nat.le_trans (h.adr a hr) (Nat.le_max_left _ _)
    · simp at hr; subst hr; exact Nat.le_max_right _ _
  · by_cases e : n ≤ x + 1
    · exact .inr (.inr ⟨x, by simp, by omega⟩)
    · have e2 : max n (x + 1) = n := by omega
      rw [e2]
      rcases h.is with h1 | ⟨r, h1, h2⟩ | ⟨a, h1, h2⟩
      · exact .inl h1
      · exact .inr (.inl ⟨r, h1, h2⟩)
      · exact .inr (.inr ⟨a, List.mem_append_left _ h1, h2⟩)
def IsTail (S : PS) (n : Nat) : Prop := Top S.mr S.T (addrs S.m) n
theorem IsTail.uniq {S : PS} {a b : Nat} (h : IsTail S a) (k : IsTail S b) : a = b := by
  have hle : ∀ {x y : Nat}, IsTail S x → IsTail S y → x ≤ y := fun {x y} hx hy => by
    rcases hx.is with h1 | ⟨r, h1, h2⟩ | ⟨z, h1, h2⟩
    · rw [h1]; exact hy.ge
    · rw [h2]; exact hy.run r h1
    · rw [h2]; exact hy.adr z h1
  exact Nat.le_antisymm (hle h k) (hle k h)
set_option maxHeartbeats 2000000 in
set_option maxRecDepth 100000 in
theorem tail_any (w : World) {q p : Nat} {v : Value} {b : Nat} {C : List Nat} {S : PS} (h : Sta w q p v b C S) :
    Calls Tryz.prog 71 #[.pointer (some ⟨q, 0, none⟩)] w fun e w' => ∃ t : Nat, e = .returned (.int .u64 (t : Int)) ∧ IsTail S t ∧ Chg [] w w' := by
  obtain ⟨h0, h1, h2, h3, h4⟩ := h.cells
  obtain ⟨V, hV, hV2⟩ := h.map
  have HR := Lib.hid (Runs_some w p v S.T h.set)
  have HH := Lib.hid h
  have HV := Lib.hid (And.intro hV hV2)
  obtain ⟨mr, hmr⟩ : ∃ x, Hid (S.mr = x) := ⟨_, Lib.hid rfl⟩
  rw [hmr.out] at h2
  obtain ⟨N, hN⟩ : ∃ x, Hid (S.T.length = x) := ⟨_, Lib.hid rfl⟩
  have hNl : N ≤ 1000000 := by rw [← hN.out]; exact h.set.len
  have HL4 := Lib.hid h4
  clear h hV hV2 h0 h1 h4
  go_enter Tryz.func71, Tryz.ntmps71
  go_wp2_with (first
    | (go_at_call 75; refine HR.out.mono ?_; rintro e w1 ⟨vr, rfl, hl1, hb1⟩
       have HL1 := Lib.hid hl1; have HC1 := Lib.hid (low_chg hb1); clear hl1 hb1
       obtain ⟨a, c, e9, hro, _⟩ := HL1.out.form
       rw [hN.out] at e9
       subst e9
       have HRO := Lib.hid hro
       clear hro)
    | fail)
  go_loopw [3, 17] (fun v3 i wr => ∃ k nn : Nat, i = .int .i64 k ∧ k ≤ N ∧ v3 = .int .u64 (nn : Int) ∧ Hid (Top mr (S.T.take k) [] nn) ∧ Hid (Chg [] w1 wr)) (fun _ i _ => N - (intOf i).toNat)
  case atStart => exact ⟨0, mr, rfl, Nat.zero_le _, rfl, Lib.hid (Top.start mr), Lib.hid (Chg.refl [] w1)⟩
  case round =>
    obtain ⟨k, nn, rfl, hk, rfl, HT, HC⟩ := hrel
    by_cases hlt : k < N
    · have hkL : k < S.T.length := by rw [hN.out]; exact hlt
      obtain ⟨g, off, rfl, hg, hcl⟩ := HRO.out.rn (by omega)
      obtain ⟨x1, x2⟩ := hcl k hkL
      have y1 := HC.out.cell x1 (by simp)
      have y2 := HC.out.cell x2 (by simp)
      have HT2 := Lib.hid (show Top mr (S.T.take (k + 1)) [] (max nn (el S.T k).2) from by rw [take_el hkL]; exact HT.out.more _)
      generalize el S.T k = x at *
      have hd1 : decide (k < N) = true := by simpa using hlt
      have hk0 : (0 : Int) ≤ (k : Int) := by omega
      have hk1 : (k : Int) < (N : Int) := by omega
      have hkb : (k : Int) ≤ 4000000 := by omega
      have HKM := Lib.hid (show N - (k + 1) < N - k by omega)
      obtain ⟨M, hM⟩ : ∃ M, Hid (max nn x.2 = M) := ⟨_, Lib.hid rfl⟩
      have hMi : max (nn : Int) (x.2 : Int) = (M : Int) := by rw [← hM.out]; omega
      rw [hM.out] at HT2
      clear hcl x1 x2 h2 h3
      go_wp2_with fail
      go_roundw
      case rel => exact ⟨k + 1, M, by go_num, by omega, rfl, HT2, Lib.hid (HC.out.alloc _)⟩
      case measure => have := HKM.out; simp [intOf]; omega
    · obtain rfl : k = N := by omega
      rename World => wa
      have hd1 : decide (k < k) = false := by simp
      have HCw := Lib.hid (HC1.out.trans HC.out)
      have q4 := HCw.out.cell HL4.out (by simp)
      have HT2 : Hid (Top mr S.T [] nn) := Lib.hid (by have := HT.out; rwa [List.take_of_length_le (by rw [hN.out]; exact Nat.le_refl _)] at this)
      obtain ⟨D, hown, hD⟩ := (HV.out.1.kept HCw.out).own
      have HD := Lib.hid hD
      have hdom := Lib.hid HV.out.1.dom
      clear HT HC h2 h3 hlt hk hD
      go_wp2_with (first
        | (at_range; refine wpList_range_own _ rfl _ 136 rfl 37 42 ukeyed Tryz.underlying136 idR b 1048576 _ rfl hown ?_; intro w0 hrg0 hg0 hs0)
        | fail)
      go_frame
      go_loopw [3, 31] (fun v3 _ wr2 => ∃ (left : Lit → Bool) (cnt : Nat) (ss : List Nat) (mm : Nat), wr2.ranges Tryz.prog 37 idR b wa.heap.size 1048576 D left cnt ∧ Hid (ColU V left ss) ∧ v3 = .int .u64 (mm : Int) ∧ Hid (Top mr S.T ss mm) ∧ wa.grownBy wr2 none)
        (fun _ _ wr2 => wr2.rangeLeft b wa.heap.size)
      case atStart => exact ⟨_, _, [], nn, hrg0, Lib.hid (ColU.start HD.out), rfl, HT2, hg0⟩
      case round =>
        obtain ⟨left, cnt, ss, mm, hrg, hC, rfl, HT3, hgw⟩ := hrel
        go_wp2_with (first
          | (at_next; refine wpList_next_ranges _ rfl _ rfl 37 ukeyed idR (fun x : Nat => Value.int .u64 (x : Int)) id (fun key kl hk => by obtain ⟨x, _, hx, _⟩ := keyOf_u64 hk; exact ⟨x, hx⟩) (fun v _ _ => ⟨v, rfl⟩) b wa.heap.size 1048576 _ _ _ rfl hrg ?_ ?_)
          | fail)
        · intro _ hl0
          go_wp2
          go_ret
          refine ⟨mm, rfl, ?_, HCw.out.grown hgw (fun k e => by cases e)⟩
          have hmem : ∀ x, x ∈ ss ↔ x ∈ addrs S.m := fun x => by
            rw [hC.out.2 x, hl0, mem_addrs, HV.out.2.isS]
            refine ⟨fun h9 => ⟨?_, h9.1⟩, fun h9 => ⟨h9.2, rfl⟩⟩
            obtain ⟨y, hy⟩ := Option.isSome_iff_exists.1 h9.1
            exact (HH.out.gd.cell x y hy).1
          unfold IsTail
          rw [hmr.out]
          exact ⟨HT3.out.ge, HT3.out.run, fun a9 h9 => HT3.out.adr a9 ((hmem a9).2 h9), HT3.out.is.imp id (fun h9 => h9.imp id (fun ⟨y, h1, h2⟩ => ⟨y, (hmem y).1 h1, h2⟩))⟩
        · intro x c kl yd yp w2 cnt2 hkey hlk hv hat hrg2 hlt hg2 hs2 hen
          obtain ⟨x', hx', ex, rfl⟩ := keyOf_u64 hkey
          obtain rfl : x = x' := by simp at ex; omega
          have hsome : (V x).isSome = true := by
            rw [← HD.out.has]
            exact has_true_of_atKey hat
          have hxl : x < 1048576 := by
            obtain ⟨u, hu⟩ := Option.isSome_iff_exists.1 hsome
            exact hdom.out x u hu
          have hC2 := Lib.hid (hC.out.step hlk hsome)
          have HT4 := Lib.hid (HT3.out.key x)
          obtain ⟨M, hM⟩ : ∃ M, Hid (max mm (x + 1) = M) := ⟨_, Lib.hid rfl⟩
          have hMi : max (mm : Int) ((x : Int) + 1) = (M : Int) := by rw [← hM.out]; omega
          rw [hM.out] at HT4
          have hx0 : (0 : Int) ≤ (x : Int) := by omega
          have hx1 : (x : Int) < 1048576 := by omega
          clear hv hat hs2 hsome
          go_wp2_with fail
          go_roundw
          case rel => exact ⟨_, cnt2, ss ++ [x], M, hrg2, hC2, rfl, HT4, hgw.andThen hg2 (fun j hj => by cases hj; exact Or.inl (Nat.le_refl _))⟩
          case measure => rw [hrg2.left_eq, hrg.left_eq]; exact hlt
end Go.Proofs.YtmpajlpemabniaaGreat
