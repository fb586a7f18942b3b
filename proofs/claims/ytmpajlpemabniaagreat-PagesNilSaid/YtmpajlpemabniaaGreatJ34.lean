/-
  The statement PagesNil, walked: no pages, no disk. No condition but the ranges of the argument.
-/
import Derived.Test.YtmpajlpemabniaaGreatJ33
import Derived.Test.YtmpajlpemabniaaGreatJ28
import Derived.Test.YtmpajlpemabniaaGreatJ4
namespace Go.Proofs.YtmpajlpemabniaaGreat
open Go.RowKit Go.Maps Go.Shelf Go.Deep
set_option linter.unusedVariables false
set_option linter.unusedSimpArgs false

/-- an act's value -/
def acv (k : Int) (a : Nat) (A : CeT) (b : Option Addr) (n c : Nat) (e : Option Addr) (m d : Nat) : Value := .agg #[.int .i64 k, .int .u64 (a : Int), .int .i64 A.x.k, .slice A.a A.x.d.length A.c, .slice A.a2 A.x.b.length A.c2, .slice b n c, .slice e m d]
theorem afits_any (w : World) (k : Int) (a : Nat) (A : CeT) (b : Option Addr) (n c : Nat) (e : Option Addr) (m d : Nat) :
    Calls Tryz.prog 14 #[acv k a A b n c e m d] w fun e w' => ∃ B, e = .returned (.bool B) ∧ Chg [] w w' := by
  have HF := Lib.hid (fun W => fits_any A.x.k A.a A.x.d.length A.c A.a2 A.x.b.length A.c2 W)
  unfold acv
  obtain ⟨⟨ck, cd, cb⟩, a1, c1, a2, c2⟩ := A
  simp only at HF ⊢
  generalize cd.length = dn at *
  generalize cb.length = bn at *
  have hd : ∀ (x : Nat), decide ((x : Int) ≤ 300) = decide (x ≤ 300) := fun x => by simp; omega
  cases hB : (decide (dn ≤ 400) && decide (bn ≤ 30)) <;> rw [hB] at HF
  · go_enter Tryz.func14, Tryz.ntmps14
    go_wp2_with (first
      | (go_at_call 48; refine (HF.out _).mono ?_; rintro e w2 ⟨rfl, hb2⟩)
      | fail)
    go_ret
    exact ⟨_, rfl, ((Chg.refl [] w).alloc _).trans (low_chg hb2)⟩
  · obtain ⟨w1, HW1⟩ : ∃ W, Hid (w.alloc (.cells #[.int .i64 k, .int .u64 (a : Int), .int .i64 ck, .slice a1 dn c1, .slice a2 bn c2, .slice b n c, .slice e m d] 45) = W) := ⟨_, Lib.hid rfl⟩
    have hC1 : Chg [] w w1 := by rw [← HW1.out]; exact (Chg.refl [] w).alloc _
    have hob : Own w1 w.heap.size 45 [.int .i64 k, .int .u64 (a : Int), .int .i64 ck, .slice a1 dn c1, .slice a2 bn c2, .slice b n c, .slice e m d] := by rw [← HW1.out]; exact Own.new w _ _
    have q2 : w1.cell? ⟨w.heap.size, 2, none⟩ = some (.int .i64 ck) := by rw [hob.cell]; rfl
    have q3 : w1.cell? ⟨w.heap.size, 3, none⟩ = some (.slice a1 dn c1) := by rw [hob.cell]; rfl
    have q4 : w1.cell? ⟨w.heap.size, 4, none⟩ = some (.slice a2 bn c2) := by rw [hob.cell]; rfl
    have q5 : w1.cell? ⟨w.heap.size, 5, none⟩ = some (.slice b n c) := by rw [hob.cell]; rfl
    have H5 := Lib.hid q5
    have HC1 := Lib.hid hC1
    clear hC1 hob q5
    go_enter Tryz.func14, Tryz.ntmps14
    go_upto_region 1 with fail
    rw [HW1.out]
    go_wp2_with (first
      | (go_at_call 48; refine (HF.out _).mono ?_; rintro e w2 ⟨rfl, hb2⟩; have r5 := (low_chg hb2).cell H5.out (by simp))
      | fail)
    go_ret
    exact ⟨_, rfl, HC1.out.trans (low_chg hb2)⟩
set_option maxHeartbeats 2000000 in
set_option maxRecDepth 100000 in
theorem pagesNil_walk (w : World) (k : Int) (a : Nat) (A : CeT) (b : Option Addr) (n c : Nat) (e : Option Addr) (m d : Nat) :
    Calls Tryz.prog 7 #[acv k a A b n c e m d] w fun e w' => e = .returned (.bool true) ∧ Chg [] w w' := by
  have HF := Lib.hid (fun W => afits_any W k a A b n c e m d)
  obtain ⟨w1, HW1⟩ : ∃ W, Hid (w.alloc (.cells #[.int .i64 k, .int .u64 (a : Int), .int .i64 A.x.k, .slice A.a A.x.d.length A.c, .slice A.a2 A.x.b.length A.c2, .slice b n c, .slice e m d] 45) = W) := ⟨_, Lib.hid rfl⟩
  have hC1 : Chg [] w w1 := by rw [← HW1.out]; exact (Chg.refl [] w).alloc _
  have hob : Own w1 w.heap.size 45 [.int .i64 k, .int .u64 (a : Int), .int .i64 A.x.k, .slice A.a A.x.d.length A.c, .slice A.a2 A.x.b.length A.c2, .slice b n c, .slice e m d] := by rw [← HW1.out]; exact Own.new w _ _
  have HB : Hid (∀ W, Chg [] w1 W → W.cell? ⟨w.heap.size, 1, none⟩ = some (.int .u64 (a : Int)) ∧ W.cell? ⟨w.heap.size, 2, none⟩ = some (.int .i64 A.x.k) ∧ W.cell? ⟨w.heap.size, 3, none⟩ = some (.slice A.a A.x.d.length A.c) ∧ W.cell? ⟨w.heap.size, 4, none⟩ = some (.slice A.a2 A.x.b.length A.c2)) := Lib.hid (fun W hW => by
    have h9 := hob.chg hW (by simp)
    exact ⟨by rw [h9.cell]; rfl, by rw [h9.cell]; rfl, by rw [h9.cell]; rfl, by rw [h9.cell]; rfl⟩)
  have HA : Hid (w1.cell? ⟨w.heap.size, 0, none⟩ = some (.int .i64 k) ∧ w1.cell? ⟨w.heap.size, 5, none⟩ = some (.slice b n c) ∧ w1.cell? ⟨w.heap.size, 6, none⟩ = some (.slice e m d)) := Lib.hid ⟨by rw [hob.cell]; rfl, by rw [hob.cell]; rfl, by rw [hob.cell]; rfl⟩
  have HC1 := Lib.hid hC1
  clear hC1 hob
  unfold acv at HF ⊢
  obtain ⟨⟨ck, cd, cb⟩, a1, c1, a2, c2⟩ := A
  simp only at HF HW1 HB ⊢
  generalize cd.length = dn at HF HW1 HB ⊢
  generalize cb.length = bn at HF HW1 HB ⊢
  obtain ⟨q1, q2, q3, q4⟩ := HB.out w1 (Chg.refl [] w1)
  obtain ⟨q0, q5, q6⟩ := HA.out
  go_enter Tryz.func7, Tryz.ntmps7
  go_upto_region 1 with fail
  rw [HW1.out]
  go_wp2_with fail
  refine (HF.out _).mono ?_
  rintro e w2 ⟨B, rfl, hc2⟩
  have HC2 := Lib.hid hc2
  obtain ⟨r1, r2, r3, r4⟩ := HB.out w2 hc2
  clear q0 q1 q2 q3 q4 q5 q6 hc2
  cases B
  · go_wp2_with fail
    refine (alive8_any _).mono ?_
    rintro e w3 ⟨rfl, hc3⟩
    go_wp2_with fail
    go_ret
    exact ⟨rfl, (HC1.out.trans HC2.out).trans hc3⟩
  · go_wp2_with fail
    refine (POpen_nil _).mono ?_
    rintro e w3 ⟨rfl, rfl⟩
    go_wp2_with fail
    refine (Read_nil _ _).mono ?_
    rintro e w4 ⟨rfl, hc4⟩
    have HC4 := Lib.hid (HC2.out.trans hc4)
    clear hc4
    go_wp2_with fail
    refine (alive8_any _).mono ?_
    rintro e w5 ⟨rfl, hc5⟩
    have HC5 := Lib.hid ((HC4.out.alloc _).trans hc5)
    obtain ⟨s1, s2, s3, s4⟩ := HB.out w5 HC5.out
    clear hc5 r1 r2 r3 r4
    go_wp2_with fail
    refine (Write_nil _ _ _ _ _ _ _ _ _).mono ?_
    rintro e w6 ⟨rfl, hc6⟩
    have HC6 := Lib.hid (HC5.out.trans hc6)
    obtain ⟨t1, t2, t3, t4⟩ := HB.out w6 HC6.out
    clear hc6 s1 s2 s3 s4
    go_wp2_with fail
    refine (Trim_nil _ _).mono ?_
    rintro e w7 ⟨rfl, rfl⟩
    go_wp2_with fail
    refine (TrimOne_nil _ _).mono ?_
    rintro e w8 ⟨rfl, rfl⟩
    go_wp2_with fail
    refine (Seal_nil _ _).mono ?_
    rintro e w9 ⟨rfl, rfl⟩
    go_wp2_with fail
    refine (OpenE_nil _ _).mono ?_
    rintro e wa ⟨rfl, rfl⟩
    go_wp2_with fail
    refine (Opened_nil _).mono ?_
    rintro e wb ⟨rfl, rfl⟩
    go_wp2_with fail
    refine (Epoch_nil _).mono ?_
    rintro e wc ⟨rfl, rfl⟩
    go_wp2_with fail
    refine (Mark_nil _).mono ?_
    rintro e wd ⟨rfl, rfl⟩
    go_wp2_with fail
    refine (Trimmed_nil _).mono ?_
    rintro e we ⟨rfl, rfl⟩
    go_wp2_with fail
    refine (Written_nil _).mono ?_
    rintro e wf ⟨rfl, rfl⟩
    go_wp2_with fail
    refine (Tail_nil _).mono ?_
    rintro e wg ⟨rfl, rfl⟩
    go_wp2_with fail
    go_ret
    exact ⟨rfl, HC1.out.trans HC6.out⟩
end Go.Proofs.YtmpajlpemabniaaGreat
namespace Go.Proofs.YtmpajlpemabniaaGreat
open Go.RowKit Go.Maps Go.Shelf Go.Deep
set_option linter.unusedVariables false
set_option linter.unusedSimpArgs false

theorem pagesNil_any (w : World) {Z : ActT8} (_ : ActOk8 w Z) : Calls Tryz.prog 7 #[.agg Z.cells.toArray] w fun e w' => e = .returned (.bool true) ∧ Below w.heap.size w w' := by
  obtain ⟨k, n, A, b, bs, bc, e, ks, ec⟩ := Z
  refine Calls.mono (R' := _) (pagesNil_walk w k n A b bs.length bc e ks.length ec) ?_
  rintro e w' ⟨h1, h2⟩
  exact ⟨h1, h2.low⟩
end Go.Proofs.YtmpajlpemabniaaGreat
