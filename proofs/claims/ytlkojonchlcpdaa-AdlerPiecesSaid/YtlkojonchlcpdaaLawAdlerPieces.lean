/-
  The statement AdlerPieces: the walk of its Go text, by the contracts of what it calls.
-/
import Derived.Test.YtlkojonchlcpdaaLawAdlerOne
namespace Go.Proofs.Ytlkojonchlcpdaa
open Go.RowKit Go.Deep

theorem boxed_three (w : World) (t : TypeId) (x0 x1 x2 : Value) : (w.alloc (.cells #[x0, x1, x2] t)).cell? ⟨w.heap.size, 0, none⟩ = some x0 ∧ (w.alloc (.cells #[x0, x1, x2] t)).cell? ⟨w.heap.size, 1, none⟩ = some x1 ∧ (w.alloc (.cells #[x0, x1, x2] t)).cell? ⟨w.heap.size, 2, none⟩ = some x2 := by
  have h := Own.new w t [x0, x1, x2]
  exact ⟨h.cell 0, h.cell 1, h.cell 2⟩

set_option maxRecDepth 100000 in
set_option maxHeartbeats 8000000 in
theorem adlerPieces_walk (a0 a1 a2 : Option Addr) (l0 l1 l2 c0 c1 c2 : Nat) (b0 b1 b2 : List UInt8) (w : World) (hl0 : b0.length = l0) (hl1 : b1.length = l1) (hl2 : b2.length = l2)
    (h0 : Ro w w.heap.size a0 (u8s b0)) (h1 : Ro w w.heap.size a1 (u8s b1)) (h2 : Ro w w.heap.size a2 (u8s b2)) (g0 : l0 ≤ 9223372036854775807) (g1 : l1 ≤ 9223372036854775807) (g2 : l2 ≤ 9223372036854775807) :
    Calls Try.prog 5 #[.agg #[.slice a0 l0 c0, .slice a1 l1 c1, .slice a2 l2 c2]] w fun e w' => e = .returned (.bool true) ∧ Below w.heap.size w w' := by
  have hbx0 : Below w.heap.size w (w.alloc (.cells #[.slice a0 l0 c0, .slice a1 l1 c1, .slice a2 l2 c2] 37)) := (Below.refl _ _).alloc (Nat.le_refl _) _
  obtain ⟨k0, k1, k2⟩ := boxed_three w 37 (.slice a0 l0 c0) (.slice a1 l1 c1) (.slice a2 l2 c2)
  have HBX := Lib.hid hbx0
  have HL := Lib.hid (And.intro hl0 (And.intro hl1 hl2))
  clear hbx0 hl0 hl1 hl2
  go_enter Try.func5, Try.ntmps5
  go_wp2_with fail
  go_loop [3] (fun i => ∃ k : Nat, k ≤ 3 ∧ i = .int .i64 (k : Int) ∧ (0 < k → l0 ≤ 4000) ∧ (1 < k → l1 ≤ 4000) ∧ (2 < k → l2 ≤ 4000)) (fun i => 3 - (intOf i).toNat)
  case atStart => exact ⟨0, by omega, by simp, by omega, by omega, by omega⟩
  case round =>
    obtain ⟨k, hk, rfl, m0, m1, m2⟩ := hrel
    have hk4 : k = 0 ∨ k = 1 ∨ k = 2 ∨ k = 3 := by omega
    rcases hk4 with rfl | rfl | rfl | rfl
    · by_cases hbig : 4000 < l0
      · have hd : decide ((4000 : Int) < (l0 : Int)) = true := decide_eq_true (by omega)
        go_wp2_with fail
        refine (alive_any _).mono ?_
        rintro e w' ⟨rfl, hb⟩
        go_wp2_with fail
        go_ret
        exact ⟨rfl, HBX.out.trans (hb.mono (by simp))⟩
      · have hd : decide ((4000 : Int) < (l0 : Int)) = false := decide_eq_false (by omega)
        go_wp2_with fail
        go_round
        case rel => exact ⟨1, by omega, by go_num, fun _ => by omega, by omega, by omega⟩
        case measure => simp [intOf]
    · by_cases hbig : 4000 < l1
      · have hd : decide ((4000 : Int) < (l1 : Int)) = true := decide_eq_true (by omega)
        go_wp2_with fail
        refine (alive_any _).mono ?_
        rintro e w' ⟨rfl, hb⟩
        go_wp2_with fail
        go_ret
        exact ⟨rfl, HBX.out.trans (hb.mono (by simp))⟩
      · have hd : decide ((4000 : Int) < (l1 : Int)) = false := decide_eq_false (by omega)
        go_wp2_with fail
        go_round
        case rel => exact ⟨2, by omega, by go_num, fun _ => m0 (by omega), fun _ => by omega, by omega⟩
        case measure => simp [intOf]
    · by_cases hbig : 4000 < l2
      · have hd : decide ((4000 : Int) < (l2 : Int)) = true := decide_eq_true (by omega)
        go_wp2_with fail
        refine (alive_any _).mono ?_
        rintro e w' ⟨rfl, hb⟩
        go_wp2_with fail
        go_ret
        exact ⟨rfl, HBX.out.trans (hb.mono (by simp))⟩
      · have hd : decide ((4000 : Int) < (l2 : Int)) = false := decide_eq_false (by omega)
        go_wp2_with fail
        go_round
        case rel => exact ⟨3, by omega, by go_num, fun _ => m0 (by omega), fun _ => m1 (by omega), fun _ => by omega⟩
        case measure => simp [intOf]
    · have n0 := m0 (by omega)
      have n1 := m1 (by omega)
      have n2 := m2 (by omega)
      clear m0 m1 m2 hk
      go_wp2_with fail
      obtain ⟨X, hX⟩ : ∃ X, w.alloc (.cells #[.slice a0 l0 c0, .slice a1 l1 c1, .slice a2 l2 c2] 37) = X := ⟨_, rfl⟩
      have hsz : X.heap.size = w.heap.size + 1 := by rw [← hX]; simp
      rw [hX] at k0 k1 k2 HBX ⊢
      have r0 : Ro X X.heap.size a0 (u8s b0) := (h0.below HBX.out (Nat.le_refl _)).mono HBX.out.size
      have r1 : Ro X X.heap.size a1 (u8s b1) := (h1.below HBX.out (Nat.le_refl _)).mono HBX.out.size
      have r2 : Ro X X.heap.size a2 (u8s b2) := (h2.below HBX.out (Nat.le_refl _)).mono HBX.out.size
      have hlt : w.heap.size < X.heap.size := by omega
      have hlit : Lst ((X.alloc (.cells #[] 5)).drew) X.heap.size 5 (.slice (some ⟨X.heap.size, 0, none⟩) 0 0) [] := Lst.lit X X.heap.size 5 #[] (Nat.le_refl _) (by simp)
      have hbA : Below X.heap.size X ((X.alloc (.cells #[] 5)).drew) := ((Below.refl _ _).alloc (Nat.le_refl _) _).drew
      have HK := Lib.hid (And.intro k0 (And.intro k1 k2))
      clear hX hsz
      go_region_held3 (fun w' => w'.cell? ⟨w.heap.size, 0, none⟩ = some (.slice a0 l0 c0) ∧ w'.cell? ⟨w.heap.size, 1, none⟩ = some (.slice a1 l1 c1) ∧ w'.cell? ⟨w.heap.size, 2, none⟩ = some (.slice a2 l2 c2))
        (first
          | exact ⟨cell_keep e3 HK.out.1 hlt, cell_keep e3 HK.out.2.1 hlt, cell_keep e3 HK.out.2.2 hlt⟩
          | exact ⟨cell_keep e2 HK.out.1 hlt, cell_keep e2 HK.out.2.1 hlt, cell_keep e2 HK.out.2.2 hlt⟩
          | exact ⟨cell_keep e1 HK.out.1 hlt, cell_keep e1 HK.out.2.1 hlt, cell_keep e1 HK.out.2.2 hlt⟩
          | exact ⟨cell_keep hbA HK.out.1 hlt, cell_keep hbA HK.out.2.1 hlt, cell_keep hbA HK.out.2.2 hlt⟩
          | go_keep)
        (first
          | (refine step_appB (by rfl) (.tmp 21) (.tmp 23) 22 (by rfl) X.heap.size 5 (.int .u8 0) 1 Try.underlying22 Try.info_u8 rfl _ ([]) (by rfl) hlit a0 X.heap.size l0 c0 (u8s b0) (by rfl) (by simpa using HL.out.1) (r0.below hbA (Nat.le_refl _)) (u8s_oneCell _) (by simp; omega) (by simp; omega) X.heap.size X hbA (Nat.le_refl _) (by simp) ?_; intro v1 W1 o1 e1 z1)
          | (refine step_appB (by rfl) (.tmp 24) (.tmp 26) 22 (by rfl) X.heap.size 5 (.int .u8 0) 1 Try.underlying22 Try.info_u8 rfl _ ([] ++ u8s b0) (by rfl) o1.out a1 X.heap.size l1 c1 (u8s b1) (by rfl) (by simpa using HL.out.2.1) (r1.below e1 (Nat.le_refl _)) (u8s_oneCell _) (by simp; have := HL.out.1; omega) (by simp; have := HL.out.1; omega) X.heap.size X e1 (Nat.le_refl _) e1.size ?_; intro v2 W2 o2 e2 z2)
          | (refine step_appB (by rfl) (.tmp 27) (.tmp 29) 22 (by rfl) X.heap.size 5 (.int .u8 0) 1 Try.underlying22 Try.info_u8 rfl _ (([] ++ u8s b0) ++ u8s b1) (by rfl) o2.out a2 X.heap.size l2 c2 (u8s b2) (by rfl) (by simpa using HL.out.2.2) (r2.below e2 (Nat.le_refl _)) (u8s_oneCell _) (by simp; have := HL.out.1; have := HL.out.2.1; omega) (by simp; have := HL.out.1; have := HL.out.2.1; omega) X.heap.size X e2 (Nat.le_refl _) e2.size ?_; intro v3 W3 o3 e3 z3))
      have hlall : (b0 ++ (b1 ++ b2)).length = l0 + l1 + l2 := by rw [List.length_append, List.length_append, HL.out.1, HL.out.2.1, HL.out.2.2]; omega
      have o3' := o3.out
      rw [show ([] ++ u8s b0 ++ u8s b1) ++ u8s b2 = u8s (b0 ++ (b1 ++ b2)) by simp [u8s]] at o3'
      obtain ⟨a3, c3, hv3, hr3, _, _⟩ := o3'.form
      rw [u8s_length, hlall] at hv3
      subst hv3
      have hW3 : w.heap.size < W3.heap.size := by have := e3.size; omega
      have q0 := cell_keep e3 HK.out.1 hlt
      have q1 := cell_keep e3 HK.out.2.1 hlt
      have q2 := cell_keep e3 HK.out.2.2 hlt
      have s0r := (r0.below e3 (Nat.le_refl _)).mono e3.size
      have s1r := (r1.below e3 (Nat.le_refl _)).mono e3.size
      have s2r := (r2.below e3 (Nat.le_refl _)).mono e3.size
      have hbF : Below w.heap.size w W3 := HBX.out.trans (e3.mono HBX.out.size)
      have HBF := Lib.hid hbF
      -- what each call answers, in every world that holds these pieces
      have ks : ∀ W, Below W3.heap.size W3 W → Calls Try.prog 10 #[.slice a3 (l0 + l1 + l2) c3] W fun e w' => e = .returned (.int .u32 (sumN (b0 ++ (b1 ++ b2)) : Nat)) ∧ Below W.heap.size W w' := fun W hW =>
        sum_any (b0 ++ (b1 ++ b2)) _ _ c3 W hlall ((hr3.below hW (Nat.le_refl _)).mono hW.size) (by omega)
      have ka : ∀ W, Below W3.heap.size W3 W → Calls Try.prog 10 #[.slice a0 l0 c0] W fun e w' => e = .returned (.int .u32 (sumN b0 : Nat)) ∧ Below W.heap.size W w' := fun W hW =>
        sum_any b0 l0 a0 c0 W HL.out.1 ((s0r.below hW (Nat.le_refl _)).mono hW.size) g0
      have kb : ∀ W, Below W3.heap.size W3 W → Calls Try.prog 10 #[.slice a1 l1 c1] W fun e w' => e = .returned (.int .u32 (sumN b1 : Nat)) ∧ Below W.heap.size W w' := fun W hW =>
        sum_any b1 l1 a1 c1 W HL.out.2.1 ((s1r.below hW (Nat.le_refl _)).mono hW.size) g1
      have kc : ∀ W, Below W3.heap.size W3 W → Calls Try.prog 10 #[.slice a2 l2 c2] W fun e w' => e = .returned (.int .u32 (sumN b2 : Nat)) ∧ Below W.heap.size W w' := fun W hW =>
        sum_any b2 l2 a2 c2 W HL.out.2.2 ((s2r.below hW (Nat.le_refl _)).mono hW.size) g2
      have km1 : ∀ W, Below W3.heap.size W3 W → Calls Try.prog 12 #[.int .u32 (sumN b0 : Nat), .slice a1 l1 c1] W fun e w' => e = .returned (.int .u32 (sumN (b0 ++ b1) : Nat)) ∧ Below W.heap.size W w' := fun W hW => by
        have := more_any (sumN b0) b1 l1 a1 c1 W HL.out.2.1 ((s1r.below hW (Nat.le_refl _)).mono hW.size) (moreN_lt _ _) g1
        rwa [show moreN (sumN b0) b1 = sumN (b0 ++ b1) from moreN_moreN 1 b0 b1] at this
      have km2 : ∀ W, Below W3.heap.size W3 W → Calls Try.prog 12 #[.int .u32 (sumN (b0 ++ b1) : Nat), .slice a2 l2 c2] W fun e w' => e = .returned (.int .u32 (sumN (b0 ++ (b1 ++ b2)) : Nat)) ∧ Below W.heap.size W w' := fun W hW => by
        have := more_any (sumN (b0 ++ b1)) b2 l2 a2 c2 W HL.out.2.2 ((s2r.below hW (Nat.le_refl _)).mono hW.size) (moreN_lt _ _) g2
        rwa [show moreN (sumN (b0 ++ b1)) b2 = sumN (b0 ++ (b1 ++ b2)) from by rw [← List.append_assoc]; exact moreN_moreN 1 (b0 ++ b1) b2] at this
      have kj1 : ∀ W, Calls Try.prog 14 #[.int .u32 (sumN b0 : Nat), .int .u32 (sumN b1 : Nat), .int .i64 (l1 : Int)] W fun e w' => e = .returned (.int .u32 (sumN (b0 ++ b1) : Nat)) ∧ Below W.heap.size W w' := fun W => by
        have := join_any (sumN b0) (sumN b1) (l1 : Int) W (moreN_lt _ _) (moreN_lt _ _) (by omega) (by omega)
        rwa [joinN_sum b0 b1 (l1 : Int) (by rw [HL.out.2.1])] at this
      have kj2 : ∀ W, Calls Try.prog 14 #[.int .u32 (sumN (b0 ++ b1) : Nat), .int .u32 (sumN b2 : Nat), .int .i64 (l2 : Int)] W fun e w' => e = .returned (.int .u32 (sumN (b0 ++ (b1 ++ b2)) : Nat)) ∧ Below W.heap.size W w' := fun W => by
        have := join_any (sumN (b0 ++ b1)) (sumN b2) (l2 : Int) W (moreN_lt _ _) (moreN_lt _ _) (by omega) (by omega)
        rwa [joinN_sum (b0 ++ b1) b2 (l2 : Int) (by rw [HL.out.2.2]), List.append_assoc] at this
      have kj3 : ∀ W, Calls Try.prog 14 #[.int .u32 (sumN b1 : Nat), .int .u32 (sumN b2 : Nat), .int .i64 (l2 : Int)] W fun e w' => e = .returned (.int .u32 (sumN (b1 ++ b2) : Nat)) ∧ Below W.heap.size W w' := fun W => by
        have := join_any (sumN b1) (sumN b2) (l2 : Int) W (moreN_lt _ _) (moreN_lt _ _) (by omega) (by omega)
        rwa [joinN_sum b1 b2 (l2 : Int) (by rw [HL.out.2.2])] at this
      have kj4 : ∀ W, Calls Try.prog 14 #[.int .u32 (sumN b0 : Nat), .int .u32 (sumN (b1 ++ b2) : Nat), .int .i64 ((l1 : Int) + (l2 : Int))] W fun e w' => e = .returned (.int .u32 (sumN (b0 ++ (b1 ++ b2)) : Nat)) ∧ Below W.heap.size W w' := fun W => by
        have := join_any (sumN b0) (sumN (b1 ++ b2)) ((l1 : Int) + (l2 : Int)) W (moreN_lt _ _) (moreN_lt _ _) (by omega) (by omega)
        rwa [joinN_sum b0 (b1 ++ b2) ((l1 : Int) + (l2 : Int)) (by rw [List.length_append, HL.out.2.1, HL.out.2.2]; omega)] at this
      generalize sumN (b0 ++ (b1 ++ b2)) = S at ks km2 kj2 kj4
      generalize sumN (b0 ++ b1) = t1 at km1 km2 kj1 kj2
      generalize sumN (b1 ++ b2) = t2 at kj3 kj4
      generalize sumN b0 = x0 at ka km1 kj1 kj4
      generalize sumN b1 = x1 at kb kj1 kj3
      generalize sumN b2 = x2 at kc kj2 kj3
      have KS := Lib.hid ks
      have KA := Lib.hid ka
      have KB := Lib.hid kb
      have KC := Lib.hid kc
      have KM1 := Lib.hid km1
      have KM2 := Lib.hid km2
      have KJ1 := Lib.hid kj1
      have KJ2 := Lib.hid kj2
      have KJ3 := Lib.hid kj3
      have KJ4 := Lib.hid kj4
      have HQ := Lib.hid (And.intro q0 (And.intro q1 q2))
      clear ks ka kb kc km1 km2 kj1 kj2 kj3 kj4 o1 o2 o3 o3' e1 e2 e3 z1 z2 z3 hlit hbA r0 r1 r2 s0r s1r s2r hbF hlall hr3 k0 k1 k2 hlt
      go_wp2_with fail
      refine (KS.out _ (Below.refl _ _)).mono ?_
      rintro e Y1 ⟨rfl, hy1⟩
      have HY1 := Lib.hid hy1
      have p0 := cell_keep hy1 HQ.out.1 hW3
      clear q0 q1 q2 hy1
      go_wp2_with fail
      refine (KA.out _ HY1.out).mono ?_
      rintro e Y2 ⟨rfl, hy2⟩
      have hy02 := HY1.out.trans (hy2.mono HY1.out.size)
      have HY2 := Lib.hid hy02
      have p1 := cell_keep hy02 HQ.out.2.1 hW3
      clear p0 hy2 hy02
      go_wp2_with fail
      refine (KB.out _ HY2.out).mono ?_
      rintro e Y3 ⟨rfl, hy3⟩
      have hy03 := HY2.out.trans (hy3.mono HY2.out.size)
      have HY3 := Lib.hid hy03
      have p2 := cell_keep hy03 HQ.out.2.2 hW3
      clear p1 hy3 hy03
      go_wp2_with fail
      refine (KC.out _ HY3.out).mono ?_
      rintro e Y4 ⟨rfl, hy4⟩
      have hy04 := HY3.out.trans (hy4.mono HY3.out.size)
      have HY4 := Lib.hid hy04
      clear p2 hy4
      go_wp2_with fail
      clear hy04
      go_region_held3 (fun w' => w'.cell? ⟨w.heap.size, 1, none⟩ = some (.slice a1 l1 c1) ∧ w'.cell? ⟨w.heap.size, 2, none⟩ = some (.slice a2 l2 c2) ∧ Below W3.heap.size W3 w')
        (first
          | assumption
          | exact ⟨cell_keep HY4.out.drew HQ.out.2.1 hW3, cell_keep HY4.out.drew HQ.out.2.2 hW3, HY4.out.drew⟩
          | (have hH := ‹World.cell? _ ⟨w.heap.size, 1, none⟩ = _ ∧ _›; exact ⟨(hb9.cell (Nat.lt_of_lt_of_le hW3 hH.2.2.size)).trans hH.1, (hb9.cell (Nat.lt_of_lt_of_le hW3 hH.2.2.size)).trans hH.2.1, hH.2.2.trans (hb9.mono hH.2.2.size)⟩))
        (first
          | (go_at_call 14; (with_reducible refine (KJ1.out _).mono ?_); rintro e w9 ⟨rfl, hb9⟩)
          | (go_at_call 14; (with_reducible refine (KJ2.out _).mono ?_); rintro e w9 ⟨rfl, hb9⟩))
      have hH1 := ‹World.cell? _ ⟨w.heap.size, 1, none⟩ = _ ∧ _›
      have HR1 := Lib.hid hH1.2.2
      clear hH1 hb9
      go_wp2_with fail
      have f1 : IntKind.i64.wrap ((l1 : Int) + (l2 : Int)) = (l1 : Int) + (l2 : Int) := IntWalk.i64_in _ (by omega)
      go_region_held3 (fun w' => w'.cell? ⟨w.heap.size, 1, none⟩ = some (.slice a1 l1 c1) ∧ w'.cell? ⟨w.heap.size, 2, none⟩ = some (.slice a2 l2 c2) ∧ Below W3.heap.size W3 w')
        (first
          | assumption
          | exact ⟨cell_keep HR1.out.drew HQ.out.2.1 hW3, cell_keep HR1.out.drew HQ.out.2.2 hW3, HR1.out.drew⟩
          | (have hH := ‹World.cell? _ ⟨w.heap.size, 1, none⟩ = _ ∧ _›; exact ⟨(hb9.cell (Nat.lt_of_lt_of_le hW3 hH.2.2.size)).trans hH.1, (hb9.cell (Nat.lt_of_lt_of_le hW3 hH.2.2.size)).trans hH.2.1, hH.2.2.trans (hb9.mono hH.2.2.size)⟩))
        (first
          | (go_at_call 14; (with_reducible refine (KJ3.out _).mono ?_); rintro e w9 ⟨rfl, hb9⟩)
          | (go_at_call 14; (with_reducible refine (KJ4.out _).mono ?_); rintro e w9 ⟨rfl, hb9⟩))
      have hH2 := ‹World.cell? _ ⟨w.heap.size, 1, none⟩ = _ ∧ _›
      have HR2 := Lib.hid hH2.2.2
      clear hH2 hb9
      clear f1
      go_wp2_with fail
      go_region_held3 (fun w' => w'.cell? ⟨w.heap.size, 1, none⟩ = some (.slice a1 l1 c1) ∧ w'.cell? ⟨w.heap.size, 2, none⟩ = some (.slice a2 l2 c2) ∧ Below W3.heap.size W3 w')
        (first
          | assumption
          | exact ⟨cell_keep HR2.out.drew HQ.out.2.1 hW3, cell_keep HR2.out.drew HQ.out.2.2 hW3, HR2.out.drew⟩
          | (have hH := ‹World.cell? _ ⟨w.heap.size, 1, none⟩ = _ ∧ _›; exact ⟨(hb9.cell (Nat.lt_of_lt_of_le hW3 hH.2.2.size)).trans hH.1, (hb9.cell (Nat.lt_of_lt_of_le hW3 hH.2.2.size)).trans hH.2.1, hH.2.2.trans (hb9.mono hH.2.2.size)⟩))
        (first
          | (go_at_call 9; refine (alive_any _).mono ?_; rintro e w9 ⟨rfl, hb9⟩)
          | (go_at_call 12; have hH := ‹World.cell? _ ⟨w.heap.size, 1, none⟩ = _ ∧ _›; (with_reducible refine (KM1.out _ hH.2.2).mono ?_); clear hH; rintro e w9 ⟨rfl, hb9⟩)
          | (go_at_call 12; have hH := ‹World.cell? _ ⟨w.heap.size, 1, none⟩ = _ ∧ _›; (with_reducible refine (KM2.out _ hH.2.2).mono ?_); clear hH; rintro e w9 ⟨rfl, hb9⟩))
      have hH3 := ‹World.cell? _ ⟨w.heap.size, 1, none⟩ = _ ∧ _›
      have HR3 := Lib.hid hH3.2.2
      clear hH3 hb9
      go_wp2_with fail
      go_ret
      exact ⟨rfl, HBF.out.trans (HR3.out.mono HBF.out.size)⟩
theorem adlerPieces_row (w : World) {z : List Value} (hz : z.length = 3) (hr : ∀ x ∈ z, ∃ a l c zs, x = .slice a l c ∧ IsRow .u8 w a l c zs) :
    Calls Try.prog 5 #[.agg z.toArray] w fun e w' => e = .returned (.bool true) ∧ Below w.heap.size w w' := by
  obtain ⟨v0, v1, v2, rfl⟩ : ∃ v0 v1 v2, z = [v0, v1, v2] := by
    match z, hz with
    | [v0, v1, v2], _ => exact ⟨v0, v1, v2, rfl⟩
  obtain ⟨a0, l0, c0, z0, rfl, r0⟩ := hr v0 (by simp)
  obtain ⟨a1, l1, c1, z1, rfl, r1⟩ := hr v1 (by simp)
  obtain ⟨a2, l2, c2, z2, rfl, r2⟩ := hr v2 (by simp)
  obtain ⟨b0, h0, _, _, q0⟩ := r0.u8s
  obtain ⟨b1, h1, _, _, q1⟩ := r1.u8s
  obtain ⟨b2, h2, _, _, q2⟩ := r2.u8s
  exact adlerPieces_walk a0 a1 a2 l0 l1 l2 c0 c1 c2 b0 b1 b2 w h0 h1 h2 q0 q1 q2 r0.len_le r1.len_le r2.len_le
end Go.Proofs.Ytlkojonchlcpdaa
