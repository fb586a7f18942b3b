/-
  The law package's live question. No claim of its own.
-/
import Derived.Test.YtkdgoopldaoihaaGa20
import Derived.Test.YtkdgoopldaoihaaGa2
namespace Go.Proofs.Ytkdgoopldaoihaa
open Go.RowKit Go.Deep Go.Shelf
set_option linter.unusedVariables false
set_option linter.unusedSimpArgs false

/-- two lists in order with the same elements are one -/
theorem inc_unique {l m : List Int} (h1 : l.Pairwise (· < ·)) (h2 : m.Pairwise (· < ·)) (h : ∀ x, x ∈ l ↔ x ∈ m) : l = m := by
  have n1 : l.Nodup := h1.imp (fun h => by omega)
  have n2 : m.Nodup := h2.imp (fun h => by omega)
  have hp : l.Perm m := (List.perm_ext_iff_of_nodup n1 n2).2 h
  exact hp.eq_of_pairwise (fun a b _ _ h1 h2 => by omega) h1 h2
theorem R4.yes {w w' : World} {n : Ly} {e : Ending} (h : R4 w (0, n) e w') : ∃ T : LyT, e = .returned (.tuple #[T.val, .int .i64 0]) ∧ Hid (T.x = n) ∧ Hid (lright n = true) ∧ Hid (LyIn w' w'.heap.size T) ∧ Hid (Below w.heap.size w w') := by
  obtain ⟨h1, ⟨_, h2, T, h3, h4, h5⟩ | ⟨h2, _⟩⟩ := h
  · exact ⟨T, h3, Lib.hid h4, Lib.hid h2, Lib.hid h5, Lib.hid h1⟩
  · exact absurd rfl h2
theorem R4.no {w w' : World} {n : Ly} {c : Int} {e : Ending} (hc : c ≠ 0) (h : R4 w (c, n) e w') : e = .returned (.tuple #[zeroL, .int .i64 c]) ∧ Hid (Below w.heap.size w w') := by
  obtain ⟨h1, ⟨h2, _⟩ | ⟨_, h2⟩⟩ := h
  · exact absurd h2 hc
  · exact ⟨h2, Lib.hid h1⟩
def alX : Ly := ⟨4, [(0, [[1, 2], [3]]), (10, [[5]])], 0⟩
def alN : Ly := ⟨5, [(0, [[2, 7], [3]]), (10, [[5]])], 2⟩
theorem al_right : lright alX = true := by decide +kernel
theorem al_next : nextOf alX [1] [7] 2 = (0, alN) := by kernel_rfl
theorem al_chain : chainOf alN 8 = [2, 7] := by decide +kernel
theorem al_seg : segI alX 10 = 1 := by decide +kernel
theorem al_units : unitsOf alX = [1, 2, 3, 5] := by
  obtain ⟨h1, h2⟩ := unitsOf_is al_right
  refine inc_unique h1 (by decide) (fun x => ?_)
  rw [h2]
  show x ∈ [1, 2, 3, 5] ↔ _
  simp
def alT (s : Nat) : LyT := ⟨4, some ⟨s + 5, 0, none⟩, 2, [⟨0, some ⟨s + 2, 0, none⟩, 2, [⟨some ⟨s, 0, none⟩, 2, [1, 2]⟩, ⟨some ⟨s + 1, 0, none⟩, 1, [3]⟩]⟩, ⟨10, some ⟨s + 4, 0, none⟩, 1, [⟨some ⟨s + 3, 0, none⟩, 1, [5]⟩]⟩], 0⟩
set_option maxHeartbeats 4000000 in
set_option maxRecDepth 100000 in
theorem alive9_any (w : World) : Calls Try.prog 6 #[] w fun e w' => e = .returned (.bool true) ∧ Below w.heap.size w w' := by
  obtain ⟨W, hW⟩ : ∃ W, (((((((w.alloc (.cells #[.int .i64 1, .int .i64 2] 3)).alloc (.cells #[.int .i64 3] 3)).alloc (.cells #[.slice (some ⟨w.heap.size, 0, none⟩) 2 2, .slice (some ⟨w.heap.size + 1, 0, none⟩) 1 1] 36)).alloc (.cells #[.int .i64 5] 3)).alloc (.cells #[.slice (some ⟨w.heap.size + 3, 0, none⟩) 1 1] 36)).alloc (.cells #[.int .u64 0, .slice (some ⟨w.heap.size + 2, 0, none⟩) 2 2, .int .u64 10, .slice (some ⟨w.heap.size + 4, 0, none⟩) 1 1] 49)).alloc (.cells #[.int .u64 4, .slice (some ⟨w.heap.size + 5, 0, none⟩) 2 2, .int .i64 0] 25)) = W := ⟨_, rfl⟩
  have hWc : Chg [] w W := by rw [← hW]; exact (((((((Chg.refl [] w).alloc _).alloc _).alloc _).alloc _).alloc _).alloc _).alloc _
  have hz : W.heap.size = w.heap.size + 7 := by rw [← hW]; simp
  have o0 : Own W (w.heap.size) 3 [.int .i64 1, .int .i64 2] := by
    rw [← hW]
    have := Own.new w 3 [.int .i64 1, .int .i64 2]
    exact Own.alloc (Own.alloc (Own.alloc (Own.alloc (Own.alloc (Own.alloc ((by simpa using this)) _) _) _) _) _) _
  have o1 : Own W (w.heap.size + 1) 3 [.int .i64 3] := by
    rw [← hW]
    have := Own.new (w.alloc (.cells #[.int .i64 1, .int .i64 2] 3)) 3 [.int .i64 3]
    exact Own.alloc (Own.alloc (Own.alloc (Own.alloc (Own.alloc ((by simpa using this)) _) _) _) _) _
  have o2 : Own W (w.heap.size + 2) 36 [.slice (some ⟨w.heap.size, 0, none⟩) 2 2, .slice (some ⟨w.heap.size + 1, 0, none⟩) 1 1] := by
    rw [← hW]
    have := Own.new ((w.alloc (.cells #[.int .i64 1, .int .i64 2] 3)).alloc (.cells #[.int .i64 3] 3)) 36 [.slice (some ⟨w.heap.size, 0, none⟩) 2 2, .slice (some ⟨w.heap.size + 1, 0, none⟩) 1 1]
    exact Own.alloc (Own.alloc (Own.alloc (Own.alloc ((by simpa using this)) _) _) _) _
  have o3 : Own W (w.heap.size + 3) 3 [.int .i64 5] := by
    rw [← hW]
    have := Own.new (((w.alloc (.cells #[.int .i64 1, .int .i64 2] 3)).alloc (.cells #[.int .i64 3] 3)).alloc (.cells #[.slice (some ⟨w.heap.size, 0, none⟩) 2 2, .slice (some ⟨w.heap.size + 1, 0, none⟩) 1 1] 36)) 3 [.int .i64 5]
    exact Own.alloc (Own.alloc (Own.alloc ((by simpa using this)) _) _) _
  have o4 : Own W (w.heap.size + 4) 36 [.slice (some ⟨w.heap.size + 3, 0, none⟩) 1 1] := by
    rw [← hW]
    have := Own.new ((((w.alloc (.cells #[.int .i64 1, .int .i64 2] 3)).alloc (.cells #[.int .i64 3] 3)).alloc (.cells #[.slice (some ⟨w.heap.size, 0, none⟩) 2 2, .slice (some ⟨w.heap.size + 1, 0, none⟩) 1 1] 36)).alloc (.cells #[.int .i64 5] 3)) 36 [.slice (some ⟨w.heap.size + 3, 0, none⟩) 1 1]
    exact Own.alloc (Own.alloc ((by simpa using this)) _) _
  have o5 : Own W (w.heap.size + 5) 49 [.int .u64 0, .slice (some ⟨w.heap.size + 2, 0, none⟩) 2 2, .int .u64 10, .slice (some ⟨w.heap.size + 4, 0, none⟩) 1 1] := by
    rw [← hW]
    have := Own.new (((((w.alloc (.cells #[.int .i64 1, .int .i64 2] 3)).alloc (.cells #[.int .i64 3] 3)).alloc (.cells #[.slice (some ⟨w.heap.size, 0, none⟩) 2 2, .slice (some ⟨w.heap.size + 1, 0, none⟩) 1 1] 36)).alloc (.cells #[.int .i64 5] 3)).alloc (.cells #[.slice (some ⟨w.heap.size + 3, 0, none⟩) 1 1] 36)) 49 [.int .u64 0, .slice (some ⟨w.heap.size + 2, 0, none⟩) 2 2, .int .u64 10, .slice (some ⟨w.heap.size + 4, 0, none⟩) 1 1]
    exact Own.alloc ((by simpa using this)) _
  have o6 : Own W (w.heap.size + 6) 25 [.int .u64 4, .slice (some ⟨w.heap.size + 5, 0, none⟩) 2 2, .int .i64 0] := by
    rw [← hW]
    have := Own.new ((((((w.alloc (.cells #[.int .i64 1, .int .i64 2] 3)).alloc (.cells #[.int .i64 3] 3)).alloc (.cells #[.slice (some ⟨w.heap.size, 0, none⟩) 2 2, .slice (some ⟨w.heap.size + 1, 0, none⟩) 1 1] 36)).alloc (.cells #[.int .i64 5] 3)).alloc (.cells #[.slice (some ⟨w.heap.size + 3, 0, none⟩) 1 1] 36)).alloc (.cells #[.int .u64 0, .slice (some ⟨w.heap.size + 2, 0, none⟩) 2 2, .int .u64 10, .slice (some ⟨w.heap.size + 4, 0, none⟩) 1 1] 49)) 25 [.int .u64 4, .slice (some ⟨w.heap.size + 5, 0, none⟩) 2 2, .int .i64 0]
    exact (by simpa using this)
  have hin : LyIn W W.heap.size (alT w.heap.size) := by
    refine ⟨o5.ro _ o5.lt, fun s hs => ?_⟩
    simp only [alT, List.mem_cons, List.not_mem_nil, or_false] at hs
    rcases hs with rfl | rfl
    · refine ⟨o2.ro _ o2.lt, fun c hc => ?_⟩
      simp only [List.mem_cons, List.not_mem_nil, or_false] at hc
      rcases hc with rfl | rfl
      · exact o0.ro _ o0.lt
      · exact o1.ro _ o1.lt
    · refine ⟨o4.ro _ o4.lt, fun c hc => ?_⟩
      simp only [List.mem_cons, List.not_mem_nil, or_false] at hc
      subst hc
      exact o3.ro _ o3.lt
  have hfit : SgFit (alT w.heap.size).sg := right_fit al_right
  have HIN := Lib.hid hin
  have HFIT := Lib.hid hfit
  have HWC := Lib.hid hWc
  have HW := Lib.hid hW
  have HO := Lib.hid o6
  clear o0 o1 o2 o3 o4 o5 hin hfit hWc hW hz
  have c0 := o6.cell 0
  have c1 := o6.cell 1
  have c2 := o6.cell 2
  have hz6 := o6.lt
  simp at c0 c1 c2
  clear o6
  have HNX := Lib.hid (fun (W' : World) (hb : Below W.heap.size W W') (a1 a2 : Option Addr) (h1 : Ro W' W'.heap.size a1 (i64s [1])) (h2 : Ro W' W'.heap.size a2 (i64s [7])) (hn : a2 ≠ none) => next_any (alT w.heap.size) W'.heap.size [1] [7] a1 a2 1 1 2 W' ((HIN.out.below hb (Nat.le_refl _)).mono hb.size) (Nat.le_refl _) HFIT.out h1 (by simp) h2 (by simp) (by omega) (fun h => absurd h hn))
  change Hid (∀ (W' : World) (hb : Below W.heap.size W W') (a1 a2 : Option Addr) (h1 : Ro W' W'.heap.size a1 (i64s [1])) (h2 : Ro W' W'.heap.size a2 (i64s [7])) (hn : a2 ≠ none), Calls _ _ #[.agg #[.int .u64 4, .slice (some ⟨w.heap.size + 5, 0, none⟩) 2 2, .int .i64 0], .slice a1 1 1, .slice a2 1 1, .int .i64 2] W' (R4 W' (nextOf alX [1] [7] 2))) at HNX
  rw [al_next] at HNX
  have HSE := Lib.hid (fun (W' : World) (hb : Below W.heap.size W W') => segment_any (alT w.heap.size) W.heap.size 10 W' (HIN.out.below hb (Nat.le_refl _)) hb.size HFIT.out)
  change Hid (∀ (W' : World) (hb : Below W.heap.size W W'), Calls _ _ #[.agg #[.int .u64 4, .slice (some ⟨w.heap.size + 5, 0, none⟩) 2 2, .int .i64 0], .int .u64 10] W' fun e w' => e = .returned (.int .i64 (segI alX 10)) ∧ Below W'.heap.size W' w') at HSE
  rw [al_seg] at HSE
  have HUN := Lib.hid (fun (W' : World) (hb : Below W.heap.size W W') => units_any (alT w.heap.size) W.heap.size W' (HIN.out.below hb (Nat.le_refl _)) hb.size HFIT.out)
  change Hid (∀ (W' : World) (hb : Below W.heap.size W W'), Calls _ _ #[.agg #[.int .u64 4, .slice (some ⟨w.heap.size + 5, 0, none⟩) 2 2, .int .i64 0]] W' fun e w' => ∃ v, e = .returned v ∧ Lst w' W'.heap.size 3 v (i64s (unitsOf alX)) ∧ Below W'.heap.size W' w') at HUN
  rw [al_units] at HUN
  go_enter Try.func6, Try.ntmps6
  go_upto_region 2 with fail
  rw [HW.out]
  have hb2 : Below W.heap.size W ((W.alloc (.cells #[.int .i64 1] 3)).alloc (.cells #[.int .i64 7] 3)) := ((Below.refl _ _).alloc (Nat.le_refl _) _).alloc (by simp) _
  have r1 : Own ((W.alloc (.cells #[.int .i64 1] 3)).alloc (.cells #[.int .i64 7] 3)) W.heap.size 3 (i64s [1]) := (Own.new W 3 _).alloc _
  have r2 : Own ((W.alloc (.cells #[.int .i64 1] 3)).alloc (.cells #[.int .i64 7] 3)) (W.heap.size + 1) 3 (i64s [7]) := by
    have := Own.new (W.alloc (.cells #[.int .i64 1] 3)) 3 [.int .i64 7]
    have h2 : Own ((W.alloc (.cells #[.int .i64 1] 3)).alloc (.cells #[.int .i64 7] 3)) (W.heap.size + 1) 3 [.int .i64 7] := by simpa using this
    exact h2
  have HN2 := Lib.hid (HNX.out _ hb2 (some ⟨W.heap.size, 0, none⟩) (some ⟨W.heap.size + 1, 0, none⟩) (r1.ro _ r1.lt) (r2.ro _ r2.lt) (by simp))
  have HB2 := Lib.hid hb2
  clear hb2 r1 r2
  go_wp2_with fail
  refine HN2.out.mono ?_
  intro e w1 hR4
  obtain ⟨T, rfl, HTX, HRT, HTIN, HBB1⟩ := hR4.yes
  clear hR4
  have HB1 : Hid (Below W.heap.size W w1) := Lib.hid (HB2.out.trans (HBB1.out.mono HB2.out.size))
  have HTF := Lib.hid (right_fit (A := T) (by rw [HTX.out]; exact HRT.out))
  have hTe : (T.e : Int) = 5 := by have h2 : T.e = 5 := congrArg Ly.e HTX.out; omega
  have hTq : T.q = 2 := congrArg Ly.q HTX.out
  have HCN := Lib.hid (fun (W' : World) (hb : Below w1.heap.size w1 W') => chain_any T w1.heap.size 8 W' (HTIN.out.below hb (Nat.le_refl _)) hb.size HTF.out)
  rw [HTX.out] at HCN
  rw [al_chain] at HCN
  have HO1 := Lib.hid (HO.out.below HB1.out HO.out.lt)
  clear c0 c1 c2 hz6
  have hTv : T.val = .agg #[.int .u64 5, .slice T.a T.sg.length T.c, .int .i64 2] := by unfold LyT.val; rw [hTe, hTq]
  rw [hTv] at HCN ⊢
  clear hTv hTe hTq
  generalize T.sg.length = tn at *
  generalize T.a = ta at *
  generalize T.c = tc at *
  have d0 := HO1.out.cell 0
  have d1 := HO1.out.cell 1
  have d2 := HO1.out.cell 2
  have hz1 := HO1.out.lt
  simp at d0 d1 d2
  obtain ⟨W3, hW3⟩ : ∃ W3, w1.alloc (.cells #[.int .u64 5, .slice ta tn tc, .int .i64 2] 25) = W3 := ⟨_, rfl⟩
  have hb3 : Below w1.heap.size w1 W3 := by rw [← hW3]; exact (Below.refl _ _).alloc (Nat.le_refl _) _
  have o7 : Own W3 w1.heap.size 25 [.int .u64 5, .slice ta tn tc, .int .i64 2] := by rw [← hW3]; exact Own.new w1 _ _
  have HO7 := Lib.hid o7
  have HB3 := Lib.hid hb3
  have HW3 := Lib.hid hW3
  have HO13 := Lib.hid (HO1.out.below hb3 hz1)
  clear hb3 o7 hW3
  go_wp2_with fail
  rw [HW3.out]
  refine (HCN.out W3 HB3.out).mono ?_
  rintro e w4 ⟨v4, rfl, hl4, hb4⟩
  have HB4 : Hid (Below W.heap.size W w4) := Lib.hid ((HB1.out.trans (HB3.out.mono HB1.out.size)).trans (hb4.mono (Nat.le_trans HB1.out.size HB3.out.size)))
  have HO74 := Lib.hid (HO7.out.below hb4 HO7.out.lt)
  have HO14 := Lib.hid (HO13.out.below hb4 HO13.out.lt)
  obtain ⟨a4, c4, rfl, hr4, hc4, _⟩ := hl4.form
  obtain ⟨b4, off4, rfl, hb44, hcc⟩ := hr4.i64 (by decide)
  have e0 := hcc 0 (by decide)
  have e1 := hcc 1 (by decide)
  simp only [Nat.add_zero] at e0
  change w4.cell? ⟨b4, off4, none⟩ = some (.int .i64 2) at e0
  change w4.cell? ⟨b4, off4 + 1, none⟩ = some (.int .i64 7) at e1
  have g0 := HO74.out.cell 0
  have g1 := HO74.out.cell 1
  have g2 := HO74.out.cell 2
  have q0 := HO14.out.cell 0
  have q1 := HO14.out.cell 1
  have q2 := HO14.out.cell 2
  have hz7 := HO74.out.lt
  have hz4 := HO14.out.lt
  simp at g0 g1 g2 q0 q1 q2
  have HS4 := Lib.hid (HSE.out _ HB4.out)
  clear hb4 hl4 hr4 hcc d0 d1 d2 hz1
  change 2 ≤ c4 at hc4
  rw [show (i64s [2, 7]).length = 2 from rfl]
  go_wp2_with fail
  refine HS4.out.mono ?_
  rintro e w5 ⟨rfl, hb5⟩
  have HB5 : Hid (Below W.heap.size W w5) := Lib.hid (HB4.out.trans (hb5.mono HB4.out.size))
  have HO15 := Lib.hid (HO14.out.below hb5 HO14.out.lt)
  have p0 := HO15.out.cell 0
  have p1 := HO15.out.cell 1
  have p2 := HO15.out.cell 2
  have hz5 := HO15.out.lt
  simp at p0 p1 p2
  have HU5 := Lib.hid (HUN.out _ HB5.out)
  clear hb5 g0 g1 g2 q0 q1 q2 e0 e1 hz7 hz4
  go_wp2_with fail
  refine HU5.out.mono ?_
  rintro e w6 ⟨v6, rfl, hl6, hb6⟩
  have HB6 : Hid (Below w.heap.size w w6) := Lib.hid ((HWC.out.low.trans (HB5.out.mono HWC.out.low.size)).trans (hb6.mono (Nat.le_trans HWC.out.low.size HB5.out.size)))
  obtain ⟨a6, c6, rfl, _, _, _⟩ := hl6.form
  rw [show (i64s [1, 2, 3, 5]).length = 4 from rfl]
  clear hl6 hb6 p0 p1 p2 hz5
  go_wp2_with fail
  go_ret
  exact ⟨rfl, HB6.out⟩
end Go.Proofs.Ytkdgoopldaoihaa
