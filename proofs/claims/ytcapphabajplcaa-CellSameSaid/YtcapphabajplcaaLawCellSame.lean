/-
  The statement CellSame: the walk of its Go text, by the contracts of what it calls.
-/
import Derived.Test.YtcapphabajplcaaOp7
import Derived.Test.YtcapphabajplcaaAlv7
import Derived.Test.YtcapphabajplcaaCeT
namespace Go.Proofs.Ytcapphabajplcaa
open Go.RowKit Go.Deep
set_option linter.unusedVariables false
set_option linter.unusedSimpArgs false

theorem alike_symm (x y : Ce) : alike y x = alike x y := by
  cases h : alike x y with
  | true => rw [alike_iff.1 h]; exact alike_iff.2 rfl
  | false =>
    cases h2 : alike y x with
    | false => rfl
    | true => rw [alike_iff.1 h2] at h; rw [alike_iff.2 rfl] at h; cases h
theorem alike_self (x : Ce) : alike x x = true := alike_iff.2 rfl
theorem enc_alike {x y : Ce} {bs cs : List UInt8} (hx : right x = true) (hy : right y = true) (h1 : IsEnc x bs) (h2 : IsEnc y cs) : decide (bs = cs) = alike x y := by
  cases h : alike x y with
  | true =>
    obtain rfl := alike_iff.1 h
    simpa using h1.unique h2
  | false =>
    simp only [decide_eq_false_iff_not]
    rintro rfl
    rw [alike_iff.2 (enc_inj h1 hx h2 hy)] at h
    cases h
set_option maxRecDepth 100000 in
set_option maxHeartbeats 8000000 in
theorem cellSame_any (w : World) {A C : CeT} (h : CeOk w A) (h2 : CeOk w C) :
    Calls Try.prog 4 #[A.val, C.val] w fun e w' => e = .returned (.bool true) ∧ Below w.heap.size w w' := by
  obtain ⟨x, a, c, a2, c2⟩ := A
  obtain ⟨-, hd, hdl, hb, hbl, hfit⟩ := h
  obtain ⟨y, b, d, b2, d2⟩ := C
  obtain ⟨-, hd', hdl', hb', hbl', hfit'⟩ := h2
  simp only at hd hdl hb hbl hfit hd' hdl' hb' hbl' hfit'
  unfold CeT.val
  simp only
  have HAl := Lib.hid (fun W => alive_any W)
  have HD := Lib.hid hd
  have HBk := Lib.hid hb
  have HD' := Lib.hid hd'
  have HBk' := Lib.hid hb'
  obtain ⟨f, hf⟩ : ∃ f, f = (decide (x.d.length ≤ 400) && decide (x.b.length ≤ 30)) := ⟨_, rfl⟩
  obtain ⟨g, hg⟩ : ∃ g, g = (decide (y.d.length ≤ 400) && decide (y.b.length ≤ 30)) := ⟨_, rfl⟩
  have HF := Lib.hid (fun W => fits_any x.k a x.d.length c a2 x.b.length c2 W)
  have HG := Lib.hid (fun W => fits_any y.k b y.d.length d b2 y.b.length d2 W)
  rw [← hf] at HF
  rw [← hg] at HG
  obtain ⟨t, HT⟩ : ∃ t, Hid (alike x y = t) := ⟨_, Lib.hid rfl⟩
  have HSxy : Hid (∀ W, Below w.heap.size w W → Calls Try.prog 12 #[cev x.k a x.d.length c a2 x.b.length c2, cev y.k b y.d.length d b2 y.b.length d2] W fun e w' => e = .returned (.bool t) ∧ Below W.heap.size W w') := Lib.hid fun W hW => by
    have := same_any x y a c a2 c2 b d b2 d2 w.heap.size W (HD.out.below hW (Nat.le_refl _)) (HBk.out.below hW (Nat.le_refl _)) (HD'.out.below hW (Nat.le_refl _)) (HBk'.out.below hW (Nat.le_refl _)) hW.size hbl hbl'
    rwa [HT.out] at this
  have HSyx : Hid (∀ W, Below w.heap.size w W → Calls Try.prog 12 #[cev y.k b y.d.length d b2 y.b.length d2, cev x.k a x.d.length c a2 x.b.length c2] W fun e w' => e = .returned (.bool t) ∧ Below W.heap.size W w') := Lib.hid fun W hW => by
    have := same_any y x b d b2 d2 a c a2 c2 w.heap.size W (HD'.out.below hW (Nat.le_refl _)) (HBk'.out.below hW (Nat.le_refl _)) (HD.out.below hW (Nat.le_refl _)) (HBk.out.below hW (Nat.le_refl _)) hW.size hbl' hbl
    rwa [alike_symm, HT.out] at this
  have HSxx : Hid (∀ W, Below w.heap.size w W → Calls Try.prog 12 #[cev x.k a x.d.length c a2 x.b.length c2, cev x.k a x.d.length c a2 x.b.length c2] W fun e w' => e = .returned (.bool true) ∧ Below W.heap.size W w') := Lib.hid fun W hW => by
    have := same_any x x a c a2 c2 a c a2 c2 w.heap.size W (HD.out.below hW (Nat.le_refl _)) (HBk.out.below hW (Nat.le_refl _)) (HD.out.below hW (Nat.le_refl _)) (HBk.out.below hW (Nat.le_refl _)) hW.size hbl hbl
    rwa [alike_self] at this
  have HRxy : Hid (x.b.length ≤ 30 → y.b.length ≤ 30 → ∀ W, Below w.heap.size w W → Calls Try.prog 13 #[cev x.k a x.d.length c a2 x.b.length c2, cev y.k b y.d.length d b2 y.b.length d2] W fun e w' => e = .returned (.bool t) ∧ Below W.heap.size W w') := Lib.hid fun l1 l2 W hW => by
    have := rsame_any x y a c a2 c2 b d b2 d2 w.heap.size W (HD.out.below hW (Nat.le_refl _)) (HBk.out.below hW (Nat.le_refl _)) (HD'.out.below hW (Nat.le_refl _)) (HBk'.out.below hW (Nat.le_refl _)) hW.size (by omega) (by omega)
    rwa [HT.out] at this
  have HEx0 : Hid (right x = false → ∀ W, Below w.heap.size w W → Calls Try.prog 10 #[cev x.k a x.d.length c a2 x.b.length c2] W fun e w' => e = .returned (.tuple #[.slice none 0 0, .int .i64 71]) ∧ Below W.heap.size W w') := Lib.hid fun hr W hW => enc_no x a c a2 c2 w.heap.size W (HBk.out.below hW (Nat.le_refl _)) hW.size hbl hdl hr
  have HEy0 : Hid (right y = false → ∀ W, Below w.heap.size w W → Calls Try.prog 10 #[cev y.k b y.d.length d b2 y.b.length d2] W fun e w' => e = .returned (.tuple #[.slice none 0 0, .int .i64 71]) ∧ Below W.heap.size W w') := Lib.hid fun hr W hW => enc_no y b d b2 d2 w.heap.size W (HBk'.out.below hW (Nat.le_refl _)) hW.size hbl' hdl' hr
  have HEx1 := Lib.hid (fun (hr : right x = true) W (hW : Below w.heap.size w W) => enc_yes x a c a2 c2 w.heap.size W (HD.out.below hW (Nat.le_refl _)) (HBk.out.below hW (Nat.le_refl _)) hW.size hfit hr)
  have HEy1 := Lib.hid (fun (hr : right y = true) W (hW : Below w.heap.size w W) => enc_yes y b d b2 d2 w.heap.size W (HD'.out.below hW (Nat.le_refl _)) (HBk'.out.below hW (Nat.le_refl _)) hW.size hfit' hr)
  have HL30 : Hid (f = true → g = true → x.b.length ≤ 30 ∧ y.b.length ≤ 30) := Lib.hid fun h1 h2 => by
    rw [hf] at h1
    rw [hg] at h2
    simp at h1 h2
    exact ⟨h1.2, h2.2⟩
  clear hd hdl hb hbl hfit hd' hdl' hb' hbl' hfit' hf hg
  generalize x.d.length = nd at *
  generalize x.b.length = nb at *
  generalize y.d.length = md at *
  generalize y.b.length = mb at *
  obtain ⟨w1, hW1⟩ : ∃ W, (w.alloc (.cells #[.int .i64 x.k, .slice a nd c, .slice a2 nb c2] 26)).alloc (.cells #[.int .i64 y.k, .slice b md d, .slice b2 mb d2] 26) = W := ⟨_, rfl⟩
  have HB1 : Hid (Below w.heap.size w w1) := Lib.hid (by rw [← hW1]; exact ((Below.refl _ _).alloc (Nat.le_refl _) _).alloc (by simp) _)
  have HA1 : Hid (Own w1 w.heap.size 26 [.int .i64 x.k, .slice a nd c, .slice a2 nb c2]) := Lib.hid (by rw [← hW1]; exact (Own.new w _ _).alloc _)
  have HC1 : Hid (Own w1 (w.heap.size + 1) 26 [.int .i64 y.k, .slice b md d, .slice b2 mb d2]) := Lib.hid (by
    rw [← hW1]
    have := Own.new (w.alloc (.cells #[.int .i64 x.k, .slice a nd c, .slice a2 nb c2] 26)) 26 [.int .i64 y.k, .slice b md d, .slice b2 mb d2]
    simp only [World.size_alloc] at this
    exact this)
  have HW1 := Lib.hid hW1
  clear hW1
  have hcase : (f = false ∨ g = false) ∨ (f = true ∧ g = true) := by cases f <;> cases g <;> simp
  rcases hcase with hno | ⟨rfl, rfl⟩
  · clear HSxy HSyx HSxx HRxy HEx0 HEy0 HEx1 HEy1 HL30
    cases f
    all_goals cases g
    all_goals first | (rcases hno with h | h <;> cases h; done) | skip
    all_goals
      clear hno
      go_enter Try.func4, Try.ntmps4
      go_wp2_with fail
      rw [HW1.out]
      refine (HF.out _).mono ?_
      rintro e w2 ⟨rfl, hb⟩
      have HB2 := Lib.hid (HB1.out.trans (hb.mono HB1.out.size))
      have HA2 := Lib.hid (HA1.out.below hb HA1.out.lt)
      have HC2 := Lib.hid (HC1.out.below hb HC1.out.lt)
      clear hb; try clear i0 i1 i2 j0 j1 j2
      have i0 := HA2.out.cell 0
      have i1 := HA2.out.cell 1
      have i2 := HA2.out.cell 2
      have j0 := HC2.out.cell 0
      have j1 := HC2.out.cell 1
      have j2 := HC2.out.cell 2
      simp at i0 i1 i2 j0 j1 j2
      go_wp2_with fail
      refine (HG.out _).mono ?_
      rintro e w3 ⟨rfl, hb⟩
      have HB3 := Lib.hid (HB2.out.trans (hb.mono HB2.out.size))
      have HA3 := Lib.hid (HA2.out.below hb HA2.out.lt)
      have HC3 := Lib.hid (HC2.out.below hb HC2.out.lt)
      clear hb; try clear i0 i1 i2 j0 j1 j2
      have i0 := HA3.out.cell 0
      have i1 := HA3.out.cell 1
      have i2 := HA3.out.cell 2
      have j0 := HC3.out.cell 0
      have j1 := HC3.out.cell 1
      have j2 := HC3.out.cell 2
      simp at i0 i1 i2 j0 j1 j2
      go_wp2_with fail
      refine (HAl.out _).mono ?_
      rintro e w4 ⟨rfl, hb⟩
      have HB4 := Lib.hid (HB3.out.trans (hb.mono HB3.out.size))
      have HA4 := Lib.hid (HA3.out.below hb HA3.out.lt)
      have HC4 := Lib.hid (HC3.out.below hb HC3.out.lt)
      clear hb; try clear i0 i1 i2 j0 j1 j2
      have i0 := HA4.out.cell 0
      have i1 := HA4.out.cell 1
      have i2 := HA4.out.cell 2
      have j0 := HC4.out.cell 0
      have j1 := HC4.out.cell 1
      have j2 := HC4.out.cell 2
      simp at i0 i1 i2 j0 j1 j2
      go_wp2_with fail
      go_ret
      exact ⟨rfl, HB4.out⟩
  · have HL := Lib.hid (HL30.out rfl rfl)
    have HRS := Lib.hid (HRxy.out HL.out.1 HL.out.2)
    clear HL30 HRxy
    cases hrx : right x
    all_goals cases hry : right y
    · have HX := Lib.hid (HEx0.out hrx)
      have HY := Lib.hid (HEy0.out hry)
      have HRx := Lib.hid hrx
      have HRy := Lib.hid hry
      clear HEx0 HEx1 HEy0 HEy1 hrx hry
      cases t
      all_goals
        go_enter Try.func4, Try.ntmps4
        go_wp2_with fail
        rw [HW1.out]
        refine (HF.out _).mono ?_
        rintro e w2 ⟨rfl, hb⟩
        have HB2 := Lib.hid (HB1.out.trans (hb.mono HB1.out.size))
        have HA2 := Lib.hid (HA1.out.below hb HA1.out.lt)
        have HC2 := Lib.hid (HC1.out.below hb HC1.out.lt)
        clear hb; try clear i0 i1 i2 j0 j1 j2
        have i0 := HA2.out.cell 0
        have i1 := HA2.out.cell 1
        have i2 := HA2.out.cell 2
        have j0 := HC2.out.cell 0
        have j1 := HC2.out.cell 1
        have j2 := HC2.out.cell 2
        simp at i0 i1 i2 j0 j1 j2
        go_wp2_with fail
        refine (HG.out _).mono ?_
        rintro e w3 ⟨rfl, hb⟩
        have HB3 := Lib.hid (HB2.out.trans (hb.mono HB2.out.size))
        have HA3 := Lib.hid (HA2.out.below hb HA2.out.lt)
        have HC3 := Lib.hid (HC2.out.below hb HC2.out.lt)
        clear hb; try clear i0 i1 i2 j0 j1 j2
        have i0 := HA3.out.cell 0
        have i1 := HA3.out.cell 1
        have i2 := HA3.out.cell 2
        have j0 := HC3.out.cell 0
        have j1 := HC3.out.cell 1
        have j2 := HC3.out.cell 2
        simp at i0 i1 i2 j0 j1 j2
        go_wp2_with fail
        refine (HSxy.out _ HB3.out).mono ?_
        rintro e w4 ⟨rfl, hb⟩
        have HB4 := Lib.hid (HB3.out.trans (hb.mono HB3.out.size))
        have HA4 := Lib.hid (HA3.out.below hb HA3.out.lt)
        have HC4 := Lib.hid (HC3.out.below hb HC3.out.lt)
        clear hb; try clear i0 i1 i2 j0 j1 j2
        have i0 := HA4.out.cell 0
        have i1 := HA4.out.cell 1
        have i2 := HA4.out.cell 2
        have j0 := HC4.out.cell 0
        have j1 := HC4.out.cell 1
        have j2 := HC4.out.cell 2
        simp at i0 i1 i2 j0 j1 j2
        go_wp2_with fail
        refine (HRS.out _ HB4.out).mono ?_
        rintro e w5 ⟨rfl, hb⟩
        have HB5 := Lib.hid (HB4.out.trans (hb.mono HB4.out.size))
        have HA5 := Lib.hid (HA4.out.below hb HA4.out.lt)
        have HC5 := Lib.hid (HC4.out.below hb HC4.out.lt)
        clear hb; try clear i0 i1 i2 j0 j1 j2
        have i0 := HA5.out.cell 0
        have i1 := HA5.out.cell 1
        have i2 := HA5.out.cell 2
        have j0 := HC5.out.cell 0
        have j1 := HC5.out.cell 1
        have j2 := HC5.out.cell 2
        simp at i0 i1 i2 j0 j1 j2
        go_wp2_with fail
        refine (HSyx.out _ HB5.out).mono ?_
        rintro e w6 ⟨rfl, hb⟩
        have HB6 := Lib.hid (HB5.out.trans (hb.mono HB5.out.size))
        have HA6 := Lib.hid (HA5.out.below hb HA5.out.lt)
        have HC6 := Lib.hid (HC5.out.below hb HC5.out.lt)
        clear hb; try clear i0 i1 i2 j0 j1 j2
        have i0 := HA6.out.cell 0
        have i1 := HA6.out.cell 1
        have i2 := HA6.out.cell 2
        have j0 := HC6.out.cell 0
        have j1 := HC6.out.cell 1
        have j2 := HC6.out.cell 2
        simp at i0 i1 i2 j0 j1 j2
        go_wp2_with fail
        refine (HSxx.out _ HB6.out).mono ?_
        rintro e w7 ⟨rfl, hb⟩
        have HB7 := Lib.hid (HB6.out.trans (hb.mono HB6.out.size))
        have HA7 := Lib.hid (HA6.out.below hb HA6.out.lt)
        have HC7 := Lib.hid (HC6.out.below hb HC6.out.lt)
        clear hb; try clear i0 i1 i2 j0 j1 j2
        have i0 := HA7.out.cell 0
        have i1 := HA7.out.cell 1
        have i2 := HA7.out.cell 2
        have j0 := HC7.out.cell 0
        have j1 := HC7.out.cell 1
        have j2 := HC7.out.cell 2
        simp at i0 i1 i2 j0 j1 j2
        go_wp2_with fail
        refine (HX.out _ HB7.out).mono ?_
        rintro e w8 ⟨rfl, hb⟩
        have HB8 := Lib.hid (HB7.out.trans (hb.mono HB7.out.size))
        have HA8 := Lib.hid (HA7.out.below hb HA7.out.lt)
        have HC8 := Lib.hid (HC7.out.below hb HC7.out.lt)
        clear hb; try clear i0 i1 i2 j0 j1 j2
        have i0 := HA8.out.cell 0
        have i1 := HA8.out.cell 1
        have i2 := HA8.out.cell 2
        have j0 := HC8.out.cell 0
        have j1 := HC8.out.cell 1
        have j2 := HC8.out.cell 2
        simp at i0 i1 i2 j0 j1 j2
        go_wp2_with fail
        refine (HY.out _ HB8.out).mono ?_
        rintro e w9 ⟨rfl, hb⟩
        have HB9 := Lib.hid (HB8.out.trans (hb.mono HB8.out.size))
        have HA9 := Lib.hid (HA8.out.below hb HA8.out.lt)
        have HC9 := Lib.hid (HC8.out.below hb HC8.out.lt)
        clear hb; try clear i0 i1 i2 j0 j1 j2
        have i0 := HA9.out.cell 0
        have i1 := HA9.out.cell 1
        have i2 := HA9.out.cell 2
        have j0 := HC9.out.cell 0
        have j1 := HC9.out.cell 1
        have j2 := HC9.out.cell 2
        simp at i0 i1 i2 j0 j1 j2
        go_wp2_with fail
        refine (HAl.out _).mono ?_
        rintro e w10 ⟨rfl, hb⟩
        have HB10 := Lib.hid (HB9.out.trans (hb.mono HB9.out.size))
        have HA10 := Lib.hid (HA9.out.below hb HA9.out.lt)
        have HC10 := Lib.hid (HC9.out.below hb HC9.out.lt)
        clear hb; try clear i0 i1 i2 j0 j1 j2
        have i0 := HA10.out.cell 0
        have i1 := HA10.out.cell 1
        have i2 := HA10.out.cell 2
        have j0 := HC10.out.cell 0
        have j1 := HC10.out.cell 1
        have j2 := HC10.out.cell 2
        simp at i0 i1 i2 j0 j1 j2
        go_wp2_with fail
        go_ret
        exact ⟨rfl, HB10.out⟩
    · have HX := Lib.hid (HEx0.out hrx)
      have HY := Lib.hid (HEy1.out hry)
      have HRx := Lib.hid hrx
      have HRy := Lib.hid hry
      clear HEx0 HEx1 HEy0 HEy1 hrx hry
      cases t
      all_goals
        go_enter Try.func4, Try.ntmps4
        go_wp2_with fail
        rw [HW1.out]
        refine (HF.out _).mono ?_
        rintro e w2 ⟨rfl, hb⟩
        have HB2 := Lib.hid (HB1.out.trans (hb.mono HB1.out.size))
        have HA2 := Lib.hid (HA1.out.below hb HA1.out.lt)
        have HC2 := Lib.hid (HC1.out.below hb HC1.out.lt)
        clear hb; try clear i0 i1 i2 j0 j1 j2
        have i0 := HA2.out.cell 0
        have i1 := HA2.out.cell 1
        have i2 := HA2.out.cell 2
        have j0 := HC2.out.cell 0
        have j1 := HC2.out.cell 1
        have j2 := HC2.out.cell 2
        simp at i0 i1 i2 j0 j1 j2
        go_wp2_with fail
        refine (HG.out _).mono ?_
        rintro e w3 ⟨rfl, hb⟩
        have HB3 := Lib.hid (HB2.out.trans (hb.mono HB2.out.size))
        have HA3 := Lib.hid (HA2.out.below hb HA2.out.lt)
        have HC3 := Lib.hid (HC2.out.below hb HC2.out.lt)
        clear hb; try clear i0 i1 i2 j0 j1 j2
        have i0 := HA3.out.cell 0
        have i1 := HA3.out.cell 1
        have i2 := HA3.out.cell 2
        have j0 := HC3.out.cell 0
        have j1 := HC3.out.cell 1
        have j2 := HC3.out.cell 2
        simp at i0 i1 i2 j0 j1 j2
        go_wp2_with fail
        refine (HSxy.out _ HB3.out).mono ?_
        rintro e w4 ⟨rfl, hb⟩
        have HB4 := Lib.hid (HB3.out.trans (hb.mono HB3.out.size))
        have HA4 := Lib.hid (HA3.out.below hb HA3.out.lt)
        have HC4 := Lib.hid (HC3.out.below hb HC3.out.lt)
        clear hb; try clear i0 i1 i2 j0 j1 j2
        have i0 := HA4.out.cell 0
        have i1 := HA4.out.cell 1
        have i2 := HA4.out.cell 2
        have j0 := HC4.out.cell 0
        have j1 := HC4.out.cell 1
        have j2 := HC4.out.cell 2
        simp at i0 i1 i2 j0 j1 j2
        go_wp2_with fail
        refine (HRS.out _ HB4.out).mono ?_
        rintro e w5 ⟨rfl, hb⟩
        have HB5 := Lib.hid (HB4.out.trans (hb.mono HB4.out.size))
        have HA5 := Lib.hid (HA4.out.below hb HA4.out.lt)
        have HC5 := Lib.hid (HC4.out.below hb HC4.out.lt)
        clear hb; try clear i0 i1 i2 j0 j1 j2
        have i0 := HA5.out.cell 0
        have i1 := HA5.out.cell 1
        have i2 := HA5.out.cell 2
        have j0 := HC5.out.cell 0
        have j1 := HC5.out.cell 1
        have j2 := HC5.out.cell 2
        simp at i0 i1 i2 j0 j1 j2
        go_wp2_with fail
        refine (HSyx.out _ HB5.out).mono ?_
        rintro e w6 ⟨rfl, hb⟩
        have HB6 := Lib.hid (HB5.out.trans (hb.mono HB5.out.size))
        have HA6 := Lib.hid (HA5.out.below hb HA5.out.lt)
        have HC6 := Lib.hid (HC5.out.below hb HC5.out.lt)
        clear hb; try clear i0 i1 i2 j0 j1 j2
        have i0 := HA6.out.cell 0
        have i1 := HA6.out.cell 1
        have i2 := HA6.out.cell 2
        have j0 := HC6.out.cell 0
        have j1 := HC6.out.cell 1
        have j2 := HC6.out.cell 2
        simp at i0 i1 i2 j0 j1 j2
        go_wp2_with fail
        refine (HSxx.out _ HB6.out).mono ?_
        rintro e w7 ⟨rfl, hb⟩
        have HB7 := Lib.hid (HB6.out.trans (hb.mono HB6.out.size))
        have HA7 := Lib.hid (HA6.out.below hb HA6.out.lt)
        have HC7 := Lib.hid (HC6.out.below hb HC6.out.lt)
        clear hb; try clear i0 i1 i2 j0 j1 j2
        have i0 := HA7.out.cell 0
        have i1 := HA7.out.cell 1
        have i2 := HA7.out.cell 2
        have j0 := HC7.out.cell 0
        have j1 := HC7.out.cell 1
        have j2 := HC7.out.cell 2
        simp at i0 i1 i2 j0 j1 j2
        go_wp2_with fail
        refine (HX.out _ HB7.out).mono ?_
        rintro e w8 ⟨rfl, hb⟩
        have HB8 := Lib.hid (HB7.out.trans (hb.mono HB7.out.size))
        have HA8 := Lib.hid (HA7.out.below hb HA7.out.lt)
        have HC8 := Lib.hid (HC7.out.below hb HC7.out.lt)
        clear hb; try clear i0 i1 i2 j0 j1 j2
        have i0 := HA8.out.cell 0
        have i1 := HA8.out.cell 1
        have i2 := HA8.out.cell 2
        have j0 := HC8.out.cell 0
        have j1 := HC8.out.cell 1
        have j2 := HC8.out.cell 2
        simp at i0 i1 i2 j0 j1 j2
        go_wp2_with fail
        refine (HY.out _ HB8.out).mono ?_
        rintro e w9 ⟨cs, a6, c6, rfl, hen2, hro2, -, hb⟩
        have HB9 := Lib.hid (HB8.out.trans (hb.mono HB8.out.size))
        have HA9 := Lib.hid (HA8.out.below hb HA8.out.lt)
        have HC9 := Lib.hid (HC8.out.below hb HC8.out.lt)
        have HEn2 := Lib.hid hen2
        have HSo9 := Lib.hid hro2
        clear hen2 hro2
        clear hb; try clear i0 i1 i2 j0 j1 j2
        have i0 := HA9.out.cell 0
        have i1 := HA9.out.cell 1
        have i2 := HA9.out.cell 2
        have j0 := HC9.out.cell 0
        have j1 := HC9.out.cell 1
        have j2 := HC9.out.cell 2
        simp at i0 i1 i2 j0 j1 j2
        go_wp2_with fail
        refine (HAl.out _).mono ?_
        rintro e w10 ⟨rfl, hb⟩
        have HB10 := Lib.hid (HB9.out.trans (hb.mono HB9.out.size))
        have HA10 := Lib.hid (HA9.out.below hb HA9.out.lt)
        have HC10 := Lib.hid (HC9.out.below hb HC9.out.lt)
        have HSo10 := Lib.hid ((HSo9.out.below hb (Nat.le_refl _)).mono hb.size)
        clear hb; try clear i0 i1 i2 j0 j1 j2
        have i0 := HA10.out.cell 0
        have i1 := HA10.out.cell 1
        have i2 := HA10.out.cell 2
        have j0 := HC10.out.cell 0
        have j1 := HC10.out.cell 1
        have j2 := HC10.out.cell 2
        simp at i0 i1 i2 j0 j1 j2
        go_wp2_with fail
        go_ret
        exact ⟨rfl, HB10.out⟩
    · have HX := Lib.hid (HEx1.out hrx)
      have HY := Lib.hid (HEy0.out hry)
      have HRx := Lib.hid hrx
      have HRy := Lib.hid hry
      clear HEx0 HEx1 HEy0 HEy1 hrx hry
      cases t
      all_goals
        go_enter Try.func4, Try.ntmps4
        go_wp2_with fail
        rw [HW1.out]
        refine (HF.out _).mono ?_
        rintro e w2 ⟨rfl, hb⟩
        have HB2 := Lib.hid (HB1.out.trans (hb.mono HB1.out.size))
        have HA2 := Lib.hid (HA1.out.below hb HA1.out.lt)
        have HC2 := Lib.hid (HC1.out.below hb HC1.out.lt)
        clear hb; try clear i0 i1 i2 j0 j1 j2
        have i0 := HA2.out.cell 0
        have i1 := HA2.out.cell 1
        have i2 := HA2.out.cell 2
        have j0 := HC2.out.cell 0
        have j1 := HC2.out.cell 1
        have j2 := HC2.out.cell 2
        simp at i0 i1 i2 j0 j1 j2
        go_wp2_with fail
        refine (HG.out _).mono ?_
        rintro e w3 ⟨rfl, hb⟩
        have HB3 := Lib.hid (HB2.out.trans (hb.mono HB2.out.size))
        have HA3 := Lib.hid (HA2.out.below hb HA2.out.lt)
        have HC3 := Lib.hid (HC2.out.below hb HC2.out.lt)
        clear hb; try clear i0 i1 i2 j0 j1 j2
        have i0 := HA3.out.cell 0
        have i1 := HA3.out.cell 1
        have i2 := HA3.out.cell 2
        have j0 := HC3.out.cell 0
        have j1 := HC3.out.cell 1
        have j2 := HC3.out.cell 2
        simp at i0 i1 i2 j0 j1 j2
        go_wp2_with fail
        refine (HSxy.out _ HB3.out).mono ?_
        rintro e w4 ⟨rfl, hb⟩
        have HB4 := Lib.hid (HB3.out.trans (hb.mono HB3.out.size))
        have HA4 := Lib.hid (HA3.out.below hb HA3.out.lt)
        have HC4 := Lib.hid (HC3.out.below hb HC3.out.lt)
        clear hb; try clear i0 i1 i2 j0 j1 j2
        have i0 := HA4.out.cell 0
        have i1 := HA4.out.cell 1
        have i2 := HA4.out.cell 2
        have j0 := HC4.out.cell 0
        have j1 := HC4.out.cell 1
        have j2 := HC4.out.cell 2
        simp at i0 i1 i2 j0 j1 j2
        go_wp2_with fail
        refine (HRS.out _ HB4.out).mono ?_
        rintro e w5 ⟨rfl, hb⟩
        have HB5 := Lib.hid (HB4.out.trans (hb.mono HB4.out.size))
        have HA5 := Lib.hid (HA4.out.below hb HA4.out.lt)
        have HC5 := Lib.hid (HC4.out.below hb HC4.out.lt)
        clear hb; try clear i0 i1 i2 j0 j1 j2
        have i0 := HA5.out.cell 0
        have i1 := HA5.out.cell 1
        have i2 := HA5.out.cell 2
        have j0 := HC5.out.cell 0
        have j1 := HC5.out.cell 1
        have j2 := HC5.out.cell 2
        simp at i0 i1 i2 j0 j1 j2
        go_wp2_with fail
        refine (HSyx.out _ HB5.out).mono ?_
        rintro e w6 ⟨rfl, hb⟩
        have HB6 := Lib.hid (HB5.out.trans (hb.mono HB5.out.size))
        have HA6 := Lib.hid (HA5.out.below hb HA5.out.lt)
        have HC6 := Lib.hid (HC5.out.below hb HC5.out.lt)
        clear hb; try clear i0 i1 i2 j0 j1 j2
        have i0 := HA6.out.cell 0
        have i1 := HA6.out.cell 1
        have i2 := HA6.out.cell 2
        have j0 := HC6.out.cell 0
        have j1 := HC6.out.cell 1
        have j2 := HC6.out.cell 2
        simp at i0 i1 i2 j0 j1 j2
        go_wp2_with fail
        refine (HSxx.out _ HB6.out).mono ?_
        rintro e w7 ⟨rfl, hb⟩
        have HB7 := Lib.hid (HB6.out.trans (hb.mono HB6.out.size))
        have HA7 := Lib.hid (HA6.out.below hb HA6.out.lt)
        have HC7 := Lib.hid (HC6.out.below hb HC6.out.lt)
        clear hb; try clear i0 i1 i2 j0 j1 j2
        have i0 := HA7.out.cell 0
        have i1 := HA7.out.cell 1
        have i2 := HA7.out.cell 2
        have j0 := HC7.out.cell 0
        have j1 := HC7.out.cell 1
        have j2 := HC7.out.cell 2
        simp at i0 i1 i2 j0 j1 j2
        go_wp2_with fail
        refine (HX.out _ HB7.out).mono ?_
        rintro e w8 ⟨bs, a5, c5, rfl, hen, hro, -, hb⟩
        have HB8 := Lib.hid (HB7.out.trans (hb.mono HB7.out.size))
        have HA8 := Lib.hid (HA7.out.below hb HA7.out.lt)
        have HC8 := Lib.hid (HC7.out.below hb HC7.out.lt)
        have HEn := Lib.hid hen
        have HRo8 := Lib.hid hro
        clear hen hro
        clear hb; try clear i0 i1 i2 j0 j1 j2
        have i0 := HA8.out.cell 0
        have i1 := HA8.out.cell 1
        have i2 := HA8.out.cell 2
        have j0 := HC8.out.cell 0
        have j1 := HC8.out.cell 1
        have j2 := HC8.out.cell 2
        simp at i0 i1 i2 j0 j1 j2
        go_wp2_with fail
        refine (HY.out _ HB8.out).mono ?_
        rintro e w9 ⟨rfl, hb⟩
        have HB9 := Lib.hid (HB8.out.trans (hb.mono HB8.out.size))
        have HA9 := Lib.hid (HA8.out.below hb HA8.out.lt)
        have HC9 := Lib.hid (HC8.out.below hb HC8.out.lt)
        have HRo9 := Lib.hid ((HRo8.out.below hb (Nat.le_refl _)).mono hb.size)
        clear hb; try clear i0 i1 i2 j0 j1 j2
        have i0 := HA9.out.cell 0
        have i1 := HA9.out.cell 1
        have i2 := HA9.out.cell 2
        have j0 := HC9.out.cell 0
        have j1 := HC9.out.cell 1
        have j2 := HC9.out.cell 2
        simp at i0 i1 i2 j0 j1 j2
        go_wp2_with fail
        refine (HAl.out _).mono ?_
        rintro e w10 ⟨rfl, hb⟩
        have HB10 := Lib.hid (HB9.out.trans (hb.mono HB9.out.size))
        have HA10 := Lib.hid (HA9.out.below hb HA9.out.lt)
        have HC10 := Lib.hid (HC9.out.below hb HC9.out.lt)
        have HRo10 := Lib.hid ((HRo9.out.below hb (Nat.le_refl _)).mono hb.size)
        clear hb; try clear i0 i1 i2 j0 j1 j2
        have i0 := HA10.out.cell 0
        have i1 := HA10.out.cell 1
        have i2 := HA10.out.cell 2
        have j0 := HC10.out.cell 0
        have j1 := HC10.out.cell 1
        have j2 := HC10.out.cell 2
        simp at i0 i1 i2 j0 j1 j2
        go_wp2_with fail
        go_ret
        exact ⟨rfl, HB10.out⟩
    · have HX := Lib.hid (HEx1.out hrx)
      have HY := Lib.hid (HEy1.out hry)
      have HRx := Lib.hid hrx
      have HRy := Lib.hid hry
      clear HEx0 HEx1 HEy0 HEy1 hrx hry
      cases t
      all_goals
        go_enter Try.func4, Try.ntmps4
        go_wp2_with fail
        rw [HW1.out]
        refine (HF.out _).mono ?_
        rintro e w2 ⟨rfl, hb⟩
        have HB2 := Lib.hid (HB1.out.trans (hb.mono HB1.out.size))
        have HA2 := Lib.hid (HA1.out.below hb HA1.out.lt)
        have HC2 := Lib.hid (HC1.out.below hb HC1.out.lt)
        clear hb; try clear i0 i1 i2 j0 j1 j2
        have i0 := HA2.out.cell 0
        have i1 := HA2.out.cell 1
        have i2 := HA2.out.cell 2
        have j0 := HC2.out.cell 0
        have j1 := HC2.out.cell 1
        have j2 := HC2.out.cell 2
        simp at i0 i1 i2 j0 j1 j2
        go_wp2_with fail
        refine (HG.out _).mono ?_
        rintro e w3 ⟨rfl, hb⟩
        have HB3 := Lib.hid (HB2.out.trans (hb.mono HB2.out.size))
        have HA3 := Lib.hid (HA2.out.below hb HA2.out.lt)
        have HC3 := Lib.hid (HC2.out.below hb HC2.out.lt)
        clear hb; try clear i0 i1 i2 j0 j1 j2
        have i0 := HA3.out.cell 0
        have i1 := HA3.out.cell 1
        have i2 := HA3.out.cell 2
        have j0 := HC3.out.cell 0
        have j1 := HC3.out.cell 1
        have j2 := HC3.out.cell 2
        simp at i0 i1 i2 j0 j1 j2
        go_wp2_with fail
        refine (HSxy.out _ HB3.out).mono ?_
        rintro e w4 ⟨rfl, hb⟩
        have HB4 := Lib.hid (HB3.out.trans (hb.mono HB3.out.size))
        have HA4 := Lib.hid (HA3.out.below hb HA3.out.lt)
        have HC4 := Lib.hid (HC3.out.below hb HC3.out.lt)
        clear hb; try clear i0 i1 i2 j0 j1 j2
        have i0 := HA4.out.cell 0
        have i1 := HA4.out.cell 1
        have i2 := HA4.out.cell 2
        have j0 := HC4.out.cell 0
        have j1 := HC4.out.cell 1
        have j2 := HC4.out.cell 2
        simp at i0 i1 i2 j0 j1 j2
        go_wp2_with fail
        refine (HRS.out _ HB4.out).mono ?_
        rintro e w5 ⟨rfl, hb⟩
        have HB5 := Lib.hid (HB4.out.trans (hb.mono HB4.out.size))
        have HA5 := Lib.hid (HA4.out.below hb HA4.out.lt)
        have HC5 := Lib.hid (HC4.out.below hb HC4.out.lt)
        clear hb; try clear i0 i1 i2 j0 j1 j2
        have i0 := HA5.out.cell 0
        have i1 := HA5.out.cell 1
        have i2 := HA5.out.cell 2
        have j0 := HC5.out.cell 0
        have j1 := HC5.out.cell 1
        have j2 := HC5.out.cell 2
        simp at i0 i1 i2 j0 j1 j2
        go_wp2_with fail
        refine (HSyx.out _ HB5.out).mono ?_
        rintro e w6 ⟨rfl, hb⟩
        have HB6 := Lib.hid (HB5.out.trans (hb.mono HB5.out.size))
        have HA6 := Lib.hid (HA5.out.below hb HA5.out.lt)
        have HC6 := Lib.hid (HC5.out.below hb HC5.out.lt)
        clear hb; try clear i0 i1 i2 j0 j1 j2
        have i0 := HA6.out.cell 0
        have i1 := HA6.out.cell 1
        have i2 := HA6.out.cell 2
        have j0 := HC6.out.cell 0
        have j1 := HC6.out.cell 1
        have j2 := HC6.out.cell 2
        simp at i0 i1 i2 j0 j1 j2
        go_wp2_with fail
        refine (HSxx.out _ HB6.out).mono ?_
        rintro e w7 ⟨rfl, hb⟩
        have HB7 := Lib.hid (HB6.out.trans (hb.mono HB6.out.size))
        have HA7 := Lib.hid (HA6.out.below hb HA6.out.lt)
        have HC7 := Lib.hid (HC6.out.below hb HC6.out.lt)
        clear hb; try clear i0 i1 i2 j0 j1 j2
        have i0 := HA7.out.cell 0
        have i1 := HA7.out.cell 1
        have i2 := HA7.out.cell 2
        have j0 := HC7.out.cell 0
        have j1 := HC7.out.cell 1
        have j2 := HC7.out.cell 2
        simp at i0 i1 i2 j0 j1 j2
        go_wp2_with fail
        refine (HX.out _ HB7.out).mono ?_
        rintro e w8 ⟨bs, a5, c5, rfl, hen, hro, -, hb⟩
        have HB8 := Lib.hid (HB7.out.trans (hb.mono HB7.out.size))
        have HA8 := Lib.hid (HA7.out.below hb HA7.out.lt)
        have HC8 := Lib.hid (HC7.out.below hb HC7.out.lt)
        have HEn := Lib.hid hen
        have HRo8 := Lib.hid hro
        clear hen hro
        clear hb; try clear i0 i1 i2 j0 j1 j2
        have i0 := HA8.out.cell 0
        have i1 := HA8.out.cell 1
        have i2 := HA8.out.cell 2
        have j0 := HC8.out.cell 0
        have j1 := HC8.out.cell 1
        have j2 := HC8.out.cell 2
        simp at i0 i1 i2 j0 j1 j2
        go_wp2_with fail
        refine (HY.out _ HB8.out).mono ?_
        rintro e w9 ⟨cs, a6, c6, rfl, hen2, hro2, -, hb⟩
        have HB9 := Lib.hid (HB8.out.trans (hb.mono HB8.out.size))
        have HA9 := Lib.hid (HA8.out.below hb HA8.out.lt)
        have HC9 := Lib.hid (HC8.out.below hb HC8.out.lt)
        have HRo9 := Lib.hid ((HRo8.out.below hb (Nat.le_refl _)).mono hb.size)
        have HEn2 := Lib.hid hen2
        have HSo9 := Lib.hid hro2
        clear hen2 hro2
        clear hb; try clear i0 i1 i2 j0 j1 j2
        have i0 := HA9.out.cell 0
        have i1 := HA9.out.cell 1
        have i2 := HA9.out.cell 2
        have j0 := HC9.out.cell 0
        have j1 := HC9.out.cell 1
        have j2 := HC9.out.cell 2
        simp at i0 i1 i2 j0 j1 j2
        go_wp2_with fail
        refine (HAl.out _).mono ?_
        rintro e w10 ⟨rfl, hb⟩
        have HB10 := Lib.hid (HB9.out.trans (hb.mono HB9.out.size))
        have HA10 := Lib.hid (HA9.out.below hb HA9.out.lt)
        have HC10 := Lib.hid (HC9.out.below hb HC9.out.lt)
        have HRo10 := Lib.hid ((HRo9.out.below hb (Nat.le_refl _)).mono hb.size)
        have HSo10 := Lib.hid ((HSo9.out.below hb (Nat.le_refl _)).mono hb.size)
        clear hb; try clear i0 i1 i2 j0 j1 j2
        have i0 := HA10.out.cell 0
        have i1 := HA10.out.cell 1
        have i2 := HA10.out.cell 2
        have j0 := HC10.out.cell 0
        have j1 := HC10.out.cell 1
        have j2 := HC10.out.cell 2
        simp at i0 i1 i2 j0 j1 j2
        have hal := enc_alike HRx.out HRy.out HEn.out HEn2.out
        rw [HT.out] at hal
        have hs1 := bytes_beq bs cs
        rw [hal] at hs1
        have hs2 := (show (bs == cs) = decide (bs = cs) by by_cases h : bs = cs <;> simp [h]).trans hal
        have hcx := conv_ro (c := c5) HRo10.out rfl
        have hcy := conv_ro (c := c6) HSo10.out rfl
        go_wp2_with fail
        go_ret
        exact ⟨rfl, HB10.out⟩
end Go.Proofs.Ytcapphabajplcaa
