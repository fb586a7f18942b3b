/-
  The statement CellFinds: the walk of its Go text, by the contracts of what it calls.
-/
import Derived.Test.YtcapphabajplcaaOp7
import Derived.Test.YtcapphabajplcaaAlv7
import Derived.Test.YtcapphabajplcaaCeF
import Derived.Test.YtcapphabajplcaaCeQ
namespace Go.Proofs.Ytcapphabajplcaa
open Go.RowKit Go.Deep
set_option linter.unusedVariables false
set_option linter.unusedSimpArgs false

theorem anyN_succ (p : Nat → Bool) (n : Nat) : anyN p (n + 1) = (anyN p n || p n) := by
  cases h : anyN p n with
  | true =>
    cases h2 : anyN p (n + 1) with
    | true => rfl
    | false =>
      have := anyN_false.1 h2
      have h3 : anyN p n = false := anyN_false.2 (fun j hj => this j (by omega))
      rw [h] at h3; cases h3
  | false =>
    have h3 := anyN_false.1 h
    cases h2 : p n with
    | true =>
      cases h4 : anyN p (n + 1) with
      | true => rfl
      | false =>
        have := anyN_false.1 h4 n (by omega)
        rw [h2] at this; cases this
    | false =>
      exact anyN_false.2 (fun j hj => by
        by_cases e : j = n
        · subst e; exact h2
        · exact h3 j (by omega))
theorem anyN_congr {p q : Nat → Bool} {n : Nat} (h : ∀ j, j < n → p j = q j) : anyN p n = anyN q n := by
  induction n with
  | zero => rfl
  | succ n ih => rw [anyN_succ, anyN_succ, ih (fun j hj => h j (by omega)), h n (by omega)]
/-- has one of the first k Backs the stream? -/
def hasS (L : List Bk) (s : Int) (k : Nat) : Bool := anyN (fun j => decide ((bk L j).1 = s)) k
/-- are the first k Backs ahead of a? -/
def befS (L : List Bk) (a k : Nat) : Bool := !anyN (fun j => late a (bk L j).2.1) k
theorem hasS_succ (L : List Bk) (s : Int) (k : Nat) : hasS L s (k + 1) = (hasS L s k || decide ((bk L k).1 = s)) := anyN_succ _ _
theorem befS_succ (L : List Bk) (a k : Nat) : befS L a (k + 1) = (befS L a k && !late a (bk L k).2.1) := by
  unfold befS; rw [anyN_succ, Bool.not_or]
theorem right_backs {x : Ce} (hr : right x = true) : x.d.length ≤ 100 ∧ x.b.length ≤ 4 ∧ backsOk x.b = true := by
  rcases right_kind hr with hk | hk
  · exact right_data hr hk
  · rw [right_junk hr hk]; exact ⟨by simp, by simp, rfl⟩
theorem before_right {x : Ce} (hr : right x = true) (a : Nat) : before x a = befS x.b a x.b.length := by
  obtain ⟨_, _, h3⟩ := right_backs hr
  unfold before befS
  congr 1
  apply anyN_congr
  intro j hj
  have hl := lastOk_iff.1 (backsOk_at h3 j hj).2.2.2
  show lateB a (bk x.b j) = late a (bk x.b j).2.1
  unfold lateB
  generalize bk x.b j = b at *
  obtain ⟨s, p, q⟩ := b
  simp only at hl ⊢
  have e : anyN (fun k => late a ([p, q].getD k 0)) 2 = (late a p || late a q) := by
    rw [anyN_succ, anyN_succ]
    have : anyN (fun k => late a ([p, q].getD k 0)) 0 = false := rfl
    rw [this]
    rfl
  rw [e]
  unfold late
  by_cases h1 : p = 18446744073709551615
  · have h2 : q = 18446744073709551615 := by omega
    rw [if_pos h1, if_pos h2]; rfl
  · by_cases h2 : q = 18446744073709551615
    · rw [if_neg h1, if_pos h2]; simp
    · rw [if_neg h1, if_neg h2]
      have : q < p := by omega
      by_cases h4 : a ≤ p
      · simp [h4]
      · have : ¬ a ≤ q := by omega
        simp [h4, this]
/-- Find of a valid cell -/
theorem find_any (x : Ce) (a : Option Addr) (n c : Nat) (a2 : Option Addr) (c2 B : Nat) (s : Int) (w : World) (hro : Ro w B a2 (bcs x.b)) (hB : B ≤ w.heap.size) (hr : right x = true) :
    Calls Try.prog 14 #[cev x.k a n c a2 x.b.length c2, .int .i64 s] w fun e w' => ∃ lp lq : Nat, e = .returned (.tuple #[.agg #[.int .u64 (lp : Int), .int .u64 (lq : Int)], .bool (hasS x.b s x.b.length)]) ∧ (∀ k, k < x.b.length → (bk x.b k).1 = s → (bk x.b k).2 = (lp, lq)) ∧ (hasS x.b s x.b.length = false → lp = 18446744073709551615 ∧ lq = 18446744073709551615) ∧ Below w.heap.size w w' := by
  obtain ⟨_, h2, h3⟩ := right_backs hr
  rcases fx_or (fun k => decide ((bk x.b k).1 = s)) x.b.length with ⟨h1, hn⟩ | ⟨i, hi, h1, hp, hn⟩
  · have hf : hasS x.b s x.b.length = false := anyN_false.2 hn
    rw [hf]
    refine (find_no x a n c a2 c2 B s w hro hB (by omega) h1).mono ?_
    rintro e w' ⟨rfl, hb⟩
    refine ⟨18446744073709551615, 18446744073709551615, rfl, fun k hk he => ?_, fun _ => ⟨rfl, rfl⟩, hb⟩
    have := hn k hk
    simp [he] at this
  · have hf : hasS x.b s x.b.length = true := by unfold hasS anyN; rw [h1]; simp
    rw [hf]
    refine (find_yes x a n c a2 c2 B s w hro hB (by omega) i hi h1).mono ?_
    rintro e w' ⟨rfl, hb⟩
    refine ⟨(bk x.b i).2.1, (bk x.b i).2.2, rfl, fun k hk he => ?_, (fun h => nomatch h), hb⟩
    have hp' : (bk x.b i).1 = s := by simpa using hp
    have : k = i := by
      rcases Nat.lt_trichotomy k i with h | h | h
      · have := backsOk_mono h3 k i h hi; omega
      · exact h
      · have := backsOk_mono h3 i k h hk; omega
    subst this
    rfl

theorem late_lt {z yp : Nat} (h : yp ≠ 18446744073709551615) : (true && !late z yp) = decide (yp < z) := by
  unfold late
  rw [if_neg h, Bool.true_and, ← decide_not, decide_eq_decide]
  omega
set_option maxRecDepth 100000 in
set_option maxHeartbeats 8000000 in
theorem cellFinds_any (w : World) {A : CeT} {s z : Int} (h : CeOk w A) (hs : (Lit.int .i64 s).wf = true) (hz : (Lit.int .u64 z).wf = true) :
    Calls Try.prog 5 #[A.val, .int .i64 s, .int .u64 z] w fun e w' => e = .returned (.bool true) ∧ Below w.heap.size w w' := by
  obtain ⟨x, a, c, a2, c2⟩ := A
  obtain ⟨hk, hd, hdl, hb, hbl, hfit⟩ := h
  simp only at hk hd hdl hb hbl hfit
  have hs' := bounds_i64 hs
  have hz' := bounds_u64 hz
  obtain ⟨z, rfl⟩ := Int.eq_ofNat_of_zero_le hz'.1
  unfold CeT.val
  simp only
  have HAl := Lib.hid (fun W => alive_any W)
  have HF := Lib.hid (fun W => fits_any x.k a x.d.length c a2 x.b.length c2 W)
  obtain ⟨W1, hW1⟩ : ∃ W, w.alloc (.cells #[.int .i64 x.k, .slice a x.d.length c, .slice a2 x.b.length c2] 26) = W := ⟨_, rfl⟩
  have hb1 : Below w.heap.size w W1 := by rw [← hW1]; exact (Below.refl _ _).alloc (Nat.le_refl _) _
  have o1 : Own W1 w.heap.size 26 [.int .i64 x.k, .slice a x.d.length c, .slice a2 x.b.length c2] := by rw [← hW1]; exact Own.new w _ _
  have HB1 := Lib.hid hb1
  have HO1 := Lib.hid o1
  have HW1 := Lib.hid hW1
  have HD := Lib.hid hd
  have HBk := Lib.hid hb
  have HFit := Lib.hid hfit
  obtain ⟨f, hf⟩ : ∃ f, f = (decide (x.d.length ≤ 400) && decide (x.b.length ≤ 30)) := ⟨_, rfl⟩
  rw [← hf] at HF
  cases f with
  | false =>
    clear hf hW1 hb1 hd hb hfit hbl hdl o1 hk hs hz hs' hz'
    go_enter Try.func5, Try.ntmps5
    go_wp2_with fail
    rw [HW1.out]
    refine (HF.out _).mono ?_
    rintro e w2 ⟨rfl, hb2⟩
    have HB2 := Lib.hid (HB1.out.trans (hb2.mono HB1.out.size))
    clear hb2
    go_wp2_with fail
    refine (HAl.out _).mono ?_
    rintro e w4 ⟨rfl, hb4⟩
    have HB4 := Lib.hid (HB2.out.trans (hb4.mono HB2.out.size))
    clear hb4
    go_wp2_with fail
    go_ret
    exact ⟨rfl, HB4.out⟩
  | true =>
    have hl30 : x.d.length ≤ 400 ∧ x.b.length ≤ 30 := by simpa using hf.symm
    have HR := Lib.hid (fun W (hW : Below w.heap.size w W) => right_any x a c a2 c2 w.heap.size W (HBk.out.below hW (Nat.le_refl _)) hW.size (by omega) (by omega))
    cases hr : right x with
    | false =>
      rw [hr] at HR
      clear hf hr hl30 hW1 hb1 hd hb hfit hbl hdl o1 hk hs hz hs' hz'
      go_enter Try.func5, Try.ntmps5
      go_wp2_with fail
      rw [HW1.out]
      refine (HF.out _).mono ?_
      rintro e w2 ⟨rfl, hb2⟩
      have HB2 := Lib.hid (HB1.out.trans (hb2.mono HB1.out.size))
      have o2 := HO1.out.below hb2 HO1.out.lt
      have c0 := o2.cell 0
      have c1 := o2.cell 1
      have c2' := o2.cell 2
      simp at c0 c1 c2'
      clear hb2 o2
      go_wp2_with fail
      refine (HR.out _ HB2.out).mono ?_
      rintro e w3 ⟨rfl, hb3⟩
      have HB3 := Lib.hid (HB2.out.trans (hb3.mono HB2.out.size))
      clear hb3
      go_wp2_with fail
      refine (HAl.out _).mono ?_
      rintro e w4 ⟨rfl, hb4⟩
      have HB4 := Lib.hid (HB3.out.trans (hb4.mono HB3.out.size))
      clear hb4
      go_wp2_with fail
      go_ret
      exact ⟨rfl, HB4.out⟩
    | true =>
      have HFd := Lib.hid (fun W (hW : Below w.heap.size w W) => find_any x a x.d.length c a2 c2 w.heap.size s W (HBk.out.below hW (Nat.le_refl _)) hW.size hr)
      have HBf := Lib.hid (fun W (hW : Below w.heap.size w W) => before_any x a x.d.length c a2 c2 w.heap.size z W (HBk.out.below hW (Nat.le_refl _)) hW.size (by omega))
      rw [before_right hr z] at HBf
      rw [hr] at HR
      have hn4 : x.b.length ≤ 4 := (right_backs hr).2.1
      clear hf hr hl30 hW1 hb1 hd hb hfit hbl hdl o1 hk hs hz hs'
      generalize hmd : x.d.length = m at *
      generalize hnb : x.b.length = n at *
      have HNb := Lib.hid hnb
      clear hmd hnb
      go_enter Try.func5, Try.ntmps5
      go_wp2_with fail
      rw [HW1.out]
      refine (HF.out _).mono ?_
      rintro e w2 ⟨rfl, hb2⟩
      have HB2 := Lib.hid (HB1.out.trans (hb2.mono HB1.out.size))
      have o2 := HO1.out.below hb2 HO1.out.lt
      have HO2 := Lib.hid o2
      have c0 := o2.cell 0
      have c1 := o2.cell 1
      have c2' := o2.cell 2
      simp at c0 c1 c2'
      clear hb2 o2
      go_wp2_with fail
      refine (HR.out _ HB2.out).mono ?_
      rintro e w3 ⟨rfl, hb3⟩
      have HB3 := Lib.hid (HB2.out.trans (hb3.mono HB2.out.size))
      have o3 := HO2.out.below hb3 HO2.out.lt
      have HO3 := Lib.hid o3
      clear c0 c1 c2'
      have c0 := o3.cell 0
      have c1 := o3.cell 1
      have c2' := o3.cell 2
      simp at c0 c1 c2'
      clear hb3 o3
      go_wp2_with fail
      refine (HFd.out _ HB3.out).mono ?_
      rintro e w4 ⟨lp, lq, rfl, hfa, hfn, hb4⟩
      have HB4 := Lib.hid (HB3.out.trans (hb4.mono HB3.out.size))
      have HO4 := Lib.hid (HO3.out.below hb4 HO3.out.lt)
      have HFa := Lib.hid hfa
      have HFn := Lib.hid hfn
      have hz4 := HO4.out.lt
      clear hb4 hfa hfn c0 c1 c2'
      obtain ⟨fs, HFs⟩ : ∃ f, Hid (hasS x.b s n = f) := ⟨_, Lib.hid rfl⟩
      rw [HFs.out]
      go_wp2_with fail
      have HZ := Lib.hid hz'
      clear hz'
      go_loopw [10, 11, 12] (fun s10 s11 s12 wr => ∃ (k : Nat) (f1 f2 : Bool), k ≤ n ∧ s12 = .int .i64 (k : Int) ∧ s10 = .bool f1 ∧ s11 = .bool f2 ∧ Hid (hasS x.b s k = f1) ∧ Hid (befS x.b z k = f2) ∧ Hid (Own wr w.heap.size 26 [.int .i64 x.k, .slice a m c, .slice a2 n c2]) ∧ Hid (Own wr w4.heap.size 37 [.int .u64 (lp : Int), .int .u64 (lq : Int)]) ∧ Hid (Below w.heap.size w wr)) (fun _ _ s12 _ => n - (intOf s12).toNat)
      case atStart => exact ⟨0, false, true, Nat.zero_le _, rfl, rfl, rfl, Lib.hid rfl, Lib.hid rfl, Lib.hid (HO4.out.alloc _), Lib.hid (Own.new w4 _ _), Lib.hid (HB4.out.alloc HB4.out.size _)⟩
      case round =>
        obtain ⟨k, f1, f2, hk, rfl, rfl, rfl, HF1, HF2, HOB, HOL, HBr⟩ := hrel
        have d2 := HOB.out.cell 2
        have e0 := HOL.out.cell 0
        have e1 := HOL.out.cell 1
        simp at d2 e0 e1
        have hzr := HOB.out.lt
        have hzl := HOL.out.lt
        by_cases hlt : k < n
        · have hkL : k < x.b.length := by rw [HNb.out]; exact hlt
          obtain ⟨b, off, rfl, hb0, hcl⟩ := (HBk.out.below HBr.out (Nat.le_refl _)).bk (by omega)
          obtain ⟨g1, g2, g3⟩ := hcl k hkL
          have HFk := Lib.hid (HFa.out k hlt)
          clear hcl
          obtain ⟨⟨ys, yp, yq⟩, hy⟩ : ∃ y, bk x.b k = y := ⟨_, rfl⟩
          rw [hy] at g1 g2 g3 HFk
          have HY := Lib.hid hy
          clear hy
          simp only at g1 g2 g3 HFk
          have hk0 : (0 : Int) ≤ (k : Int) := by omega
          have hk1 : (k : Int) < (n : Int) := by omega
          have hn1 : (n : Int) ≤ 4 := by omega
          have hcase : f2 = false ∨ (f2 = true ∧ ((yp : Int) == 18446744073709551615) = true ∧ yp = 18446744073709551615) ∨ (f2 = true ∧ ((yp : Int) == 18446744073709551615) = false ∧ yp ≠ 18446744073709551615) := by
            cases f2
            · exact .inl rfl
            · by_cases h : yp = 18446744073709551615
              · exact .inr (.inl ⟨rfl, by rw [beq_iff_eq]; omega, h⟩)
              · exact .inr (.inr ⟨rfl, by rw [beq_eq_false_iff_ne]; omega, h⟩)
          by_cases hys : ys = s
          · obtain ⟨hp1, hp2⟩ : yp = lp ∧ yq = lq := by
              have := HFk.out hys
              exact ⟨congrArg Prod.fst this, congrArg Prod.snd this⟩
            subst hys hp1 hp2
            have hN : ∀ W, (binOp .neq 37 (.agg #[.int .u64 (yp : Int), .int .u64 (yq : Int)]) (.agg #[.int .u64 (yp : Int), .int .u64 (yq : Int)])).run Try.prog W = .ok (.bool false) W := fun W => by rw [neq_two]; simp
            rcases hcase with rfl | ⟨rfl, hne, hne2⟩ | ⟨rfl, hne, hne2⟩
            · skip
              go_wp2_with fail
              go_roundw
              case rel => exact ⟨k + 1, _, _, by omega, by go_num, rfl, rfl, Lib.hid (by rw [hasS_succ, HF1.out, HY.out]; simp), Lib.hid (by rw [befS_succ, HF2.out]; rfl), Lib.hid (HOB.out.alloc _), Lib.hid (HOL.out.alloc _), Lib.hid (HBr.out.alloc HBr.out.size _)⟩
              case measure => simp [intOf]; omega
            · have HNE := Lib.hid hne2
              clear hne2
              go_wp2_with fail
              go_roundw
              case rel => exact ⟨k + 1, _, _, by omega, by go_num, rfl, rfl, Lib.hid (by rw [hasS_succ, HF1.out, HY.out]; simp), Lib.hid (by rw [befS_succ, HF2.out, HY.out]; simp [late, HNE.out]), Lib.hid (HOB.out.alloc _), Lib.hid (HOL.out.alloc _), Lib.hid (HBr.out.alloc HBr.out.size _)⟩
              case measure => simp [intOf]; omega
            · have HNE := Lib.hid hne2
              clear hne2
              go_wp2_with fail
              go_roundw
              case rel => exact ⟨k + 1, _, _, by omega, by go_num, rfl, rfl, Lib.hid (by rw [hasS_succ, HF1.out, HY.out]; simp), Lib.hid (by rw [befS_succ, HF2.out, HY.out]; exact late_lt HNE.out), Lib.hid (HOB.out.alloc _), Lib.hid (HOL.out.alloc _), Lib.hid (HBr.out.alloc HBr.out.size _)⟩
              case measure => simp [intOf]; omega
          · have hne0 : (ys == s) = false := by rw [beq_eq_false_iff_ne]; exact hys
            rcases hcase with rfl | ⟨rfl, hne, hne2⟩ | ⟨rfl, hne, hne2⟩
            · skip
              go_wp2_with fail
              go_roundw
              case rel => exact ⟨k + 1, _, _, by omega, by go_num, rfl, rfl, Lib.hid (by rw [hasS_succ, HF1.out, HY.out]; simp [hys]), Lib.hid (by rw [befS_succ, HF2.out]; rfl), Lib.hid (HOB.out.alloc _), Lib.hid (HOL.out.alloc _), Lib.hid (HBr.out.alloc HBr.out.size _)⟩
              case measure => simp [intOf]; omega
            · have HNE := Lib.hid hne2
              clear hne2
              go_wp2_with fail
              go_roundw
              case rel => exact ⟨k + 1, _, _, by omega, by go_num, rfl, rfl, Lib.hid (by rw [hasS_succ, HF1.out, HY.out]; simp [hys]), Lib.hid (by rw [befS_succ, HF2.out, HY.out]; simp [late, HNE.out]), Lib.hid (HOB.out.alloc _), Lib.hid (HOL.out.alloc _), Lib.hid (HBr.out.alloc HBr.out.size _)⟩
              case measure => simp [intOf]; omega
            · have HNE := Lib.hid hne2
              clear hne2
              go_wp2_with fail
              go_roundw
              case rel => exact ⟨k + 1, _, _, by omega, by go_num, rfl, rfl, Lib.hid (by rw [hasS_succ, HF1.out, HY.out]; simp [hys]), Lib.hid (by rw [befS_succ, HF2.out, HY.out]; exact late_lt HNE.out), Lib.hid (HOB.out.alloc _), Lib.hid (HOL.out.alloc _), Lib.hid (HBr.out.alloc HBr.out.size _)⟩
              case measure => simp [intOf]; omega
        · obtain rfl : k = n := by omega
          obtain rfl : f1 = fs := HF1.out.symm.trans HFs.out
          have HBf2 := HBf
          rw [HF2.out] at HBf2
          have hN : f1 = false → ∀ W, (binOp .neq 37 (.agg #[.int .u64 (lp : Int), .int .u64 (lq : Int)]) (.agg #[.int .u64 18446744073709551615, .int .u64 18446744073709551615])).run Try.prog W = .ok (.bool false) W := fun hf W => by
            obtain ⟨h1, h2⟩ := HFn.out (HF1.out.trans hf)
            refine (neq_two lp lq 18446744073709551615 18446744073709551615 W).trans ?_
            rw [h1, h2]
            simp
          have HCl := Lib.hid HBr.out.size
          have HBx := Lib.hid (HBr.out.alloc HBr.out.size (.cells #[.int .u64 18446744073709551615, .int .u64 18446744073709551615] 37))
          have HOx := Lib.hid (HOB.out.alloc (.cells #[.int .u64 18446744073709551615, .int .u64 18446744073709551615] 37))
          clear HCl
          cases f1
          all_goals cases f2
          all_goals
            first | have hN2 := hN rfl | skip
            clear hN
            go_wp2_with fail
            refine (HAl.out _).mono ?_
            rintro e w5 ⟨rfl, hb5⟩
            have HB5 := Lib.hid (HBx.out.trans (hb5.mono HBx.out.size))
            have o5 := HOx.out.below hb5 HOx.out.lt
            have i0 := o5.cell 0
            have i1 := o5.cell 1
            have i2 := o5.cell 2
            simp at i0 i1 i2
            clear hb5 o5
            go_wp2_with fail
            refine (HBf2.out _ HB5.out).mono ?_
            rintro e w6 ⟨rfl, hb6⟩
            have HB6 := Lib.hid (HB5.out.trans (hb6.mono HB5.out.size))
            clear hb6
            go_wp2_with fail
            go_ret
            exact ⟨rfl, HB6.out⟩
end Go.Proofs.Ytcapphabajplcaa
