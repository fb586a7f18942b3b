/-
  The statement ProposerNil: the walk of its Go text, by the contracts of what it calls.
-/
import Derived.Test.YtcadnlilijkneaaGa13
import Derived.Test.YtcadnlilijkneaaGa7
namespace Go.Proofs.Ytcadnlilijkneaa
open Go.RowKit Go.Maps Go.Shelf Go.Deep
set_option linter.unusedVariables false
set_option linter.unusedSimpArgs false

/-- a message is loaded whole at an operation whose guard is met -/
theorem wpList_loadMgG {ops : Array Oper} {rest : List Oper} {o : Oper} {a : Act} {w : World} {Q : Exit → Act → World → Prop} (x : Operand) (ho : o.op = .load 40 x) (b : Nat) (hx : a.eval x = .pointer (some ⟨b, 0, none⟩)) (A : MgT) (hr : Own w b 40 A.cs) (hw : Region.wanted o (yielded ops a.tmps) = true)
    (h : wpList Try.prog ops Q rest (a.put o.dst (.agg A.cs.toArray)) w) : wpList Try.prog ops Q (o :: rest) a w :=
  wpList_step fun K hK => by
    rw [if_pos hw]
    exact wp_load_mid _ x ho b 0 hx A.cs _ hr.range Try.underlying40 rfl infoMg (hK _ _ h)
set_option maxHeartbeats 8000000 in
set_option maxRecDepth 100000 in
theorem proposerNil_any (w : World) {A : MgT} (hA : MgOk w A) :
    Calls Try.prog 3 #[.agg A.cs.toArray] w fun e w' => e = .returned (.bool true) ∧ Below w.heap.size w w' := by
  obtain ⟨W, HWW⟩ : ∃ W, Hid (w.alloc (.cells A.cs.toArray 40) = W) := ⟨_, Lib.hid rfl⟩
  have hWb : Below w.heap.size w W := by rw [← HWW.out]; exact (Below.refl _ _).alloc (Nat.le_refl _) _
  have HO := Lib.hid (show Own W w.heap.size 40 A.cs by rw [← HWW.out]; exact Own.new w _ _)
  have HB := Lib.hid hWb
  have HAL := Lib.hid alive13_any
  have HF := Lib.hid (fun (W' : World) (hb : Below w.heap.size w W') => fits10_any A w.heap.size W' (hA.inn.below hb (Nat.le_refl _)) hb.size hA.fit)
  have HHE := Lib.hid (fun W' => Hear_nil W' A)
  have hpl := eqIn_ballotP
  clear hWb hA
  go_enter Try.func3, Try.ntmps3
  go_upto_region 1 with fail
  rw [HWW.out]
  go_wp2_with (refine wpList_loadMg rfl (.tmp 1) rfl w.heap.size rfl A HO.out ?_)
  refine (HF.out W HB.out).mono ?_
  rintro e w1 ⟨⟨t1, rfl⟩, hb⟩
  have HB1 := Lib.hid (HB.out.trans (hb.mono HB.out.size))
  have HO1 := Lib.hid (HO.out.below hb HO.out.lt)
  clear hb
  cases t1 with
  | false =>
    go_wp2_with fail
    refine (HAL.out w1).mono ?_
    rintro e w2 ⟨rfl, hc⟩
    have HB2 := Lib.hid (below_chg HB1.out hc HB1.out.size (by simp))
    clear hc
    go_wp2_with fail
    go_ret
    exact ⟨rfl, HB2.out⟩
  | true =>
    go_wp2_with fail
    refine (Decided_nil w1).mono ?_
    rintro e w2 ⟨rfl, hc2⟩
    have HB2 := Lib.hid (below_chg HB1.out hc2 HB1.out.size (by simp))
    have HO2 := Lib.hid (HO1.out.chg hc2 (by simp))
    clear hc2
    go_upto_region 6 with fail
    obtain ⟨W3, hW3⟩ : ∃ W, w2.alloc (.cells #[.int .u64 0, .slice none 0 0, .int .i64 0] 38) = W := ⟨_, rfl⟩
    have hc3 : Chg [] w2 W3 := by rw [← hW3]; exact (Chg.refl [] w2).alloc _
    have HB3 := Lib.hid (below_chg HB2.out hc3 HB2.out.size (by simp))
    have HO3 := Lib.hid (HO2.out.chg hc3 (by simp))
    rw [hW3]
    clear hc3 hW3
    go_wp2_with fail
    refine (HAL.out W3).mono ?_
    rintro e w4 ⟨rfl, hc⟩
    have HB4 := Lib.hid (below_chg HB3.out hc HB3.out.size (by simp))
    have HO4 := Lib.hid (HO3.out.chg hc (by simp))
    clear hc
    go_wp2_with fail
    refine (Start_nil w4).mono ?_
    rintro e w5 ⟨rfl, rfl⟩
    dsimp only
    go_step
    try simp only [List.append]
    go_wp2_with (refine wpList_loadMgG (.tmp 1) (by rfl) w.heap.size (by rfl) A HO4.out (by first | rfl | kernel_rfl | simp [Region.wanted, yielded]) ?_)
    refine (HHE.out w5).mono ?_
    rintro e w6 ⟨rfl, hc⟩
    have HB6 := Lib.hid (below_chg HB4.out hc HB4.out.size (by simp))
    clear hc
    go_wp2_with fail
    refine (PTick_nil w6).mono ?_
    rintro e w7 ⟨rfl, rfl⟩
    go_wp2_with fail
    refine (Out_nil w7).mono ?_
    rintro e w8 ⟨rfl, rfl⟩
    go_wp2_with fail
    refine (Ballot_nil w8).mono ?_
    rintro e w9 ⟨rfl, hc⟩
    have HB9 := Lib.hid (below_chg HB6.out hc HB6.out.size (by simp))
    clear hc
    go_wp2_with fail
    go_ret
    exact ⟨rfl, HB9.out⟩
end Go.Proofs.Ytcadnlilijkneaa
