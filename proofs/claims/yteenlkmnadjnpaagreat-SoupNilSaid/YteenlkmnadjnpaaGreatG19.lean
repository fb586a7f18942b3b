/-
  The statement SoupNil: the walk of its Go text, by the contracts of what it calls.
-/
import Derived.Test.YteenlkmnadjnpaaGreatG18
namespace Go.Proofs.YteenlkmnadjnpaaGreat
open Go.RowKit Go.Deep Go.Shelf
set_option linter.unusedVariables false
set_option linter.unusedSimpArgs false

set_option maxHeartbeats 8000000 in
set_option maxRecDepth 100000 in
theorem soupNil_any (w : World) {A : AcT} (hA : AcOk w A) :
    Calls Tryz.prog 8 #[.agg A.cs.toArray] w fun e w' => e = .returned (.bool true) ∧ Below w.heap.size w w' := by
  obtain ⟨W, HWW⟩ : ∃ W, Hid (w.alloc (.cells A.cs.toArray 59) = W) := ⟨_, Lib.hid rfl⟩
  have hWb : Below w.heap.size w W := by rw [← HWW.out]; exact (Below.refl _ _).alloc (Nat.le_refl _) _
  have HO := Lib.hid (show Own W w.heap.size 59 A.cs by rw [← HWW.out]; exact Own.new w _ _)
  have HB := Lib.hid hWb
  have HAL := Lib.hid alive11_any
  have HF := Lib.hid (fun (W' : World) (hb : Below w.heap.size w W') => fits10_any A.m w.heap.size W' (hA.m.inn.below hb (Nat.le_refl _)) hb.size hA.m.fit)
  have HTK := Lib.hid (Take_nil A.i)
  have HPT := Lib.hid (Put_nil A.m)
  have HTW := Lib.hid (Twice_nil A.i)
  have HLO := Lib.hid (Lose_nil A.i)
  have HDN := Lib.hid (Down_nil A.p true)
  have HID := Lib.hid (SpIsDown_nil A.p)
  have HTI := Lib.hid (Times_nil A.m)
  clear hWb hA
  go_enter Tryz.func8, Tryz.ntmps8
  go_upto_region 1 with fail
  rw [HWW.out]
  go_wp2_with (refine wpList_loadMm (.tmp 8) rfl w.heap.size 2 rfl A.m HO.out.actM rfl ?_)
  refine (HF.out W HB.out).mono ?_
  rintro e w1 ⟨⟨t1, rfl⟩, hb⟩
  have HB1 := Lib.hid (HB.out.trans (hb.mono HB.out.size))
  have HO1 := Lib.hid (HO.out.below hb HO.out.lt)
  clear hb
  cases t1 with
  | false =>
    go_wp2_with fail
    refine (HAL.out w1).mono ?_
    rintro e w2 ⟨rfl, hb⟩
    have HB2 := Lib.hid (HB1.out.trans (hb.mono HB1.out.size))
    clear hb
    go_wp2_with fail
    go_ret
    exact ⟨rfl, HB2.out⟩
  | true =>
    obtain ⟨c0, c1, c2, c3, cz⟩ := HO1.out.actC
    go_wp2_with fail
    refine (HTK.out w1).mono ?_
    rintro e w2 ⟨rfl, hc⟩
    have HB2 := Lib.hid (below_chg HB1.out hc HB1.out.size (by simp))
    have HO2 := Lib.hid (HO1.out.chg hc (by simp))
    have HZ := Lib.hid (Own.new w2 40 zmT.cs)
    clear c0 c1 c2 c3 cz hc
    go_wp2_with (refine wpList_storeMg rfl (.tmp 5) (.tmp 19) rfl w2.heap.size rfl zmT rfl zmT.cs HZ.out rfl ?_)
    intro w3 ho hc
    have hc3 : Chg [] w2 w3 := ((Chg.refl [] w2).alloc _).then hc (fun x hx => by simp only [List.mem_singleton] at hx; subst hx; exact .inr (Nat.le_refl _))
    have HB3 := Lib.hid (below_chg HB2.out hc3 HB2.out.size (by simp))
    have HO3 := Lib.hid (HO2.out.chg hc3 (by simp))
    clear ho hc hc3 HZ
    go_wp2_with fail
    refine (HAL.out w3).mono ?_
    rintro e w4 ⟨rfl, hb⟩
    have HB4 := Lib.hid (HB3.out.trans (hb.mono HB3.out.size))
    have HO4 := Lib.hid (HO3.out.below hb HO3.out.lt)
    clear hb
    dsimp only
    go_step
    try simp only [List.append]
    go_wp2_with (refine wpList_loadMm (.tmp 33) (by rfl) w.heap.size 2 (by rfl) A.m HO4.out.actM (by first | rfl | kernel_rfl | simp [Region.wanted, yielded]) ?_)
    refine (HPT.out w4).mono ?_
    rintro e w5 ⟨rfl, hc⟩
    have HB5 := Lib.hid (below_chg HB4.out hc HB4.out.size (by simp))
    have HO5 := Lib.hid (HO4.out.chg hc (by simp))
    obtain ⟨c0, c1, c2, c3, cz⟩ := HO5.out.actC
    clear hc
    go_wp2_with fail
    refine (HTW.out w5).mono ?_
    rintro e w6 ⟨rfl, rfl⟩
    go_wp2_with fail
    refine (HLO.out w5).mono ?_
    rintro e w6 ⟨rfl, rfl⟩
    go_wp2_with fail
    refine (HDN.out w5).mono ?_
    rintro e w6 ⟨rfl, hc⟩
    have HB6 := Lib.hid (below_chg HB5.out hc HB5.out.size (by simp))
    have HO6 := Lib.hid (HO5.out.chg hc (by simp))
    clear c0 c1 c2 c3 cz hc
    obtain ⟨c0, c1, c2, c3, cz⟩ := HO6.out.actC
    go_wp2_with fail
    refine (HID.out w6).mono ?_
    rintro e w7 ⟨rfl, hc⟩
    have HB7 := Lib.hid (below_chg HB6.out hc HB6.out.size (by simp))
    have HO7 := Lib.hid (HO6.out.chg hc (by simp))
    clear c0 c1 c2 c3 cz hc
    go_wp2_with fail
    refine (Kinds_nil w7).mono ?_
    rintro e w8 ⟨rfl, rfl⟩
    dsimp only
    go_step
    try simp only [List.append]
    go_wp2_with (refine wpList_loadMm (.tmp 74) (by rfl) w.heap.size 2 (by rfl) A.m HO7.out.actM (by first | rfl | kernel_rfl | simp [Region.wanted, yielded]) ?_)
    refine (HTI.out w7).mono ?_
    rintro e w8 ⟨rfl, hc⟩
    have HB8 := Lib.hid (below_chg HB7.out hc HB7.out.size (by simp))
    clear hc
    go_wp2_with fail
    refine (Len_nil w8).mono ?_
    rintro e w9 ⟨rfl, rfl⟩
    go_wp2_with fail
    refine (Lost_nil w8).mono ?_
    rintro e w9 ⟨rfl, rfl⟩
    go_wp2_with fail
    go_ret
    exact ⟨rfl, HB8.out⟩
end Go.Proofs.YteenlkmnadjnpaaGreat
