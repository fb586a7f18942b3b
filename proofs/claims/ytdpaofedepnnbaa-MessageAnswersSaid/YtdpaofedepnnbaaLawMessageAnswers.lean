/-
  The statement MessageAnswers: the walk of its Go text, by the contracts of what it calls.
-/
import Derived.Test.YtdpaofedepnnbaaAlv10
import Derived.Test.YtdpaofedepnnbaaOp10
namespace Go.Proofs.Ytdpaofedepnnbaa
open Go.RowKit Go.Deep Go.Shelf
set_option linter.unusedVariables false
set_option linter.unusedSimpArgs false

theorem eqIn_place (a b a' b' : Int) (w : World) : (Op.equalIn 10000 51 (.agg #[.int .i64 a, .int .i64 b]) (.agg #[.int .i64 a', .int .i64 b'])).run Try.prog w = .ok (decide (a = a' ∧ b = b')) w := by
  have g0 : ∀ (x y : Value), (part 49 #[x, y] 0).run Try.prog w = .ok x w := fun x y => run_part_cell Try.underlying49 rfl w
  have g1 : ∀ (x y : Value), (part 3 #[x, y] 1).run Try.prog w = .ok y w := fun x y => run_part_cell Try.underlying3 rfl w
  have ge : ∀ (x y : Int), (Op.equalIn 9999 3 (.int .i64 x) (.int .i64 y)).run Try.prog w = .ok (x == y) w := fun x y => run_equalIn_int w 9998 3 .i64 .i64 _ _ Try.underlying3
  have gr : ∀ (x y : Int), (Op.equalIn 9999 49 (.int .i64 x) (.int .i64 y)).run Try.prog w = .ok (x == y) w := fun x y => run_equalIn_int w 9998 49 .i64 .i64 _ _ Try.underlying49
  refine (run_equalIn_struct w 9999 51 _ _ (by kernel_rfl) (by kernel_rfl)).trans ?_
  simp [Program.fieldsOf, Try.underlying51, Op.eqFields, g0, g1, ge, gr]
  by_cases h1 : a = a'
  · by_cases h2 : b = b' <;> simp [h1, h2]
  · simp [h1]
theorem eq_place (a b : Int) (w : World) : (binOp .eql 51 (.agg #[.int .i64 a, .int .i64 b]) (.agg #[.int .i64 a, .int .i64 b])).run Try.prog w = .ok (.bool true) w := by
  rw [run_eql_struct, eqIn_place]; simp
/-- a message is loaded whole at an operation whose guard is met -/
theorem wpList_loadMgG {ops : Array Oper} {rest : List Oper} {o : Oper} {a : Act} {w : World} {Q : Exit → Act → World → Prop} (x : Operand) (ho : o.op = .load 59 x) (b : Nat) (hx : a.eval x = .pointer (some ⟨b, 0, none⟩)) (A : MgT) (hr : Own w b 59 A.cs) (hw : Region.wanted o (yielded ops a.tmps) = true)
    (h : wpList Try.prog ops Q rest (a.put o.dst (.agg A.cs.toArray)) w) : wpList Try.prog ops Q (o :: rest) a w :=
  wpList_step fun K hK => by
    rw [if_pos hw]
    exact wp_load_mid _ x ho b 0 hx A.cs _ hr.range Try.underlying59 rfl infoMg (hK _ _ h)
theorem ans_right {A : MgT} {e : Int} (h : mright A.x = true) (hk : A.k ≠ 14) (h0 : 0 ≤ e) (h1 : e ≤ 255) : mright (ansT A e).x = true := by
  have hm := h
  unfold mright at hm
  simp only [Bool.and_eq_true] at hm
  obtain ⟨g1, g2, g3, g4, g5, g6, -⟩ := hm
  have k1 : kindsOk 14 A.k = true := by
    have hkk : kindsOk A.k A.f = true := g1
    unfold kindsOk at hkk ⊢
    rw [if_neg hk, Bool.and_eq_true] at hkk
    rw [if_pos rfl]
    exact hkk.1
  have k2 : blw e 256 = true := blw_iff.2 ⟨h0, by omega⟩
  have r1 : (baOk (0, 0) && (baOk (0, 0) && (stOk [] && (mbOk [] && (mcOk noC && mlOk (LyT.x ⟨0, none, 0, [], 0⟩)))))) = true := by kernel_rfl
  show (kindsOk 14 A.k && (plOk A.to && (plOk A.fr && (blw A.id 1048576 && (decide (A.ep ≤ 1048576) && (decide (A.ad ≤ 1048576) && (blw e 256 && (baOk (0, 0) && (baOk (0, 0) && (stOk [] && (mbOk [] && (mcOk noC && mlOk (LyT.x ⟨0, none, 0, [], 0⟩))))))))))))) = true
  have q2 : plOk A.fr = true := g2
  have q3 : plOk A.to = true := g3
  have q4 : blw A.id 1048576 = true := g4
  have q5 : decide (A.ep ≤ 1048576) = true := g5
  have q6 : decide (A.ad ≤ 1048576) = true := g6
  rw [k1, q2, q3, q4, q5, q6, k2, r1]
  rfl
set_option maxHeartbeats 8000000 in
set_option maxRecDepth 100000 in
theorem messageAnswers_any (w : World) {A : MgT} (hA : MgOk w A) {e : Int} (he : (Lit.int .i64 e).wf = true) :
    Calls Try.prog 7 #[.agg A.cs.toArray, .int .i64 e] w fun z w' => z = .returned (.bool true) ∧ Below w.heap.size w w' := by
  obtain ⟨W, HWW⟩ : ∃ W, Hid (w.alloc (.cells A.cs.toArray 59) = W) := ⟨_, Lib.hid rfl⟩
  have hWb : Below w.heap.size w W := by rw [← HWW.out]; exact (Below.refl _ _).alloc (Nat.le_refl _) _
  have HO := Lib.hid (show Own W w.heap.size 59 A.cs by rw [← HWW.out]; exact Own.new w _ _)
  have HB := Lib.hid hWb
  have HAL := Lib.hid alive10_any
  have hin := fun (W' : World) (hb : Below w.heap.size w W') => hA.inn.below hb (Nat.le_refl _)
  have HF := Lib.hid (fun (W' : World) (hb : Below w.heap.size w W') => fits10_any A w.heap.size W' (hin W' hb) hb.size hA.fit)
  have HR := Lib.hid (fun (W' : World) (hb : Below w.heap.size w W') => mright_any A w.heap.size W' (hin W' hb) hb.size hA.fit)
  have HAN := Lib.hid (fun (W' : World) => answer_any A e W')
  have HAN2 := Lib.hid (fun (W' : World) => answer_any (ansT A e) 0 W')
  have HAR := Lib.hid (fun (W' : World) => mright_any (ansT A e) 0 W' (ansT_in W' 0 A e) (Nat.zero_le _) (ansT_fit A e))
  have HRR := Lib.hid (@ans_right A e)
  have hpl := eqIn_place
  obtain ⟨r, hr⟩ : ∃ r, mright A.x = r := ⟨_, rfl⟩
  rw [hr] at HR
  have HRX := Lib.hid hr
  simp only [MgT.val] at *
  clear hWb hA hin hr he
  go_enter Try.func7, Try.ntmps7
  go_upto_region 1 with fail
  rw [HWW.out]
  go_wp2_with (refine wpList_loadMg rfl (.tmp 2) rfl w.heap.size rfl A HO.out ?_)
  refine (HF.out W HB.out).mono ?_
  rintro z w1 ⟨⟨t1, rfl⟩, hb⟩
  have HB1 := Lib.hid (HB.out.trans (hb.mono HB.out.size))
  have HO1 := Lib.hid (HO.out.below hb HO.out.lt)
  clear hb
  cases t1 with
  | false =>
    go_wp2_with fail
    refine (HAL.out w1).mono ?_
    rintro z w2 ⟨rfl, hb⟩
    have HB2 := Lib.hid (HB1.out.trans (hb.mono HB1.out.size))
    clear hb
    go_wp2_with fail
    go_ret
    exact ⟨rfl, HB2.out⟩
  | true =>
  go_wp2_with (refine wpList_loadMgG (.tmp 2) rfl w.heap.size rfl A HO1.out rfl ?_)
  refine (HR.out w1 HB1.out).mono ?_
  rintro z w2 ⟨rfl, hb⟩
  have HB2 := Lib.hid (HB1.out.trans (hb.mono HB1.out.size))
  have HO2 := Lib.hid (HO1.out.below hb HO1.out.lt)
  clear hb
  have c0 := HO2.out.cell 0
  have hz := HO2.out.lt
  simp [MgT.cs] at c0
  cases r with
  | false =>
    go_wp2_with fail
    refine (HAL.out w2).mono ?_
    rintro z w3 ⟨rfl, hb⟩
    have HB3 := Lib.hid (HB2.out.trans (hb.mono HB2.out.size))
    clear hb
    go_wp2_with fail
    go_ret
    exact ⟨rfl, HB3.out⟩
  | true =>
  by_cases hk : A.k = 14
  · have hk1 : (A.k == 14) = true := by rw [beq_iff_eq]; exact hk
    clear hk
    go_wp2_with fail
    refine (HAL.out w2).mono ?_
    rintro z w3 ⟨rfl, hb⟩
    have HB3 := Lib.hid (HB2.out.trans (hb.mono HB2.out.size))
    clear hb
    go_wp2_with fail
    go_ret
    exact ⟨rfl, HB3.out⟩
  have hk1 : (A.k == 14) = false := by rw [beq_eq_false_iff_ne]; exact hk
  by_cases h0 : e < 0
  · clear hk
    go_wp2_with fail
    refine (HAL.out w2).mono ?_
    rintro z w3 ⟨rfl, hb⟩
    have HB3 := Lib.hid (HB2.out.trans (hb.mono HB2.out.size))
    clear hb
    go_wp2_with fail
    go_ret
    exact ⟨rfl, HB3.out⟩
  by_cases h1 : 255 < e
  · clear hk
    go_wp2_with fail
    refine (HAL.out w2).mono ?_
    rintro z w3 ⟨rfl, hb⟩
    have HB3 := Lib.hid (HB2.out.trans (hb.mono HB2.out.size))
    clear hb
    go_wp2_with fail
    go_ret
    exact ⟨rfl, HB3.out⟩
  have HAX := Lib.hid (HRR.out HRX.out hk (by omega) (by omega))
  rw [HAX.out] at HAR
  clear hk
  go_upto_region 4 with fail
  clear h0 h1 hk1 c0 hz
  go_wp2_with (refine wpList_loadMg rfl (.tmp 2) rfl w.heap.size rfl A HO2.out ?_)
  refine (HAN.out w2).mono ?_
  rintro z w3 ⟨rfl, hb⟩
  have HB3 := Lib.hid (HB2.out.trans (hb.mono HB2.out.size))
  have HO3 := Lib.hid (HO2.out.below hb HO2.out.lt)
  have HZ3 : Hid (Own (w3.alloc (.cells #[.int .i64 0, .int .i64 0, .int .i64 0, .int .i64 0, .int .i64 0, .int .i64 0, .int .i64 0, .int .u64 0, .int .u64 0, .int .i64 0, .int .i64 0, .slice none 0 0, .slice none 0 0, .slice none 0 0, .slice none 0 0, .int .i64 0, .int .i64 0, .int .i64 0, .int .i64 0, .int .u64 0, .slice none 0 0, .int .i64 0] 59)) w3.heap.size 59 zmT.cs) := Lib.hid (Own.new w3 59 zmT.cs)
  clear hb
  go_wp2_with (refine wpList_storeMg rfl (.tmp 6) (.tmp 33) rfl w3.heap.size rfl (ansT A e) rfl zmT.cs HZ3.out rfl ?_)
  intro w4 ho hc
  obtain ⟨p4, hp4⟩ : ∃ p, w3.heap.size = p := ⟨_, rfl⟩
  rw [hp4] at ho ⊢
  have HO4 := Lib.hid ho
  have hc4 : Chg [] w3 w4 := ((Chg.refl [] w3).alloc _).then hc (fun x hx => by simp only [List.mem_singleton] at hx; subst hx; exact .inr (Nat.le_refl _))
  have HB4 : Hid (Below w.heap.size w w4) := Lib.hid (HB3.out.trans (hc4.low.mono HB3.out.size))
  have HM4 := Lib.hid (HO3.out.chg hc4 (by simp))
  clear ho hc hc4 hp4
  go_wp2_with (refine wpList_loadMg rfl (.tmp 6) rfl p4 rfl (ansT A e) HO4.out ?_)
  refine (HAN2.out w4).mono ?_
  rintro z w5 ⟨rfl, hb⟩
  have HB5 := Lib.hid (HB4.out.trans (hb.mono HB4.out.size))
  have HM5 := Lib.hid (HM4.out.below hb HM4.out.lt)
  have HO5 := Lib.hid (HO4.out.below hb HO4.out.lt)
  have HZ5 : Hid (Own (w5.alloc (.cells #[.int .i64 0, .int .i64 0, .int .i64 0, .int .i64 0, .int .i64 0, .int .i64 0, .int .i64 0, .int .u64 0, .int .u64 0, .int .i64 0, .int .i64 0, .slice none 0 0, .slice none 0 0, .slice none 0 0, .slice none 0 0, .int .i64 0, .int .i64 0, .int .i64 0, .int .i64 0, .int .u64 0, .slice none 0 0, .int .i64 0] 59)) w5.heap.size 59 zmT.cs) := Lib.hid (Own.new w5 59 zmT.cs)
  clear hb
  go_wp2_with (refine wpList_storeMg rfl (.tmp 7) (.tmp 35) rfl w5.heap.size rfl (ansT (ansT A e) 0) rfl zmT.cs HZ5.out rfl ?_)
  intro w6 ho hc
  obtain ⟨p6, hp6⟩ : ∃ p, w5.heap.size = p := ⟨_, rfl⟩
  rw [hp6] at ho ⊢
  have HQ6 := Lib.hid ho
  have hc6 : Chg [] w5 w6 := ((Chg.refl [] w5).alloc _).then hc (fun x hx => by simp only [List.mem_singleton] at hx; subst hx; exact .inr (Nat.le_refl _))
  have HB6 : Hid (Below w.heap.size w w6) := Lib.hid (HB5.out.trans (hc6.low.mono HB5.out.size))
  have HM6 := Lib.hid (HM5.out.chg hc6 (by simp))
  have HO6 := Lib.hid (HO5.out.chg hc6 (by simp))
  clear ho hc hc6 hp6
  go_wp2_with fail
  refine (HAL.out w6).mono ?_
  rintro z w7 ⟨rfl, hb⟩
  have HB7 := Lib.hid (HB6.out.trans (hb.mono HB6.out.size))
  have HM7 := Lib.hid (HM6.out.below hb HM6.out.lt)
  have HO7 := Lib.hid (HO6.out.below hb HO6.out.lt)
  have HQ7 := Lib.hid (HQ6.out.below hb HQ6.out.lt)
  clear hb
  dsimp only
  go_step
  simp only [List.append]
  go_wp2_with (refine wpList_loadMgG (.tmp 6) (by rfl) p4 (by rfl) (ansT A e) HO7.out (by first | rfl | kernel_rfl | simp [Region.wanted, yielded]) ?_)
  refine (HAR.out w7).mono ?_
  rintro z w8 ⟨rfl, hb⟩
  have HB8 := Lib.hid (HB7.out.trans (hb.mono HB7.out.size))
  have o8 := HM7.out.below hb HM7.out.lt
  have a8 := HO7.out.below hb HO7.out.lt
  have b8 := HQ7.out.below hb HQ7.out.lt
  have oc0 := o8.cell 0
  have oc1 := o8.cell 1
  have oc2 := o8.cell 2
  have oc3 := o8.cell 3
  have oc4 := o8.cell 4
  have oc5 := o8.cell 5
  have oc7 := o8.cell 7
  have ac1 := a8.cell 1
  have ac2 := a8.cell 2
  have ac3 := a8.cell 3
  have ac4 := a8.cell 4
  have ac5 := a8.cell 5
  have ac6 := a8.cell 6
  have ac7 := a8.cell 7
  have ac9 := a8.cell 9
  have ac13 := a8.cell 13
  have bc1 := b8.cell 1
  have bc2 := b8.cell 2
  have bc3 := b8.cell 3
  have bc4 := b8.cell 4
  simp [MgT.cs, ansT] at oc0 oc1 oc2 oc3 oc4 oc5 oc7 ac1 ac2 ac3 ac4 ac5 ac6 ac7 ac9 ac13 bc1 bc2 bc3 bc4
  have hz1 := o8.lt
  have hz2 := a8.lt
  have hz3 := b8.lt
  clear hb o8 a8 b8
  go_wp2_with fail
  go_ret
  exact ⟨rfl, HB8.out⟩
end Go.Proofs.Ytdpaofedepnnbaa
