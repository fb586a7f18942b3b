/-
  What the laws of package message use: messages stored, Answer, Fits, the live question. No claim of its own.
-/
import Derived.Test.YtdpaofedepnnbaaMe
import Derived.Test.YtdpaofedepnnbaaLyH
import Derived.Test.YtdpaofedepnnbaaCeQ
import Derived.Laws.Rows
namespace Go.Proofs.Ytdpaofedepnnbaa
open Go.RowKit Go.Deep Go.Shelf
set_option linter.unusedVariables false
set_option linter.unusedSimpArgs false

theorem own_setCells {g : Nat} {t : TypeId} : ∀ (vs pre old : List Value) (w : World), Own w g t (pre ++ old) → old.length = vs.length → Own (w.setCells g pre.length vs) g t (pre ++ vs)
  | [], pre, old, w, h, hl => by
    have : old = [] := List.eq_nil_of_length_eq_zero (by simpa using hl)
    subst this
    exact h
  | v :: vs, pre, [], w, h, hl => by simp at hl
  | v :: vs, pre, o :: old, w, h, hl => by
    rw [World.setCells]
    have h1 := h.set pre.length v
    have e : (pre ++ o :: old).set pre.length v = (pre ++ [v]) ++ old := by simp [List.set_append]
    rw [e] at h1
    have := own_setCells vs (pre ++ [v]) old _ h1 (by simpa using hl)
    simpa using this
theorem MgT.one (A : MgT) : ∀ v ∈ A.cs, v.oneCell' = true := by
  intro v hv
  simp only [MgT.cs, List.mem_cons, List.not_mem_nil, or_false] at hv
  rcases hv with rfl | rfl | rfl | rfl | rfl | rfl | rfl | rfl | rfl | rfl | rfl | rfl | rfl | rfl | rfl | rfl | rfl | rfl | rfl | rfl | rfl | rfl <;> rfl
/-- a message is stored whole -/
theorem wpList_storeMg {ops : Array Oper} {rest : List Oper} {o : Oper} {a : Act} {w : World} {Q : Exit → Act → World → Prop} (hgd : o.guard = none) (x y : Operand) (ho : o.op = .store 59 x y) (b : Nat) (hx : a.eval x = .pointer (some ⟨b, 0, none⟩)) (A : MgT) (hy : a.eval y = .agg A.cs.toArray) (old : List Value) (hr : Own w b 59 old) (hl : old.length = 22)
    (h : ∀ w', Own w' b 59 A.cs → Chg [b] w w' → wpList Try.prog ops Q rest (a.put o.dst undef) w') : wpList Try.prog ops Q (o :: rest) a w := by
  refine wpList_store_mid hgd _ x y ho b 0 A.cs.toArray hx hy (fun j hj => ?_) infoMg (all_oneCell_toArray A.one) (h _ ?_ ?_)
  · have hj' : j < 22 := hj
    rw [Nat.zero_add, hr.cell j]
    exact ⟨by simp [hl, hj'], hr.frozen j⟩
  · exact own_setCells A.cs [] old w hr (by rw [hl]; rfl)
  · exact (Chg.refl [b] w).setCells (.inl (by simp)) 0 _

/-- the answer to a message -/
def ansT (A : MgT) (e : Int) : MgT := ⟨14, A.to, A.fr, A.id, A.k, A.ep, A.ad, e, noC, none, 0, none, 0, [], none, 0, [], none, 0, (0, 0), (0, 0), ⟨0, none, 0, [], 0⟩⟩
def zmT : MgT := ⟨0, (0, 0), (0, 0), 0, 0, 0, 0, 0, noC, none, 0, none, 0, [], none, 0, [], none, 0, (0, 0), (0, 0), ⟨0, none, 0, [], 0⟩⟩
theorem ansT_in (w : World) (B : Nat) (A : MgT) (e : Int) : MgIn w B (ansT A e) := ⟨Ro.nil _ _ _, Ro.nil _ _ _, Ro.nil _ _ _, Ro.nil _ _ _, Ro.nil _ _ _, fun s hs => by cases hs⟩
theorem ansT_fit (A : MgT) (e : Int) : MgFit (ansT A e) := ⟨by simp [ansT, noC], by simp [ansT, noC], by simp [ansT], by simp [ansT], ⟨by simp [ansT], (fun s hs => by cases hs)⟩, (fun s hs => by cases hs), (fun s hs => by cases hs)⟩
set_option maxHeartbeats 4000000 in
set_option maxRecDepth 100000 in
theorem answer_any (A : MgT) (e : Int) (w : World) :
    Calls Try.prog 37 #[.agg A.cs.toArray, .int .i64 e] w fun z w' => z = .returned (.agg (ansT A e).cs.toArray) ∧ Below w.heap.size w w' := by
  obtain ⟨W, HWW⟩ : ∃ W, Hid ((w.alloc (.cells A.cs.toArray 59)).alloc (.cells #[.int .i64 0, .int .i64 0, .int .i64 0, .int .i64 0, .int .i64 0, .int .i64 0, .int .i64 0, .int .u64 0, .int .u64 0, .int .i64 0, .int .i64 0, .slice none 0 0, .slice none 0 0, .slice none 0 0, .slice none 0 0, .int .i64 0, .int .i64 0, .int .i64 0, .int .i64 0, .int .u64 0, .slice none 0 0, .int .i64 0] 59) = W) := ⟨_, Lib.hid rfl⟩
  have hWc : Chg [] w W := by rw [← HWW.out]; exact ((Chg.refl [] w).alloc _).alloc _
  have HO1 : Hid (Own W w.heap.size 59 A.cs) := Lib.hid (by rw [← HWW.out]; exact (Own.new w _ _).alloc _)
  have HO2 : Hid (Own W (w.heap.size + 1) 59 zmT.cs) := Lib.hid (by
    rw [← HWW.out]
    have := Own.new (w.alloc (.cells A.cs.toArray 59)) 59 zmT.cs
    rw [World.size_alloc] at this
    exact this)
  have HB := Lib.hid hWc
  have c0 := HO1.out.cell 0
  have c1 := HO1.out.cell 1
  have c2 := HO1.out.cell 2
  have c3 := HO1.out.cell 3
  have c4 := HO1.out.cell 4
  have c5 := HO1.out.cell 5
  have c7 := HO1.out.cell 7
  have c8 := HO1.out.cell 8
  have hz := HO1.out.lt
  simp [MgT.cs] at c0 c1 c2 c3 c4 c5 c7 c8
  clear hWc
  go_enter Try.func37, Try.ntmps37
  go_upto_region 1 with fail
  rw [HWW.out]
  go_wp2_with (refine wpList_storeMg rfl (.tmp 4) (.tmp 18) rfl (w.heap.size + 1) rfl (ansT A e) rfl zmT.cs HO2.out rfl ?_)
  intro w1 ho hc
  have HO3 := Lib.hid ho
  have HB1 : Hid (Below w.heap.size w w1) := Lib.hid ((HB.out.then hc (fun x hx => by simp only [List.mem_singleton] at hx; subst hx; exact .inr (Nat.le_succ _))).low)
  clear ho hc c0 c1 c2 c3 c4 c5 c7 c8
  go_wp2_with fail
  refine bodyPost_ret (results_cell_row Try.results37 _ _ (w.heap.size + 1) 59 _ (0, 0) _ rfl HO3.out Try.underlying59 rfl (by kernel_rfl)) rfl ?_
  exact ⟨rfl, HB1.out⟩
/-- some Bool is answered -/
def RB (e : Ending) : Prop := ∃ t, e = .returned (.bool t)
theorem fitsC10_any (k : Int) (a : Option Addr) (n c : Nat) (a2 : Option Addr) (n2 c2 : Nat) (w : World) :
    Calls Try.prog 61 #[cev k a n c a2 n2 c2] w fun e w' => RB e ∧ Below w.heap.size w w' := by
  by_cases h : n ≤ 400
  · go_enter Try.func61, Try.ntmps61
    go_wp2_with fail
    go_ret
    exact ⟨⟨_, rfl⟩, (Below.refl _ _).alloc (Nat.le_refl _) _⟩
  · go_enter Try.func61, Try.ntmps61
    go_wp2_with fail
    go_ret
    exact ⟨⟨_, rfl⟩, (Below.refl _ _).alloc (Nat.le_refl _) _⟩
set_option maxHeartbeats 4000000 in
theorem fits10_any (A : MgT) (B : Nat) (w : World) (h : MgIn w B A) (hB : B ≤ w.heap.size) (hf : MgFit A) :
    Calls Try.prog 31 #[.agg A.cs.toArray] w fun e w' => RB e ∧ Below w.heap.size w w' := by
  obtain ⟨W, HWW⟩ : ∃ W, Hid (w.alloc (.cells A.cs.toArray 59) = W) := ⟨_, Lib.hid rfl⟩
  have hWb : Below w.heap.size w W := by rw [← HWW.out]; exact (Below.refl _ _).alloc (Nat.le_refl _) _
  have HO := Lib.hid (show Own W w.heap.size 59 A.cs by rw [← HWW.out]; exact Own.new w _ _)
  have HB := Lib.hid hWb
  have HF := Lib.hid (fun (W' : World) (hb : Below w.heap.size w W') => fitsL_any A.ly B W' ((h.below hb hB).ly) (Nat.le_trans hB hb.size) hf.ly)
  simp only [LyT.val] at HF
  have c0 := HO.out.cell 10
  have c1 := HO.out.cell 11
  have c2 := HO.out.cell 12
  have hz := HO.out.lt
  simp [MgT.cs] at c0 c1 c2
  clear hWb h hB hf
  go_enter Try.func31, Try.ntmps31
  go_upto_region 1 with fail
  rw [HWW.out]
  go_wp2_with fail
  refine (fitsC10_any A.c.k A.ca A.c.d.length A.cc A.ca2 A.c.b.length A.cc2 W).mono ?_
  rintro e w1 ⟨⟨t1, rfl⟩, hb⟩
  have HB1 := Lib.hid (HB.out.trans (hb.mono HB.out.size))
  have HO1 := Lib.hid (HO.out.below hb HO.out.lt)
  clear hb c0 c1 c2 hz
  have c0 := HO1.out.cell 19
  have c1 := HO1.out.cell 20
  have c2 := HO1.out.cell 21
  have hz := HO1.out.lt
  simp [MgT.cs] at c0 c1 c2
  go_wp2_with fail
  refine (HF.out w1 HB1.out).mono ?_
  rintro e w2 ⟨⟨t2, rfl⟩, hb⟩
  have HB2 := Lib.hid (HB1.out.trans (hb.mono HB1.out.size))
  have HO2 := Lib.hid (HO1.out.below hb HO1.out.lt)
  clear hb c0 c1 c2 hz
  have c0 := HO2.out.cell 13
  have c1 := HO2.out.cell 14
  have hz := HO2.out.lt
  simp [MgT.cs] at c0 c1
  generalize A.st.length = sn at *
  generalize A.bk.length = kn at *
  cases t1 with
  | false =>
    go_wp2_with fail
    go_ret
    exact ⟨⟨_, rfl⟩, HB2.out⟩
  | true =>
  cases t2 with
  | false =>
    go_wp2_with fail
    go_ret
    exact ⟨⟨_, rfl⟩, HB2.out⟩
  | true =>
  by_cases hs : sn ≤ 30
  · go_wp2_with fail
    go_ret
    exact ⟨⟨_, rfl⟩, HB2.out⟩
  · go_wp2_with fail
    go_ret
    exact ⟨⟨_, rfl⟩, HB2.out⟩
end Go.Proofs.Ytdpaofedepnnbaa
