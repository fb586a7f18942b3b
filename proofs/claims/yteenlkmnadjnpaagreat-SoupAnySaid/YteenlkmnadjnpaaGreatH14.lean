/-
  What the laws of package message use: messages stored, Answer, Fits, the live question. No claim of its own.
-/
import Derived.Test.YteenlkmnadjnpaaGreatH13
import Derived.Test.YteenlkmnadjnpaaGreatH3
import Derived.Test.YteenlkmnadjnpaaGreatH5
import Derived.Laws.Rows
import Derived.Test.YteenlkmnadjnpaaGreatH10
import Derived.Test.YteenlkmnadjnpaaGreatH9
namespace Go.Proofs.YteenlkmnadjnpaaGreat
open Go.RowKit Go.Deep Go.Shelf
set_option linter.unusedVariables false
set_option linter.unusedSimpArgs false

theorem own_setCells {g : Nat} {t : TypeId} : ∀ (vs pre old : List Value) (w : World), Own w g t (pre ++ old) → old.length = vs.length → Own (w.setCells g pre.length vs) g t (pre ++ vs)
  | [], pre, old, w, h, hl => by
    have : old = [] := List.eq_nil_of_length_eq_zero (by simpa using hl)
    subst this
    exact h
  | v :: vs, pre, [], w, h, hl => by simp at hl
  | v :: vs, pre, o :: old, w, h, hl => by
    rw [World.setCells]
    have h1 := h.set pre.length v
    have e : (pre ++ o :: old).set pre.length v = (pre ++ [v]) ++ old := by simp [List.set_append]
    rw [e] at h1
    have := own_setCells vs (pre ++ [v]) old _ h1 (by simpa using hl)
    simpa using this
theorem MgT.one (A : MgT) : ∀ v ∈ A.cs, v.oneCell' = true := by
  intro v hv
  simp only [MgT.cs, List.mem_cons, List.not_mem_nil, or_false] at hv
  rcases hv with rfl | rfl | rfl | rfl | rfl | rfl | rfl | rfl | rfl | rfl | rfl | rfl | rfl | rfl | rfl | rfl | rfl | rfl | rfl | rfl | rfl | rfl <;> rfl
/-- a message is stored whole -/
theorem wpList_storeMg {ops : Array Oper} {rest : List Oper} {o : Oper} {a : Act} {w : World} {Q : Exit → Act → World → Prop} (hgd : o.guard = none) (x y : Operand) (ho : o.op = .store 40 x y) (b : Nat) (hx : a.eval x = .pointer (some ⟨b, 0, none⟩)) (A : MgT) (hy : a.eval y = .agg A.cs.toArray) (old : List Value) (hr : Own w b 40 old) (hl : old.length = 22)
    (h : ∀ w', Own w' b 40 A.cs → Chg [b] w w' → wpList Tryz.prog ops Q rest (a.put o.dst undef) w') : wpList Tryz.prog ops Q (o :: rest) a w := by
  refine wpList_store_mid hgd _ x y ho b 0 A.cs.toArray hx hy (fun j hj => ?_) infoMg (all_oneCell_toArray A.one) (h _ ?_ ?_)
  · have hj' : j < 22 := hj
    rw [Nat.zero_add, hr.cell j]
    exact ⟨by simp [hl, hj'], hr.frozen j⟩
  · exact own_setCells A.cs [] old w hr (by rw [hl]; rfl)
  · exact (Chg.refl [b] w).setCells (.inl (by simp)) 0 _

/-- the answer to a message -/
def ansT (A : MgT) (e : Int) : MgT := ⟨14, A.to, A.fr, A.id, A.k, A.ep, A.ad, e, noC, none, 0, none, 0, [], none, 0, [], none, 0, (0, 0), (0, 0), ⟨0, none, 0, [], 0⟩⟩
def zmT : MgT := ⟨0, (0, 0), (0, 0), 0, 0, 0, 0, 0, noC, none, 0, none, 0, [], none, 0, [], none, 0, (0, 0), (0, 0), ⟨0, none, 0, [], 0⟩⟩
theorem ansT_in (w : World) (B : Nat) (A : MgT) (e : Int) : MgIn w B (ansT A e) := ⟨Ro.nil _ _ _, Ro.nil _ _ _, Ro.nil _ _ _, Ro.nil _ _ _, Ro.nil _ _ _, fun s hs => by cases hs⟩
theorem ansT_fit (A : MgT) (e : Int) : MgFit (ansT A e) := ⟨by simp [ansT, noC], by simp [ansT, noC], by simp [ansT], by simp [ansT], ⟨by simp [ansT], (fun s hs => by cases hs)⟩, (fun s hs => by cases hs), (fun s hs => by cases hs)⟩
set_option maxHeartbeats 4000000 in
set_option maxRecDepth 100000 in
theorem answer_any (A : MgT) (e : Int) (w : World) :
    Calls Tryz.prog 17 #[.agg A.cs.toArray, .int .i64 e] w fun z w' => z = .returned (.agg (ansT A e).cs.toArray) ∧ Below w.heap.size w w' := by
  obtain ⟨W, HWW⟩ : ∃ W, Hid ((w.alloc (.cells A.cs.toArray 40)).alloc (.cells #[.int .i64 0, .int .i64 0, .int .i64 0, .int .i64 0, .int .i64 0, .int .i64 0, .int .i64 0, .int .u64 0, .int .u64 0, .int .i64 0, .int .i64 0, .slice none 0 0, .slice none 0 0, .slice none 0 0, .slice none 0 0, .int .i64 0, .int .i64 0, .int .i64 0, .int .i64 0, .int .u64 0, .slice none 0 0, .int .i64 0] 40) = W) := ⟨_, Lib.hid rfl⟩
  have hWc : Chg [] w W := by rw [← HWW.out]; exact ((Chg.refl [] w).alloc _).alloc _
  have HO1 : Hid (Own W w.heap.size 40 A.cs) := Lib.hid (by rw [← HWW.out]; exact (Own.new w _ _).alloc _)
  have HO2 : Hid (Own W (w.heap.size + 1) 40 zmT.cs) := Lib.hid (by
    rw [← HWW.out]
    have := Own.new (w.alloc (.cells A.cs.toArray 40)) 40 zmT.cs
    rw [World.size_alloc] at this
    exact this)
  have HB := Lib.hid hWc
  have c0 := HO1.out.cell 0
  have c1 := HO1.out.cell 1
  have c2 := HO1.out.cell 2
  have c3 := HO1.out.cell 3
  have c4 := HO1.out.cell 4
  have c5 := HO1.out.cell 5
  have c7 := HO1.out.cell 7
  have c8 := HO1.out.cell 8
  have hz := HO1.out.lt
  simp [MgT.cs] at c0 c1 c2 c3 c4 c5 c7 c8
  clear hWc
  go_enter Tryz.func17, Tryz.ntmps17
  go_upto_region 1 with fail
  rw [HWW.out]
  go_wp2_with (refine wpList_storeMg rfl (.tmp 4) (.tmp 18) rfl (w.heap.size + 1) rfl (ansT A e) rfl zmT.cs HO2.out rfl ?_)
  intro w1 ho hc
  have HO3 := Lib.hid ho
  have HB1 : Hid (Below w.heap.size w w1) := Lib.hid ((HB.out.then hc (fun x hx => by simp only [List.mem_singleton] at hx; subst hx; exact .inr (Nat.le_succ _))).low)
  clear ho hc c0 c1 c2 c3 c4 c5 c7 c8
  go_wp2_with fail
  refine bodyPost_ret (results_cell_row Tryz.results17 _ _ (w.heap.size + 1) 40 _ (0, 0) _ rfl HO3.out Tryz.underlying40 rfl (by kernel_rfl)) rfl ?_
  exact ⟨rfl, HB1.out⟩
/-- some Bool is answered -/
def RB (e : Ending) : Prop := ∃ t, e = .returned (.bool t)
theorem fitsC10_any (k : Int) (a : Option Addr) (n c : Nat) (a2 : Option Addr) (n2 c2 : Nat) (w : World) :
    Calls Tryz.prog 38 #[cev k a n c a2 n2 c2] w fun e w' => RB e ∧ Below w.heap.size w w' := by
  by_cases h : n ≤ 400
  · go_enter Tryz.func38, Tryz.ntmps38
    go_wp2_with fail
    go_ret
    exact ⟨⟨_, rfl⟩, (Below.refl _ _).alloc (Nat.le_refl _) _⟩
  · go_enter Tryz.func38, Tryz.ntmps38
    go_wp2_with fail
    go_ret
    exact ⟨⟨_, rfl⟩, (Below.refl _ _).alloc (Nat.le_refl _) _⟩
set_option maxHeartbeats 4000000 in
theorem fits10_any (A : MgT) (B : Nat) (w : World) (h : MgIn w B A) (hB : B ≤ w.heap.size) (hf : MgFit A) :
    Calls Tryz.prog 10 #[.agg A.cs.toArray] w fun e w' => RB e ∧ Below w.heap.size w w' := by
  obtain ⟨W, HWW⟩ : ∃ W, Hid (w.alloc (.cells A.cs.toArray 40) = W) := ⟨_, Lib.hid rfl⟩
  have hWb : Below w.heap.size w W := by rw [← HWW.out]; exact (Below.refl _ _).alloc (Nat.le_refl _) _
  have HO := Lib.hid (show Own W w.heap.size 40 A.cs by rw [← HWW.out]; exact Own.new w _ _)
  have HB := Lib.hid hWb
  have HF := Lib.hid (fun (W' : World) (hb : Below w.heap.size w W') => fitsL_any A.ly B W' ((h.below hb hB).ly) (Nat.le_trans hB hb.size) hf.ly)
  simp only [LyT.val] at HF
  have c0 := HO.out.cell 10
  have c1 := HO.out.cell 11
  have c2 := HO.out.cell 12
  have hz := HO.out.lt
  simp [MgT.cs] at c0 c1 c2
  clear hWb h hB hf
  go_enter Tryz.func10, Tryz.ntmps10
  go_upto_region 1 with fail
  rw [HWW.out]
  go_wp2_with fail
  refine (fitsC10_any A.c.k A.ca A.c.d.length A.cc A.ca2 A.c.b.length A.cc2 W).mono ?_
  rintro e w1 ⟨⟨t1, rfl⟩, hb⟩
  have HB1 := Lib.hid (HB.out.trans (hb.mono HB.out.size))
  have HO1 := Lib.hid (HO.out.below hb HO.out.lt)
  clear hb c0 c1 c2 hz
  have c0 := HO1.out.cell 19
  have c1 := HO1.out.cell 20
  have c2 := HO1.out.cell 21
  have hz := HO1.out.lt
  simp [MgT.cs] at c0 c1 c2
  go_wp2_with fail
  refine (HF.out w1 HB1.out).mono ?_
  rintro e w2 ⟨⟨t2, rfl⟩, hb⟩
  have HB2 := Lib.hid (HB1.out.trans (hb.mono HB1.out.size))
  have HO2 := Lib.hid (HO1.out.below hb HO1.out.lt)
  clear hb c0 c1 c2 hz
  have c0 := HO2.out.cell 13
  have c1 := HO2.out.cell 14
  have hz := HO2.out.lt
  simp [MgT.cs] at c0 c1
  generalize A.st.length = sn at *
  generalize A.bk.length = kn at *
  cases t1 with
  | false =>
    go_wp2_with fail
    go_ret
    exact ⟨⟨_, rfl⟩, HB2.out⟩
  | true =>
  cases t2 with
  | false =>
    go_wp2_with fail
    go_ret
    exact ⟨⟨_, rfl⟩, HB2.out⟩
  | true =>
  by_cases hs : sn ≤ 30
  · go_wp2_with fail
    go_ret
    exact ⟨⟨_, rfl⟩, HB2.out⟩
  · go_wp2_with fail
    go_ret
    exact ⟨⟨_, rfl⟩, HB2.out⟩
end Go.Proofs.YteenlkmnadjnpaaGreat
namespace Go.Proofs.YteenlkmnadjnpaaGreat
open Go.RowKit Go.Deep
set_option linter.unusedVariables false
set_option linter.unusedSimpArgs false

set_option maxHeartbeats 1000000 in
theorem mtake_any (bs : List UInt8) (B s k m : Nat) (w : World) (h : Src w 98 B s bs k) (hk : k ≤ 1000000) (hm : m ≤ 64) :
    Calls Tryz.prog 53 #[.pointer (some ⟨s, 0, none⟩), .int .i64 (m : Int)] w fun e w' => e = .returned (.int .u64 (tkN bs k m : Nat)) ∧ Src w' 98 B s bs (k + m) ∧ Chg [s] w w' := by
  obtain ⟨⟨a, c, h1, h2⟩, h3, h4⟩ := h
  have HG : Hid (∀ W, Below w.heap.size w W → Calls Tryz.prog 116 #[.slice a bs.length c, .int .i64 (k : Int), .int .i64 (m : Int)] W fun e w' => ∃ ok, e = .returned (.tuple #[.int .u64 (tkN bs k m : Nat), .bool ok]) ∧ Below W.heap.size W w') := Lib.hid fun W hW =>
    getN_any bs bs.length a c B k m W rfl (h2.below hW (by have := h1.lt; omega)) (by have := h1.lt; have := hW.size; omega) h4 (by omega) hm
  obtain ⟨v, hv⟩ : ∃ v, tkN bs k m = v := ⟨_, rfl⟩
  rw [hv] at HG ⊢
  have c0 := h1.cell 0
  have c1 := h1.cell 1
  have hz := h1.lt
  simp at c0 c1
  have HO := Lib.hid h1
  have HR := Lib.hid (And.intro h2 (And.intro h3 h4))
  obtain ⟨n, hn⟩ : ∃ n, bs.length = n := ⟨_, rfl⟩
  rw [hn] at HO HG c0
  have HN := Lib.hid hn
  have e1 : wrap64 ((k : Int) + (m : Int)) = ((k + m : Nat) : Int) := by unfold wrap64; omega
  have HSS : Hid (Below w.heap.size w w.drew ∧ w.drew.cell? ⟨s, 0, none⟩ = some (.slice a n c) ∧ w.drew.cell? ⟨s, 1, none⟩ = some (.int .i64 (k : Int))) := Lib.hid ⟨(Below.refl _ _).drew, c0, c1⟩
  have HZ := Lib.hid hz
  clear h1 h2 h3 h4 hn hv
  go_enter Tryz.func53, Tryz.ntmps53
  go_wp2_with fail
  clear c0 c1 hz
  refine wp_region_held_drew (S := (fun W => Below w.heap.size w W ∧ W.cell? ⟨s, 0, none⟩ = some (.slice a n c) ∧ W.cell? ⟨s, 1, none⟩ = some (.int .i64 (k : Int)))) (by kernel_rfl) HSS.out (fun hHeld => ?_)
  refine wpAnyH_take (i := 0) (v := ?_) rfl (by kernel_rfl) (by kernel_rfl) (by kernel_rfl) (fun _ _ _ h => h) (Or.inl ⟨by kernel_rfl, ?_⟩) hHeld ?_
  rotate_left
  · (intro w hSw; first | (go_simp; done) | (go_simp; with_reducible rfl))
  (try simp only [Act.put, List.getElem_toArray, List.getElem_cons_succ, List.getElem_cons_zero, List.setIfInBounds_toArray, List.set_cons_zero, List.set_cons_succ])
  refine wpAnyH_take (i := 1) (v := ?_) rfl (by kernel_rfl) (by kernel_rfl) (by kernel_rfl) (fun _ _ _ h => h) (Or.inl ⟨by kernel_rfl, ?_⟩) hHeld ?_
  rotate_left
  · (intro w hSw; first | (go_simp; done) | (go_simp; with_reducible rfl))
  (try simp only [Act.put, List.getElem_toArray, List.getElem_cons_succ, List.getElem_cons_zero, List.setIfInBounds_toArray, List.set_cons_zero, List.set_cons_succ])
  refine wpAnyH_take (i := 2) (v := ?_) rfl (by kernel_rfl) (by kernel_rfl) (by kernel_rfl) (fun _ _ _ h => h) (Or.inl ⟨by kernel_rfl, ?_⟩) hHeld ?_
  rotate_left
  · (intro w hSw; first | (go_simp; done) | (go_simp; with_reducible rfl))
  (try simp only [Act.put, List.getElem_toArray, List.getElem_cons_succ, List.getElem_cons_zero, List.setIfInBounds_toArray, List.set_cons_zero, List.set_cons_succ])
  refine wpAnyH_take (i := 3) (v := ?_) rfl (by kernel_rfl) (by kernel_rfl) (by kernel_rfl) (fun _ _ _ h => h) (Or.inl ⟨by kernel_rfl, ?_⟩) hHeld ?_
  rotate_left
  · (intro w hSw; first | (go_simp; done) | (go_simp; with_reducible rfl))
  (try simp only [Act.put, List.getElem_toArray, List.getElem_cons_succ, List.getElem_cons_zero, List.setIfInBounds_toArray, List.set_cons_zero, List.set_cons_succ])
  refine wpAnyH_take (i := 4) (v := ?_) rfl (by kernel_rfl) (by kernel_rfl) (by kernel_rfl) (fun _ _ _ h => h) (Or.inl ⟨by kernel_rfl, ?_⟩) hHeld ?_
  rotate_left
  · (intro w hSw; first | (go_simp; done) | (go_simp; with_reducible rfl))
  (try simp only [Act.put, List.getElem_toArray, List.getElem_cons_succ, List.getElem_cons_zero, List.setIfInBounds_toArray, List.set_cons_zero, List.set_cons_succ])
  refine wpAnyH_take (i := 5) (v := ?_) rfl (by kernel_rfl) (by kernel_rfl) (by kernel_rfl) (fun _ _ _ h => h) (Or.inl ⟨by kernel_rfl, ?_⟩) hHeld ?_
  rotate_left
  · (intro w hSw; first | (go_simp; done) | (go_simp; with_reducible rfl))
  (try simp only [Act.put, List.getElem_toArray, List.getElem_cons_succ, List.getElem_cons_zero, List.setIfInBounds_toArray, List.set_cons_zero, List.set_cons_succ])
  refine wpAnyH_take (i := 6) (v := ?_) rfl (by kernel_rfl) (by kernel_rfl) (by kernel_rfl) (fun _ _ _ h => h) (Or.inl ⟨by kernel_rfl, ?_⟩) hHeld ?_
  rotate_left
  · (intro w hSw; first | (go_simp; done) | (go_simp; with_reducible rfl))
  (try simp only [Act.put, List.getElem_toArray, List.getElem_cons_succ, List.getElem_cons_zero, List.setIfInBounds_toArray, List.set_cons_zero, List.set_cons_succ])
  refine wpAnyH_take (i := 7) (v := ?_) rfl (by kernel_rfl) (by kernel_rfl) (by kernel_rfl) (fun _ _ _ h => h) (Or.inl ⟨by kernel_rfl, ?_⟩) hHeld ?_
  rotate_left
  · (intro w hSw; first | (go_simp; done) | (go_simp; with_reducible rfl))
  (try simp only [Act.put, List.getElem_toArray, List.getElem_cons_succ, List.getElem_cons_zero, List.setIfInBounds_toArray, List.set_cons_zero, List.set_cons_succ])
  refine wpAnyH_take (i := 8) (v := ?_) rfl (by kernel_rfl) (by kernel_rfl) (by kernel_rfl) (fun _ _ _ h => h) (Or.inl ⟨by kernel_rfl, ?_⟩) hHeld ?_
  rotate_left
  · (intro w hSw; first | (go_simp; done) | (go_simp; with_reducible rfl))
  (try simp only [Act.put, List.getElem_toArray, List.getElem_cons_succ, List.getElem_cons_zero, List.setIfInBounds_toArray, List.set_cons_zero, List.set_cons_succ])
  refine wpAnyH_ready (rs := [9]) (by kernel_rfl) (by simp) (AllReadyH.cons rfl (fun K hK => ?_) AllReadyH.nil)
  have hH := hHeld
  (go_simp; go_at_call 116; refine (HG.out _ hH.1).mono ?_; rintro e w6 ⟨ok, rfl, hb6⟩)
  refine hK.out _ _ (by exact ⟨hH.1.trans (hb6.mono hH.1.size), cell_keep hb6 hH.2.1 (World.block_lt_of_cell? _ _ hH.2.1), cell_keep hb6 hH.2.2 (World.block_lt_of_cell? _ _ hH.2.2)⟩) (fun hHq1 => ?_)
  clear hK K hH 
  (try simp only [Act.put, List.getElem_toArray, List.getElem_cons_succ, List.getElem_cons_zero, List.setIfInBounds_toArray, List.set_cons_zero, List.set_cons_succ])
  refine wpAnyH_take (i := 10) (v := ?_) rfl (by kernel_rfl) (by kernel_rfl) (by kernel_rfl) (fun _ _ _ h => h) (Or.inl ⟨by kernel_rfl, ?_⟩) hHq1 ?_
  rotate_left
  · (intro w hSw; first | (go_simp; done) | (go_simp; with_reducible rfl))
  (try simp only [Act.put, List.getElem_toArray, List.getElem_cons_succ, List.getElem_cons_zero, List.setIfInBounds_toArray, List.set_cons_zero, List.set_cons_succ])
  refine wpAnyH_take (i := 11) (v := ?_) rfl (by kernel_rfl) (by kernel_rfl) (by kernel_rfl) (fun _ _ _ h => h) (Or.inl ⟨by kernel_rfl, ?_⟩) hHq1 ?_
  rotate_left
  · (intro w hSw; first | (go_simp; done) | (go_simp; with_reducible rfl))
  (try simp only [Act.put, List.getElem_toArray, List.getElem_cons_succ, List.getElem_cons_zero, List.setIfInBounds_toArray, List.set_cons_zero, List.set_cons_succ])
  refine wpAnyH_take (i := 12) (v := ?_) rfl (by kernel_rfl) (by kernel_rfl) (by kernel_rfl) (fun _ _ _ h => h) (Or.inl ⟨by kernel_rfl, ?_⟩) hHq1 ?_
  rotate_left
  · (intro w hSw; first | (go_simp; done) | (go_simp; with_reducible rfl))
  (try simp only [Act.put, List.getElem_toArray, List.getElem_cons_succ, List.getElem_cons_zero, List.setIfInBounds_toArray, List.set_cons_zero, List.set_cons_succ])
  refine wpAnyH_take (i := 13) (v := ?_) rfl (by kernel_rfl) (by kernel_rfl) (by kernel_rfl) (fun _ _ _ h => h) (Or.inl ⟨by kernel_rfl, ?_⟩) hHq1 ?_
  rotate_left
  · (intro w hSw; first | (go_simp; done) | (go_simp; with_reducible rfl))
  (try simp only [Act.put, List.getElem_toArray, List.getElem_cons_succ, List.getElem_cons_zero, List.setIfInBounds_toArray, List.set_cons_zero, List.set_cons_succ])
  refine wpAnyH_take (i := 14) (v := ?_) rfl (by kernel_rfl) (by kernel_rfl) (by kernel_rfl) (fun _ _ _ h => h) (Or.inl ⟨by kernel_rfl, ?_⟩) hHq1 ?_
  rotate_left
  · (intro w hSw; first | (go_simp; done) | (go_simp; with_reducible rfl))
  (try simp only [Act.put, List.getElem_toArray, List.getElem_cons_succ, List.getElem_cons_zero, List.setIfInBounds_toArray, List.set_cons_zero, List.set_cons_succ])
  refine wpAnyH_done (by kernel_rfl) ?_ _
  have hEnd := hHq1
  have hb := hEnd.1
  have HB := Lib.hid hb
  have HO2 := Lib.hid (HO.out.below hb HZ.out)
  have q1 := HO2.out.cell 1
  have f1 := HO2.out.frozen 1
  have hz2 := HO2.out.lt
  simp at q1
  clear hHeld hEnd hb hb6
  go_wp2_with fail
  go_ret
  refine ⟨rfl, ⟨⟨a, c, ?_, (HR.out.1.below HB.out (by have := HZ.out; have := HR.out.2.1; omega)).below ((Below.refl B _).setCell (by exact HR.out.2.1) _) (Nat.le_refl _)⟩, HR.out.2.1, HR.out.2.2⟩, ?_⟩
  · rw [HN.out]
    exact HO2.out.set 1 _
  · exact ((Chg.refl [s] w).of_below HB.out).setCell (by simp) _


/-- the method value that is handed around -/
abbrev nv (s : Nat) : Value := .func (.func 53) #[.pointer (some ⟨s, 0, none⟩)] #[]
theorem egT : ∀ args w, (callFunc 53 args).run Tryz.prog w = .ok (.enter 53 args) w := enters_of Tryz.func53 (by kernel_rfl) rfl
theorem i64_small (v : Nat) (h : v < 9223372036854775808) : IntKind.i64.wrap (v : Int) = (v : Int) := by rw [IntKind.wrap_i64]; omega
set_option maxHeartbeats 1000000 in
theorem mplaceF_any (bs : List UInt8) (B s k : Nat) (w : World) (h : Src w 98 B s bs k) (hk : k ≤ 900000) :
    Calls Tryz.prog 139 #[nv s] w fun e w' => e = .returned (.agg #[.int .i64 (tkN bs k 3 : Nat), .int .i64 (tkN bs (k + 3) 5 : Nat)]) ∧ Src w' 98 B s bs (k + 3 + 5) ∧ Chg [s] w w' := by
  have eg := egT
  obtain ⟨W, HWW⟩ : ∃ W, Hid (w.alloc (.cells #[.int .i64 0, .int .i64 0] 25) = W) := ⟨_, Lib.hid rfl⟩
  have hWc : Chg [] w W := by rw [← HWW.out]; exact (Chg.refl [] w).alloc _
  have HO : Hid (Own W w.heap.size 25 [.int .i64 0, .int .i64 0]) := Lib.hid (by rw [← HWW.out]; exact Own.new w _ _)
  have HZ := Lib.hid h.lt
  have HB := Lib.hid h.2.1
  have HC := Lib.hid hWc
  have H1 := Lib.hid (mtake_any bs B s k 3 W (h.new0 hWc) (by omega) (by omega))
  have HK := Lib.hid hk
  have v1 := tkN_lt bs k 3
  have v2 := tkN_lt bs (k + 3) 5
  have H2 := Lib.hid (fun (W' : World) (hs : Src W' 98 B s bs (k + 3)) => mtake_any bs B s (k + 3) 5 W' hs (by have := HK.out; omega) (by omega))
  generalize tkN bs k 3 = a1 at *
  generalize tkN bs (k + 3) 5 = a2 at *
  have e1 := i64_small a1 (by omega)
  have e2 := i64_small a2 (by omega)
  clear h hWc hk v1 v2
  go_enter Tryz.func139, Tryz.ntmps139
  go_upto_region 1 with fail
  rw [HWW.out]
  go_wp2_with fail
  refine H1.out.mono ?_
  rintro e w1 ⟨rfl, h1, h2⟩
  have HS1 := Lib.hid h1
  have HC1 := Lib.hid ((HC.out.nil1 [s]).trans h2)
  have HO1 := Lib.hid (HO.out.chg h2 (by have := HZ.out; simp; omega))
  clear h1 h2
  go_wp2_with fail
  refine (H2.out w1 HS1.out).mono ?_
  rintro e w2 ⟨rfl, h1, h2⟩
  have HS2 := Lib.hid h1
  have HC2 := Lib.hid (HC1.out.trans h2)
  have HO2 := Lib.hid (HO1.out.chg h2 (by have := HZ.out; simp; omega))
  clear h1 h2
  have r0 := HO2.out.cell 0
  have r1 := HO2.out.cell 1
  have f0 := HO2.out.frozen 0
  have f1 := HO2.out.frozen 1
  have hz := HO2.out.lt
  simp at r0 r1
  go_wp2_with fail
  refine bodyPost_ret (v := .agg #[.int .i64 (a1 : Int), .int .i64 (a2 : Int)]) (by simp [results, Tryz.results139, go_sem, r0, r1, hz]) rfl ?_
  have sc : Chg [w.heap.size] w2 ((w2.setCell ⟨w.heap.size, 0, none⟩ (.int .i64 (a1 : Int))).setCell ⟨w.heap.size, 1, none⟩ (.int .i64 (a2 : Int))) := ((Chg.refl _ w2).setCell (by simp) _).setCell (by simp) _
  exact ⟨rfl, HS2.out.chg sc (by have := HZ.out; simp; omega) (fun x hx => by simp only [List.mem_singleton] at hx; subst hx; have := HZ.out; have := HB.out; omega), HC2.out.then sc (fun x hx => by simp only [List.mem_singleton] at hx; subst hx; exact .inr (Nat.le_refl _))⟩
set_option maxHeartbeats 1000000 in
theorem mballotF_any (bs : List UInt8) (B s k : Nat) (w : World) (h : Src w 98 B s bs k) (hk : k ≤ 900000) :
    Calls Tryz.prog 140 #[nv s] w fun e w' => e = .returned (.agg #[.int .i64 (tkN bs k 16 : Nat), .int .i64 (tkN bs (k + 16) 2 : Nat)]) ∧ Src w' 98 B s bs (k + 16 + 2) ∧ Chg [s] w w' := by
  have eg := egT
  obtain ⟨W, HWW⟩ : ∃ W, Hid (w.alloc (.cells #[.int .i64 0, .int .i64 0] 35) = W) := ⟨_, Lib.hid rfl⟩
  have hWc : Chg [] w W := by rw [← HWW.out]; exact (Chg.refl [] w).alloc _
  have HO : Hid (Own W w.heap.size 35 [.int .i64 0, .int .i64 0]) := Lib.hid (by rw [← HWW.out]; exact Own.new w _ _)
  have HZ := Lib.hid h.lt
  have HB := Lib.hid h.2.1
  have HC := Lib.hid hWc
  have H1 := Lib.hid (mtake_any bs B s k 16 W (h.new0 hWc) (by omega) (by omega))
  have HK := Lib.hid hk
  have v1 := tkN_lt bs k 16
  have v2 := tkN_lt bs (k + 16) 2
  have H2 := Lib.hid (fun (W' : World) (hs : Src W' 98 B s bs (k + 16)) => mtake_any bs B s (k + 16) 2 W' hs (by have := HK.out; omega) (by omega))
  generalize tkN bs k 16 = a1 at *
  generalize tkN bs (k + 16) 2 = a2 at *
  have e1 := i64_small a1 (by omega)
  have e2 := i64_small a2 (by omega)
  clear h hWc hk v1 v2
  go_enter Tryz.func140, Tryz.ntmps140
  go_upto_region 1 with fail
  rw [HWW.out]
  go_wp2_with fail
  refine H1.out.mono ?_
  rintro e w1 ⟨rfl, h1, h2⟩
  have HS1 := Lib.hid h1
  have HC1 := Lib.hid ((HC.out.nil1 [s]).trans h2)
  have HO1 := Lib.hid (HO.out.chg h2 (by have := HZ.out; simp; omega))
  clear h1 h2
  go_wp2_with fail
  refine (H2.out w1 HS1.out).mono ?_
  rintro e w2 ⟨rfl, h1, h2⟩
  have HS2 := Lib.hid h1
  have HC2 := Lib.hid (HC1.out.trans h2)
  have HO2 := Lib.hid (HO1.out.chg h2 (by have := HZ.out; simp; omega))
  clear h1 h2
  have r0 := HO2.out.cell 0
  have r1 := HO2.out.cell 1
  have f0 := HO2.out.frozen 0
  have f1 := HO2.out.frozen 1
  have hz := HO2.out.lt
  simp at r0 r1
  go_wp2_with fail
  refine bodyPost_ret (v := .agg #[.int .i64 (a1 : Int), .int .i64 (a2 : Int)]) (by simp [results, Tryz.results140, go_sem, r0, r1, hz]) rfl ?_
  have sc : Chg [w.heap.size] w2 ((w2.setCell ⟨w.heap.size, 0, none⟩ (.int .i64 (a1 : Int))).setCell ⟨w.heap.size, 1, none⟩ (.int .i64 (a2 : Int))) := ((Chg.refl _ w2).setCell (by simp) _).setCell (by simp) _
  exact ⟨rfl, HS2.out.chg sc (by have := HZ.out; simp; omega) (fun x hx => by simp only [List.mem_singleton] at hx; subst hx; have := HZ.out; have := HB.out; omega), HC2.out.then sc (fun x hx => by simp only [List.mem_singleton] at hx; subst hx; exact .inr (Nat.le_refl _))⟩
theorem pS_at (bs : List UInt8) (n k : Nat) : (rep (pS bs) n k).2 = k + 4 * n := by
  induction n with
  | zero => rfl
  | succ n ih => simp only [rep, ih, pS]; omega
theorem pY_at (bs : List UInt8) (n k : Nat) : (rep (pY bs) n k).2 = k + 8 * n := by
  induction n with
  | zero => rfl
  | succ n ih => simp only [rep, ih, pY]; omega
theorem pB_at (bs : List UInt8) (n k : Nat) : (rep (pB bs) n k).2 = k + 46 * n := by
  induction n with
  | zero => rfl
  | succ n ih => simp only [rep, ih, pB]; omega
set_option maxHeartbeats 1000000 in
theorem mstreamsF_any (bs : List UInt8) (B s k : Nat) (w : World) (h : Src w 98 B s bs k) (hk : k ≤ 900000) :
    Calls Tryz.prog 111 #[nv s] w fun e w' => ∃ a c, e = .returned (.slice a (pSt bs k).1.length c) ∧ Lst w' w.heap.size 3 (.slice a (pSt bs k).1.length c) (i64s (pSt bs k).1) ∧ Src w' 98 B s bs (pSt bs k).2 ∧ Chg [s] w w' := by
  have eg := egT
  have HT := Lib.hid (mtake_any bs B s k 3 w h (by omega) (by omega))
  have HZ := Lib.hid h.lt
  obtain ⟨n, hn⟩ : ∃ n, tkN bs k 3 = n := ⟨_, rfl⟩
  have hn4 : n < 8 := by have := tkN_lt bs k 3; omega
  have HP : Hid (pSt bs k = rep (pS bs) n (k + 3)) := Lib.hid (by unfold pSt; rw [hn])
  rw [hn] at HT
  have hn4' : (n : Int) ≤ 8 := by omega
  have HK := Lib.hid hk
  clear h hn hk
  go_enter Tryz.func111, Tryz.ntmps111
  go_wp2_with fail
  refine HT.out.mono ?_
  rintro e w1 ⟨rfl, h1, h2⟩
  have H1 : Hid (Src w1 98 B s bs (rep (pS bs) 0 (k + 3)).2) := Lib.hid h1
  have H2 := Lib.hid h2
  clear h1 h2
  go_wp2_with fail
  go_loopw [3, 6] (fun v i wr => ∃ (j : Nat) (al : Option Addr) (cl : Nat), j ≤ n ∧ i = .int .u64 (j : Int) ∧ v = .slice al j cl ∧ Hid (Lst wr w.heap.size 3 (.slice al j cl) (i64s (rep (pS bs) j (k + 3)).1)) ∧ Hid (Src wr 98 B s bs (rep (pS bs) j (k + 3)).2) ∧ Hid (Chg [s] w wr)) (fun _ i _ => n - (intOf i).toNat)
  case atStart => exact ⟨0, none, 0, Nat.zero_le _, rfl, rfl, Lib.hid (Lst.nil _ _ _), H1, H2⟩
  case round =>
    obtain ⟨j, al, cl, hj, rfl, rfl, HL, HX, HC⟩ := hrel
    rename World => w6
    by_cases hlt : j < n
    · have hj0 : (0 : Int) ≤ (j : Int) := by omega
      have hj1 : (j : Int) < (n : Int) := by omega
      have HR : Hid (rep (pS bs) (j + 1) (k + 3) = ((rep (pS bs) j (k + 3)).1 ++ [(pS bs (rep (pS bs) j (k + 3)).2).1], (pS bs (rep (pS bs) j (k + 3)).2).2)) := Lib.hid rfl
      have HLn : Hid ((i64s (rep (pS bs) j (k + 3)).1).length ≤ 8) := Lib.hid (by simp [i64s, rep_length]; omega)
      have HQ := pS_at bs j (k + 3)
      generalize rep (pS bs) j (k + 3) = r at *
      obtain ⟨xs, q⟩ := r
      simp only [pS] at HR HL HX HLn HQ
      have HTK := Lib.hid (mtake_any bs B s q 4 w6 HX.out (by have := HK.out; omega) (by omega))
      have hv := tkN_lt bs q 4
      generalize tkN bs q 4 = v at *
      have e2 := i64_small v (by omega)
      clear HQ
      go_wp2_with fail
      refine HTK.out.mono ?_
      rintro e w7 ⟨rfl, h1, h2⟩
      have H1 := Lib.hid h1
      have HC7 := Lib.hid (HC.out.trans h2)
      have HL7 := Lib.hid (HL.out.chg h2 (HX.out.notT (by decide)))
      clear h1 h2
      go_wp2_with (at_builtin; refine wpList_app1g rfl (.tmp 8) (.tmp 12) 33 rfl w.heap.size 3 (.int .i64 0) 8 Tryz.underlying33 Tryz.info_i64 rfl (.int .i64 (v : Int)) rfl (.slice al j cl) (i64s xs) rfl HL7.out rfl (by have := HLn.out; omega) (by have := HLn.out; omega) HC7.out.size ?_)
      intro v' w8 hl8 hc8
      have hrow := fun x (hx : x ∈ rowOf (.slice al j cl)) => (HL7.out.row x hx).1
      have hns : s ∉ rowOf (.slice al j cl) := fun hx => by have := hrow s hx; have := HZ.out; omega
      have HX8 := Lib.hid (H1.out.chg hc8 hns (fun x hx => by have := hrow x hx; have := H1.out.2.1; have := HZ.out; omega))
      have HC8 : Hid (Chg [s] w w8) := Lib.hid (HC7.out.then hc8 (fun x hx => .inr (hrow x hx)))
      have HL8 : Hid (Lst w8 w.heap.size 3 v' (i64s (xs ++ [(v : Int)]))) := Lib.hid (by have := hl8.out; simpa [i64s] using this)
      have HLen : Hid ((i64s (xs ++ [(v : Int)])).length = j + 1) := Lib.hid (by
        obtain ⟨a', c', he, _⟩ := HL7.out.form
        injection he with _ h2 _
        simp [i64s] at h2 ⊢
        omega)
      clear hrow hns hl8 hc8
      obtain ⟨a8, c8, hv8, _, _, _⟩ := HL8.out.form
      rw [HLen.out] at hv8
      subst hv8
      go_wp2_with fail
      go_roundw
      case rel => exact ⟨j + 1, a8, c8, by omega, by go_num, rfl, by rw [HR.out]; exact HL8, by rw [HR.out]; exact HX8, HC8⟩
      case measure => simp [intOf]; omega
    · obtain rfl : j = n := by omega
      go_wp2_with fail
      go_ret
      rw [HP.out]
      have e : (rep (pS bs) j (k + 3)).1.length = j := rep_length _ _ _
      rw [e]
      exact ⟨al, cl, rfl, HL.out, HX.out, HC.out⟩
set_option maxHeartbeats 1000000 in
theorem mbytesF_any (bs : List UInt8) (B s k : Nat) (w : World) (h : Src w 98 B s bs k) (hk : k ≤ 900000) :
    Calls Tryz.prog 114 #[nv s] w fun e w' => ∃ a c, e = .returned (.slice a (pBy bs k).1.length c) ∧ Lst w' w.heap.size 5 (.slice a (pBy bs k).1.length c) (u8s (pBy bs k).1) ∧ Src w' 98 B s bs (pBy bs k).2 ∧ Chg [s] w w' := by
  have eg := egT
  have HT := Lib.hid (mtake_any bs B s k 8 w h (by omega) (by omega))
  have HZ := Lib.hid h.lt
  obtain ⟨n, hn⟩ : ∃ n, tkN bs k 8 = n := ⟨_, rfl⟩
  have hn4 : n < 256 := by have := tkN_lt bs k 8; omega
  have HP : Hid (pBy bs k = rep (pY bs) n (k + 8)) := Lib.hid (by unfold pBy; rw [hn])
  rw [hn] at HT
  have hn4' : (n : Int) ≤ 256 := by omega
  have HK := Lib.hid hk
  clear h hn hk
  go_enter Tryz.func114, Tryz.ntmps114
  go_wp2_with fail
  refine HT.out.mono ?_
  rintro e w1 ⟨rfl, h1, h2⟩
  have H1 : Hid (Src w1 98 B s bs (rep (pY bs) 0 (k + 8)).2) := Lib.hid h1
  have H2 := Lib.hid h2
  clear h1 h2
  go_wp2_with fail
  go_loopw [3, 6] (fun v i wr => ∃ (j : Nat) (al : Option Addr) (cl : Nat), j ≤ n ∧ i = .int .u64 (j : Int) ∧ v = .slice al j cl ∧ Hid (Lst wr w.heap.size 5 (.slice al j cl) (u8s (rep (pY bs) j (k + 8)).1)) ∧ Hid (Src wr 98 B s bs (rep (pY bs) j (k + 8)).2) ∧ Hid (Chg [s] w wr)) (fun _ i _ => n - (intOf i).toNat)
  case atStart => exact ⟨0, none, 0, Nat.zero_le _, rfl, rfl, Lib.hid (Lst.nil _ _ _), H1, H2⟩
  case round =>
    obtain ⟨j, al, cl, hj, rfl, rfl, HL, HX, HC⟩ := hrel
    rename World => w6
    by_cases hlt : j < n
    · have hj0 : (0 : Int) ≤ (j : Int) := by omega
      have hj1 : (j : Int) < (n : Int) := by omega
      have HR : Hid (rep (pY bs) (j + 1) (k + 8) = ((rep (pY bs) j (k + 8)).1 ++ [(pY bs (rep (pY bs) j (k + 8)).2).1], (pY bs (rep (pY bs) j (k + 8)).2).2)) := Lib.hid rfl
      have HLn : Hid ((u8s (rep (pY bs) j (k + 8)).1).length ≤ 256) := Lib.hid (by simp [u8s, rep_length]; omega)
      have HQ := pY_at bs j (k + 8)
      generalize rep (pY bs) j (k + 8) = r at *
      obtain ⟨xs, q⟩ := r
      simp only [pY] at HR HL HX HLn HQ
      have HTK := Lib.hid (mtake_any bs B s q 8 w6 HX.out (by have := HK.out; omega) (by omega))
      have hv := tkN_lt bs q 8
      generalize tkN bs q 8 = v at *
      have e2 : IntKind.u8.wrap (v : Int) = (v : Int) := by rw [IntKind.wrap_u8]; omega
      clear HQ
      go_wp2_with fail
      refine HTK.out.mono ?_
      rintro e w7 ⟨rfl, h1, h2⟩
      have H1 := Lib.hid h1
      have HC7 := Lib.hid (HC.out.trans h2)
      have HL7 := Lib.hid (HL.out.chg h2 (HX.out.notT (by decide)))
      clear h1 h2
      go_wp2_with (at_builtin; refine wpList_app1g rfl (.tmp 8) (.tmp 12) 29 rfl w.heap.size 5 (.int .u8 0) 1 Tryz.underlying29 Tryz.info_u8 rfl (.int .u8 (v : Int)) rfl (.slice al j cl) (u8s xs) rfl HL7.out rfl (by have := HLn.out; omega) (by have := HLn.out; omega) HC7.out.size ?_)
      intro v' w8 hl8 hc8
      have hrow := fun x (hx : x ∈ rowOf (.slice al j cl)) => (HL7.out.row x hx).1
      have hns : s ∉ rowOf (.slice al j cl) := fun hx => by have := hrow s hx; have := HZ.out; omega
      have HX8 := Lib.hid (H1.out.chg hc8 hns (fun x hx => by have := hrow x hx; have := H1.out.2.1; have := HZ.out; omega))
      have HC8 : Hid (Chg [s] w w8) := Lib.hid (HC7.out.then hc8 (fun x hx => .inr (hrow x hx)))
      have HL8 : Hid (Lst w8 w.heap.size 5 v' (u8s (xs ++ [UInt8.ofNat v]))) := Lib.hid (by have := hl8.out; have e5 := u8_of v (by omega); have e6 : u8s (xs ++ [UInt8.ofNat v]) = u8s xs ++ [.int .u8 (v : Int)] := (by unfold u8s; rw [List.map_append, List.map_cons, List.map_nil, e5]); rw [e6]; exact this)
      have HLen : Hid ((u8s (xs ++ [UInt8.ofNat v])).length = j + 1) := Lib.hid (by
        obtain ⟨a', c', he, _⟩ := HL7.out.form
        injection he with _ h2 _
        simp [u8s] at h2 ⊢
        omega)
      clear hrow hns hl8 hc8
      obtain ⟨a8, c8, hv8, _, _, _⟩ := HL8.out.form
      rw [HLen.out] at hv8
      subst hv8
      go_wp2_with fail
      go_roundw
      case rel => exact ⟨j + 1, a8, c8, by omega, by go_num, rfl, by rw [HR.out]; exact HL8, by rw [HR.out]; exact HX8, HC8⟩
      case measure => simp [intOf]; omega
    · obtain rfl : j = n := by omega
      go_wp2_with fail
      go_ret
      rw [HP.out]
      have e : (rep (pY bs) j (k + 8)).1.length = j := rep_length _ _ _
      rw [e]
      exact ⟨al, cl, rfl, HL.out, HX.out, HC.out⟩
end Go.Proofs.YteenlkmnadjnpaaGreat
namespace Go.Proofs.YteenlkmnadjnpaaGreat
open Go.RowKit Go.Deep
set_option linter.unusedVariables false
set_option linter.unusedSimpArgs false

theorem eql_nil (a : Option Addr) (n c : Nat) (w : World) : (binOp .eql 29 (.slice a n c) (.slice none 0 0)).run Tryz.prog w = .ok (.bool a.isNone) w := by
  simp only [binOp]
  simp [run_equal_slice_nil w 29 5 a n c Tryz.underlying29]
/-- a slice of n bytes that are laid below the heap's end -/
def ClP (w : World) (bs : List UInt8) (n : Nat) (e : Ending) (w' : World) : Prop := ∃ a' c', e = .returned (.slice a' n c') ∧ Ro w' w'.heap.size a' (u8s bs) ∧ (∀ ad, a' = some ad → w.heap.size ≤ ad.block) ∧ Below w.heap.size w w'
set_option maxHeartbeats 1000000 in
theorem clone_any (bs : List UInt8) (n : Nat) (a : Option Addr) (c B : Nat) (w : World) (hn : bs.length = n) (h : Ro w B a (u8s bs)) (hB : B ≤ w.heap.size) (ha : a = none → n = 0 ∧ c = 0) (hl : n ≤ 1000000) :
    Calls Tryz.prog 168 #[.slice a n c] w (ClP w bs n) := by
  rcases a with _ | ad
  · obtain ⟨rfl, rfl⟩ := ha rfl
    obtain rfl : bs = [] := List.eq_nil_of_length_eq_zero hn
    have hnil := fun W => eql_nil none 0 0 W
    simp only [Option.isNone_none] at hnil
    go_enter Tryz.func168, Tryz.ntmps168
    go_wp2
    go_ret
    unfold ClP
    exact ⟨none, 0, rfl, Ro.nil _ _ _, (fun ad h => nomatch h), Below.refl _ _⟩
  · have hnil := fun W => eql_nil (some ad) n c W
    simp only [Option.isNone_some] at hnil
    have HN := Lib.hid hn
    have HR := Lib.hid h
    clear ha hn h
    have HLs : Hid (Lst (w.alloc (.cells #[] 5)) w.heap.size 5 (.slice (some ⟨w.heap.size, 0, none⟩) 0 0) []) := Lib.hid ((Own.new w 5 []).lst (Nat.le_refl _) 0 rfl (by decide))
    have HB0 : Hid (Below w.heap.size w (w.alloc (.cells #[] 5))) := Lib.hid ((Below.refl _ _).alloc (Nat.le_refl _) _)
    go_enter Tryz.func168, Tryz.ntmps168
    go_wp2_with (at_builtin; refine wpList_appB rfl (.tmp 5) (.tmp 6) 29 rfl w.heap.size 5 (.int .u8 0) 1 Tryz.underlying29 Tryz.info_u8 rfl (.slice (some ⟨w.heap.size, 0, none⟩) 0 0) [] rfl HLs.out (some ad) B n c (u8s bs) rfl (by rw [u8s_length]; exact HN.out) (HR.out.below HB0.out hB) (u8s_oneCell _) (by simp; omega) (by simp; omega) w.heap.size w HB0.out (Nat.le_refl _) HB0.out.size ?_)
    intro v' w8 hl8 hb8 hs8
    have HL8 := Lib.hid hl8.out
    have HB8 := Lib.hid hb8
    clear hl8 hb8 hs8
    go_wp2_with fail
    go_ret
    obtain ⟨a8, c8, rfl, hr8, _, _⟩ := HL8.out.form
    unfold ClP
    exact ⟨a8, c8, by show Ending.returned (.slice a8 (u8s bs).length c8) = _; rw [u8s_length, HN.out], hr8, fun ad h => (HL8.out.lt ad.block (by subst h; rfl)).1, HB8.out⟩

set_option maxHeartbeats 1000000 in
theorem data_no1 (n : Nat) (a : Option Addr) (c : Nat) (w : World) (hn : n < 2) :
    Calls Tryz.prog 142 #[.slice a n c] w fun e w' => e = .returned (.tuple #[cev 0 none 0 0 none 0 0, .bool false]) ∧ Below w.heap.size w w' := by
  have HG := Lib.hid (fun W => get_no a n c 0 12 W (by omega) (by omega) (by omega) (by omega))
  clear hn
  go_enter Tryz.func142, Tryz.ntmps142
  go_wp2_with fail
  refine (HG.out _).mono ?_
  rintro e w1 ⟨rfl, hb⟩
  have HB := Lib.hid hb
  have o1 := (Own.new w 32 [.int .i64 0, .slice none 0 0, .slice none 0 0]).below hb (by simp)
  have c0 := o1.cell 0
  have c1 := o1.cell 1
  have c2 := o1.cell 2
  have f0 := o1.frozen 0
  have f1 := o1.frozen 1
  have f2 := o1.frozen 2
  simp at c0 c1 c2
  clear hb o1
  go_wp2_with fail
  refine bodyPost_ret (v := .tuple #[cev 0 none 0 0 none 0 0, .bool false]) (by simp [results, Tryz.results142, go_sem, c0, c1, c2]) rfl ⟨rfl, ?_⟩
  exact (((((Below.refl _ _).alloc (Nat.le_refl _) _).trans (HB.out.mono (by simp))).setCell (Nat.le_refl _) _).setCell (Nat.le_refl _) _).setCell (Nat.le_refl _) _

set_option maxHeartbeats 1000000 in
theorem data_no2 (bs : List UInt8) (n : Nat) (a : Option Addr) (c B : Nat) (w : World) (hn : bs.length = n) (h : Ro w B a (u8s bs)) (hB : B ≤ w.heap.size) (hl : n ≤ 1000000) (h2 : 2 ≤ n) (hno : num bs 0 12 / 1024 ≠ 1 ∨ n < num bs 0 12 % 128) :
    Calls Tryz.prog 142 #[.slice a n c] w fun e w' => e = .returned (.tuple #[cev 0 none 0 0 none 0 0, .bool false]) ∧ Below w.heap.size w w' := by
  subst hn
  have HG := Lib.hid (get_yes bs a c B 0 12 (w.alloc (.cells #[.int .i64 0, .slice none 0 0, .slice none 0 0] 32)) (h.below ((Below.refl B w).alloc hB _) (Nat.le_refl _)) (by simp; omega) hl (by omega) (by omega) (by omega) (by omega))
  have hlt := num_lt bs 0 12
  change Hid (Calls _ _ _ _ fun e w' => e = .returned (.tuple #[.int .u64 (num bs 0 12 : Nat), .bool true]) ∧ _) at HG
  clear h
  generalize num bs 0 12 = h at *
  generalize bs.length = n at *
  have HS1 := Lib.hid (fun W => split_z (h : Int) 7 ((h / 128 : Nat) : Int) ((h % 128 : Nat) : Int) W (by omega) (by omega) (by omega) (by omega) (by omega))
  have HS2 := Lib.hid (fun W => split_z ((h / 128 : Nat) : Int) 3 ((h / 1024 : Nat) : Int) ((h / 128 % 8 : Nat) : Int) W (by omega) (by omega) (by omega) (by omega) (by omega))
  change Hid (∀ W, Calls _ _ #[.int .u64 (h : Int), .int .i64 7] _ _) at HS1
  change Hid (∀ W, Calls _ _ #[.int .u64 ((h / 128 : Nat) : Int), .int .i64 3] _ _) at HS2
  have hR : h / 128 < 32 := by omega
  have hs : h % 128 < 128 := by omega
  have hnb : h / 1024 < 4 := by omega
  have hct : h / 128 % 8 < 8 := by omega
  generalize h / 128 % 8 = cnt at *
  generalize h / 128 = R at *
  generalize h % 128 = sz at *
  generalize h / 1024 = nb at *
  have e1 : wrap64 (sz : Int) = (sz : Int) := by unfold wrap64; omega
  have hcase : (((nb : Int) != 1) = true) ∨ (((nb : Int) != 1) = false ∧ (n : Int) < (sz : Int)) := by
    by_cases e : nb = 1
    · exact .inr ⟨by rw [bne_eq_false_iff_eq]; omega, by omega⟩
    · exact .inl (by rw [bne_iff_ne]; omega)
  clear hno hlt
  rcases hcase with hc1 | ⟨hc1, hc2⟩
  all_goals
    go_enter Tryz.func142, Tryz.ntmps142
    go_wp2_with fail
    refine HG.out.mono ?_
    rintro e w1 ⟨rfl, hb⟩
    have HB := Lib.hid hb
    have o1 := (Own.new w 32 [.int .i64 0, .slice none 0 0, .slice none 0 0]).below hb (by simp)
    have c0 := o1.cell 0
    have c1 := o1.cell 1
    have c2 := o1.cell 2
    have f0 := o1.frozen 0
    have f1 := o1.frozen 1
    have f2 := o1.frozen 2
    simp at c0 c1 c2
    clear hb o1
    go_wp2_with fail
    refine (HS1.out _).mono ?_
    rintro e w2 ⟨rfl, rfl⟩
    go_wp2_with fail
    refine (HS2.out _).mono ?_
    rintro e w2 ⟨rfl, rfl⟩
    go_wp2_with fail
    refine bodyPost_ret (v := .tuple #[cev 0 none 0 0 none 0 0, .bool false]) (by simp [results, Tryz.results142, go_sem, c0, c1, c2]) rfl ⟨rfl, ?_⟩
    exact (((((Below.refl _ _).alloc (Nat.le_refl _) _).trans (HB.out.mono (by simp))).drew.drew.setCell (Nat.le_refl _) _).setCell (Nat.le_refl _) _).setCell (Nat.le_refl _) _
end Go.Proofs.YteenlkmnadjnpaaGreat
