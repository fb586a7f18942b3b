/-
  Before and Find of package cell, and what they call, by their contracts. No claim of their own.
-/
import Derived.Test.YtcapphabajplcaaCeC
import Derived.Laws.EntriesVeiled
namespace Go.Proofs.Ytcapphabajplcaa
open Go.RowKit Go.Deep Go.Shelf
set_option linter.unusedVariables false
set_option linter.unusedSimpArgs false

/-- an address that is not ahead of a -/
def late (a x : Nat) : Bool := if x = 18446744073709551615 then false else decide (a ≤ x)
/-- a Back with one -/
def lateB (a : Nat) (b : Bk) : Bool := anyN (fun k => late a ([b.2.1, b.2.2].getD k 0)) 2
/-- is all ahead of a? -/
def before (x : Ce) (a : Nat) : Bool := !anyN (fun k => lateB a (bk x.b k)) x.b.length

set_option maxHeartbeats 400000 in
theorem bf1_any (x a g : Nat) (w : World) (h : w.cell? ⟨g, 0, none⟩ = some (.int .u64 (a : Int))) :
    Calls Try.prog 27 #[.int .u64 (x : Int), .pointer (some ⟨g, 0, none⟩)] w fun e w' => e = .returned (.bool (late a x)) ∧ w = w' := by
  by_cases e : x = 18446744073709551615
  · have e1 : late a x = false := by simp [late, e]
    rw [e1]
    subst e
    clear e1
    go_enter Try.func27, Try.ntmps27
    go_wp2
    go_ret
    exact ⟨rfl, rfl⟩
  · have e1 : late a x = decide (a ≤ x) := by simp [late, e]
    have e3 : ((x : Int) != 18446744073709551615) = true := by rw [bne_iff_ne]; omega
    rw [e1]
    clear e1 e
    go_enter Try.func27, Try.ntmps27
    go_wp2
    go_ret
    exact ⟨by simp, rfl⟩

theorem bf1_in (p q a g gb : Nat) (w : World) (h : w.cell? ⟨g, 0, none⟩ = some (.int .u64 (a : Int))) (h1 : w.cell? ⟨gb, 1, none⟩ = some (.int .u64 (p : Int))) (h2 : w.cell? ⟨gb, 2, none⟩ = some (.int .u64 (q : Int))) (s : Int) :
    Calls Try.prog 30 #[.slice (some ⟨gb, 1, none⟩) 2 2, .func (.func 27) #[] #[.pointer (some ⟨g, 0, none⟩)]] w fun e w' => e = .returned (.bool (lateB a (s, p, q))) ∧ w' = w := by
  have eg : ∀ args w, (callFunc 27 args).run Try.prog w = .ok (.enter 27 args) w := enters_of Try.func27 (by kernel_rfl) rfl
  refine (contains_num (fun k W => W = w) (fun k => late a ([p, q].getD k 0)) 27 #[.pointer (some ⟨g, 0, none⟩)] eg [p, q] (some ⟨gb, 1, none⟩) 2 (gb + 1) w (by simp) (fun k W' hW => ?_) rfl (fun k W' hk hW => ?_)).mono ?_
  · subst hW
    refine .inr ⟨gb, 1, rfl, by omega, fun i hi => ?_⟩
    have hi' : i = 0 ∨ i = 1 := by simp at hi; omega
    rcases hi' with rfl | rfl
    · exact h1
    · exact h2
  · subst hW
    refine (bf1_any ([p, q].getD k 0) a g W' h).mono ?_
    rintro e w' ⟨rfl, rfl⟩
    exact ⟨rfl, rfl⟩
  · rintro e w' ⟨rfl, k, hk⟩
    exact ⟨rfl, hk⟩

set_option maxHeartbeats 1000000 in
theorem bf2_any (b : Bk) (a g gc : Nat) (w : World) (h : w.cell? ⟨g, 0, none⟩ = some (.int .u64 (a : Int))) (h1 : w.cell? ⟨gc, 0, none⟩ = some (.func (.func 27) #[] #[.pointer (some ⟨g, 0, none⟩)])) :
    Calls Try.prog 29 #[bkv b, .pointer (some ⟨gc, 0, none⟩)] w fun e w' => e = .returned (.bool (lateB a b)) ∧ Below w.heap.size w w' := by
  obtain ⟨s, p, q⟩ := b
  have hg := World.block_lt_of_cell? _ _ h
  have hgc := World.block_lt_of_cell? _ _ h1
  have o1 := Own.new w 41 [.int .i64 s, .int .u64 (p : Int), .int .u64 (q : Int)]
  have c1 := o1.cell 1
  have c2 := o1.cell 2
  have HC := Lib.hid (fun n => bf1_in p q a g w.heap.size ((w.alloc (.cells #[.int .i64 s, .int .u64 (p : Int), .int .u64 (q : Int)] 41)).drewN n) ((World.cell?_alloc_lt _ _ _ hg).trans h) (by simp) (by simp) s)
  clear o1 c1 c2
  generalize lateB a (s, p, q) = t at *
  simp only at hg hgc
  go_enter Try.func29, Try.ntmps29
  go_wp2_with fail
  go_quiet ((go_at_call 30; exact Calls.quiet_of_same (HC.out _)))
  go_wp2_with fail
  go_ret
  exact ⟨rfl, (Qt.drewN _ _).below ((Below.refl _ _).alloc (Nat.le_refl _) _)⟩

set_option maxHeartbeats 1000000 in
theorem before_any (x : Ce) (a : Option Addr) (n c : Nat) (a2 : Option Addr) (c2 B : Nat) (y : Nat) (w : World) (hro : Ro w B a2 (bcs x.b)) (hB : B ≤ w.heap.size) (hl : x.b.length ≤ 1000000) :
    Calls Try.prog 15 #[cev x.k a n c a2 x.b.length c2, .int .u64 (y : Int)] w fun e w' => e = .returned (.bool (before x y)) ∧ Below w.heap.size w w' := by
  obtain ⟨k, d, L⟩ := x
  simp only at hro hl ⊢
  obtain ⟨t, ht⟩ : ∃ t, t = anyN (fun k => lateB y (bk L k)) L.length := ⟨_, rfl⟩
  have eg : ∀ args w, (callFunc 29 args).run Try.prog w = .ok (.enter 29 args) w := enters_of Try.func29 (by kernel_rfl) rfl
  obtain ⟨W, hW⟩ : ∃ W, ((w.alloc (.cells #[.int .i64 k, .slice a n c, .slice a2 L.length c2] 26)).alloc (.cells #[.int .u64 (y : Int)] 36)).alloc (.cells #[.func (.func 27) #[] #[.pointer (some ⟨w.heap.size + 1, 0, none⟩)]] 59) = W := ⟨_, rfl⟩
  have hWb : Below w.heap.size w W := by rw [← hW]; exact (((Below.refl _ _).alloc (Nat.le_refl _) _).alloc (by simp) _).alloc (by simp; omega) _
  have o1 : Own W (w.heap.size + 1) 36 [.int .u64 (y : Int)] := by
    rw [← hW]
    have := Own.new (w.alloc (.cells #[.int .i64 k, .slice a n c, .slice a2 L.length c2] 26)) 36 [.int .u64 (y : Int)]
    exact Own.alloc (by simpa using this) _
  have o2 : Own W (w.heap.size + 2) 59 [.func (.func 27) #[] #[.pointer (some ⟨w.heap.size + 1, 0, none⟩)]] := by
    rw [← hW]
    have := Own.new ((w.alloc (.cells #[.int .i64 k, .slice a n c, .slice a2 L.length c2] 26)).alloc (.cells #[.int .u64 (y : Int)] 36)) 59 [.func (.func 27) #[] #[.pointer (some ⟨w.heap.size + 1, 0, none⟩)]]
    simpa using this
  have HC : Hid (Calls Try.prog 28 #[.slice a2 L.length c2, .func (.func 29) #[] #[.pointer (some ⟨w.heap.size + 1 + 1, 0, none⟩)]] W fun e w' => e = .returned (.bool t) ∧ Below w.heap.size w w') := by
    apply Lib.hid
    refine (contains_back (fun k W' => Own W' (w.heap.size + 1) 36 [.int .u64 (y : Int)] ∧ Own W' (w.heap.size + 2) 59 [.func (.func 27) #[] #[.pointer (some ⟨w.heap.size + 1, 0, none⟩)]] ∧ Below w.heap.size w W') (fun k => lateB y (bk L k)) 29 #[.pointer (some ⟨w.heap.size + 1 + 1, 0, none⟩)] eg L a2 c2 B W hl (fun k W' h => hro.below h.2.2 hB) ⟨o1, o2, hWb⟩ (fun k W' hk h => ?_)).mono ?_
    · obtain ⟨o1, o2, o3⟩ := h
      refine (bf2_any (bk L k) y (w.heap.size + 1) (w.heap.size + 2) W' (by simpa using o1.cell 0) (by simpa using o2.cell 0)).mono ?_
      rintro e w' ⟨rfl, h4⟩
      exact ⟨rfl, o1.below h4 o1.lt, o2.below h4 o2.lt, o3.trans (h4.mono o3.size)⟩
    · rintro e w' ⟨rfl, k, hk⟩
      rw [ht]
      exact ⟨rfl, hk.2.2⟩
  unfold before
  show Calls _ _ _ _ fun e w' => e = .returned (.bool (!anyN (fun k => lateB y (bk L k)) L.length)) ∧ _
  rw [← ht]
  have HW := Lib.hid hW
  clear ht o1 o2 hWb hW hro
  generalize L.length = m at *
  go_enter Try.func15, Try.ntmps15
  go_wp2_with fail
  rw [HW.out]
  refine HC.out.mono ?_
  rintro e w' ⟨rfl, hb⟩
  have HB := Lib.hid hb
  clear hb
  go_wp2_with fail
  go_ret
  exact ⟨rfl, HB.out⟩

set_option maxHeartbeats 400000 in
theorem fd1_any (b : Bk) (s : Int) (g : Nat) (w : World) (h : w.cell? ⟨g, 0, none⟩ = some (.int .i64 s)) :
    Calls Try.prog 25 #[bkv b, .pointer (some ⟨g, 0, none⟩)] w fun e w' => e = .returned (.bool (decide (b.1 = s))) ∧ Below w.heap.size w w' := by
  obtain ⟨t, p, q⟩ := b
  have hg := World.block_lt_of_cell? _ _ h
  simp only at hg ⊢
  go_enter Try.func25, Try.ntmps25
  go_wp2_with fail
  go_ret
  exact ⟨ret_bool rfl, (Below.refl _ _).alloc (Nat.le_refl _) _⟩

/-- the index of a stream's Back -/
def fdx (x : Ce) (s : Int) : Int := fx (fun k => decide ((bk x.b k).1 = s)) x.b.length
set_option maxHeartbeats 1000000 in
theorem find_in (L : List Bk) (a2 : Option Addr) (c2 B : Nat) (s : Int) (g : Nat) (w W : World) (hro : Ro w B a2 (bcs L)) (hB : B ≤ w.heap.size) (hW : Below w.heap.size w W) (hg : Own W g 3 [.int .i64 s]) (hl : L.length ≤ 1000000) :
    Calls Try.prog 24 #[.slice a2 L.length c2, .func (.func 25) #[] #[.pointer (some ⟨g, 0, none⟩)]] W fun e w' => e = .returned (.int .i64 (fx (fun k => decide ((bk L k).1 = s)) L.length)) ∧ Below W.heap.size W w' := by
  have eg : ∀ args w, (callFunc 25 args).run Try.prog w = .ok (.enter 25 args) w := enters_of Try.func25 (by kernel_rfl) rfl
  refine (index_back (fun k W' => Own W' g 3 [.int .i64 s] ∧ Below W.heap.size W W') (fun k => decide ((bk L k).1 = s)) 25 #[.pointer (some ⟨g, 0, none⟩)] eg L a2 c2 B W hl (fun k W' h => (hro.below hW hB).below h.2 (Nat.le_trans hB hW.size)) ⟨hg, Below.refl _ _⟩ (fun k W' hk h => ?_)).mono ?_
  · obtain ⟨o1, o3⟩ := h
    refine (fd1_any (bk L k) s g W' (by simpa using o1.cell 0)).mono ?_
    rintro e w' ⟨rfl, h4⟩
    exact ⟨rfl, o1.below h4 o1.lt, o3.trans (h4.mono o3.size)⟩
  · rintro e w' ⟨rfl, k, hk⟩
    exact ⟨rfl, hk.2⟩

set_option maxHeartbeats 1000000 in
theorem find_no (x : Ce) (a : Option Addr) (n c : Nat) (a2 : Option Addr) (c2 B : Nat) (s : Int) (w : World) (hro : Ro w B a2 (bcs x.b)) (hB : B ≤ w.heap.size) (hl : x.b.length ≤ 1000000) (hx : fdx x s = -1) :
    Calls Try.prog 14 #[cev x.k a n c a2 x.b.length c2, .int .i64 s] w fun e w' => e = .returned (.tuple #[.agg #[.int .u64 18446744073709551615, .int .u64 18446744073709551615], .bool false]) ∧ Below w.heap.size w w' := by
  obtain ⟨k, d, L⟩ := x
  simp only [fdx] at hro hl hx ⊢
  obtain ⟨W, hW⟩ : ∃ W, ((w.alloc (.cells #[.int .i64 k, .slice a n c, .slice a2 L.length c2] 26)).alloc (.cells #[.int .i64 s] 3)).alloc (.cells #[.int .u64 0, .int .u64 0] 37) = W := ⟨_, rfl⟩
  have hWb : Below w.heap.size w W := by rw [← hW]; exact (((Below.refl _ _).alloc (Nat.le_refl _) _).alloc (by simp) _).alloc (by simp; omega) _
  have o1 : Own W (w.heap.size + 1) 3 [.int .i64 s] := by
    rw [← hW]
    have := Own.new (w.alloc (.cells #[.int .i64 k, .slice a n c, .slice a2 L.length c2] 26)) 3 [.int .i64 s]
    exact Own.alloc (by simpa using this) _
  have o2 : Own W (w.heap.size + 2) 37 [.int .u64 0, .int .u64 0] := by
    rw [← hW]
    have := Own.new ((w.alloc (.cells #[.int .i64 k, .slice a n c, .slice a2 L.length c2] 26)).alloc (.cells #[.int .i64 s] 3)) 37 [.int .u64 0, .int .u64 0]
    simpa using this
  have HC := Lib.hid (find_in L a2 c2 B s (w.heap.size + 1) w W hro hB hWb o1 hl)
  rw [hx] at HC
  have HW := Lib.hid hW
  have HWb := Lib.hid hWb
  have HO := Lib.hid o2
  clear o1 o2 hWb hW hro hx
  generalize L.length = m at *
  go_enter Try.func14, Try.ntmps14
  go_wp2_with fail
  rw [HW.out]
  refine HC.out.mono ?_
  rintro e w1 ⟨rfl, hb⟩
  have HB := Lib.hid hb
  have HO1 := Lib.hid (HO.out.below hb HO.out.lt)
  clear hb
  go_wp2_with fail
  refine (noLast_any _).mono ?_
  rintro e w2 ⟨rfl, hb⟩
  have HB2 := Lib.hid hb
  have o3 := HO1.out.below hb HO1.out.lt
  have c0 := o3.cell 0
  have c1 := o3.cell 1
  have f0 := o3.frozen 0
  have f1 := o3.frozen 1
  simp at c0 c1
  clear hb o3
  go_wp2_with fail
  refine bodyPost_ret (v := .tuple #[.agg #[.int .u64 18446744073709551615, .int .u64 18446744073709551615], .bool false]) (by simp [results, Try.results14, go_sem, c0, c1, f0, f1]) rfl ⟨rfl, ?_⟩
  exact ((HWb.out.trans (HB.out.mono HWb.out.size)).trans (HB2.out.mono (Nat.le_trans HWb.out.size HB.out.size))).setCell (by show w.heap.size ≤ w.heap.size + 2; omega) _ |>.setCell (by show w.heap.size ≤ w.heap.size + 2; omega) _
set_option maxHeartbeats 1000000 in
theorem find_yes (x : Ce) (a : Option Addr) (n c : Nat) (a2 : Option Addr) (c2 B : Nat) (s : Int) (w : World) (hro : Ro w B a2 (bcs x.b)) (hB : B ≤ w.heap.size) (hl : x.b.length ≤ 1000000) (i : Nat) (hi : i < x.b.length) (hx : fdx x s = (i : Int)) :
    Calls Try.prog 14 #[cev x.k a n c a2 x.b.length c2, .int .i64 s] w fun e w' => e = .returned (.tuple #[.agg #[.int .u64 ((bk x.b i).2.1 : Int), .int .u64 ((bk x.b i).2.2 : Int)], .bool true]) ∧ Below w.heap.size w w' := by
  obtain ⟨k, d, L⟩ := x
  simp only [fdx] at hro hl hx hi ⊢
  obtain ⟨W, hW⟩ : ∃ W, ((w.alloc (.cells #[.int .i64 k, .slice a n c, .slice a2 L.length c2] 26)).alloc (.cells #[.int .i64 s] 3)).alloc (.cells #[.int .u64 0, .int .u64 0] 37) = W := ⟨_, rfl⟩
  have hWb : Below w.heap.size w W := by rw [← hW]; exact (((Below.refl _ _).alloc (Nat.le_refl _) _).alloc (by simp) _).alloc (by simp; omega) _
  have o1 : Own W (w.heap.size + 1) 3 [.int .i64 s] := by
    rw [← hW]
    have := Own.new (w.alloc (.cells #[.int .i64 k, .slice a n c, .slice a2 L.length c2] 26)) 3 [.int .i64 s]
    exact Own.alloc (by simpa using this) _
  have o2 : Own W (w.heap.size + 2) 37 [.int .u64 0, .int .u64 0] := by
    rw [← hW]
    have := Own.new ((w.alloc (.cells #[.int .i64 k, .slice a n c, .slice a2 L.length c2] 26)).alloc (.cells #[.int .i64 s] 3)) 37 [.int .u64 0, .int .u64 0]
    simpa using this
  have o0 : Own W w.heap.size 26 [.int .i64 k, .slice a n c, .slice a2 L.length c2] := by
    rw [← hW]
    exact ((Own.new w _ _).alloc _).alloc _
  have HR := Lib.hid hro
  have HI := Lib.hid hi
  have HO0 := Lib.hid o0
  have HC := Lib.hid (find_in L a2 c2 B s (w.heap.size + 1) w W hro hB hWb o1 hl)
  rw [hx] at HC
  have HW := Lib.hid hW
  have HWb := Lib.hid hWb
  have HO := Lib.hid o2
  clear o0 o1 o2 hWb hW hro hx
  obtain ⟨b0, off, rfl, hb0, hcl⟩ := HR.out.bk (by omega)
  obtain ⟨_, c1, c2'⟩ := hcl i HI.out
  clear hcl
  have HX1 := Lib.hid c1
  have HX2 := Lib.hid c2'
  clear c1 c2'
  generalize bk L i = x at *
  have hi1 : (i : Int) < (L.length : Int) := by omega
  have hi0 : (0 : Int) ≤ (i : Int) := by omega
  generalize L.length = m at *
  go_enter Try.func14, Try.ntmps14
  go_wp2_with fail
  rw [HW.out]
  refine HC.out.mono ?_
  rintro e w1 ⟨rfl, hb⟩
  have HB := Lib.hid hb
  have o3 := HO.out.below hb HO.out.lt
  have o4 := HO0.out.below hb HO0.out.lt
  have x1 := (hb.cell (p := ⟨b0, off + i * 3 + 1, none⟩) (Nat.lt_of_lt_of_le (Nat.lt_of_lt_of_le hb0 hB) HWb.out.size)).trans ((HWb.out.cell (p := ⟨b0, off + i * 3 + 1, none⟩) (Nat.lt_of_lt_of_le hb0 hB)).trans HX1.out)
  have x2 := (hb.cell (p := ⟨b0, off + i * 3 + 2, none⟩) (Nat.lt_of_lt_of_le (Nat.lt_of_lt_of_le hb0 hB) HWb.out.size)).trans ((HWb.out.cell (p := ⟨b0, off + i * 3 + 2, none⟩) (Nat.lt_of_lt_of_le hb0 hB)).trans HX2.out)
  have c0 := o3.cell 0
  have c1 := o3.cell 1
  have f0 := o3.frozen 0
  have f1 := o3.frozen 1
  have d2 := o4.cell 2
  simp at c0 c1 d2
  clear hb o3 o4
  go_wp2_with fail
  refine bodyPost_ret (v := .tuple #[.agg #[.int .u64 (x.2.1 : Int), .int .u64 (x.2.2 : Int)], .bool true]) (by simp [results, Try.results14, go_sem, c0, c1, f0, f1]) rfl ⟨rfl, ?_⟩
  exact (HWb.out.trans (HB.out.mono HWb.out.size)).setCell (by show w.heap.size ≤ w.heap.size + 2; omega) _ |>.setCell (by show w.heap.size ≤ w.heap.size + 2; omega) _
end Go.Proofs.Ytcapphabajplcaa
