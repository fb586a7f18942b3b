/-
  The questions of a proposer. No claim of its own.
-/
import Derived.Test.YtcadnlilijkneaaGa10
import Derived.Deep.CutRange
namespace Go.Proofs.Ytcadnlilijkneaa
open Go.RowKit Go.Maps Go.Shelf Go.Deep
set_option linter.unusedVariables false
set_option linter.unusedSimpArgs false

/-- a message is stored whole, at a step of a region that draws its order -/
theorem step_storeMg {ops : Array Oper} {o : Oper} {a : Act} {w : World} {K : Act → World → Prop} {Q : Exit → Act → World → Prop} {E : Prop} (hgd : o.guard = none) (x y : Operand) (ho : o.op = .store 40 x y) (b : Nat) (hx : a.eval x = .pointer (some ⟨b, 0, none⟩)) (A : MgT) (hy : a.eval y = .agg A.cs.toArray) (old : List Value) (hr : Own w b 40 old) (hl : old.length = 22)
    (h : ∀ w', Own w' b 40 A.cs → Chg [b] w w' → K (a.put o.dst undef) w') : if Region.wanted o (yielded ops a.tmps) = true then Oper.wp Try.prog o a w K Q else E := by
  have hw : Region.wanted o (yielded ops a.tmps) = true := by simp [Region.wanted, hgd]
  rw [if_pos hw]
  refine wp_store_mid _ x y ho b 0 A.cs.toArray hx hy (fun j hj => ?_) infoMg (all_oneCell_toArray A.one) (h _ ?_ ?_)
  · have hj' : j < 22 := hj
    rw [Nat.zero_add, hr.cell j]
    exact ⟨by simp [hl, hj'], hr.frozen j⟩
  · exact own_setCells A.cs [] old w hr (by rw [hl]; rfl)
  · exact (Chg.refl [b] w).setCells (.inl (by simp)) 0 _
theorem Chg.own_new {W V : World} (h : Chg [] W V) (t : TypeId) (cs : List Value) : W.heap.size ≤ V.heap.size ∧ Own (V.alloc (.cells cs.toArray t)) V.heap.size t cs := ⟨h.size, Own.new V t cs⟩
def zLyT : LyT := ⟨0, none, 0, [], 0⟩
theorem zLyT_p (w : World) (P : Nat → Prop) : LyP w P zLyT := LyP.nil _ _ rfl
theorem zLyT_s : LyS zLyT := .inl ⟨rfl, rfl, rfl⟩
/-- a question -/
def queT (k cl id : Int) (ep : Nat) (ba : Int × Int) (s : Int) (y : LyT) : MgT := ⟨k, (4, cl), (3, s), id, 0, ep, 0, 0, noC, none, 0, none, 0, [], none, 0, [], none, 0, ba, (0, 0), y⟩
/-- what the walk of a question holds -/
def QuS (w : World) (p : Nat) (T : PrT) (W : World) : Prop :=
  W.cell? ⟨p, 1, none⟩ = some (.int .i64 T.id) ∧ W.cell? ⟨p, 2, none⟩ = some (.int .u64 (T.wi.e : Int)) ∧ W.cell? ⟨p, 5, none⟩ = some (.int .i64 T.ph) ∧ W.cell? ⟨p, 6, none⟩ = some (.int .i64 T.ba.1) ∧ W.cell? ⟨p, 7, none⟩ = some (.int .i64 T.ba.2) ∧ Chg [] w W
theorem QuS.step {w : World} {p : Nat} {T : PrT} {W W' : World} (h : QuS w p T W) (hc : Chg [] W W') : QuS w p T W' :=
  ⟨hc.cell h.1 (by simp), hc.cell h.2.1 (by simp), hc.cell h.2.2.1 (by simp), hc.cell h.2.2.2.1 (by simp), hc.cell h.2.2.2.2.1 (by simp), h.2.2.2.2.2.trans hc⟩
theorem QuS.start {w : World} {p : Nat} {T : PrT} {W : World} (h : Own W p 58 T.cs) (hc : Chg [] w W) : QuS w p T W :=
  ⟨by rw [h.cell]; rfl, by rw [h.cell]; rfl, by rw [h.cell]; rfl, by rw [h.cell]; rfl, by rw [h.cell]; rfl, hc⟩
def QuR (w : World) (T : PrT) (s : Int) (v : Value) (W : World) : Prop := ∃ g, v = .pointer (some ⟨g, 0, none⟩) ∧ w.heap.size ≤ g ∧ Own W g 40 (queT (kd T.ph) T.cl T.id T.wi.e T.ba s zLyT).cs ∧ Chg [] w W
theorem own_layout_put {w : World} {g : Nat} {k cl id : Int} {ep : Nat} {ba : Int × Int} {s : Int} {y y' : LyT} (h : Own w g 40 (queT k cl id ep ba s y).cs) (n : Nat) (hn : y'.sg.length = n) :
    Own (((w.setCell ⟨g, 19, none⟩ (.int .u64 (y'.e : Int))).setCell ⟨g, 20, none⟩ (.slice y'.a n y'.c)).setCell ⟨g, 21, none⟩ (.int .i64 y'.q)) g 40 (queT k cl id ep ba s y').cs := by
  subst hn
  have := ((h.set 19 (.int .u64 (y'.e : Int))).set 20 (.slice y'.a y'.sg.length y'.c)).set 21 (.int .i64 y'.q)
  exact this
set_option maxHeartbeats 4000000 in
set_option maxRecDepth 100000 in
theorem question_any (w : World) (p : Nat) (T : PrT) (P : Nat → Prop) (ho : Own w p 58 T.cs) (hl : LyP w P T.ly) (hs : LyS T.ly) (s : Int) :
    Calls Try.prog 28 #[.pointer (some ⟨p, 0, none⟩), .int .i64 s] w fun e w' => ∃ y : LyT, e = .returned (.agg (queT (kd T.ph) T.cl T.id T.wi.e T.ba s y).cs.toArray) ∧ y.x = (if T.ph = 2 then T.ly.x else zLyT.x) ∧ LyP w' (fun x => w.heap.size ≤ x) y ∧ LyS y ∧ Chg [] w w' := by
  obtain ⟨W, HW⟩ : ∃ W, Hid (w.alloc (.cells zmT.cs.toArray 40) = W) := ⟨_, Lib.hid rfl⟩
  have hc : Chg [] w W := by rw [← HW.out]; exact (Chg.refl [] w).alloc _
  have hsz : W.heap.size = w.heap.size + 1 := by rw [← HW.out]; simp
  have hr : Own W w.heap.size 40 zmT.cs := by rw [← HW.out]; exact Own.new w _ _
  have hoW := ho.chg hc (by simp)
  have HPL : Hid (∀ V, Chg [] W V → Calls Try.prog 30 #[.pointer (some ⟨p, 0, none⟩)] V fun e w' => e = .returned (.agg #[.int .i64 4, .int .i64 T.cl]) ∧ Chg [] V w') := Lib.hid fun V hV => place_any V p T (hoW.chg hV (by simp))
  have HKI := Lib.hid (fun V => kind_any T.ph V)
  have HCP : Hid (∀ V, Chg [] W V → Calls Try.prog 16 #[T.ly.val] V fun e w' => ∃ A' : LyT, e = .returned A'.val ∧ A'.x = T.ly.x ∧ LyP w' (fun x => V.heap.size ≤ x) A' ∧ LyS A' ∧ Chg [] V w') := Lib.hid fun V hV => copyA_any T.ly P V ((hl.chg hc (by simp)).chg hV (by simp)) hs
  have HS0 := Lib.hid (QuS.start hoW (Chg.refl [] W))
  have HR := Lib.hid (And.intro hr hsz)
  have HC := Lib.hid hc
  have HO := Lib.hid hoW
  have HLT := Lib.hid ho.lt
  clear ho hl hs hc hr hsz hoW
  obtain ⟨cl, id, ⟨we, wa, wc, ws, wq⟩, ph, ⟨b1, b2⟩, ⟨h1, h2⟩, vb, ti, ⟨f1, f2⟩, ⟨le, la, lc, ls, lq⟩, ov⟩ := T
  simp only [LyT.val] at *
  obtain ⟨n, hn⟩ : ∃ n, Hid (ls.length = n) := ⟨_, Lib.hid rfl⟩
  rw [hn.out] at HCP
  obtain ⟨k, hk⟩ : ∃ k, Hid (kd ph = k) := ⟨_, Lib.hid rfl⟩
  rw [hk.out] at HKI
  go_enter Try.func28, Try.ntmps28
  go_upto_region 1 with fail
  rw [show w.alloc (.cells #[.int .i64 0, .int .i64 0, .int .i64 0, .int .i64 0, .int .i64 0, .int .i64 0, .int .i64 0, .int .u64 0, .int .u64 0, .int .i64 0, .int .i64 0, .slice none 0 0, .slice none 0 0, .slice none 0 0, .slice none 0 0, .int .i64 0, .int .i64 0, .int .i64 0, .int .i64 0, .int .u64 0, .slice none 0 0, .int .i64 0] 40) = W from HW.out]
  go_cut [5] from 5 to 28 (fun v5 wx => ∃ g, v5 = .pointer (some ⟨g, 0, none⟩) ∧ W.heap.size ≤ g ∧ Own wx g 40 (queT k cl id we (b1, b2) s zLyT).cs ∧ Chg [] W wx)
  case first =>
    have HTR : Hid (∀ V, QuS W p ⟨cl, id, ⟨we, wa, wc, ws, wq⟩, ph, (b1, b2), (h1, h2), vb, ti, (f1, f2), ⟨le, la, lc, ls, lq⟩, ov⟩ V → V.cell? ⟨p, 1, none⟩ = some (.int .i64 id) ∧ V.cell? ⟨p, 2, none⟩ = some (.int .u64 (we : Int)) ∧ V.cell? ⟨p, 5, none⟩ = some (.int .i64 ph) ∧ V.cell? ⟨p, 6, none⟩ = some (.int .i64 b1) ∧ V.cell? ⟨p, 7, none⟩ = some (.int .i64 b2) ∧ p < V.heap.size ∧ Chg [] W V) := Lib.hid fun V h => ⟨h.1, h.2.1, h.2.2.1, h.2.2.2.1, h.2.2.2.2.1, Nat.lt_of_lt_of_le HO.out.lt h.2.2.2.2.2.size, h.2.2.2.2.2⟩
    have HST : Hid (∀ V V', (V.cell? ⟨p, 1, none⟩ = some (.int .i64 id) ∧ V.cell? ⟨p, 2, none⟩ = some (.int .u64 (we : Int)) ∧ V.cell? ⟨p, 5, none⟩ = some (.int .i64 ph) ∧ V.cell? ⟨p, 6, none⟩ = some (.int .i64 b1) ∧ V.cell? ⟨p, 7, none⟩ = some (.int .i64 b2) ∧ p < V.heap.size ∧ Chg [] W V) → Chg [] V V' → (V'.cell? ⟨p, 1, none⟩ = some (.int .i64 id) ∧ V'.cell? ⟨p, 2, none⟩ = some (.int .u64 (we : Int)) ∧ V'.cell? ⟨p, 5, none⟩ = some (.int .i64 ph) ∧ V'.cell? ⟨p, 6, none⟩ = some (.int .i64 b1) ∧ V'.cell? ⟨p, 7, none⟩ = some (.int .i64 b2) ∧ p < V'.heap.size ∧ Chg [] W V')) := Lib.hid fun V V' h hc =>
      ⟨hc.cell h.1 (by simp), hc.cell h.2.1 (by simp), hc.cell h.2.2.1 (by simp), hc.cell h.2.2.2.1 (by simp), hc.cell h.2.2.2.2.1 (by simp), Nat.lt_of_lt_of_le h.2.2.2.2.2.1 hc.size, h.2.2.2.2.2.2.trans hc⟩
    have HS2 : Hid (∀ V V' g, (V.cell? ⟨p, 1, none⟩ = some (.int .i64 id) ∧ V.cell? ⟨p, 2, none⟩ = some (.int .u64 (we : Int)) ∧ V.cell? ⟨p, 5, none⟩ = some (.int .i64 ph) ∧ V.cell? ⟨p, 6, none⟩ = some (.int .i64 b1) ∧ V.cell? ⟨p, 7, none⟩ = some (.int .i64 b2) ∧ p < V.heap.size ∧ Chg [] W V) → W.heap.size ≤ g → Chg [g] V V' → (V'.cell? ⟨p, 1, none⟩ = some (.int .i64 id) ∧ V'.cell? ⟨p, 2, none⟩ = some (.int .u64 (we : Int)) ∧ V'.cell? ⟨p, 5, none⟩ = some (.int .i64 ph) ∧ V'.cell? ⟨p, 6, none⟩ = some (.int .i64 b1) ∧ V'.cell? ⟨p, 7, none⟩ = some (.int .i64 b2) ∧ p < V'.heap.size ∧ Chg [] W V')) := Lib.hid fun V V' g h hg hc => by
      have hn : p ∉ [g] := by have := HO.out.lt; simp; omega
      exact ⟨hc.cell h.1 hn, hc.cell h.2.1 hn, hc.cell h.2.2.1 hn, hc.cell h.2.2.2.1 hn, hc.cell h.2.2.2.2.1 hn, Nat.lt_of_lt_of_le h.2.2.2.2.2.1 hc.size, h.2.2.2.2.2.2.then hc (fun x hx => by simp only [List.mem_singleton] at hx; subst hx; exact .inr hg)⟩
    refine wp_region_held_drew (S := (fun V : World => V.cell? ⟨p, 1, none⟩ = some (.int .i64 id) ∧ V.cell? ⟨p, 2, none⟩ = some (.int .u64 (we : Int)) ∧ V.cell? ⟨p, 5, none⟩ = some (.int .i64 ph) ∧ V.cell? ⟨p, 6, none⟩ = some (.int .i64 b1) ∧ V.cell? ⟨p, 7, none⟩ = some (.int .i64 b2) ∧ p < V.heap.size ∧ Chg [] W V)) (by kernel_rfl) (HST.out _ _ (HTR.out _ HS0.out) (Chg.refl [] W).drew) (fun hHeld => ?_)
    refine wpAnyH_take (i := 0) (v := ?_) rfl (by kernel_rfl) (by kernel_rfl) (by kernel_rfl) (fun _ _ _ h => h) (Or.inl ⟨by kernel_rfl, ?_⟩) hHeld ?_
    rotate_left
    · (intro w hSw; first | (go_simp; done) | (go_simp; with_reducible rfl))
    (try simp only [Act.put, List.getElem_toArray, List.getElem_cons_succ, List.getElem_cons_zero, List.setIfInBounds_toArray, List.set_cons_zero, List.set_cons_succ])
    refine wpAnyH_take (i := 1) (v := ?_) rfl (by kernel_rfl) (by kernel_rfl) (by kernel_rfl) (fun _ _ _ h => h) (Or.inl ⟨by kernel_rfl, ?_⟩) hHeld ?_
    rotate_left
    · (intro w hSw; first | (go_simp; done) | (go_simp; with_reducible rfl))
    (try simp only [Act.put, List.getElem_toArray, List.getElem_cons_succ, List.getElem_cons_zero, List.setIfInBounds_toArray, List.set_cons_zero, List.set_cons_succ])
    refine wpAnyH_take (i := 2) (v := ?_) rfl (by kernel_rfl) (by kernel_rfl) (by kernel_rfl) (fun _ _ _ h => h) (Or.inl ⟨by kernel_rfl, ?_⟩) hHeld ?_
    rotate_left
    · (intro w hSw; first | (go_simp; done) | (go_simp; with_reducible rfl))
    (try simp only [Act.put, List.getElem_toArray, List.getElem_cons_succ, List.getElem_cons_zero, List.setIfInBounds_toArray, List.set_cons_zero, List.set_cons_succ])
    refine wpAnyH_take (i := 3) (v := ?_) rfl (by kernel_rfl) (by kernel_rfl) (by kernel_rfl) (fun _ _ _ h => h) (Or.inl ⟨by kernel_rfl, ?_⟩) hHeld ?_
    rotate_left
    · (intro w hSw; first | (go_simp; done) | (go_simp; with_reducible rfl))
    (try simp only [Act.put, List.getElem_toArray, List.getElem_cons_succ, List.getElem_cons_zero, List.setIfInBounds_toArray, List.set_cons_zero, List.set_cons_succ])
    refine wpAnyH_take (i := 5) (v := ?_) rfl (by kernel_rfl) (by kernel_rfl) (by kernel_rfl) (fun _ _ _ h => h) (Or.inl ⟨by kernel_rfl, ?_⟩) hHeld ?_
    rotate_left
    · (intro w hSw; first | (go_simp; done) | (go_simp; with_reducible rfl))
    (try simp only [Act.put, List.getElem_toArray, List.getElem_cons_succ, List.getElem_cons_zero, List.setIfInBounds_toArray, List.set_cons_zero, List.set_cons_succ])
    refine wpAnyH_take (i := 7) (v := ?_) rfl (by kernel_rfl) (by kernel_rfl) (by kernel_rfl) (fun _ _ _ h => h) (Or.inl ⟨by kernel_rfl, ?_⟩) hHeld ?_
    rotate_left
    · (intro w hSw; first | (go_simp; done) | (go_simp; with_reducible rfl))
    (try simp only [Act.put, List.getElem_toArray, List.getElem_cons_succ, List.getElem_cons_zero, List.setIfInBounds_toArray, List.set_cons_zero, List.set_cons_succ])
    refine wpAnyH_take (i := 8) (v := ?_) rfl (by kernel_rfl) (by kernel_rfl) (by kernel_rfl) (fun _ _ _ h => h) (Or.inl ⟨by kernel_rfl, ?_⟩) hHeld ?_
    rotate_left
    · (intro w hSw; first | (go_simp; done) | (go_simp; with_reducible rfl))
    (try simp only [Act.put, List.getElem_toArray, List.getElem_cons_succ, List.getElem_cons_zero, List.setIfInBounds_toArray, List.set_cons_zero, List.set_cons_succ])
    refine wpAnyH_take (i := 9) (v := ?_) rfl (by kernel_rfl) (by kernel_rfl) (by kernel_rfl) (fun _ _ _ h => h) (Or.inl ⟨by kernel_rfl, ?_⟩) hHeld ?_
    rotate_left
    · (intro w hSw; first | (go_simp; done) | (go_simp; with_reducible rfl))
    (try simp only [Act.put, List.getElem_toArray, List.getElem_cons_succ, List.getElem_cons_zero, List.setIfInBounds_toArray, List.set_cons_zero, List.set_cons_succ])
    refine wpAnyH_take (i := 10) (v := ?_) rfl (by kernel_rfl) (by kernel_rfl) (by kernel_rfl) (fun _ _ _ h => h) (Or.inl ⟨by kernel_rfl, ?_⟩) hHeld ?_
    rotate_left
    · (intro w hSw; first | (go_simp; done) | (go_simp; with_reducible rfl))
    (try simp only [Act.put, List.getElem_toArray, List.getElem_cons_succ, List.getElem_cons_zero, List.setIfInBounds_toArray, List.set_cons_zero, List.set_cons_succ])
    refine wpAnyH_take (i := 11) (v := ?_) rfl (by kernel_rfl) (by kernel_rfl) (by kernel_rfl) (fun _ _ _ h => h) (Or.inl ⟨by kernel_rfl, ?_⟩) hHeld ?_
    rotate_left
    · (intro w hSw; first | (go_simp; done) | (go_simp; with_reducible rfl))
    (try simp only [Act.put, List.getElem_toArray, List.getElem_cons_succ, List.getElem_cons_zero, List.setIfInBounds_toArray, List.set_cons_zero, List.set_cons_succ])
    refine wpAnyH_take (i := 12) (v := ?_) rfl (by kernel_rfl) (by kernel_rfl) (by kernel_rfl) (fun _ _ _ h => h) (Or.inl ⟨by kernel_rfl, ?_⟩) hHeld ?_
    rotate_left
    · (intro w hSw; first | (go_simp; done) | (go_simp; with_reducible rfl))
    (try simp only [Act.put, List.getElem_toArray, List.getElem_cons_succ, List.getElem_cons_zero, List.setIfInBounds_toArray, List.set_cons_zero, List.set_cons_succ])
    refine wpAnyH_take (i := 13) (v := ?_) rfl (by kernel_rfl) (by kernel_rfl) (by kernel_rfl) (fun _ _ _ h => h) (Or.inl ⟨by kernel_rfl, ?_⟩) hHeld ?_
    rotate_left
    · (intro w hSw; first | (go_simp; done) | (go_simp; with_reducible rfl))
    (try simp only [Act.put, List.getElem_toArray, List.getElem_cons_succ, List.getElem_cons_zero, List.setIfInBounds_toArray, List.set_cons_zero, List.set_cons_succ])
    refine wpAnyH_take (i := 14) (v := ?_) rfl (by kernel_rfl) (by kernel_rfl) (by kernel_rfl) (fun _ _ _ h => h) (Or.inl ⟨by kernel_rfl, ?_⟩) hHeld ?_
    rotate_left
    · (intro w hSw; first | (go_simp; done) | (go_simp; with_reducible rfl))
    (try simp only [Act.put, List.getElem_toArray, List.getElem_cons_succ, List.getElem_cons_zero, List.setIfInBounds_toArray, List.set_cons_zero, List.set_cons_succ])
    refine wpAnyH_take (i := 15) (v := ?_) rfl (by kernel_rfl) (by kernel_rfl) (by kernel_rfl) (fun _ _ _ h => h) (Or.inl ⟨by kernel_rfl, ?_⟩) hHeld ?_
    rotate_left
    · (intro w hSw; first | (go_simp; done) | (go_simp; with_reducible rfl))
    (try simp only [Act.put, List.getElem_toArray, List.getElem_cons_succ, List.getElem_cons_zero, List.setIfInBounds_toArray, List.set_cons_zero, List.set_cons_succ])
    refine wpAnyH_take (i := 16) (v := ?_) rfl (by kernel_rfl) (by kernel_rfl) (by kernel_rfl) (fun _ _ _ h => h) (Or.inl ⟨by kernel_rfl, ?_⟩) hHeld ?_
    rotate_left
    · (intro w hSw; first | (go_simp; done) | (go_simp; with_reducible rfl))
    (try simp only [Act.put, List.getElem_toArray, List.getElem_cons_succ, List.getElem_cons_zero, List.setIfInBounds_toArray, List.set_cons_zero, List.set_cons_succ])
    refine wpAnyH_take (i := 17) (v := ?_) rfl (by kernel_rfl) (by kernel_rfl) (by kernel_rfl) (fun _ _ _ h => h) (Or.inl ⟨by kernel_rfl, ?_⟩) hHeld ?_
    rotate_left
    · (intro w hSw; first | (go_simp; done) | (go_simp; with_reducible rfl))
    (try simp only [Act.put, List.getElem_toArray, List.getElem_cons_succ, List.getElem_cons_zero, List.setIfInBounds_toArray, List.set_cons_zero, List.set_cons_succ])
    refine wpAnyH_take (i := 18) (v := ?_) rfl (by kernel_rfl) (by kernel_rfl) (by kernel_rfl) (fun _ _ _ h => h) (Or.inl ⟨by kernel_rfl, ?_⟩) hHeld ?_
    rotate_left
    · (intro w hSw; first | (go_simp; done) | (go_simp; with_reducible rfl))
    (try simp only [Act.put, List.getElem_toArray, List.getElem_cons_succ, List.getElem_cons_zero, List.setIfInBounds_toArray, List.set_cons_zero, List.set_cons_succ])
    refine wpAnyH_take (i := 19) (v := ?_) rfl (by kernel_rfl) (by kernel_rfl) (by kernel_rfl) (fun _ _ _ h => h) (Or.inl ⟨by kernel_rfl, ?_⟩) hHeld ?_
    rotate_left
    · (intro w hSw; first | (go_simp; done) | (go_simp; with_reducible rfl))
    (try simp only [Act.put, List.getElem_toArray, List.getElem_cons_succ, List.getElem_cons_zero, List.setIfInBounds_toArray, List.set_cons_zero, List.set_cons_succ])
    refine wpAnyH_take (i := 20) (v := ?_) rfl (by kernel_rfl) (by kernel_rfl) (by kernel_rfl) (fun _ _ _ h => h) (Or.inl ⟨by kernel_rfl, ?_⟩) hHeld ?_
    rotate_left
    · (intro w hSw; first | (go_simp; done) | (go_simp; with_reducible rfl))
    (try simp only [Act.put, List.getElem_toArray, List.getElem_cons_succ, List.getElem_cons_zero, List.setIfInBounds_toArray, List.set_cons_zero, List.set_cons_succ])
    refine wpAnyH_take (i := 21) (v := ?_) rfl (by kernel_rfl) (by kernel_rfl) (by kernel_rfl) (fun _ _ _ h => h) (Or.inl ⟨by kernel_rfl, ?_⟩) hHeld ?_
    rotate_left
    · (intro w hSw; first | (go_simp; done) | (go_simp; with_reducible rfl))
    (try simp only [Act.put, List.getElem_toArray, List.getElem_cons_succ, List.getElem_cons_zero, List.setIfInBounds_toArray, List.set_cons_zero, List.set_cons_succ])
    refine wpAnyH_ready (rs := [4,23]) (by kernel_rfl) (by simp) (AllReadyH.cons rfl (fun K hK => ?_) (AllReadyH.cons rfl (fun K hK => ?_) AllReadyH.nil))
    · have hH := hHeld
      (go_simp; go_at_call 21; refine (HKI.out _).mono ?_; rintro e wk ⟨rfl, hwk⟩; have hwk2 := hwk.symm; subst hwk2)
      refine hK.out _ _ (by exact hH) (fun hHq1 => ?_)
      clear hK K hH 
      (try simp only [Act.put, List.getElem_toArray, List.getElem_cons_succ, List.getElem_cons_zero, List.setIfInBounds_toArray, List.set_cons_zero, List.set_cons_succ])
      refine wpAnyH_ready (rs := [6,23]) (by kernel_rfl) (by simp) (AllReadyH.cons rfl (fun K hK => ?_) (AllReadyH.cons rfl (fun K hK => ?_) AllReadyH.nil))
      · have hH := hHq1
        (go_simp; go_at_call 30; refine (HPL.out _ hH.2.2.2.2.2.2).mono ?_; rintro e wp ⟨rfl, hcp⟩)
        refine hK.out _ _ (by exact HST.out _ _ hH hcp) (fun hHq2 => ?_)
        clear hK K hH hHq1
        (try simp only [Act.put, List.getElem_toArray, List.getElem_cons_succ, List.getElem_cons_zero, List.setIfInBounds_toArray, List.set_cons_zero, List.set_cons_succ])
        refine wpAnyH_take (i := 22) (v := ?_) rfl (by kernel_rfl) (by kernel_rfl) (by kernel_rfl) (fun _ _ _ h => h) (Or.inl ⟨by kernel_rfl, ?_⟩) hHq2 ?_
        rotate_left
        · (intro w hSw; first | (go_simp; done) | (go_simp; with_reducible rfl))
        (try simp only [Act.put, List.getElem_toArray, List.getElem_cons_succ, List.getElem_cons_zero, List.setIfInBounds_toArray, List.set_cons_zero, List.set_cons_succ])
        refine wpAnyH_ready (rs := [23]) (by kernel_rfl) (by simp) (AllReadyH.cons rfl (fun K hK => ?_) AllReadyH.nil)
        have hH := hHq2
        (go_simp; (have HG := Lib.hid (Chg.own_new hH.2.2.2.2.2.2 40 zmT.cs)))
        refine hK.out _ _ (by exact HST.out _ _ hH ((Chg.refl [] _).alloc _)) (fun hHq3 => ?_)
        clear hK K hH hHq2
        (try simp only [Act.put, List.getElem_toArray, List.getElem_cons_succ, List.getElem_cons_zero, List.setIfInBounds_toArray, List.set_cons_zero, List.set_cons_succ])
        refine wpAnyH_ready (rs := [24]) (by kernel_rfl) (by simp) (AllReadyH.cons rfl (fun K hK => ?_) AllReadyH.nil)
        have hH := hHq3
        (refine step_storeMg (by rfl) (.tmp 5) (.tmp 28) (by rfl) _ (by rfl) (queT k cl id we (b1, b2) s zLyT) (by rfl) zmT.cs (by first | exact HG.out.2 | exact HG.out.2.chg hcp (by simp)) rfl ?_; intro w5 ho5 hc5)
        refine hK.out _ _ (by exact HS2.out _ _ _ hH HG.out.1 hc5) (fun hHq4 => ?_)
        clear hK K hH hHq3
        (try simp only [Act.put, List.getElem_toArray, List.getElem_cons_succ, List.getElem_cons_zero, List.setIfInBounds_toArray, List.set_cons_zero, List.set_cons_succ])
        refine wpAnyH_done (by kernel_rfl) ?_ _
        have hEnd := hHq4
        (go_wp2_with fail; go_meet; (case rel => exact ⟨_, rfl, HG.out.1, ho5, hEnd.2.2.2.2.2.2⟩))
      · have hH := hHq1
        (go_simp; (have HG := Lib.hid (Chg.own_new hH.2.2.2.2.2.2 40 zmT.cs)))
        refine hK.out _ _ (by exact HST.out _ _ hH ((Chg.refl [] _).alloc _)) (fun hHq5 => ?_)
        clear hK K hH hHq1
        (try simp only [Act.put, List.getElem_toArray, List.getElem_cons_succ, List.getElem_cons_zero, List.setIfInBounds_toArray, List.set_cons_zero, List.set_cons_succ])
        refine wpAnyH_ready (rs := [6]) (by kernel_rfl) (by simp) (AllReadyH.cons rfl (fun K hK => ?_) AllReadyH.nil)
        have hH := hHq5
        (go_simp; go_at_call 30; refine (HPL.out _ hH.2.2.2.2.2.2).mono ?_; rintro e wp ⟨rfl, hcp⟩)
        refine hK.out _ _ (by exact HST.out _ _ hH hcp) (fun hHq6 => ?_)
        clear hK K hH hHq5
        (try simp only [Act.put, List.getElem_toArray, List.getElem_cons_succ, List.getElem_cons_zero, List.setIfInBounds_toArray, List.set_cons_zero, List.set_cons_succ])
        refine wpAnyH_take (i := 22) (v := ?_) rfl (by kernel_rfl) (by kernel_rfl) (by kernel_rfl) (fun _ _ _ h => h) (Or.inl ⟨by kernel_rfl, ?_⟩) hHq6 ?_
        rotate_left
        · (intro w hSw; first | (go_simp; done) | (go_simp; with_reducible rfl))
        (try simp only [Act.put, List.getElem_toArray, List.getElem_cons_succ, List.getElem_cons_zero, List.setIfInBounds_toArray, List.set_cons_zero, List.set_cons_succ])
        refine wpAnyH_ready (rs := [24]) (by kernel_rfl) (by simp) (AllReadyH.cons rfl (fun K hK => ?_) AllReadyH.nil)
        have hH := hHq6
        (refine step_storeMg (by rfl) (.tmp 5) (.tmp 28) (by rfl) _ (by rfl) (queT k cl id we (b1, b2) s zLyT) (by rfl) zmT.cs (by first | exact HG.out.2 | exact HG.out.2.chg hcp (by simp)) rfl ?_; intro w5 ho5 hc5)
        refine hK.out _ _ (by exact HS2.out _ _ _ hH HG.out.1 hc5) (fun hHq7 => ?_)
        clear hK K hH hHq6
        (try simp only [Act.put, List.getElem_toArray, List.getElem_cons_succ, List.getElem_cons_zero, List.setIfInBounds_toArray, List.set_cons_zero, List.set_cons_succ])
        refine wpAnyH_done (by kernel_rfl) ?_ _
        have hEnd := hHq7
        (go_wp2_with fail; go_meet; (case rel => exact ⟨_, rfl, HG.out.1, ho5, hEnd.2.2.2.2.2.2⟩))
    · have hH := hHeld
      (go_simp; (have HG := Lib.hid (Chg.own_new hH.2.2.2.2.2.2 40 zmT.cs)))
      refine hK.out _ _ (by exact HST.out _ _ hH ((Chg.refl [] _).alloc _)) (fun hHq8 => ?_)
      clear hK K hH 
      (try simp only [Act.put, List.getElem_toArray, List.getElem_cons_succ, List.getElem_cons_zero, List.setIfInBounds_toArray, List.set_cons_zero, List.set_cons_succ])
      refine wpAnyH_ready (rs := [4]) (by kernel_rfl) (by simp) (AllReadyH.cons rfl (fun K hK => ?_) AllReadyH.nil)
      have hH := hHq8
      (go_simp; go_at_call 21; refine (HKI.out _).mono ?_; rintro e wk ⟨rfl, hwk⟩; have hwk2 := hwk.symm; subst hwk2)
      refine hK.out _ _ (by exact hH) (fun hHq9 => ?_)
      clear hK K hH hHq8
      (try simp only [Act.put, List.getElem_toArray, List.getElem_cons_succ, List.getElem_cons_zero, List.setIfInBounds_toArray, List.set_cons_zero, List.set_cons_succ])
      refine wpAnyH_ready (rs := [6]) (by kernel_rfl) (by simp) (AllReadyH.cons rfl (fun K hK => ?_) AllReadyH.nil)
      have hH := hHq9
      (go_simp; go_at_call 30; refine (HPL.out _ hH.2.2.2.2.2.2).mono ?_; rintro e wp ⟨rfl, hcp⟩)
      refine hK.out _ _ (by exact HST.out _ _ hH hcp) (fun hHq10 => ?_)
      clear hK K hH hHq9
      (try simp only [Act.put, List.getElem_toArray, List.getElem_cons_succ, List.getElem_cons_zero, List.setIfInBounds_toArray, List.set_cons_zero, List.set_cons_succ])
      refine wpAnyH_take (i := 22) (v := ?_) rfl (by kernel_rfl) (by kernel_rfl) (by kernel_rfl) (fun _ _ _ h => h) (Or.inl ⟨by kernel_rfl, ?_⟩) hHq10 ?_
      rotate_left
      · (intro w hSw; first | (go_simp; done) | (go_simp; with_reducible rfl))
      (try simp only [Act.put, List.getElem_toArray, List.getElem_cons_succ, List.getElem_cons_zero, List.setIfInBounds_toArray, List.set_cons_zero, List.set_cons_succ])
      refine wpAnyH_ready (rs := [24]) (by kernel_rfl) (by simp) (AllReadyH.cons rfl (fun K hK => ?_) AllReadyH.nil)
      have hH := hHq10
      (refine step_storeMg (by rfl) (.tmp 5) (.tmp 28) (by rfl) _ (by rfl) (queT k cl id we (b1, b2) s zLyT) (by rfl) zmT.cs (by first | exact HG.out.2 | exact HG.out.2.chg hcp (by simp)) rfl ?_; intro w5 ho5 hc5)
      refine hK.out _ _ (by exact HS2.out _ _ _ hH HG.out.1 hc5) (fun hHq11 => ?_)
      clear hK K hH hHq10
      (try simp only [Act.put, List.getElem_toArray, List.getElem_cons_succ, List.getElem_cons_zero, List.setIfInBounds_toArray, List.set_cons_zero, List.set_cons_succ])
      refine wpAnyH_done (by kernel_rfl) ?_ _
      have hEnd := hHq11
      (go_wp2_with fail; go_meet; (case rel => exact ⟨_, rfl, HG.out.1, ho5, hEnd.2.2.2.2.2.2⟩))
  case rest =>
    rename World => wx
    obtain ⟨g, rfl, hg, hog, hcx⟩ := hcut
    have HG := Lib.hid (And.intro hg (And.intro hog hcx))
    have HRX := Lib.hid (HR.out.1.chg hcx (by simp))
    have HOX := Lib.hid (HO.out.chg hcx (by simp))
    have HNE : Hid (w.heap.size ∉ [g] ∧ p ∉ [g]) := Lib.hid (by have h9 := HR.out.2; have h8 := HLT.out; constructor <;> (simp; omega))
    have c5 := HOX.out.cell 5
    have cz := HOX.out.lt
    simp [PrT.cs, prcs] at c5
    have HCW := Lib.hid (HC.out.trans hcx)
    clear hg hog hcx
    by_cases h2 : ph = 2
    · subst h2
      have c14 := HOX.out.cell 14
      have c15 := HOX.out.cell 15
      have c16 := HOX.out.cell 16
      simp [PrT.cs, prcs] at c14 c15 c16
      rw [hn.out] at c15
      have HCX := Lib.hid (HCP.out wx HG.out.2.2)
      have gz := HG.out.2.1.lt
      go_upto_region 4 with (first
        | (go_at_call 16; refine HCX.out.mono ?_; rintro e w6 ⟨⟨ye, ya, yc, ys, yq⟩, rfl, hx6, hl6, hs6, hc6⟩
           obtain ⟨m, hm⟩ : ∃ m, Hid (ys.length = m) := ⟨_, Lib.hid rfl⟩
           simp only [hm.out]
           have H6 := Lib.hid (And.intro hx6 (And.intro hl6 (And.intro hs6 hc6)))
           have HG6 := Lib.hid (HG.out.2.1.chg hc6 (by simp))
           have d19 := HG6.out.cell 19
           have d20 := HG6.out.cell 20
           have d21 := HG6.out.cell 21
           have e19 := HG6.out.frozen 19
           have e20 := HG6.out.frozen 20
           have e21 := HG6.out.frozen 21
           simp [MgT.cs, queT] at d19 d20 d21
           have gz6 := HG6.out.lt
           clear hx6 hl6 hs6 hc6)
        | fail)
      have HG7 := Lib.hid (own_layout_put (y' := ⟨ye, ya, yc, ys, yq⟩) HG6.out m hm.out)
      have hc7 : Chg [g] w6 (((w6.setCell ⟨g, 19, none⟩ (.int .u64 (ye : Int))).setCell ⟨g, 20, none⟩ (.slice ya m yc)).setCell ⟨g, 21, none⟩ (.int .i64 yq)) := (((Chg.refl [g] w6).setCell (.inl (by simp)) _).setCell (.inl (by simp)) _).setCell (.inl (by simp)) _
      have HC7 := Lib.hid hc7
      have HR7 := Lib.hid ((HRX.out.chg H6.out.2.2.2 (by simp)).chg hc7 HNE.out.1)
      have HG8 : Hid (g ≠ w.heap.size ∧ w.heap.size ≤ g) := Lib.hid (by have h9 := HR.out.2; have h8 := HG.out.1; omega)
      clear d19 d20 d21 e19 e20 e21 gz6 hc7 c5 c14 c15 c16 gz cz
      simp only at HG7 HC7 HR7
      generalize ((w6.setCell ⟨g, 19, none⟩ (.int .u64 (ye : Int))).setCell ⟨g, 20, none⟩ (.slice ya m yc)).setCell ⟨g, 21, none⟩ (.int .i64 yq) = w7 at HG7 HC7 HR7 ⊢
      go_wp2_with (first
        | (refine wpList_loadMg rfl (.tmp 5) rfl g rfl (queT k cl id we (b1, b2) s ⟨ye, ya, yc, ys, yq⟩) HG7.out ?_)
        | (refine wpList_storeMg rfl (.tmp 4) (.tmp 40) rfl w.heap.size rfl (queT k cl id we (b1, b2) s ⟨ye, ya, yc, ys, yq⟩) rfl zmT.cs HR7.out rfl ?_; intro w8 ho8 hc8)
        | fail)
      refine bodyPost_ret (results_cell_row Try.results28 _ _ w.heap.size 40 _ (0, 0) _ rfl ho8 Try.underlying40 rfl (by kernel_rfl)) rfl ?_
      have hc68 : Chg [] w wx := HC.out.trans HG.out.2.2
      refine ⟨⟨ye, ya, yc, ys, yq⟩, by rw [hk.out], by first | exact H6.out.1 | (rw [if_pos rfl]; exact H6.out.1), ((H6.out.2.1.mono (P' := fun x => wx.heap.size ≤ x) (fun x _ hx => hx)).chg HC7.out (fun x hx => ?_)).chg hc8 (fun x hx => ?_) |>.mono (fun x _ hx => Nat.le_trans hc68.size hx), H6.out.2.2.1, ?_⟩
      · have h1 := HG.out.2.1.lt; simp; omega
      · have h1 := hc68.size; have h2 := HRX.out.lt; simp; omega
      · exact ((hc68.trans H6.out.2.2.2).then HC7.out (fun x hx => by simp only [List.mem_singleton] at hx; subst hx; exact .inr HG8.out.2)).then hc8 (fun x hx => by simp only [List.mem_singleton] at hx; subst hx; exact .inr (Nat.le_refl _))
    · have hb2 : (ph == 2) = false := by simpa using h2
      have HG8 : Hid (g ≠ w.heap.size ∧ w.heap.size ≤ g) := Lib.hid (by have h9 := HR.out.2; have h8 := HG.out.1; omega)
      go_upto_region 4 with fail
      clear c5 cz
      go_wp2_with (first
        | (refine wpList_loadMg rfl (.tmp 5) rfl g rfl (queT k cl id we (b1, b2) s zLyT) HG.out.2.1 ?_)
        | (refine wpList_storeMg rfl (.tmp 4) (.tmp 40) rfl w.heap.size rfl (queT k cl id we (b1, b2) s zLyT) rfl zmT.cs HRX.out rfl ?_; intro w8 ho8 hc8)
        | fail)
      refine bodyPost_ret (results_cell_row Try.results28 _ _ w.heap.size 40 _ (0, 0) _ rfl ho8 Try.underlying40 rfl (by kernel_rfl)) rfl ?_
      exact ⟨zLyT, by rw [hk.out], by first | rfl | rw [if_neg h2], zLyT_p _ _, zLyT_s, (HC.out.trans HG.out.2.2).then hc8 (fun x hx => by simp only [List.mem_singleton] at hx; subst hx; exact .inr (Nat.le_refl _))⟩
end Go.Proofs.Ytcadnlilijkneaa
namespace Go.Proofs.Ytcadnlilijkneaa
open Go.RowKit Go.Maps Go.Shelf Go.Deep
set_option linter.unusedVariables false
set_option linter.unusedSimpArgs false

/-- '[]Message{m}', at a step of a region that draws its order -/
theorem step_sliceMg {ops : Array Oper} {o : Oper} {a : Act} {w : World} {K : Act → World → Prop} {Q : Exit → Act → World → Prop} {E : Prop} (hgd : o.guard = none) (x : Operand) (ho : o.op = .buildSlice 47 1 #[(0, x)]) (T : MgT) (hx : a.eval x = .agg T.cs.toArray)
    (h : K (a.put o.dst (.slice (some ⟨w.heap.size, 0, none⟩) 1 1)) (w.alloc (.cells T.cs.toArray 40))) : if Region.wanted o (yielded ops a.tmps) = true then Oper.wp Try.prog o a w K Q else E := by
  have hw : Region.wanted o (yielded ops a.tmps) = true := by simp [Region.wanted, hgd]
  rw [if_pos hw]
  obtain ⟨i, hi, hz⟩ := Option.map_eq_some_iff.1 Try.info_msg
  simp only [Prod.mk.injEq] at hz
  refine wp_buildSlice _ _ 1 _ ho T.cs.toArray i (.agg zmT.cs.toArray) Try.underlying47 hi hz.1 (by rw [hz.2.1]; omega) (by rw [hz.2.1]; omega) ?_ h
  rw [hz.2.1]
  have : (#[(0, x)].map fun (i, x) => (i, a.eval x)).toList = (([.agg T.cs.toArray] : List Value).zipIdx 0).map fun x => (x.2, x.1) := by simp [hx]
  rw [this]
  have := Great.fill_whole (s := 22) (by omega) [.agg T.cs.toArray] ((Array.range (1 * 22)).map ((Value.agg zmT.cs.toArray).cells[· % (Value.agg zmT.cs.toArray).cells.size]!)) (fun v hv => by rw [List.mem_singleton.1 hv]; rfl) (by simp)
  rw [this]
  simp [Value.cells]
/-- append of one message, at a step of a region that draws its order -/
theorem step_appMg {ops : Array Oper} {o : Oper} {a : Act} {w : World} {K : Act → World → Prop} {Q : Exit → Act → World → Prop} {E : Prop} (hgd : o.guard = none) (s x : Operand)
    (ho : o.op = .call { callee := .builtin .append, args := #[s, x], argTypes := #[47, 47] })
    (P : Nat → Prop) (v : Value) (L : List MgT) (hs : a.eval s = v) (hown : MLs w P v L) (hP : ∀ x, P x → x ∉ rowOf v) (g : Nat) (T : MgT) (hT : MgP w P T) (hf : MgFit T) (t : TypeId) (hnew : Own w g t T.cs)
    (hx : a.eval x = .slice (some ⟨g, 0, none⟩) 1 1) (hlen : L.length ≤ 1000000)
    (h : ∀ g' cap w', Hid (MLs w' (fun x => P x ∧ x < w.heap.size) (.slice (some ⟨g', 0, none⟩) (L.length + 1) cap) (L ++ [T])) → (v.ownBlock = some g' ∨ g' = w.heap.size) → Chg (rowOf v) w w' → K (a.put o.dst (.slice (some ⟨g', 0, none⟩) (L.length + 1) cap)) w') : if Region.wanted o (yielded ops a.tmps) = true then Oper.wp Try.prog o a w K Q else E := by
  have hw : Region.wanted o (yielded ops a.tmps) = true := by simp [Region.wanted, hgd]
  rw [if_pos hw]
  obtain ⟨i, hi, hzz⟩ := Option.map_eq_some_iff.1 Try.info_msg
  simp only [Prod.mk.injEq] at hzz
  obtain ⟨hz, hsz, hby⟩ := hzz
  refine wp_append_lies w s x 47 ho 0 40 i _ 22 256 Try.underlying47 hi hz hsz hby rfl (by omega) v L.length (mgv L) hs hown.row ⟨g, 0, none⟩ 1 1 T.cs hx rfl (fun j u hu => ?_) T.one (by omega) (by unfold maxLen; omega) (by omega) (Nat.zero_le _) _ rfl fun g' cap w' h2 h3 h4 h5 => ?_
  · rw [add_off, Nat.zero_add, hnew.cell j]; exact hu
  · obtain ⟨k1, k2⟩ := hown.more (M := [T]) (fun U hU => by rw [List.mem_singleton.1 hU]; exact ⟨hT, hf⟩) hP (by rw [mgv_one]; exact h2) h3
    exact h g' cap w' (Lib.hid k1) h4 k2
theorem queT_fit (k cl id : Int) (ep : Nat) (ba : Int × Int) (s : Int) (y : LyT) (h : LyS y) : MgFit (queT k cl id ep ba s y) := ⟨by simp [queT, noC], by simp [queT, noC], by simp [queT], by simp [queT], h.fit, (fun s hs => by cases hs), (fun s hs => by cases hs)⟩
theorem queT_p {w : World} {P : Nat → Prop} (k cl id : Int) (ep : Nat) (ba : Int × Int) (s : Int) {y : LyT} (h : LyP w P y) : MgP w P (queT k cl id ep ba s y) := ⟨.inl rfl, .inl rfl, .inl rfl, .inl rfl, h⟩
/-- a proposer in block p: its votes are V, its messages L; what does not turn has the property P -/
structure Prs (w : World) (P : Nat → Prop) (p : Nat) (T : PrT) (V : Nat → Option Value) (L : List MgT) : Prop where
  own : Own w p 58 T.cs
  wi : LyP w P T.wi
  wis : LyS T.wi
  ly : LyP w P T.ly
  lys : LyS T.ly
  vo : ∀ b, T.vb = some b → MapI w b V
  out : MLs w P T.ov L
  ne : p ∉ T.vb.toList ++ rowOf T.ov ∧ ∀ b ∈ T.vb.toList, b ∉ rowOf T.ov
  px : ∀ x, P x → x ∉ prM p T
/-- what does not turn, while questions are laid out -/
def PP (w : World) (P : Nat → Prop) (p bm : Nat) (v : Value) (x : Nat) : Prop := ((P x ∧ x < w.heap.size) ∨ w.heap.size ≤ x) ∧ x ∉ p :: bm :: rowOf v
/-- the first k questions -/
def Ques (T : PrT) (k : Nat) (Q : List MgT) : Prop := Q.length = k ∧ ∀ i, i < k → ∃ y : LyT, Q[i]? = some (queT (kd T.ph) T.cl T.id T.wi.e T.ba (i : Int) y) ∧ y.x = (if T.ph = 2 then T.ly.x else zLyT.x) ∧ LyS y
theorem Ques.nil (T : PrT) : Ques T 0 [] := ⟨rfl, fun i hi => by omega⟩
theorem Ques.snoc {T : PrT} {k : Nat} {Q : List MgT} (h : Ques T k Q) (y : LyT) (hy : y.x = (if T.ph = 2 then T.ly.x else zLyT.x)) (hs : LyS y) : Ques T (k + 1) (Q ++ [queT (kd T.ph) T.cl T.id T.wi.e T.ba (k : Int) y]) := by
  refine ⟨by simp [h.1], fun i hi => ?_⟩
  by_cases e : i = k
  · subst e
    refine ⟨y, ?_, hy, hs⟩
    rw [List.getElem?_append_right (by rw [h.1]; exact Nat.le_refl _), h.1]
    simp
  · obtain ⟨y', h1, h2⟩ := h.2 i (by omega)
    exact ⟨y', by rw [List.getElem?_append_left (by rw [h.1]; omega)]; exact h1, h2⟩
def PrT.wo (T : PrT) (v : Value) : PrT := ⟨T.cl, T.id, T.wi, T.ph, T.ba, T.he, T.vb, T.ti, T.fo, T.ly, v⟩
/-- behind k questions -/
structure EnI (w : World) (P : Nat → Prop) (M0 : List Nat) (ov0 : Value) (p bm : Nat) (T : PrT) (L : List MgT) (k : Nat) (v : Value) (Q : List MgT) (W : World) : Prop where
  own : Own W p 58 (T.wo v).cs
  out : MLs W (PP w P p bm v) v (L ++ Q)
  wi : LyP W (PP w P p bm v) T.wi
  ly : LyP W (PP w P p bm v) T.ly
  mp : MapI W bm (fun _ => none)
  ne : p ≠ bm ∧ p ∉ rowOf v ∧ bm ∉ rowOf v
  bml : w.heap.size ≤ bm
  rw : ∀ x ∈ rowOf v, x ∈ rowOf ov0 ∨ w.heap.size ≤ x
  q : Ques T k Q
  chg : Chg M0 w W
theorem PP.of {w : World} {P : Nat → Prop} {p bm : Nat} {v v' : Value} {x : Nat} (h : PP w P p bm v x) (hx : x ∉ rowOf v') : PP w P p bm v' x := by
  refine ⟨h.1, fun hm => ?_⟩
  have := h.2
  simp only [List.mem_cons, not_or] at hm this
  rcases hm with hm | hm | hm
  · exact this.1 hm
  · exact this.2.1 hm
  · exact hx hm
theorem EnI.step {w : World} {P : Nat → Prop} {M0 : List Nat} {ov0 : Value} {p bm : Nat} {T : PrT} {L : List MgT} {k : Nat} {v : Value} {Q : List MgT} {W W1 W3 : World} (I : EnI w P M0 ov0 p bm T L k v Q W) (hM : p ∈ M0 ∧ ∀ x ∈ rowOf ov0, x ∈ M0) {y : LyT} (h1 : Chg [] W W1) (hy : y.x = (if T.ph = 2 then T.ly.x else zLyT.x)) (hs : LyS y) {g cap : Nat}
    (h3 : MLs W3 (fun x => PP w P p bm v x ∧ x < (W1.alloc (.cells (queT (kd T.ph) T.cl T.id T.wi.e T.ba (k : Int) y).cs.toArray 40)).heap.size) (.slice (some ⟨g, 0, none⟩) ((L ++ Q).length + 1) cap) (L ++ Q ++ [queT (kd T.ph) T.cl T.id T.wi.e T.ba (k : Int) y]))
    (hg : v.ownBlock = some g ∨ g = (W1.alloc (.cells (queT (kd T.ph) T.cl T.id T.wi.e T.ba (k : Int) y).cs.toArray 40)).heap.size) (hc3 : Chg (rowOf v) (W1.alloc (.cells (queT (kd T.ph) T.cl T.id T.wi.e T.ba (k : Int) y).cs.toArray 40)) W3) :
    EnI w P M0 ov0 p bm T L (k + 1) (.slice (some ⟨g, 0, none⟩) ((L ++ Q).length + 1) cap) (Q ++ [queT (kd T.ph) T.cl T.id T.wi.e T.ba (k : Int) y]) (W3.setCell ⟨p, 17, none⟩ (.slice (some ⟨g, 0, none⟩) ((L ++ Q).length + 1) cap)) := by
  generalize hW2 : W1.alloc (.cells (queT (kd T.ph) T.cl T.id T.wi.e T.ba (k : Int) y).cs.toArray 40) = W2 at *
  generalize hv : Value.slice (some ⟨g, 0, none⟩) ((L ++ Q).length + 1) cap = v' at *
  have hro : rowOf v' = [g] := by rw [← hv]; rfl
  have c12 : Chg [] W W2 := by rw [← hW2]; exact h1.alloc _
  have c13 : Chg (rowOf v) W W3 := (c12.mono (fun x hx => by cases hx)).trans hc3
  have hpW : p < W.heap.size := I.own.lt
  have hbW : bm < W.heap.size := I.mp.lt
  have hgr : ∀ x, x ≠ g → x ∉ rowOf v' := fun x hx => by rw [hro]; simpa using hx
  have hgp : p ≠ g := by
    rcases hg with hg | hg
    · exact fun e => I.ne.2.1 (by rw [e]; simp [rowOf, hg])
    · have := c12.size; omega
  have hgb : bm ≠ g := by
    rcases hg with hg | hg
    · exact fun e => I.ne.2.2 (by rw [e]; simp [rowOf, hg])
    · have := c12.size; omega
  have hPP : ∀ x, PP w P p bm v x → x < W2.heap.size → PP w P p bm v' x := fun x hx hl => hx.of (by
    apply hgr
    intro e
    subst e
    rcases hg with hg | hg
    · have := hx.2; simp [rowOf, hg] at this
    · omega)
  have hset : Chg [p] W3 (W3.setCell ⟨p, 17, none⟩ v') := (Chg.refl [p] W3).setCell (.inl (by simp)) _
  have hPs : ∀ x, PP w P p bm v x → x ∉ rowOf v := fun x hx hm => hx.2 (by simp [hm])
  have hPp : ∀ x, PP w P p bm v' x → x ∉ [p] := fun x hx hm => hx.2 (by simp only [List.mem_singleton] at hm; simp [hm])
  have kl : ∀ {A : LyT}, LyP W (PP w P p bm v) A → LyP (W3.setCell ⟨p, 17, none⟩ v') (PP w P p bm v') A := fun {A} h => ((h.step c13 hPs).mono (fun x _ hx => hPP x hx.1 (Nat.lt_of_lt_of_le hx.2 c12.size))).chg hset hPp
  refine ⟨?_, ?_, kl I.wi, kl I.ly, (I.mp.chg c13 I.ne.2.2).chg hset (by simpa using fun e => I.ne.1 e.symm), ⟨I.ne.1, hgr p hgp, hgr bm hgb⟩, I.bml, fun x hx => ?_, I.q.snoc y hy hs, ?_⟩
  · have := (I.own.chg c13 I.ne.2.1).set 17 v'
    exact this
  · rw [← List.append_assoc]
    refine (h3.mono (fun x _ hx => hPP x hx.1 hx.2)).chg hset hPp (fun x hx hm => ?_)
    rw [hro] at hx
    simp only [List.mem_singleton] at hx hm
    omega
  · rw [hro] at hx
    simp only [List.mem_singleton] at hx
    subst hx
    rcases hg with hg | hg
    · exact I.rw x (by simp [rowOf, hg])
    · have := c12.size; have := I.chg.size; exact .inr (by omega)
  · refine ((I.chg.then c13 (fun x hx => ?_)).then hset (fun x hx => by simp only [List.mem_singleton] at hx; subst hx; exact .inl hM.1))
    rcases I.rw x hx with h | h
    · exact .inl (hM.2 x h)
    · exact .inr h
end Go.Proofs.Ytcadnlilijkneaa
