/-
  A layout in memory of its own, whatever it is (none, or small): copies.Layout. No claim of its own.
-/
import Derived.Test.YtcadnlilijkneaaGreatGb19
import Derived.Test.YtcadnlilijkneaaGreatGb31
import Derived.Deep.RegionHeld3
namespace Go.Proofs.YtcadnlilijkneaaGreat
open Go.RowKit Go.Maps Go.Shelf Go.Deep
set_option linter.unusedVariables false
set_option linter.unusedSimpArgs false

theorem LySm.congr {A A' : LyT} (h : LySm A) (hx : A'.x = A.x) : LySm A' := by
  have e1 : sgx A'.sg = sgx A.sg := congrArg Ly.s hx
  have e2 : A'.sg.length = A.sg.length := by have := congrArg List.length e1; simpa using this
  have e3 : ∀ k, chx (st A'.sg k).ch = chx (st A.sg k).ch := fun k => by
    have := congrArg (fun l => (sx l k).2) e1
    simp only [sx_sgx] at this
    exact this
  refine ⟨by rw [e2]; exact h.n, fun k hk => ?_⟩
  have hk' : k < A.sg.length := by rw [← e2]; exact hk
  have h1 := h.s k hk'
  have e4 : (st A'.sg k).ch.length = (st A.sg k).ch.length := by have := congrArg List.length (e3 k); simpa using this
  refine ⟨by rw [e4]; exact h1.1, fun T hT => ?_⟩
  have : T.u ∈ chx (st A'.sg k).ch := List.mem_map_of_mem hT
  rw [e3 k] at this
  obtain ⟨T2, hT2, e5⟩ := List.mem_map.1 this
  rw [← e5]
  exact h1.2 T2 hT2
theorem LySm.fit {A : LyT} (h : LySm A) : SgFit A.sg := by
  refine ⟨by have := h.n.2; omega, fun s hs => ?_⟩
  obtain ⟨k, hk, rfl⟩ := List.getElem_of_mem hs
  have h1 := h.s k hk
  have e : st A.sg k = A.sg[k] := by simp [st, List.getD, hk]
  rw [e] at h1
  exact ⟨by have := h1.1.2; omega, fun c hc => by have := (h1.2 c hc).2; omega⟩
theorem LyS.fit {A : LyT} (h : LyS A) : SgFit A.sg := by
  rcases h with ⟨h, _, _⟩ | h
  · rw [h]; exact ⟨by simp, fun s hs => by cases hs⟩
  · exact h.fit
theorem LyP.nil (w : World) (P : Nat → Prop) {A : LyT} (h : A.sg = []) : LyP w P A := by
  refine ⟨.inl (by rw [h]; rfl), fun s hs => by rw [h] at hs; cases hs⟩
set_option maxHeartbeats 1000000 in
theorem copyA_nil (e : Nat) (q : Int) (w : World) :
    Calls Tryz.prog 59 #[.agg #[.int .u64 (e : Int), .slice none 0 0, .int .i64 q]] w fun r w' => r = .returned (.agg #[.int .u64 (e : Int), .slice none 0 0, .int .i64 q]) ∧ Chg [] w w' := by
  obtain ⟨W, HW⟩ : ∃ W, Hid ((w.alloc (.cells #[.int .u64 (e : Int), .slice none 0 0, .int .i64 q] 26)).alloc (.cells #[.int .u64 0, .slice none 0 0, .int .i64 0] 26) = W) := ⟨_, Lib.hid rfl⟩
  have hb : Below w.heap.size w W := by rw [← HW.out]; exact (((Chg.refl [] w).alloc _).alloc _).low
  have ho0 : Own W w.heap.size 26 [.int .u64 (e : Int), .slice none 0 0, .int .i64 q] := by rw [← HW.out]; exact (Own.new w _ _).alloc _
  have ho1 : Own W (w.heap.size + 1) 26 [.int .u64 0, .slice none 0 0, .int .i64 0] := by
    rw [← HW.out]
    have := Own.new (w.alloc (.cells #[.int .u64 (e : Int), .slice none 0 0, .int .i64 q] 26)) 26 [.int .u64 0, .slice none 0 0, .int .i64 0]
    simpa using this
  have HCN := Lib.hid (AnyE.slices_Clone_nil (P := Tryz.prog) cloneS 0 0 W)
  have c0 := ho0.cell 0
  have c1 := ho0.cell 1
  have c2 := ho0.cell 2
  have f1 := ho0.frozen 1
  simp at c0 c1 c2
  have HO := Lib.hid (And.intro ho0 (And.intro ho1 hb))
  have H3 : Hid (Own (W.setCell ⟨w.heap.size, 1, none⟩ (.slice none 0 0)) w.heap.size 26 [.int .u64 (e : Int), .slice none 0 0, .int .i64 q]) := Lib.hid (by simpa using ho0.set 1 _)
  have H4 : Hid (Own (W.setCell ⟨w.heap.size, 1, none⟩ (.slice none 0 0)) (w.heap.size + 1) 26 [.int .u64 0, .slice none 0 0, .int .i64 0]) := Lib.hid (ho1.far (by simp) _)
  have H5 : Hid (Chg [] w (W.setCell ⟨w.heap.size, 1, none⟩ (.slice none 0 0))) := Lib.hid (low_chg (hb.setCell (Nat.le_refl _) _))
  clear hb ho0 ho1
  go_enter Tryz.func59, Tryz.ntmps59
  go_upto_region 1 with fail
  rw [HW.out]
  go_upto_region 2 with (first | (go_at_call 102; refine HCN.out.mono ?_; rintro r w1 ⟨rfl, hw⟩; have hw2 := hw.symm; subst hw2) | fail)
  generalize W.setCell ⟨w.heap.size, 1, none⟩ (.slice none 0 0) = w3 at *
  clear c0 c1 c2 f1
  have c0 := H3.out.cell 0
  have c1 := H3.out.cell 1
  have c2 := H3.out.cell 2
  have d0 := H4.out.cell 0
  have d1 := H4.out.cell 1
  have d2 := H4.out.cell 2
  have f0 := H4.out.frozen 0
  have f1 := H4.out.frozen 1
  have f2 := H4.out.frozen 2
  simp at c0 c1 c2 d0 d1 d2
  go_wp2_with fail
  go_loopw [15] (fun i wr => i = .int .i64 0 ∧ wr = w3) (fun _ _ => 0)
  case atStart => exact ⟨rfl, rfl⟩
  case round =>
    obtain ⟨rfl, rfl⟩ := hrel
    rename World => wr
    have HR : Hid (Own (((wr.setCell ⟨w.heap.size + 1, 0, none⟩ (.int .u64 (e : Int))).setCell ⟨w.heap.size + 1, 1, none⟩ (.slice none 0 0)).setCell ⟨w.heap.size + 1, 2, none⟩ (.int .i64 q)) (w.heap.size + 1) 26 [.int .u64 (e : Int), .slice none 0 0, .int .i64 q]) := Lib.hid (by
      have h9 := ((H4.out.set 0 (.int .u64 (e : Int))).set 1 (.slice none 0 0)).set 2 (.int .i64 q)
      simpa using h9)
    have HCH : Hid (Chg [] w (((wr.setCell ⟨w.heap.size + 1, 0, none⟩ (.int .u64 (e : Int))).setCell ⟨w.heap.size + 1, 1, none⟩ (.slice none 0 0)).setCell ⟨w.heap.size + 1, 2, none⟩ (.int .i64 q))) := Lib.hid (((H5.out.setCell (by simp) _).setCell (by simp) _).setCell (by simp) _)
    go_wp2_with fail
    generalize ((wr.setCell ⟨w.heap.size + 1, 0, none⟩ (.int .u64 (e : Int))).setCell ⟨w.heap.size + 1, 1, none⟩ (.slice none 0 0)).setCell ⟨w.heap.size + 1, 2, none⟩ (.int .i64 q) = wz at *
    refine bodyPost_ret (results_cell_row Tryz.results59 _ _ (w.heap.size + 1) 26 _ (0, 0) _ rfl HR.out Tryz.underlying26 rfl (by kernel_rfl)) rfl ?_
    exact ⟨rfl, HCH.out⟩
theorem copyA_any (A : LyT) (P : Nat → Prop) (w : World) (h : LyP w P A) (hs : LyS A) :
    Calls Tryz.prog 59 #[A.val] w fun e w' => ∃ A' : LyT, e = .returned A'.val ∧ A'.x = A.x ∧ LyP w' (fun x => w.heap.size ≤ x) A' ∧ LyS A' ∧ Chg [] w w' := by
  rcases hs with ⟨h1, h2, h3⟩ | hs
  · obtain ⟨e, a, c, L, q⟩ := A
    simp only at h1 h2 h3
    subst h1 h2 h3
    exact (copyA_nil e q w).mono fun r w' ⟨h1, h2⟩ => ⟨⟨e, none, 0, [], q⟩, h1, rfl, LyP.nil _ _ rfl, .inl ⟨rfl, rfl, rfl⟩, h2⟩
  · exact (copyA_sm A w.heap.size w h.inn (Nat.le_refl _) hs).mono fun r w' ⟨A', h1, h2, _, h3, h4⟩ => ⟨A', h1, h2, h3, .inr (hs.congr h2), h4⟩

end Go.Proofs.YtcadnlilijkneaaGreat
namespace Go.Proofs.YtcadnlilijkneaaGreat
open Go.RowKit Go.Maps Go.Shelf Go.Deep
set_option linter.unusedVariables false
set_option linter.unusedSimpArgs false

theorem Own.put7 {w : World} {g : Nat} {t : TypeId} {a0 a1 a2 a3 a4 a5 a6 : Value} (h : Own w g t [a0, a1, a2, a3, a4, a5, a6]) (c0 c1 c2 c3 c4 c5 c6 : Value) :
    Own (((((((w.setCell ⟨g, 0, none⟩ c0).setCell ⟨g, 1, none⟩ c1).setCell ⟨g, 2, none⟩ c2).setCell ⟨g, 3, none⟩ c3).setCell ⟨g, 4, none⟩ c4).setCell ⟨g, 5, none⟩ c5).setCell ⟨g, 6, none⟩ c6) g t [c0, c1, c2, c3, c4, c5, c6] := by
  have := ((((((h.set 0 c0).set 1 c1).set 2 c2).set 3 c3).set 4 c4).set 5 c5).set 6 c6
  simpa using this
theorem Chg.put7 {w w' : World} {l : List Nat} (h : Chg l w w') {g : Nat} (hg : g ∈ l ∨ w.heap.size ≤ g) (c0 c1 c2 c3 c4 c5 c6 : Value) :
    Chg l w (((((((w'.setCell ⟨g, 0, none⟩ c0).setCell ⟨g, 1, none⟩ c1).setCell ⟨g, 2, none⟩ c2).setCell ⟨g, 3, none⟩ c3).setCell ⟨g, 4, none⟩ c4).setCell ⟨g, 5, none⟩ c5).setCell ⟨g, 6, none⟩ c6) :=
  ((((((h.setCell hg c0).setCell hg c1).setCell hg c2).setCell hg c3).setCell hg c4).setCell hg c5).setCell hg c6
structure EsT where
  p : Bt
  a : Bt
  y : LyT
def EsT.x (T : EsT) : Es := ⟨T.p, T.a, T.y.x⟩
def EsT.val (T : EsT) : Value := .agg #[.int .i64 T.p.1, .int .i64 T.p.2, .int .i64 T.a.1, .int .i64 T.a.2, .int .u64 (T.y.e : Int), .slice T.y.a T.y.sg.length T.y.c, .int .i64 T.y.q]
def zEs : EsT := ⟨(0, 0), (0, 0), ⟨0, none, 0, [], 0⟩⟩
structure RcT where
  k : Bool
  e : Nat
  b : Bt
  y : LyT
def RcT.x (r : RcT) : Rc := ⟨r.k, r.e, r.b, r.y.x⟩
def kn (k : Bool) : Int := if k then 1 else 0
def RcT.val (r : RcT) : Value := .agg #[.int .u64 (kn r.k), .int .u64 (r.e : Int), .int .i64 r.b.1, .int .i64 r.b.2, .int .u64 (r.y.e : Int), .slice r.y.a r.y.sg.length r.y.c, .int .i64 r.y.q]
def behT (T : EsT) (r : RcT) : EsT := ⟨r.b, if r.k then r.b else T.a, if r.k then r.y else T.y⟩
theorem behT_x (T : EsT) (r : RcT) : (behT T r).x = behind T.x r.x := by
  unfold behT behind EsT.x RcT.x
  cases r.k <;> rfl
set_option maxHeartbeats 1000000 in
theorem behind_any (T : EsT) (r : RcT) (w : World) : Calls Tryz.prog 78 #[T.val, r.val] w fun e w' => e = .returned (behT T r).val ∧ Chg [] w w' := by
  obtain ⟨⟨p1, p2⟩, ⟨a1, a2⟩, ⟨ye, ya, yc, ys, yq⟩⟩ := T
  obtain ⟨k, re, ⟨b1, b2⟩, ⟨ze, za, zc, zs, zq⟩⟩ := r
  simp only [EsT.val, RcT.val, behT]
  obtain ⟨yn, hyn⟩ : ∃ n, Hid (ys.length = n) := ⟨_, Lib.hid rfl⟩
  obtain ⟨zn, hzn⟩ : ∃ n, Hid (zs.length = n) := ⟨_, Lib.hid rfl⟩
  rw [hyn.out, hzn.out]
  obtain ⟨W, HW⟩ : ∃ W, Hid (((w.alloc (.cells #[.int .i64 p1, .int .i64 p2, .int .i64 a1, .int .i64 a2, .int .u64 (ye : Int), .slice ya yn yc, .int .i64 yq] 116)).alloc (.cells #[.int .u64 (kn k), .int .u64 (re : Int), .int .i64 b1, .int .i64 b2, .int .u64 (ze : Int), .slice za zn zc, .int .i64 zq] 160)).alloc (.cells #[.int .i64 0, .int .i64 0, .int .i64 0, .int .i64 0, .int .u64 0, .slice none 0 0, .int .i64 0] 116) = W) := ⟨_, Lib.hid rfl⟩
  have hc : Chg [] w W := by rw [← HW.out]; exact (((Chg.refl [] w).alloc _).alloc _).alloc _
  go_enter Tryz.func78, Tryz.ntmps78
  go_upto_region 1 with fail
  rw [HW.out]
  have ho1 : Own W (w.heap.size + 1) 160 [.int .u64 (kn k), .int .u64 (re : Int), .int .i64 b1, .int .i64 b2, .int .u64 (ze : Int), .slice za zn zc, .int .i64 zq] := by
    rw [← HW.out]
    have := (Own.new (w.alloc (.cells #[.int .i64 p1, .int .i64 p2, .int .i64 a1, .int .i64 a2, .int .u64 (ye : Int), .slice ya yn yc, .int .i64 yq] 116)) 160 [.int .u64 (kn k), .int .u64 (re : Int), .int .i64 b1, .int .i64 b2, .int .u64 (ze : Int), .slice za zn zc, .int .i64 zq]).alloc (.cells #[.int .i64 0, .int .i64 0, .int .i64 0, .int .i64 0, .int .u64 0, .slice none 0 0, .int .i64 0] 116)
    simpa using this
  have ho0 : Own W w.heap.size 116 [.int .i64 p1, .int .i64 p2, .int .i64 a1, .int .i64 a2, .int .u64 (ye : Int), .slice ya yn yc, .int .i64 yq] := by rw [← HW.out]; exact ((Own.new w _ _).alloc _).alloc _
  have ho2 : Own W (w.heap.size + 1 + 1) 116 [.int .i64 0, .int .i64 0, .int .i64 0, .int .i64 0, .int .u64 0, .slice none 0 0, .int .i64 0] := by
    rw [← HW.out]
    have := Own.new ((w.alloc (.cells #[.int .i64 p1, .int .i64 p2, .int .i64 a1, .int .i64 a2, .int .u64 (ye : Int), .slice ya yn yc, .int .i64 yq] 116)).alloc (.cells #[.int .u64 (kn k), .int .u64 (re : Int), .int .i64 b1, .int .i64 b2, .int .u64 (ze : Int), .slice za zn zc, .int .i64 zq] 160)) 116 [.int .i64 0, .int .i64 0, .int .i64 0, .int .i64 0, .int .u64 0, .slice none 0 0, .int .i64 0]
    simpa using this
  clear HW
  have H1 := Lib.hid ho1
  have H0 := Lib.hid ho0
  have H2 := Lib.hid ho2
  have HC := Lib.hid hc
  have r0 := ho1.cell 0
  have r2 := ho1.cell 2
  have r3 := ho1.cell 3
  have r4 := ho1.cell 4
  have r5 := ho1.cell 5
  have r6 := ho1.cell 6
  have s0 := ho0.cell 0
  have s1 := ho0.cell 1
  have s2 := ho0.cell 2
  have s3 := ho0.cell 3
  have s4 := ho0.cell 4
  have s5 := ho0.cell 5
  have s6 := ho0.cell 6
  have z0 := ho0.frozen 0
  have z1 := ho0.frozen 1
  have z2 := ho0.frozen 2
  have z3 := ho0.frozen 3
  have z4 := ho0.frozen 4
  have z5 := ho0.frozen 5
  have z6 := ho0.frozen 6
  simp at r0 r2 r3 r4 r5 r6 s0 s1 s2 s3 s4 s5 s6
  have d0 := ho2.cell 0
  have d1 := ho2.cell 1
  have d2 := ho2.cell 2
  have d3 := ho2.cell 3
  have d4 := ho2.cell 4
  have d5 := ho2.cell 5
  have d6 := ho2.cell 6
  have f0 := ho2.frozen 0
  have f1 := ho2.frozen 1
  have f2 := ho2.frozen 2
  have f3 := ho2.frozen 3
  have f4 := ho2.frozen 4
  have f5 := ho2.frozen 5
  have f6 := ho2.frozen 6
  simp at d0 d1 d2 d3 d4 d5 d6
  clear ho0 ho1 ho2 hc
  cases k with
  | true =>
    have e1 : kn true = 1 := rfl
    rw [e1] at r0
    go_upto_region 3 with fail
    go_region
    have g2 : Own (((((((W.setCell ⟨w.heap.size, 0, none⟩ (.int .i64 b1)).setCell ⟨w.heap.size, 1, none⟩ (.int .i64 b2)).setCell ⟨w.heap.size, 2, none⟩ (.int .i64 b1)).setCell ⟨w.heap.size, 3, none⟩ (.int .i64 b2)).setCell ⟨w.heap.size, 4, none⟩ (.int .u64 (ze : Int))).setCell ⟨w.heap.size, 5, none⟩ (.slice za zn zc)).setCell ⟨w.heap.size, 6, none⟩ (.int .i64 zq)) (w.heap.size + 1 + 1) 116 [.int .i64 0, .int .i64 0, .int .i64 0, .int .i64 0, .int .u64 0, .slice none 0 0, .int .i64 0] := by
      have h9 := H2.out.chg ((Chg.refl [w.heap.size] W).put7 (g := w.heap.size) (by simp) (.int .i64 b1) (.int .i64 b2) (.int .i64 b1) (.int .i64 b2) (.int .u64 (ze : Int)) (.slice za zn zc) (.int .i64 zq)) (by simp; omega)
      exact h9
    have g0 : Own (((((((W.setCell ⟨w.heap.size, 0, none⟩ (.int .i64 b1)).setCell ⟨w.heap.size, 1, none⟩ (.int .i64 b2)).setCell ⟨w.heap.size, 2, none⟩ (.int .i64 b1)).setCell ⟨w.heap.size, 3, none⟩ (.int .i64 b2)).setCell ⟨w.heap.size, 4, none⟩ (.int .u64 (ze : Int))).setCell ⟨w.heap.size, 5, none⟩ (.slice za zn zc)).setCell ⟨w.heap.size, 6, none⟩ (.int .i64 zq)) w.heap.size 116 [.int .i64 b1, .int .i64 b2, .int .i64 b1, .int .i64 b2, .int .u64 (ze : Int), .slice za zn zc, .int .i64 zq] := H0.out.put7 _ _ _ _ _ _ _
    have g3 : Chg [] w (((((((W.setCell ⟨w.heap.size, 0, none⟩ (.int .i64 b1)).setCell ⟨w.heap.size, 1, none⟩ (.int .i64 b2)).setCell ⟨w.heap.size, 2, none⟩ (.int .i64 b1)).setCell ⟨w.heap.size, 3, none⟩ (.int .i64 b2)).setCell ⟨w.heap.size, 4, none⟩ (.int .u64 (ze : Int))).setCell ⟨w.heap.size, 5, none⟩ (.slice za zn zc)).setCell ⟨w.heap.size, 6, none⟩ (.int .i64 zq)) := HC.out.put7 (.inr (Nat.le_refl _)) _ _ _ _ _ _ _
    clear s0 s1 s2 s3 s4 s5 s6 z0 z1 z2 z3 z4 z5 z6 d0 d1 d2 d3 d4 d5 d6 f0 f1 f2 f3 f4 f5 f6 r0 r2 r3 r4 r5 r6
    generalize (((((((W.setCell ⟨w.heap.size, 0, none⟩ (.int .i64 b1)).setCell ⟨w.heap.size, 1, none⟩ (.int .i64 b2)).setCell ⟨w.heap.size, 2, none⟩ (.int .i64 b1)).setCell ⟨w.heap.size, 3, none⟩ (.int .i64 b2)).setCell ⟨w.heap.size, 4, none⟩ (.int .u64 (ze : Int))).setCell ⟨w.heap.size, 5, none⟩ (.slice za zn zc)).setCell ⟨w.heap.size, 6, none⟩ (.int .i64 zq)) = Wb at *
    replace g0 := g0.chg (Chg.refl [] Wb).drew (by simp)
    replace g2 := g2.chg (Chg.refl [] Wb).drew (by simp)
    replace g3 := g3.drew
    generalize Wb.drew = Wc at *
    have s0 := g0.cell 0
    have s1 := g0.cell 1
    have s2 := g0.cell 2
    have s3 := g0.cell 3
    have s4 := g0.cell 4
    have s5 := g0.cell 5
    have s6 := g0.cell 6
    have d0 := g2.cell 0
    have f0 := g2.frozen 0
    have d1 := g2.cell 1
    have f1 := g2.frozen 1
    have d2 := g2.cell 2
    have f2 := g2.frozen 2
    have d3 := g2.cell 3
    have f3 := g2.frozen 3
    have d4 := g2.cell 4
    have f4 := g2.frozen 4
    have d5 := g2.cell 5
    have f5 := g2.frozen 5
    have d6 := g2.cell 6
    have f6 := g2.frozen 6
    simp at s0 s1 s2 s3 s4 s5 s6 d0 d1 d2 d3 d4 d5 d6
    have H9 := Lib.hid (Own.put7 g2 (.int .i64 b1) (.int .i64 b2) (.int .i64 b1) (.int .i64 b2) (.int .u64 (ze : Int)) (.slice za zn zc) (.int .i64 zq))
    have HC9 := Lib.hid (g3.put7 (g := w.heap.size + 1 + 1) (.inr (by omega)) (.int .i64 b1) (.int .i64 b2) (.int .i64 b1) (.int .i64 b2) (.int .u64 (ze : Int)) (.slice za zn zc) (.int .i64 zq))
    clear g0 g2 g3
    go_wp2_with fail
    refine bodyPost_ret (results_cell_row Tryz.results78 _ _ (w.heap.size + 1 + 1) 116 _ (0, 0) _ rfl H9.out Tryz.underlying116 rfl (by kernel_rfl)) rfl ?_
    rw [hzn.out]
    exact ⟨rfl, HC9.out⟩
  | false =>
    have e1 : kn false = 0 := rfl
    rw [e1] at r0
    have g0 : Own ((W.setCell ⟨w.heap.size, 0, none⟩ (.int .i64 b1)).setCell ⟨w.heap.size, 1, none⟩ (.int .i64 b2)) w.heap.size 116 [.int .i64 b1, .int .i64 b2, .int .i64 a1, .int .i64 a2, .int .u64 (ye : Int), .slice ya yn yc, .int .i64 yq] := by
      have h9 := (H0.out.set 0 (.int .i64 b1)).set 1 (.int .i64 b2)
      simpa using h9
    have g1 : Chg [w.heap.size] W ((W.setCell ⟨w.heap.size, 0, none⟩ (.int .i64 b1)).setCell ⟨w.heap.size, 1, none⟩ (.int .i64 b2)) := ((Chg.refl [w.heap.size] W).setCell (p := ⟨w.heap.size, 0, none⟩) (by simp) (.int .i64 b1)).setCell (p := ⟨w.heap.size, 1, none⟩) (by simp) (.int .i64 b2)
    have g2 := H2.out.chg g1 (by simp; omega)
    have g3 : Chg [] w ((W.setCell ⟨w.heap.size, 0, none⟩ (.int .i64 b1)).setCell ⟨w.heap.size, 1, none⟩ (.int .i64 b2)) := (HC.out.setCell (p := ⟨w.heap.size, 0, none⟩) (.inr (Nat.le_refl _)) (.int .i64 b1)).setCell (p := ⟨w.heap.size, 1, none⟩) (.inr (Nat.le_refl _)) (.int .i64 b2)
    have G := Lib.hid (And.intro g2 g3)
    clear g0 g1 g2 g3
    go_wp2_with fail
    have H9 := Lib.hid (Own.put7 G.out.1 (.int .i64 b1) (.int .i64 b2) (.int .i64 a1) (.int .i64 a2) (.int .u64 (ye : Int)) (.slice ya yn yc) (.int .i64 yq))
    have HC9 := Lib.hid (G.out.2.put7 (g := w.heap.size + 1 + 1) (.inr (by omega)) (.int .i64 b1) (.int .i64 b2) (.int .i64 a1) (.int .i64 a2) (.int .u64 (ye : Int)) (.slice ya yn yc) (.int .i64 yq))
    refine bodyPost_ret (results_cell_row Tryz.results78 _ _ (w.heap.size + 1 + 1) 116 _ (0, 0) _ rfl H9.out Tryz.underlying116 rfl (by kernel_rfl)) rfl ?_
    rw [hyn.out]
    exact ⟨rfl, HC9.out⟩
end Go.Proofs.YtcadnlilijkneaaGreat
namespace Go.Proofs.YtcadnlilijkneaaGreat
open Go.RowKit Go.Maps Go.Shelf Go.Deep
set_option linter.unusedVariables false
set_option linter.unusedSimpArgs false

def EnS (w1 : World) (g0 : Nat) (k : Int) (e n1 n2 : Nat) (W : World) : Prop :=
  W.cell? ⟨g0, 0, none⟩ = some (.int .u64 k) ∧ W.cell? ⟨g0, 1, none⟩ = some (.int .u64 (e : Int)) ∧ W.cell? ⟨g0, 2, none⟩ = some (.int .i64 (n1 : Int)) ∧ W.cell? ⟨g0, 3, none⟩ = some (.int .i64 (n2 : Int)) ∧ Chg [] w1 W
theorem EnS.step {w1 : World} {g0 : Nat} {k : Int} {e n1 n2 : Nat} {W W' : World} (h : EnS w1 g0 k e n1 n2 W) (hc : Chg [] W W') : EnS w1 g0 k e n1 n2 W' :=
  ⟨hc.cell h.1 (by simp), hc.cell h.2.1 (by simp), hc.cell h.2.2.1 (by simp), hc.cell h.2.2.2.1 (by simp), h.2.2.2.2.trans hc⟩
theorem ro2 (w1 : World) (x y : List Value) (tx ty : TypeId) : Ro ((w1.alloc (.cells x.toArray tx)).alloc (.cells y.toArray ty)).drew ((w1.alloc (.cells x.toArray tx)).alloc (.cells y.toArray ty)).drew.heap.size (some ⟨w1.heap.size, 0, none⟩) x ∧ Ro ((w1.alloc (.cells x.toArray tx)).alloc (.cells y.toArray ty)).drew ((w1.alloc (.cells x.toArray tx)).alloc (.cells y.toArray ty)).drew.heap.size (some ⟨w1.heap.size + 1, 0, none⟩) y := by
  have h1 : Own ((w1.alloc (.cells x.toArray tx)).alloc (.cells y.toArray ty)).drew w1.heap.size tx x := (Own.new w1 tx x).alloc _
  have h2 : Own ((w1.alloc (.cells x.toArray tx)).alloc (.cells y.toArray ty)).drew (w1.heap.size + 1) ty y := by
    have h9 := Own.new (w1.alloc (.cells x.toArray tx)) ty y
    rw [World.size_alloc] at h9
    exact h9
  exact ⟨h1.ro _ h1.lt, h2.ro _ h2.lt⟩
def PkP (w1 : World) (bs : List UInt8) (v3 v4 : Value) (W : World) : Prop :=
  ∃ g, v3 = .slice (some ⟨g, 0, none⟩) 5 5 ∧ v4 = .bool true ∧ w1.heap.size ≤ g ∧ Own W g 5 (u8s bs) ∧ Chg [] w1 W
theorem kn_nat (k : Bool) : kn k = (((if k then 1 else 0 : Nat)) : Int) := by cases k <;> rfl
set_option maxHeartbeats 1000000 in
set_option maxRecDepth 100000 in
theorem encoded_any (w : World) (r : RcT) (P : Nat → Prop) (ho : okA r.x) (hl : LyP w P r.y) :
    Calls Tryz.prog 150 #[r.val] w fun e w' => ∃ a c, e = .returned (.slice a (encA r.x).length c) ∧ Ro w' w'.heap.size a (u8s (encA r.x)) ∧ (∀ ad, a = some ad → w.heap.size ≤ ad.block) ∧ Chg [] w w' := by
  have hpk := ho.pack
  obtain ⟨_, hb1, hb2, hb3, hb4⟩ := btOk_iff.1 ho.b
  have hhl := head_len r.x
  have HY := Lib.hid ho.y
  have HENC : Hid (encA r.x = packL wid4 (val4 r.x) ++ if r.k then encY r.y.x else []) := Lib.hid rfl
  obtain ⟨k, re, ⟨b1, b2⟩, y⟩ := r
  simp only [RcT.x] at hb1 hb2 hb3 hb4
  obtain ⟨n1, rfl⟩ : ∃ n : Nat, b1 = (n : Int) := ⟨b1.toNat, by omega⟩
  obtain ⟨n2, rfl⟩ : ∃ n : Nat, b2 = (n : Int) := ⟨b2.toNat, by omega⟩
  have hw1 : IntKind.u64.wrap (n1 : Int) = (n1 : Int) := by rw [IntKind.wrap_u64]; omega
  have hw2 : IntKind.u64.wrap (n2 : Int) = (n2 : Int) := by rw [IntKind.wrap_u64]; omega
  obtain ⟨bs, hbs⟩ : ∃ x, Hid (packL wid4 (val4 (RcT.x ⟨k, re, ((n1 : Int), (n2 : Int)), y⟩)) = x) := ⟨_, Lib.hid rfl⟩
  have hval : val4 (RcT.x ⟨k, re, ((n1 : Int), (n2 : Int)), y⟩) = [if k then 1 else 0, re, n1, n2] := rfl
  rw [hbs.out] at hhl HENC
  rw [hval] at hpk
  have HBS : Hid (packL wid4 [if k then 1 else 0, re, n1, n2] = bs) := Lib.hid (by rw [← hval]; exact hbs.out)
  have HLEN := Lib.hid hhl
  have HP : Hid (∀ W aw av, Ro W W.heap.size (some ⟨aw, 0, none⟩) (i64s wid4) → Ro W W.heap.size (some ⟨av, 0, none⟩) (u64s [if k then 1 else 0, re, n1, n2]) → Calls Tryz.prog 206 #[.slice (some ⟨aw, 0, none⟩) 4 4, .slice (some ⟨av, 0, none⟩) 4 4] W fun e w' => ∃ g, e = .returned (.tuple #[.slice (some ⟨g, 0, none⟩) 5 5, .bool true]) ∧ W.heap.size ≤ g ∧ Own w' g 5 (u8s bs) ∧ Chg [] W w') := by
    apply Lib.hid
    intro W aw av g1 g2
    have := pack_yes wid4 [if k then 1 else 0, re, n1, n2] (some ⟨aw, 0, none⟩) (some ⟨av, 0, none⟩) 4 4 W.heap.size W g1 g2 (Nat.le_refl _) (by simp [wid4]) hpk
    refine this.mono ?_
    rintro e w' ⟨g, cs, h1, h2, h3, h4, h5⟩
    have e9 : cs = bs := by rw [← HBS.out]; exact h3.unique (packL_is rfl)
    subst e9
    rw [hhl] at h1
    exact ⟨g, h1, h2, h4, low_chg h5⟩
  have HW := Lib.hid (fun W => widths4_any W)
  obtain ⟨w1, HW1⟩ : ∃ W, Hid (w.alloc (.cells #[.int .u64 (kn k), .int .u64 (re : Int), .int .i64 (n1 : Int), .int .i64 (n2 : Int), .int .u64 (y.e : Int), .slice y.a y.sg.length y.c, .int .i64 y.q] 160) = W) := ⟨_, Lib.hid rfl⟩
  have hC1 : Chg [] w w1 := by rw [← HW1.out]; exact (Chg.refl [] w).alloc _
  have hob : Own w1 w.heap.size 160 [.int .u64 (kn k), .int .u64 (re : Int), .int .i64 (n1 : Int), .int .i64 (n2 : Int), .int .u64 (y.e : Int), .slice y.a y.sg.length y.c, .int .i64 y.q] := by rw [← HW1.out]; exact Own.new w _ _
  have HS : Hid (EnS w1 w.heap.size (kn k) re n1 n2 w1) := Lib.hid ⟨by rw [hob.cell]; rfl, by rw [hob.cell]; rfl, by rw [hob.cell]; rfl, by rw [hob.cell]; rfl, Chg.refl [] w1⟩
  have HO := Lib.hid hob
  have HC1 := Lib.hid hC1
  have HKN := Lib.hid (kn_nat k)
  rw [HKN.out] at HW1 HO HS
  unfold RcT.val
  simp only
  rw [HKN.out]
  have HL := Lib.hid hl
  generalize encA (RcT.x ⟨k, re, ((n1 : Int), (n2 : Int)), y⟩) = EA at *
  clear hpk hC1 hob hl ho hhl hval hb1 hb2 hb3 hb4 hbs
  obtain ⟨kk, hkk⟩ : ∃ n : Nat, (if k then 1 else 0 : Nat) = n := ⟨_, rfl⟩
  rw [hkk] at HW1 HO HS HP HBS ⊢
  have HKK := Lib.hid hkk
  clear hkk HKN
  go_enter Tryz.func150, Tryz.ntmps150
  go_upto_region 1 with fail
  rw [HW1.out]
  go_cut [3, 4] from 3 to 24 (fun v3 v4 wx => PkP w1 bs v3 v4 wx)
  case first =>
    refine wp_region_held_drew (S := (fun W : World => W.cell? ⟨w.heap.size, 0, none⟩ = some (.int .u64 (kk : Int)) ∧ W.cell? ⟨w.heap.size, 1, none⟩ = some (.int .u64 (re : Int)) ∧ W.cell? ⟨w.heap.size, 2, none⟩ = some (.int .i64 (n1 : Int)) ∧ W.cell? ⟨w.heap.size, 3, none⟩ = some (.int .i64 (n2 : Int)) ∧ Chg [] w1 W)) (by kernel_rfl) (by have h9 := HS.out.step (Chg.refl [] w1).drew; exact h9) (fun hHeld => ?_)
    refine wpAnyH_take (i := 1) (v := ?_) rfl (by kernel_rfl) (by kernel_rfl) (by kernel_rfl) (fun _ _ _ h => h) (Or.inl ⟨by kernel_rfl, ?_⟩) hHeld ?_
    rotate_left
    · (intro w hSw; first | (go_simp; done) | (go_simp; with_reducible rfl))
    (try simp only [Act.put, List.getElem_toArray, List.getElem_cons_succ, List.getElem_cons_zero, List.setIfInBounds_toArray, List.set_cons_zero, List.set_cons_succ])
    refine wpAnyH_take (i := 2) (v := ?_) rfl (by kernel_rfl) (by kernel_rfl) (by kernel_rfl) (fun _ _ _ h => h) (Or.inl ⟨by kernel_rfl, ?_⟩) hHeld ?_
    rotate_left
    · (intro w hSw; first | (go_simp; done) | (go_simp; with_reducible rfl))
    (try simp only [Act.put, List.getElem_toArray, List.getElem_cons_succ, List.getElem_cons_zero, List.setIfInBounds_toArray, List.set_cons_zero, List.set_cons_succ])
    refine wpAnyH_take (i := 3) (v := ?_) rfl (by kernel_rfl) (by kernel_rfl) (by kernel_rfl) (fun _ _ _ h => h) (Or.inl ⟨by kernel_rfl, ?_⟩) hHeld ?_
    rotate_left
    · (intro w hSw; first | (go_simp; done) | (go_simp; with_reducible rfl))
    (try simp only [Act.put, List.getElem_toArray, List.getElem_cons_succ, List.getElem_cons_zero, List.setIfInBounds_toArray, List.set_cons_zero, List.set_cons_succ])
    refine wpAnyH_take (i := 4) (v := ?_) rfl (by kernel_rfl) (by kernel_rfl) (by kernel_rfl) (fun _ _ _ h => h) (Or.inl ⟨by kernel_rfl, ?_⟩) hHeld ?_
    rotate_left
    · (intro w hSw; first | (go_simp; done) | (go_simp; with_reducible rfl))
    (try simp only [Act.put, List.getElem_toArray, List.getElem_cons_succ, List.getElem_cons_zero, List.setIfInBounds_toArray, List.set_cons_zero, List.set_cons_succ])
    refine wpAnyH_take (i := 5) (v := ?_) rfl (by kernel_rfl) (by kernel_rfl) (by kernel_rfl) (fun _ _ _ h => h) (Or.inl ⟨by kernel_rfl, ?_⟩) hHeld ?_
    rotate_left
    · (intro w hSw; first | (go_simp; done) | (go_simp; with_reducible rfl))
    (try simp only [Act.put, List.getElem_toArray, List.getElem_cons_succ, List.getElem_cons_zero, List.setIfInBounds_toArray, List.set_cons_zero, List.set_cons_succ])
    refine wpAnyH_take (i := 6) (v := ?_) rfl (by kernel_rfl) (by kernel_rfl) (by kernel_rfl) (fun _ _ _ h => h) (Or.inl ⟨by kernel_rfl, ?_⟩) hHeld ?_
    rotate_left
    · (intro w hSw; first | (go_simp; done) | (go_simp; with_reducible rfl))
    (try simp only [Act.put, List.getElem_toArray, List.getElem_cons_succ, List.getElem_cons_zero, List.setIfInBounds_toArray, List.set_cons_zero, List.set_cons_succ])
    refine wpAnyH_take (i := 7) (v := ?_) rfl (by kernel_rfl) (by kernel_rfl) (by kernel_rfl) (fun _ _ _ h => h) (Or.inl ⟨by kernel_rfl, ?_⟩) hHeld ?_
    rotate_left
    · (intro w hSw; first | (go_simp; done) | (go_simp; with_reducible rfl))
    (try simp only [Act.put, List.getElem_toArray, List.getElem_cons_succ, List.getElem_cons_zero, List.setIfInBounds_toArray, List.set_cons_zero, List.set_cons_succ])
    refine wpAnyH_take (i := 8) (v := ?_) rfl (by kernel_rfl) (by kernel_rfl) (by kernel_rfl) (fun _ _ _ h => h) (Or.inl ⟨by kernel_rfl, ?_⟩) hHeld ?_
    rotate_left
    · (intro w hSw; first | (go_simp; done) | (go_simp; with_reducible rfl))
    (try simp only [Act.put, List.getElem_toArray, List.getElem_cons_succ, List.getElem_cons_zero, List.setIfInBounds_toArray, List.set_cons_zero, List.set_cons_succ])
    refine wpAnyH_take (i := 9) (v := ?_) rfl (by kernel_rfl) (by kernel_rfl) (by kernel_rfl) (fun _ _ _ h => h) (Or.inl ⟨by kernel_rfl, ?_⟩) hHeld ?_
    rotate_left
    · (intro w hSw; first | (go_simp; done) | (go_simp; with_reducible rfl))
    (try simp only [Act.put, List.getElem_toArray, List.getElem_cons_succ, List.getElem_cons_zero, List.setIfInBounds_toArray, List.set_cons_zero, List.set_cons_succ])
    refine wpAnyH_take (i := 10) (v := ?_) rfl (by kernel_rfl) (by kernel_rfl) (by kernel_rfl) (fun _ _ _ h => h) (Or.inl ⟨by kernel_rfl, ?_⟩) hHeld ?_
    rotate_left
    · (intro w hSw; first | (go_simp; done) | (go_simp; with_reducible rfl))
    (try simp only [Act.put, List.getElem_toArray, List.getElem_cons_succ, List.getElem_cons_zero, List.setIfInBounds_toArray, List.set_cons_zero, List.set_cons_succ])
    refine wpAnyH_take (i := 11) (v := ?_) rfl (by kernel_rfl) (by kernel_rfl) (by kernel_rfl) (fun _ _ _ h => h) (Or.inl ⟨by kernel_rfl, ?_⟩) hHeld ?_
    rotate_left
    · (intro w hSw; first | (go_simp; done) | (go_simp; with_reducible rfl))
    (try simp only [Act.put, List.getElem_toArray, List.getElem_cons_succ, List.getElem_cons_zero, List.setIfInBounds_toArray, List.set_cons_zero, List.set_cons_succ])
    refine wpAnyH_take (i := 12) (v := ?_) rfl (by kernel_rfl) (by kernel_rfl) (by kernel_rfl) (fun _ _ _ h => h) (Or.inl ⟨by kernel_rfl, ?_⟩) hHeld ?_
    rotate_left
    · (intro w hSw; first | (go_simp; done) | (go_simp; with_reducible rfl))
    (try simp only [Act.put, List.getElem_toArray, List.getElem_cons_succ, List.getElem_cons_zero, List.setIfInBounds_toArray, List.set_cons_zero, List.set_cons_succ])
    refine wpAnyH_ready (rs := [0,13]) (by kernel_rfl) (by simp) (AllReadyH.cons rfl (fun K hK => ?_) (AllReadyH.cons rfl (fun K hK => ?_) AllReadyH.nil))
    · have hH := hHeld
      (go_simp; go_at_call 126; refine (HW.out _).mono ?_; rintro e w2 ⟨rfl, rfl⟩)
      refine hK.out _ _ (by exact EnS.step hH ((Chg.refl [] _).alloc _)) (fun hHq1 => ?_)
      clear hK K hH 
      (try simp only [Act.put, List.getElem_toArray, List.getElem_cons_succ, List.getElem_cons_zero, List.setIfInBounds_toArray, List.set_cons_zero, List.set_cons_succ])
      refine wpAnyH_ready (rs := [13]) (by kernel_rfl) (by simp) (AllReadyH.cons rfl (fun K hK => ?_) AllReadyH.nil)
      have hH := hHq1
      (go_simp; skip)
      refine hK.out _ _ (by exact EnS.step hH ((Chg.refl [] _).alloc _)) (fun hHq2 => ?_)
      clear hK K hH hHq1
      (try simp only [Act.put, List.getElem_toArray, List.getElem_cons_succ, List.getElem_cons_zero, List.setIfInBounds_toArray, List.set_cons_zero, List.set_cons_succ])
      refine wpAnyH_ready (rs := [14]) (by kernel_rfl) (by simp) (AllReadyH.cons rfl (fun K hK => ?_) AllReadyH.nil)
      have hH := hHq2
      (go_simp; go_at_call 206; refine (HP.out _ _ _ (by first | exact (ro2 _ _ _ _ _).1 | exact (ro2 _ _ _ _ _).2) (by first | exact (ro2 _ _ _ _ _).1 | exact (ro2 _ _ _ _ _).2)).mono ?_; rintro e w5 ⟨g5, rfl, hg5, ho5, hc5⟩)
      refine hK.out _ _ (by exact EnS.step hH hc5) (fun hHq3 => ?_)
      clear hK K hH hHq2
      (try simp only [Act.put, List.getElem_toArray, List.getElem_cons_succ, List.getElem_cons_zero, List.setIfInBounds_toArray, List.set_cons_zero, List.set_cons_succ])
      refine wpAnyH_take (i := 15) (v := ?_) rfl (by kernel_rfl) (by kernel_rfl) (by kernel_rfl) (fun _ _ _ h => h) (Or.inl ⟨by kernel_rfl, ?_⟩) hHq3 ?_
      rotate_left
      · (intro w hSw; first | (go_simp; done) | (go_simp; with_reducible rfl))
      (try simp only [Act.put, List.getElem_toArray, List.getElem_cons_succ, List.getElem_cons_zero, List.setIfInBounds_toArray, List.set_cons_zero, List.set_cons_succ])
      refine wpAnyH_take (i := 16) (v := ?_) rfl (by kernel_rfl) (by kernel_rfl) (by kernel_rfl) (fun _ _ _ h => h) (Or.inl ⟨by kernel_rfl, ?_⟩) hHq3 ?_
      rotate_left
      · (intro w hSw; first | (go_simp; done) | (go_simp; with_reducible rfl))
      (try simp only [Act.put, List.getElem_toArray, List.getElem_cons_succ, List.getElem_cons_zero, List.setIfInBounds_toArray, List.set_cons_zero, List.set_cons_succ])
      refine wpAnyH_take (i := 17) (v := ?_) rfl (by kernel_rfl) (by kernel_rfl) (by kernel_rfl) (fun _ _ _ h => h) (Or.inl ⟨by kernel_rfl, ?_⟩) hHq3 ?_
      rotate_left
      · (intro w hSw; first | (go_simp; done) | (go_simp; with_reducible rfl))
      (try simp only [Act.put, List.getElem_toArray, List.getElem_cons_succ, List.getElem_cons_zero, List.setIfInBounds_toArray, List.set_cons_zero, List.set_cons_succ])
      refine wpAnyH_take (i := 18) (v := ?_) rfl (by kernel_rfl) (by kernel_rfl) (by kernel_rfl) (fun _ _ _ h => h) (Or.inl ⟨by kernel_rfl, ?_⟩) hHq3 ?_
      rotate_left
      · (intro w hSw; first | (go_simp; done) | (go_simp; with_reducible rfl))
      (try simp only [Act.put, List.getElem_toArray, List.getElem_cons_succ, List.getElem_cons_zero, List.setIfInBounds_toArray, List.set_cons_zero, List.set_cons_succ])
      refine wpAnyH_take (i := 19) (v := ?_) rfl (by kernel_rfl) (by kernel_rfl) (by kernel_rfl) (fun _ _ _ h => h) (Or.inl ⟨by kernel_rfl, ?_⟩) hHq3 ?_
      rotate_left
      · (intro w hSw; first | (go_simp; done) | (go_simp; with_reducible rfl))
      (try simp only [Act.put, List.getElem_toArray, List.getElem_cons_succ, List.getElem_cons_zero, List.setIfInBounds_toArray, List.set_cons_zero, List.set_cons_succ])
      refine wpAnyH_done (by kernel_rfl) ?_ _
      have hEnd := hHq3
      (go_wp2_with fail; go_meet; (case rel => exact ⟨g5, rfl, rfl, Nat.le_trans (((Chg.refl [] w1).alloc _).alloc _).drew.size hg5, ho5, hEnd.2.2.2.2⟩))
    · have hH := hHeld
      (go_simp; skip)
      refine hK.out _ _ (by exact EnS.step hH ((Chg.refl [] _).alloc _)) (fun hHq4 => ?_)
      clear hK K hH 
      (try simp only [Act.put, List.getElem_toArray, List.getElem_cons_succ, List.getElem_cons_zero, List.setIfInBounds_toArray, List.set_cons_zero, List.set_cons_succ])
      refine wpAnyH_ready (rs := [0]) (by kernel_rfl) (by simp) (AllReadyH.cons rfl (fun K hK => ?_) AllReadyH.nil)
      have hH := hHq4
      (go_simp; go_at_call 126; refine (HW.out _).mono ?_; rintro e w2 ⟨rfl, rfl⟩)
      refine hK.out _ _ (by exact EnS.step hH ((Chg.refl [] _).alloc _)) (fun hHq5 => ?_)
      clear hK K hH hHq4
      (try simp only [Act.put, List.getElem_toArray, List.getElem_cons_succ, List.getElem_cons_zero, List.setIfInBounds_toArray, List.set_cons_zero, List.set_cons_succ])
      refine wpAnyH_ready (rs := [14]) (by kernel_rfl) (by simp) (AllReadyH.cons rfl (fun K hK => ?_) AllReadyH.nil)
      have hH := hHq5
      (go_simp; go_at_call 206; refine (HP.out _ _ _ (by first | exact (ro2 _ _ _ _ _).1 | exact (ro2 _ _ _ _ _).2) (by first | exact (ro2 _ _ _ _ _).1 | exact (ro2 _ _ _ _ _).2)).mono ?_; rintro e w5 ⟨g5, rfl, hg5, ho5, hc5⟩)
      refine hK.out _ _ (by exact EnS.step hH hc5) (fun hHq6 => ?_)
      clear hK K hH hHq5
      (try simp only [Act.put, List.getElem_toArray, List.getElem_cons_succ, List.getElem_cons_zero, List.setIfInBounds_toArray, List.set_cons_zero, List.set_cons_succ])
      refine wpAnyH_take (i := 15) (v := ?_) rfl (by kernel_rfl) (by kernel_rfl) (by kernel_rfl) (fun _ _ _ h => h) (Or.inl ⟨by kernel_rfl, ?_⟩) hHq6 ?_
      rotate_left
      · (intro w hSw; first | (go_simp; done) | (go_simp; with_reducible rfl))
      (try simp only [Act.put, List.getElem_toArray, List.getElem_cons_succ, List.getElem_cons_zero, List.setIfInBounds_toArray, List.set_cons_zero, List.set_cons_succ])
      refine wpAnyH_take (i := 16) (v := ?_) rfl (by kernel_rfl) (by kernel_rfl) (by kernel_rfl) (fun _ _ _ h => h) (Or.inl ⟨by kernel_rfl, ?_⟩) hHq6 ?_
      rotate_left
      · (intro w hSw; first | (go_simp; done) | (go_simp; with_reducible rfl))
      (try simp only [Act.put, List.getElem_toArray, List.getElem_cons_succ, List.getElem_cons_zero, List.setIfInBounds_toArray, List.set_cons_zero, List.set_cons_succ])
      refine wpAnyH_take (i := 17) (v := ?_) rfl (by kernel_rfl) (by kernel_rfl) (by kernel_rfl) (fun _ _ _ h => h) (Or.inl ⟨by kernel_rfl, ?_⟩) hHq6 ?_
      rotate_left
      · (intro w hSw; first | (go_simp; done) | (go_simp; with_reducible rfl))
      (try simp only [Act.put, List.getElem_toArray, List.getElem_cons_succ, List.getElem_cons_zero, List.setIfInBounds_toArray, List.set_cons_zero, List.set_cons_succ])
      refine wpAnyH_take (i := 18) (v := ?_) rfl (by kernel_rfl) (by kernel_rfl) (by kernel_rfl) (fun _ _ _ h => h) (Or.inl ⟨by kernel_rfl, ?_⟩) hHq6 ?_
      rotate_left
      · (intro w hSw; first | (go_simp; done) | (go_simp; with_reducible rfl))
      (try simp only [Act.put, List.getElem_toArray, List.getElem_cons_succ, List.getElem_cons_zero, List.setIfInBounds_toArray, List.set_cons_zero, List.set_cons_succ])
      refine wpAnyH_take (i := 19) (v := ?_) rfl (by kernel_rfl) (by kernel_rfl) (by kernel_rfl) (fun _ _ _ h => h) (Or.inl ⟨by kernel_rfl, ?_⟩) hHq6 ?_
      rotate_left
      · (intro w hSw; first | (go_simp; done) | (go_simp; with_reducible rfl))
      (try simp only [Act.put, List.getElem_toArray, List.getElem_cons_succ, List.getElem_cons_zero, List.setIfInBounds_toArray, List.set_cons_zero, List.set_cons_succ])
      refine wpAnyH_done (by kernel_rfl) ?_ _
      have hEnd := hHq6
      (go_wp2_with fail; go_meet; (case rel => exact ⟨g5, rfl, rfl, Nat.le_trans (((Chg.refl [] w1).alloc _).alloc _).drew.size hg5, ho5, hEnd.2.2.2.2⟩))
  case rest =>
    rename World => wx
    obtain ⟨g, rfl, rfl, hg, hog, hcx⟩ := hcut
    have hO2 := HO.out.chg hcx (by simp)
    have HG := Lib.hid (And.intro hg (And.intro hog hcx))
    have q0 : wx.cell? ⟨w.heap.size, 0, none⟩ = some (.int .u64 (kk : Int)) := by rw [hO2.cell]; rfl
    have q4 : wx.cell? ⟨w.heap.size, 4, none⟩ = some (.int .u64 (y.e : Int)) := by rw [hO2.cell]; rfl
    have q5 : wx.cell? ⟨w.heap.size, 5, none⟩ = some (.slice y.a y.sg.length y.c) := by rw [hO2.cell]; rfl
    have q6 : wx.cell? ⟨w.heap.size, 6, none⟩ = some (.int .i64 y.q) := by rw [hO2.cell]; rfl
    clear hg hog hcx hO2
    cases k with
    | true =>
      obtain rfl : 1 = kk := HKK.out
      have hrt : lright y.x = true := (HY.out rfl).1
      have hcw := HC1.out.trans HG.out.2.2
      have hE := lenc_yes y w.heap.size wx (HL.out.inn.below hcw.low (Nat.le_refl _)) hcw.size (LySm.of hrt).fit hrt
      obtain ⟨es, hes⟩ : ∃ x, Hid (encY y.x = x) := ⟨_, Lib.hid rfl⟩
      obtain ⟨m, hm⟩ : ∃ x, Hid (es.length = x) := ⟨_, Lib.hid rfl⟩
      have hml : m ≤ 59 := by rw [← hm.out, ← hes.out]; exact (encY_len hrt).2
      have HE : Hid (Calls Tryz.prog 185 #[y.val] wx fun e w' => ∃ a', e = .returned (.tuple #[.slice a' m m, .int .i64 0]) ∧ Ro w' w'.heap.size a' (u8s es) ∧ Below wx.heap.size wx w') := by
        apply Lib.hid
        refine Calls.mono (R' := _) hE ?_
        rintro e w' ⟨g', cs, h1, h2, h3, h4, h5⟩
        have e9 : cs = es := by rw [← hes.out]; exact h3.unique (encY_is _)
        subst e9
        rw [hm.out] at h1
        exact ⟨_, h1, h4.ro _ h4.lt, h5⟩
      have HCW := Lib.hid hcw
      clear hE hrt hcw HP HW HS
      unfold LyT.val at HE
      have HCl : Hid ((u8s bs).length = 5) := Lib.hid (by rw [u8s_length]; exact HLEN.out)
      generalize y.sg.length = yn at q5 HE
      generalize y.e = ye at q4 HE
      generalize y.a = ya at q5 HE
      generalize y.c = yc at q5 HE
      generalize y.q = yq at q6 HE
      go_wp2_with (first
        | (go_at_call 185; refine HE.out.mono ?_; rintro e w6 ⟨a', rfl, hr6, hb6⟩; have HR6 := Lib.hid hr6; have HB6 := Lib.hid (HCW.out.trans (low_chg hb6)); have HLs : Hid (Lst w6 w.heap.size 5 (.slice (some ⟨g, 0, none⟩) 5 5) (u8s bs)) := Lib.hid ((HG.out.2.1.below hb6 HG.out.2.1.lt).lst (Nat.le_trans HC1.out.size HG.out.1) 5 HCl.out (by unfold maxLen; omega)); clear hr6 hb6)
        | (at_builtin; refine wpList_appB rfl (.tmp 41) (.tmp 42) 42 rfl w.heap.size 5 (.int .u8 0) 1 Tryz.underlying42 Tryz.info_u8 rfl (.slice (some ⟨g, 0, none⟩) 5 5) (u8s bs) rfl HLs.out a' w6.heap.size m m (u8s es) rfl (by rw [u8s_length]; exact hm.out) HR6.out (u8s_oneCell _) (by have := HCl.out; omega) (by have := HCl.out; omega) w.heap.size w HB6.out.low (Nat.le_refl _) HB6.out.size ?_; intro v' w8 hl8 hb8 hs8)
        | fail)
      have HL8 := Lib.hid hl8.out
      clear hl8 hs8
      go_ret
      obtain ⟨a8, c8, e8, hr8, hc8, _⟩ := HL8.out.form
      have e9 : u8s bs ++ u8s es = u8s (bs ++ es) := by simp [u8s]
      rw [e9] at e8 hr8
      have hEA : EA = bs ++ es := by rw [HENC.out, ← hes.out]; rfl
      rw [hEA]
      have hlt := HL8.out.lt
      refine ⟨a8, c8, by rw [← u8s_length]; exact congrArg _ e8, hr8, fun ad e => ?_, low_chg hb8⟩
      subst e
      exact (hlt ad.block (by rw [e8]; rfl)).1
    | false =>
      obtain rfl : 0 = kk := HKK.out
      clear HP HW HS
      go_wp2_with fail
      go_ret
      have hEA : EA = bs := by rw [HENC.out]; simp
      rw [hEA, HLEN.out]
      exact ⟨some ⟨g, 0, none⟩, ⟨5, rfl⟩, HG.out.2.1.ro _ HG.out.2.1.lt, fun ad e => by cases e; exact Nat.le_trans HC1.out.size HG.out.1, HC1.out.trans HG.out.2.2⟩
end Go.Proofs.YtcadnlilijkneaaGreat
