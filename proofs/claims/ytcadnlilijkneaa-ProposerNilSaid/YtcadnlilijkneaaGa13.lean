/-
  A proposer is made, started, emptied, asked what it has decided. No claim of its own.
-/
import Derived.Test.YtcadnlilijkneaaGa12
import Derived.Laws.StructEq
namespace Go.Proofs.Ytcadnlilijkneaa
open Go.RowKit Go.Maps Go.Shelf Go.Deep
set_option linter.unusedVariables false
set_option linter.unusedSimpArgs false

/-- behind a change elsewhere -/
theorem Prs.chg {w w' : World} {P : Nat → Prop} {p : Nat} {T : PrT} {V : Nat → Option Value} {L : List MgT} {l : List Nat} (h : Prs w P p T V L) (hc : Chg l w w') (hl : ∀ x, P x → x ∉ l) (hm : ∀ x ∈ prM p T, x ∉ l) : Prs w' P p T V L :=
  ⟨h.own.chg hc (hm p (by simp [prM])), h.wi.chg hc hl, h.wis, h.ly.chg hc hl, h.lys, fun b hb => (h.vo b hb).chg hc (hm b (by simp [prM, hb])), h.out.chg hc hl (fun x hx => hm x (by simp [prM, hx])), h.ne, h.px⟩
theorem Prs.kept {w w' : World} {P : Nat → Prop} {p : Nat} {T : PrT} {V : Nat → Option Value} {L : List MgT} (h : Prs w P p T V L) (hc : Chg [] w w') : Prs w' P p T V L := h.chg hc (by simp) (by simp)
theorem Prs.mono {w : World} {P P' : Nat → Prop} {p : Nat} {T : PrT} {V : Nat → Option Value} {L : List MgT} (h : Prs w P p T V L) (hp : ∀ x, x < w.heap.size → P x → P' x) (hx : ∀ x, P' x → x ∉ prM p T) : Prs w P' p T V L :=
  ⟨h.own, h.wi.mono hp, h.wis, h.ly.mono hp, h.lys, h.vo, h.out.mono hp, h.ne, hx⟩
theorem EnI.prs {w : World} {P : Nat → Prop} {M0 : List Nat} {ov0 : Value} {p bm : Nat} {T : PrT} {L : List MgT} {k : Nat} {v : Value} {Q : List MgT} {W : World} (I : EnI w P M0 ov0 p bm T L k v Q W) (hv : T.vb = some bm) (h1 : LyS T.wi) (h2 : LyS T.ly) : Prs W (PP w P p bm v) p (T.wo v) (fun _ => none) (L ++ Q) := by
  refine ⟨I.own, I.wi, h1, I.ly, h2, fun b hb => ?_, I.out, ⟨?_, fun b hb => ?_⟩, fun x hx => ?_⟩
  · have : bm = b := by simpa [PrT.wo, hv] using hb
    subst this
    exact I.mp
  · simp only [PrT.wo, hv, Option.toList_some, List.mem_append, List.mem_singleton, not_or]
    exact ⟨I.ne.1, I.ne.2.1⟩
  · have : b = bm := by simpa [PrT.wo, hv] using hb
    subst this
    exact I.ne.2.2
  · have := hx.2
    simp only [List.mem_cons, not_or] at this
    simp only [prM, PrT.wo, hv, Option.toList_some, List.mem_cons, List.mem_append, List.mem_singleton, List.not_mem_nil, or_false, not_or]
    exact ⟨this.1, this.2.1, this.2.2⟩
theorem results_row_tmpP {P : Program} {fn : Func} {p u : Tmp} {ty : TypeId} (h : fn.results = #[.cell p ty, .tmp u]) (tmps : Array Value) (w : World) (g : Nat) (t : TypeId) (cs : Array Value) (fr : Nat × Nat) (d : TypeDesc)
    (hp : tmps.getD p undef = .pointer (some ⟨g, 0, none⟩)) (hg : w.heap[g]? = some (.cells cs t fr))
    (hu : P.underlying ty = some d) (hd : (match d with | .struct _ | .array _ _ => true | _ => false) = true) (hi : (P.info? ty).map (·.size) = some cs.size) :
    (results fn tmps).run P w = .ok (.tuple #[.agg cs, tmps.getD u undef]) w := by
  have hp' : tmps[p]?.getD undef = .pointer (some ⟨g, 0, none⟩) := by simpa using hp
  simp [results, h, hp', asAddr, run_loadVar_row w g t ty cs fr d hg hu hd hi]
/-- a new proposer in memory -/
def newT (cl id : Int) (y : LyT) : PrT := ⟨cl, id, y, 0, (0, 0), (0, 0), none, 0, (0, 0), zLyT, .slice none 0 0⟩
set_option maxHeartbeats 4000000 in
set_option maxRecDepth 100000 in
theorem New_ok (cl id : Int) (Y : LyT) (w : World) (h1 : 0 ≤ cl ∧ cl < 4) (h2 : 0 ≤ id ∧ id < 1048576) (hy : LyIn w w.heap.size Y) (hf : SgFit Y.sg) (hr : lright Y.x = true) :
    Calls Try.prog 14 #[.int .i64 cl, .int .i64 id, Y.val] w fun e w' => ∃ (p : Nat) (y : LyT), e = .returned (.tuple #[.pointer (some ⟨p, 0, none⟩), .int .i64 0]) ∧ w.heap.size ≤ p ∧ y.x = Y.x ∧ Hid (Prs w' (fun x => w.heap.size ≤ x ∧ x ≠ p) p (newT cl id y) (fun _ => none) []) ∧ Chg [] w w' := by
  obtain ⟨W, HW⟩ : ∃ W, Hid (w.alloc (.cells #[.int .u64 (Y.e : Int), .slice Y.a Y.sg.length Y.c, .int .i64 Y.q] 38) = W) := ⟨_, Lib.hid rfl⟩
  have hc : Chg [] w W := by rw [← HW.out]; exact (Chg.refl [] w).alloc _
  have ho : Own W w.heap.size 38 [.int .u64 (Y.e : Int), .slice Y.a Y.sg.length Y.c, .int .i64 Y.q] := by rw [← HW.out]; exact Own.new w _ _
  have HRT := lright_any Y w.heap.size W (hy.below hc.low (Nat.le_refl _)) hc.size hf
  rw [hr] at HRT
  have HRT := Lib.hid HRT
  have HCP : Hid (∀ V, Chg [] W V → Calls Try.prog 16 #[Y.val] V fun e w' => ∃ A' : LyT, e = .returned A'.val ∧ A'.x = Y.x ∧ LyP w' (fun x => V.heap.size ≤ x) A' ∧ LyS A' ∧ Chg [] V w') := Lib.hid fun V hV => copyA_any Y (fun x => x < w.heap.size) V (((hy.lyP (Nat.le_refl _)).chg hc (by simp)).chg hV (by simp)) (.inr (LySm.of hr))
  have HO := Lib.hid ho
  have HC := Lib.hid hc
  have b1 : decide (cl < 0) = false := decide_eq_false (by omega)
  have b2 : decide (4 ≤ cl) = false := decide_eq_false (by omega)
  have b3 : decide (id < 0) = false := decide_eq_false (by omega)
  have b4 : decide (1048576 ≤ id) = false := decide_eq_false (by omega)
  clear hc ho hy hf hr h1 h2
  obtain ⟨ye, ya, yc, ys, yq⟩ := Y
  simp only [LyT.val] at *
  obtain ⟨n, hn⟩ : ∃ n, Hid (ys.length = n) := ⟨_, Lib.hid rfl⟩
  rw [hn.out] at HW HRT HO HCP ⊢
  have c0 := HO.out.cell 0
  have c1 := HO.out.cell 1
  have c2 := HO.out.cell 2
  have hz := HO.out.lt
  simp at c0 c1 c2
  go_enter Try.func14, Try.ntmps14
  go_upto_region 1 with fail
  rw [HW.out]
  go_wp2_with (first
    | (go_at_call 23; refine HRT.out.mono ?_; rintro e w1 ⟨rfl, hb1⟩
       have HC1 := Lib.hid (low_chg hb1)
       have HO1 := Lib.hid (HO.out.chg HC1.out (by simp))
       clear hb1 c0 c1 c2 hz
       have c0 := HO1.out.cell 0
       have c1 := HO1.out.cell 1
       have c2 := HO1.out.cell 2
       have hz := HO1.out.lt
       simp at c0 c1 c2)
    | (go_at_call 16; refine (HCP.out _ HC1.out).mono ?_; rintro e w2 ⟨⟨xe, xa, xc, xs, xq⟩, rfl, hx2, hl2, hs2, hc2⟩
       obtain ⟨m, hm⟩ : ∃ n, Hid (xs.length = n) := ⟨_, Lib.hid rfl⟩
       have H2 := Lib.hid (And.intro hx2 (And.intro hl2 (And.intro hs2 hc2)))
       simp only [hm.out]
       clear hx2 hl2 hs2 hc2)
    | fail)
  go_ret2
  have hcw2 := (HC.out.trans HC1.out).trans H2.out.2.2.2
  have hsz := H2.out.2.2.2.size
  have ho3 : Own (w2.alloc (.cells (newT cl id ⟨xe, xa, xc, xs, xq⟩).cs.toArray 58)) w2.heap.size 58 (newT cl id ⟨xe, xa, xc, xs, xq⟩).cs := Own.new w2 _ _
  have ha := (Chg.refl [] w2).alloc (.cells (newT cl id ⟨xe, xa, xc, xs, xq⟩).cs.toArray 58)
  have hws := (HC.out.trans HC1.out).size
  simp only [newT, PrT.cs, prcs, zLyT, hm.out, List.length_nil] at ho3 ha
  refine ⟨w2.heap.size, ⟨xe, xa, xc, xs, xq⟩, rfl, hcw2.size, H2.out.1, Lib.hid ⟨?_, ?_, H2.out.2.2.1, zLyT_p _ _, zLyT_s, fun b hb => (by cases hb), MLs.nil _ _, ⟨by simp [newT, rowOf, Value.ownBlock], fun b hb => (by simp [newT] at hb)⟩, fun x hx => ?_⟩, hcw2.trans ha⟩
  · simp only [newT, PrT.cs, prcs, zLyT, hm.out, List.length_nil]
    exact ho3
  · exact (H2.out.2.1.mono (P' := fun x => w.heap.size ≤ x ∧ x ≠ w2.heap.size) (fun x hx hp => ⟨Nat.le_trans hws hp, by omega⟩)).chg ha (by simp)
  · have := hx.2
    simp [prM, newT, rowOf, Value.ownBlock]
    exact this
theorem Start_first (w : World) (P : Nat → Prop) (p : Nat) (T0 : PrT) (V : Nat → Option Value) (L : List MgT) (h : Prs w P p T0 V L) (hp : T0.ph = 0) (hb : 0 ≤ T0.ba.1 ∧ T0.ba.1 ≤ 65535) (hh : 0 ≤ T0.he.1 ∧ T0.he.1 ≤ 65535) (hL : L.length ≤ 999990) :
    Calls Try.prog 7 #[.pointer (some ⟨p, 0, none⟩)] w fun e w' => e = .returned (.int .i64 0) ∧ ∃ bm v Q, Hid (EnI w P (prM p T0) T0.ov p bm (entT T0 1 bm) L 3 v Q w') := by
  have HE := Lib.hid (enter_one w P p T0 V L h hb hh hL)
  have c5 := h.own.cell 5
  have hz := h.own.lt
  simp [PrT.cs, prcs, hp] at c5
  clear h
  go_enter Try.func7, Try.ntmps7
  go_wp2_with (first | (go_at_call 17; refine HE.out.mono ?_; rintro e w2 ⟨rfl, bm, v, Q, hq⟩) | fail)
  go_ret
  exact ⟨rfl, bm, v, Q, hq⟩
theorem Out_any (w : World) (P : Nat → Prop) (p : Nat) (T0 : PrT) (V : Nat → Option Value) (L : List MgT) (h : Prs w P p T0 V L) :
    Calls Try.prog 10 #[.pointer (some ⟨p, 0, none⟩)] w fun e w' => ∃ a c, e = .returned (.slice a L.length c) ∧ T0.ov = .slice a L.length c ∧ Hid (MLs w' P T0.ov L) ∧ Hid (Prs w' P p (T0.wo (.slice none 0 0)) V []) ∧ Chg [p] w w' := by
  obtain ⟨a, c, hv, _⟩ := h.out.form
  have c17 := h.own.cell 17
  have f17 := h.own.frozen 17
  have hz := h.own.lt
  simp [PrT.cs, prcs, hv] at c17
  have hn := h.ne
  simp only [List.mem_append, not_or] at hn
  have hc : Chg [p] w (w.setCell ⟨p, 17, none⟩ (.slice none 0 0)) := (Chg.refl [p] w).setCell (.inl (by simp)) _
  have hpp : ∀ x, P x → x ∉ [p] := fun x hx hm => by have := h.px x hx; simp only [List.mem_singleton] at hm; simp [prM, hm] at this
  have H1 : Hid (MLs (w.setCell ⟨p, 17, none⟩ (.slice none 0 0)) P T0.ov L) := Lib.hid (h.out.chg hc hpp (fun x hx hm => hn.1.2 (by simp only [List.mem_singleton] at hm; subst hm; exact hx)))
  have H2 : Hid (Prs (w.setCell ⟨p, 17, none⟩ (.slice none 0 0)) P p (T0.wo (.slice none 0 0)) V []) := Lib.hid ⟨h.own.set 17 _, h.wi.chg hc hpp, h.wis, h.ly.chg hc hpp, h.lys, fun b hb => (h.vo b hb).chg hc (fun hm => hn.1.1 (by simp only [List.mem_singleton] at hm; subst hm; simpa [PrT.wo] using hb)), MLs.nil _ _, ⟨by simp only [PrT.wo, List.mem_append, not_or]; exact ⟨hn.1.1, by simp [rowOf, Value.ownBlock]⟩, fun b hb => by simp [PrT.wo, rowOf, Value.ownBlock]⟩, fun x hx => by
    have := h.px x hx
    simp only [prM, List.mem_cons, List.mem_append, not_or] at this
    simp only [prM, PrT.wo, List.mem_cons, List.mem_append, not_or]
    exact ⟨this.1, this.2.1, by simp [rowOf, Value.ownBlock]⟩⟩
  have HC := Lib.hid hc
  obtain ⟨n, hn⟩ : ∃ n, Hid (L.length = n) := ⟨_, Lib.hid rfl⟩
  rw [hn.out] at c17 hv ⊢
  have HV := Lib.hid hv
  clear h hc hpp hv
  go_enter Try.func10, Try.ntmps10
  go_wp2_with fail
  go_ret
  exact ⟨a, c, rfl, HV.out, H1, H2, HC.out⟩
theorem Decided_no (w : World) (p : Nat) (T0 : PrT) (h : Own w p 58 T0.cs) (hp : T0.ph ≠ 3) :
    Calls Try.prog 6 #[.pointer (some ⟨p, 0, none⟩)] w fun e w' => e = .returned (.tuple #[.agg #[.int .u64 0, .slice none 0 0, .int .i64 0], .bool false]) ∧ Chg [] w w' := by
  have c5 := h.cell 5
  have hz := h.lt
  simp [PrT.cs, prcs] at c5
  have b3 : (T0.ph == 3) = false := by simpa using hp
  have b4 : (T0.ph != 3) = true := by simpa using hp
  clear h
  go_enter Try.func6, Try.ntmps6
  go_wp2_with fail
  refine bodyPost_ret (results_row_tmpP Try.results6 _ _ w.heap.size 38 _ (0, 0) _ rfl (Own.new w 38 [.int .u64 0, .slice none 0 0, .int .i64 0]) Try.underlying38 rfl (by kernel_rfl)) rfl ?_
  exact ⟨rfl, (Chg.refl [] w).alloc _⟩
theorem Decided_nil (w : World) :
    Calls Try.prog 6 #[.pointer none] w fun e w' => e = .returned (.tuple #[.agg #[.int .u64 0, .slice none 0 0, .int .i64 0], .bool false]) ∧ Chg [] w w' := by
  go_enter Try.func6, Try.ntmps6
  go_wp2_with fail
  refine bodyPost_ret (results_row_tmpP Try.results6 _ _ w.heap.size 38 _ (0, 0) _ rfl (Own.new w 38 [.int .u64 0, .slice none 0 0, .int .i64 0]) Try.underlying38 rfl (by kernel_rfl)) rfl ?_
  exact ⟨rfl, (Chg.refl [] w).alloc _⟩
theorem Start_nil (w : World) : Calls Try.prog 7 #[.pointer none] w fun e w' => e = .returned (.int .i64 1) ∧ w' = w := by
  go_enter Try.func7, Try.ntmps7
  go_wp2_with fail
  go_ret
  exact ⟨rfl, rfl⟩
theorem Hear_nil (w : World) (A : MgT) : Calls Try.prog 8 #[.pointer none, .agg A.cs.toArray] w fun e w' => e = .returned (.bool false) ∧ Chg [] w w' := by
  go_enter Try.func8, Try.ntmps8
  go_wp2_with fail
  go_ret
  exact ⟨rfl, (Chg.refl [] w).alloc _⟩
theorem PTick_nil (w : World) : Calls Try.prog 9 #[.pointer none] w fun e w' => e = .returned (.int .i64 1) ∧ w' = w := by
  go_enter Try.func9, Try.ntmps9
  go_wp2_with fail
  go_ret
  exact ⟨rfl, rfl⟩
theorem Out_nil (w : World) : Calls Try.prog 10 #[.pointer none] w fun e w' => e = .returned (.slice none 0 0) ∧ w' = w := by
  go_enter Try.func10, Try.ntmps10
  go_wp2_with fail
  go_ret
  exact ⟨rfl, rfl⟩
theorem Ballot_nil (w : World) : Calls Try.prog 11 #[.pointer none] w fun e w' => e = .returned (.agg #[.int .i64 0, .int .i64 0]) ∧ Chg [] w w' := by
  go_enter Try.func11, Try.ntmps11
  go_wp2_with fail
  refine bodyPost_ret (results_cell_row Try.results11 _ _ w.heap.size 35 _ (0, 0) _ rfl (Own.new w 35 [.int .i64 0, .int .i64 0]) Try.underlying35 rfl (by kernel_rfl)) rfl ?_
  exact ⟨rfl, (Chg.refl [] w).alloc _⟩
/-- the layout of a wish: one unit -/
def wiY (e : Nat) (u : Int) : Ly := ⟨e, [(0, [[u]])], 0⟩
theorem lit_y (w : World) (u : Int) (e s : Nat) (hs : w.heap.size = s) : ∀ W, ((w.alloc (.cells #[.int .i64 u] 3)).alloc (.cells #[.slice (some ⟨s, 0, none⟩) 1 1] 33)).alloc (.cells #[.int .u64 0, .slice (some ⟨s + 1, 0, none⟩) 1 1] 67) = W →
    LyIn W W.heap.size ⟨e, some ⟨s + 1 + 1, 0, none⟩, 1, [⟨0, some ⟨s + 1, 0, none⟩, 1, [⟨some ⟨s, 0, none⟩, 1, [u]⟩]⟩], 0⟩ ∧ Chg [] w W := by
  intro W hW
  subst hs
  have o1 : Own W w.heap.size 3 [.int .i64 u] := by rw [← hW]; exact ((Own.new w _ _).alloc _).alloc _
  have o2 : Own W (w.heap.size + 1) 33 [.slice (some ⟨w.heap.size, 0, none⟩) 1 1] := by
    rw [← hW]
    have := (Own.new (w.alloc (.cells #[.int .i64 u] 3)) 33 [.slice (some ⟨w.heap.size, 0, none⟩) 1 1]).alloc (.cells #[.int .u64 0, .slice (some ⟨w.heap.size + 1, 0, none⟩) 1 1] 67)
    simpa using this
  have o3 : Own W (w.heap.size + 1 + 1) 67 [.int .u64 0, .slice (some ⟨w.heap.size + 1, 0, none⟩) 1 1] := by
    rw [← hW]
    have := Own.new ((w.alloc (.cells #[.int .i64 u] 3)).alloc (.cells #[.slice (some ⟨w.heap.size, 0, none⟩) 1 1] 33)) 67 [.int .u64 0, .slice (some ⟨w.heap.size + 1, 0, none⟩) 1 1]
    simpa using this
  refine ⟨⟨o3.ro _ o3.lt, fun s hs => ?_⟩, by rw [← hW]; exact (((Chg.refl [] w).alloc _).alloc _).alloc _⟩
  simp only [List.mem_singleton] at hs
  subst hs
  refine ⟨o2.ro _ o2.lt, fun c hc => ?_⟩
  simp only [List.mem_singleton] at hc
  subst hc
  exact o1.ro _ o1.lt
theorem wish_any (e : Nat) (u : Int) (w : World) :
    Calls Try.prog 15 #[.int .u64 (e : Int), .int .i64 u] w fun r w' => ∃ Y : LyT, r = .returned Y.val ∧ Y.x = wiY e u ∧ LyIn w' w'.heap.size Y ∧ SgFit Y.sg ∧ Chg [] w w' := by
  go_enter Try.func15, Try.ntmps15
  go_wp2_with fail
  have hs : (w.alloc (.cells #[.int .u64 (e : Int), .slice (some ⟨w.heap.size + 1 + 1 + 1, 0, none⟩) 1 1, .int .i64 0] 38)).heap.size = w.heap.size + 1 := World.size_alloc _ _
  obtain ⟨W, hW⟩ : ∃ W, (((w.alloc (.cells #[.int .u64 (e : Int), .slice (some ⟨w.heap.size + 1 + 1 + 1, 0, none⟩) 1 1, .int .i64 0] 38)).alloc (.cells #[.int .i64 u] 3)).alloc (.cells #[.slice (some ⟨w.heap.size + 1, 0, none⟩) 1 1] 33)).alloc (.cells #[.int .u64 0, .slice (some ⟨w.heap.size + 1 + 1, 0, none⟩) 1 1] 67) = W := ⟨_, rfl⟩
  obtain ⟨h1, h2⟩ := lit_y _ u e _ hs W hW
  have ho : Own W w.heap.size 38 [.int .u64 (e : Int), .slice (some ⟨w.heap.size + 1 + 1 + 1, 0, none⟩) 1 1, .int .i64 0] := (Own.new w _ _).chg h2 (by simp)
  rw [hW]
  refine bodyPost_ret (results_cell_row Try.results15 _ _ w.heap.size 38 _ (0, 0) _ rfl ho Try.underlying38 rfl (by kernel_rfl)) rfl ?_
  exact ⟨_, rfl, rfl, h1, ⟨by simp, fun s hs => by simp only [List.mem_singleton] at hs; subst hs; exact ⟨by simp, fun c hc => by simp only [List.mem_singleton] at hc; subst hc; simp⟩⟩, ((Chg.refl [] w).alloc _).trans h2⟩
end Go.Proofs.Ytcadnlilijkneaa
namespace Go.Proofs.Ytcadnlilijkneaa
open Go.RowKit Go.Maps Go.Shelf Go.Deep
set_option linter.unusedVariables false
set_option linter.unusedSimpArgs false

theorem list3 {α : Type} {Q : List α} {a b c : α} (hl : Q.length = 3) (h0 : Q[0]? = some a) (h1 : Q[1]? = some b) (h2 : Q[2]? = some c) : Q = [a, b, c] := by
  match Q, hl with
  | [q0, q1, q2], _ =>
    have e0 : q0 = a := Option.some.inj h0
    have e1 : q1 = b := Option.some.inj h1
    have e2 : q2 = c := Option.some.inj h2
    rw [e0, e1, e2]
theorem Ques.three {T : PrT} {Q : List MgT} (h : Ques T 3 Q) : ∃ y0 y1 y2 : LyT, Q = [queT (kd T.ph) T.cl T.id T.wi.e T.ba 0 y0, queT (kd T.ph) T.cl T.id T.wi.e T.ba 1 y1, queT (kd T.ph) T.cl T.id T.wi.e T.ba 2 y2] ∧ (y0.x = (if T.ph = 2 then T.ly.x else zLyT.x) ∧ y1.x = (if T.ph = 2 then T.ly.x else zLyT.x) ∧ y2.x = (if T.ph = 2 then T.ly.x else zLyT.x)) ∧ LyS y0 ∧ LyS y1 ∧ LyS y2 := by
  have hl := h.1
  obtain ⟨y0, a0, b0, c0⟩ := h.2 0 (by omega)
  obtain ⟨y1, a1, b1, c1⟩ := h.2 1 (by omega)
  obtain ⟨y2, a2, b2, c2⟩ := h.2 2 (by omega)
  refine ⟨y0, y1, y2, ?_, ⟨b0, b1, b2⟩, c0, c1, c2⟩
  exact list3 hl a0 a1 a2
/-- the cells of a list of messages in a row of its own -/
theorem MLs.cells {w : World} {P : Nat → Prop} {a : Option Addr} {n c : Nat} {L : List MgT} (h : MLs w P (.slice a n c) L) (h0 : 0 < L.length) : ∃ g, a = some ⟨g, 0, none⟩ ∧ n = L.length ∧ g < w.heap.size ∧ ∀ i (hi : i < (mgv L).length), w.cell? ⟨g, i, none⟩ = some (mgv L)[i] := by
  rcases h.row.2 with ⟨_, hn⟩ | ⟨g, cap, cur, hv, hrest⟩
  · omega
  · injection hv with ha hn hc
    subst ha hn hc
    exact ⟨g, rfl, rfl, (World.ownsRow.lt h.row g rfl).2, fun i hi => (World.ownsRow.cellAt h.row i (by rw [mgv_length] at hi; exact hi)).trans (List.getElem?_eq_getElem hi)⟩
theorem eqIn_ballotP (a b a' b' : Int) (w : World) : (Op.equalIn 10000 35 (.agg #[.int .i64 a, .int .i64 b]) (.agg #[.int .i64 a', .int .i64 b'])).run Try.prog w = .ok (decide (a = a' ∧ b = b')) w := by
  have g0 : ∀ (x y : Value), (part 3 #[x, y] 0).run Try.prog w = .ok x w := fun x y => run_part_cell Try.underlying3 rfl w
  have g1 : ∀ (x y : Value), (part 3 #[x, y] 1).run Try.prog w = .ok y w := fun x y => run_part_cell Try.underlying3 rfl w
  have ge : ∀ (x y : Int), (Op.equalIn 9999 3 (.int .i64 x) (.int .i64 y)).run Try.prog w = .ok (x == y) w := fun x y => run_equalIn_int w 9998 3 .i64 .i64 _ _ Try.underlying3
  refine (run_equalIn_struct w 9999 35 _ _ (by kernel_rfl) (by kernel_rfl)).trans ?_
  simp [Program.fieldsOf, Try.underlying35, Op.eqFields, g0, g1, ge]
  by_cases h1 : a = a'
  · by_cases h2 : b = b' <;> simp [h1, h2]
  · simp [h1]
theorem eq_ballotP (a b : Int) (w : World) : (binOp .eql 35 (.agg #[.int .i64 a, .int .i64 b]) (.agg #[.int .i64 a, .int .i64 b])).run Try.prog w = .ok (.bool true) w := by
  rw [run_eql_struct, eqIn_ballotP]; simp
set_option maxHeartbeats 8000000 in
set_option maxRecDepth 100000 in
theorem alive13_any (w : World) : Calls Try.prog 5 #[] w fun e w' => e = .returned (.bool true) ∧ Chg [] w w' := by
  have HWI := Lib.hid (wish_any 3 1 w)
  go_enter Try.func5, Try.ntmps5
  go_upto_region 2 with (first
    | (go_at_call 15; refine HWI.out.mono ?_; rintro e w1 ⟨Y, rfl, hY, hin, hf, hc1⟩
       have HNW := Lib.hid (New_ok 2 5 Y w1 (by omega) (by omega) hin hf (by rw [hY]; decide))
       have HC1 := Lib.hid hc1
       clear hY hin hf hc1)
    | (go_at_call 14; refine HNW.out.mono ?_; rintro e w2 ⟨p, y, rfl, hge, hyx, HP2, hc2⟩
       have HC2 := Lib.hid (HC1.out.trans hc2)
       have HGE : Hid (w.heap.size ≤ p) := Lib.hid (Nat.le_trans HC1.out.size hge)
       clear hge hyx hc2)
    | fail)
  have HST := Lib.hid (Start_first w2 _ p _ _ _ HP2.out rfl (by simp [newT]) (by simp [newT]) (by simp))
  go_upto_region 5 with (first
    | (go_at_call 7; refine HST.out.mono ?_; rintro e w3 ⟨rfl, bm, v, Q, HI⟩)
    | fail)
  have HP3 := Lib.hid (EnI.prs HI.out rfl (by exact HP2.out.wis) (by exact HP2.out.wis))
  have HCH : Hid (Chg [] w w3) := Lib.hid (HC2.out.then HI.out.chg (fun x hx => by
    simp [prM, newT, rowOf, Value.ownBlock] at hx
    subst hx
    exact .inr HGE.out))
  obtain ⟨y0, y1, y2, rfl, _, _⟩ := Ques.three HI.out.q
  have HOU := Lib.hid (Out_any _ _ _ _ _ _ HP3.out)
  clear HST HNW HWI
  go_upto_region 6 with (first
    | (go_at_call 10; refine HOU.out.mono ?_; rintro e w4 ⟨a, c, rfl, hv, HML, HP4, hc4⟩)
    | fail)
  have hml := HML.out
  rw [hv] at hml
  obtain ⟨g, rfl, _, hg, hcells⟩ := hml.cells (by simp)
  have HDE := Lib.hid (Decided_no w4 p _ HP4.out.own (by simp [PrT.wo, entT]))
  have HCH4 : Hid (Chg [] w w4) := Lib.hid (HCH.out.then hc4 (fun x hx => by
    simp only [List.mem_singleton] at hx
    subst hx
    exact .inr HGE.out))
  have HCL : Hid (∀ V, Chg [] w4 V → V.cell? ⟨g, 48, none⟩ = some (.int .i64 2) ∧ V.cell? ⟨g, 0, none⟩ = some (.int .i64 11) ∧ V.cell? ⟨g, 15, none⟩ = some (.int .i64 1) ∧ V.cell? ⟨g, 16, none⟩ = some (.int .i64 2) ∧ g < V.heap.size) := Lib.hid fun V hV =>
    ⟨hV.cell ((hcells 48 (by rw [mgv_length]; simp)).trans rfl) (by simp), hV.cell ((hcells 0 (by rw [mgv_length]; simp)).trans rfl) (by simp), hV.cell ((hcells 15 (by rw [mgv_length]; simp)).trans rfl) (by simp), hV.cell ((hcells 16 (by rw [mgv_length]; simp)).trans rfl) (by simp), Nat.lt_of_lt_of_le hg hV.size⟩
  clear hml hcells hg hc4 hv
  go_upto_region 7 with (first
    | (go_at_call 6; refine HDE.out.mono ?_; rintro e w5 ⟨rfl, hc5⟩)
    | fail)
  obtain ⟨d48, d0, d15, d16, dz⟩ := HCL.out _ hc5
  have hpl := eqIn_ballotP
  go_wp2_with fail
  go_ret
  exact ⟨rfl, (HCH4.out.trans hc5).alloc _⟩
end Go.Proofs.Ytcadnlilijkneaa
