/-
  Same of messages that are the same. No claim of its own.
-/
import Derived.Test.YteenlkmnadjnpaaGreatH17
import Derived.Deep.RegionHeld3
import Derived.Deep.AppendLies
import Derived.Great.BuildSlice
import Derived.Test.YteenlkmnadjnpaaGreatH7
namespace Go.Proofs.YteenlkmnadjnpaaGreat
open Go.RowKit Go.Deep Go.Shelf
set_option linter.unusedVariables false
set_option linter.unusedSimpArgs false

theorem MgT.hd_x {A C : MgT} (h : A.x = C.x) : C.hd = A.hd := by
  unfold MgT.x at h
  injection h with h1 h2 h3 h4 h5 h6 h7 h8 h9 h10 h11 h12 h13 h14
  unfold MgT.hd
  rw [h1, h2, h3, h4, h5, h6, h7, h8, h12, h13]
/-- two messages in two blocks, their cells -/
def MS (W V : World) (p q : Nat) (A C : MgT) : Prop := Below W.heap.size W V ∧ Own V p 40 A.cs ∧ Own V q 40 C.cs
theorem ms_all {W V : World} {p q : Nat} {A C : MgT} (h0 : Below W.heap.size W V) (h1 : Own V p 40 A.cs) (h2 : Own V q 40 C.cs) : Below W.heap.size W V ∧ Own V p 40 A.cs ∧ Own V q 40 C.cs ∧ V.cell? ⟨p, 10, none⟩ = some (.int .i64 A.c.k) ∧ V.cell? ⟨p, 11, none⟩ = some (.slice A.ca A.c.d.length A.cc) ∧ V.cell? ⟨p, 12, none⟩ = some (.slice A.ca2 A.c.b.length A.cc2) ∧ V.cell? ⟨p, 13, none⟩ = some (.slice A.sa A.st.length A.sc) ∧ V.cell? ⟨p, 14, none⟩ = some (.slice A.ka A.bk.length A.kc) ∧ V.cell? ⟨p, 19, none⟩ = some (.int .u64 (A.ly.e : Int)) ∧ V.cell? ⟨p, 20, none⟩ = some (.slice A.ly.a A.ly.sg.length A.ly.c) ∧ V.cell? ⟨p, 21, none⟩ = some (.int .i64 A.ly.q) ∧ V.cell? ⟨q, 10, none⟩ = some (.int .i64 C.c.k) ∧ V.cell? ⟨q, 11, none⟩ = some (.slice C.ca C.c.d.length C.cc) ∧ V.cell? ⟨q, 12, none⟩ = some (.slice C.ca2 C.c.b.length C.cc2) ∧ V.cell? ⟨q, 13, none⟩ = some (.slice C.sa C.st.length C.sc) ∧ V.cell? ⟨q, 14, none⟩ = some (.slice C.ka C.bk.length C.kc) ∧ V.cell? ⟨q, 19, none⟩ = some (.int .u64 (C.ly.e : Int)) ∧ V.cell? ⟨q, 20, none⟩ = some (.slice C.ly.a C.ly.sg.length C.ly.c) ∧ V.cell? ⟨q, 21, none⟩ = some (.int .i64 C.ly.q) :=
  ⟨h0, h1, h2, (h1.cell 10).trans rfl, (h1.cell 11).trans rfl, (h1.cell 12).trans rfl, (h1.cell 13).trans rfl, (h1.cell 14).trans rfl, (h1.cell 19).trans rfl, (h1.cell 20).trans rfl, (h1.cell 21).trans rfl, (h2.cell 10).trans rfl, (h2.cell 11).trans rfl, (h2.cell 12).trans rfl, (h2.cell 13).trans rfl, (h2.cell 14).trans rfl, (h2.cell 19).trans rfl, (h2.cell 20).trans rfl, (h2.cell 21).trans rfl⟩
theorem run_loadMgX {o : Oper} {a : Act} {w : World} (x : Operand) (ho : o.op = .load 40 x) (b : Nat) (hx : a.eval x = .pointer (some ⟨b, 0, none⟩)) (A : MgT) (hr : Own w b 40 A.cs) : (execOp a.eval o).run Tryz.prog w = .ok (.value (.agg A.cs.toArray)) w := by
  unfold execOp
  simp only [ho, hx, Instr.loadAt, Instr.sureAddr, Sem.run_bind, Sem.run_pure, Result.andThen_ok, run_loadVar_mid w b 0 40 A.cs _ hr.range Tryz.underlying40 rfl infoMg]
end Go.Proofs.YteenlkmnadjnpaaGreat
namespace Go.Proofs.YteenlkmnadjnpaaGreat
open Go.RowKit Go.Maps Go.Sort Go.Shelf Go.Deep
set_option linter.unusedVariables false
set_option linter.unusedSimpArgs false

/-- a message is stored whole, at a step of a region that draws its order -/
theorem step_storeMg {ops : Array Oper} {o : Oper} {a : Act} {w : World} {K : Act → World → Prop} {Q : Exit → Act → World → Prop} {E : Prop} (hgd : o.guard = none) (x y : Operand) (ho : o.op = .store 40 x y) (b : Nat) (hx : a.eval x = .pointer (some ⟨b, 0, none⟩)) (A : MgT) (hy : a.eval y = .agg A.cs.toArray) (old : List Value) (hr : Own w b 40 old) (hl : old.length = 22)
    (h : ∀ w', Own w' b 40 A.cs → Chg [b] w w' → K (a.put o.dst undef) w') : if Region.wanted o (yielded ops a.tmps) = true then Oper.wp Tryz.prog o a w K Q else E := by
  have hw : Region.wanted o (yielded ops a.tmps) = true := by simp [Region.wanted, hgd]
  rw [if_pos hw]
  refine wp_store_mid _ x y ho b 0 A.cs.toArray hx hy (fun j hj => ?_) infoMg (all_oneCell_toArray A.one) (h _ ?_ ?_)
  · have hj' : j < 22 := hj
    rw [Nat.zero_add, hr.cell j]
    exact ⟨by simp [hl, hj'], hr.frozen j⟩
  · exact own_setCells A.cs [] old w hr (by rw [hl]; rfl)
  · exact (Chg.refl [b] w).setCells (.inl (by simp)) 0 _
theorem results_row_tmp2 {P : Program} {fn : Func} {p u v : Tmp} {ty : TypeId} (h : fn.results = #[.cell p ty, .tmp u, .tmp v]) (tmps : Array Value) (w : World) (g : Nat) (t : TypeId) (cs : Array Value) (fr : Nat × Nat) (d : TypeDesc)
    (hp : tmps.getD p undef = .pointer (some ⟨g, 0, none⟩)) (hg : w.heap[g]? = some (.cells cs t fr))
    (hu : P.underlying ty = some d) (hd : (match d with | .struct _ | .array _ _ => true | _ => false) = true) (hi : (P.info? ty).map (·.size) = some cs.size) :
    (results fn tmps).run P w = .ok (.tuple #[.agg cs, tmps.getD u undef, tmps.getD v undef]) w := by
  have hp' : tmps[p]?.getD undef = .pointer (some ⟨g, 0, none⟩) := by simpa using hp
  simp [results, h, hp', asAddr, run_loadVar_row w g t ty cs fr d hg hu hd hi]
/-- what Take tells, and leaves -/
structure TakR (S : SpS) (i : Int) (T : MgT) (u : Bool) (g : Int) : Prop where
  yes : ∀ k, keyAt S.L i = some k → T.x = pMg k ∧ u = !S.F (pMg k).to ∧ g = 0
  no : keyAt S.L i = none → T = zmT ∧ u = false ∧ g = 1
set_option maxHeartbeats 8000000 in
set_option maxRecDepth 100000 in
theorem Take_x (xs : List Nat) {w : World} {p b d : Nat} {S : SpS} (h : Sp w p b d S) (i : Int) (hxs : ∀ x ∈ xs, x < w.heap.size) :
    Calls Tryz.prog 34 #[.pointer (some ⟨p, 0, none⟩), .int .i64 i] w fun e w' => ∃ T u g, e = .returned (.tuple #[.agg T.cs.toArray, .bool u, .int .i64 g]) ∧ TakR S i T u g ∧ MgFit T ∧ MgIn w' w'.heap.size T ∧ MgX w' w.heap.size xs T ∧ Sp w' p b d (S.take i) ∧ Chg [p, b] w w' := by
  obtain ⟨W, HWW⟩ : ∃ W, Hid (w.alloc (.cells #[.int .i64 0, .int .i64 0, .int .i64 0, .int .i64 0, .int .i64 0, .int .i64 0, .int .i64 0, .int .u64 0, .int .u64 0, .int .i64 0, .int .i64 0, .slice none 0 0, .slice none 0 0, .slice none 0 0, .slice none 0 0, .int .i64 0, .int .i64 0, .int .i64 0, .int .i64 0, .int .u64 0, .slice none 0 0, .int .i64 0] 40) = W) := ⟨_, Lib.hid rfl⟩
  have hWc : Chg [] w W := by rw [← HWW.out]; exact (Chg.refl [] w).alloc _
  have o1 : Own W w.heap.size 40 zmT.cs := by rw [← HWW.out]; exact Own.new w _ zmT.cs
  have hS := h.kept hWc
  have HK := Lib.hid (key_any hS i)
  have HS := Lib.hid hS
  have HC := Lib.hid hWc
  have HO := Lib.hid o1
  have HLT := Lib.hid h.lt
  have HXS := Lib.hid hxs
  have HF := Lib.hid (fun k (hk : keyAt S.L i = some k) => keyAt_mem hk)
  unfold SpS.take
  cases hk : keyAt S.L i with
  | none =>
    rw [keyR_none hk] at HK
    have HN := Lib.hid hk
    clear hk h hWc o1 hS hxs
    go_enter Tryz.func34, Tryz.ntmps34
    go_upto_region 1 with fail
    rw [HWW.out]
    go_wp2_with fail
    refine HK.out.mono ?_
    rintro e w1 ⟨rfl, hc⟩
    have HS1 := Lib.hid (HS.out.kept hc)
    have HC1 := Lib.hid (HC.out.trans hc)
    have HO1 := Lib.hid (HO.out.chg hc (by simp))
    clear hc
    go_wp2_with (refine wpList_storeMg rfl (.tmp 4) (.tmp 18) rfl w.heap.size rfl zmT rfl zmT.cs HO1.out rfl ?_)
    intro w2 ho hc
    have HO2 := Lib.hid ho
    have HS2 := Lib.hid (HS1.out.chg hc (by have := HLT.out p (by simp); simp; omega) (by have := HLT.out b (by simp); simp; omega) (by have := HLT.out d (by simp); simp; omega))
    have HC2 := Lib.hid (HC1.out.then hc (fun x hx => by simp only [List.mem_singleton] at hx; subst hx; exact .inr (Nat.le_refl _)))
    clear ho hc
    go_wp2_with fail
    refine bodyPost_ret (results_row_tmp2 Tryz.results34 _ _ w.heap.size 40 _ (0, 0) _ rfl HO2.out Tryz.underlying40 rfl (by kernel_rfl)) rfl ?_
    exact ⟨zmT, false, 1, rfl, ⟨fun k hk => (by rw [HN.out] at hk; cases hk), fun _ => ⟨rfl, rfl, rfl⟩⟩, zmT_fit, zmT_in _ _, zmT_x _ _ _, HS2.out, HC2.out.mono (by simp)⟩
  | some k =>
    rw [keyR_some hk] at HK
    have HM := Lib.hid (And.intro (keyAt_mem hk) (h.enc k (keyAt_mem hk)))
    have HN := Lib.hid hk
    have hto := (mright_all (h.enc k (keyAt_mem hk)).1).to
    have HPW : Hid (Pw (pMg k).to) := Lib.hid ⟨by omega, by omega⟩
    clear hk h hWc o1 hS hxs hto
    go_enter Tryz.func34, Tryz.ntmps34
    go_upto_region 1 with fail
    rw [HWW.out]
    go_wp2_with fail
    refine HK.out.mono ?_
    rintro e w1 ⟨rfl, hc⟩
    have HS1 := Lib.hid (HS.out.kept hc)
    have HC1 := Lib.hid (HC.out.trans hc)
    have HO1 := Lib.hid (HO.out.chg hc (by simp))
    have HRM := Lib.hid (remove_any HS1.out k HM.out.1)
    clear hc
    go_wp2_with fail
    refine HRM.out.mono ?_
    rintro e w2 ⟨rfl, hs, hc⟩
    have HS2 := Lib.hid hs
    have HC2 := Lib.hid ((HC1.out.mono (l' := [p, b]) (by simp)).trans hc)
    have HO2 := Lib.hid (HO1.out.chg hc (by have h1 := HLT.out p (by simp); have h2 := HLT.out b (by simp); simp; omega))
    have HMO := Lib.hid (messageOf_x (w.heap.size :: xs) k HM.out.2 w2 (fun x hx => by
      have h1 := HO2.out.lt
      rcases List.mem_cons.1 hx with rfl | hx
      · exact h1
      · have := HXS.out x hx; omega))
    clear hs hc
    go_wp2_with fail
    refine HMO.out.mono ?_
    rintro e w3 ⟨T, rfl, hx, hf, hin, hxx, hb⟩
    have hc3 := (Chg.refl [] w2).of_below hb
    have HX := Lib.hid hx
    have HF := Lib.hid hf
    have HXX := Lib.hid (hxx.base HC2.out.size)
    have HS3 := Lib.hid (HS2.out.kept hc3)
    have HC3 := Lib.hid (HC2.out.trans (hc3.mono (by simp)))
    have HO3 := Lib.hid (HO2.out.chg hc3 (by simp))
    have HZ := Lib.hid (Own.new w3 40 zmT.cs)
    clear hx hf hin hxx hb hc3
    go_wp2_with (refine wpList_storeMg rfl (.tmp 9) (.tmp 24) rfl w3.heap.size rfl T rfl zmT.cs HZ.out rfl ?_)
    intro w4 ho hc
    have hc4 : Chg [] w3 w4 := ((Chg.refl [] w3).alloc _).then hc (fun x hx => by simp only [List.mem_singleton] at hx; subst hx; exact .inr (Nat.le_refl _))
    have HX4 := Lib.hid (HXX.out.below hc4.low)
    have HC4 := Lib.hid (HC3.out.trans (hc4.mono (by simp)))
    have HO4 := Lib.hid (HO3.out.chg hc4 (by simp))
    have HS4 := Lib.hid (HS3.out.kept hc4)
    have HPL : Hid (w.heap.size < w3.heap.size) := Lib.hid HO3.out.lt
    obtain ⟨pt, hp⟩ : ∃ p, w3.heap.size = p := ⟨_, rfl⟩
    rw [hp] at ho HPL ⊢
    have HP4 := Lib.hid ho
    clear ho hc hc4 hp HZ HS3 HC3 HO3 HXX
    obtain ⟨rb, hrb⟩ : ∃ r, w.heap.size = r := ⟨_, rfl⟩
    have HRB := Lib.hid hrb
    have HID : Hid (∀ V, Chg [rb] w4 V → Calls Tryz.prog 30 #[.pointer (some ⟨p, 0, none⟩), .agg #[.int .i64 T.to.1, .int .i64 T.to.2]] V fun e w' => e = .returned (.bool (S.F (pMg k).to)) ∧ Chg [] V w') := Lib.hid fun V hV => by
      have h1 := HLT.out p (by simp)
      have h2 := HLT.out b (by simp)
      have h3 := HLT.out d (by simp)
      have hSV := HS4.out.chg hV (by simp; omega) (by simp; omega) (by simp; omega)
      have e1 : T.to = (pMg k).to := by rw [← HX.out]; rfl
      have := IsDown_any hSV (pMg k).to HPW.out
      rw [e1]
      exact this
    have HOT : Hid (∀ V, Chg [rb] w4 V → Own V pt 40 T.cs) := Lib.hid fun V hV => HP4.out.chg hV (by have := HPL.out; simp; omega)
    have HCT : Hid (∀ V, Chg [rb] w4 V → V.cell? ⟨pt, 3, none⟩ = some (.int .i64 T.to.1) ∧ V.cell? ⟨pt, 4, none⟩ = some (.int .i64 T.to.2) ∧ pt < V.heap.size) := Lib.hid fun V hV =>
      ⟨((HOT.out V hV).cell 3).trans rfl, ((HOT.out V hV).cell 4).trans rfl, (HOT.out V hV).lt⟩
    obtain ⟨u, hu⟩ : ∃ u, S.F (pMg k).to = u := ⟨_, rfl⟩
    rw [hu] at HID
    have HU := Lib.hid hu
    rw [hrb] at HO4 ⊢
    clear hu hrb
    go_upto_region 6 with fail
    refine wp_region_held_drew (S := (fun V => Chg [rb] w4 V ∧ (∃ old, Own V rb 40 old ∧ old.length = 22) ∧ V.cell? ⟨pt, 3, none⟩ = some (.int .i64 T.to.1) ∧ V.cell? ⟨pt, 4, none⟩ = some (.int .i64 T.to.2) ∧ pt < V.heap.size)) (by kernel_rfl) ⟨(Chg.refl _ _).drew, ⟨_, HO4.out, rfl⟩, HCT.out _ (Chg.refl _ _).drew⟩ fun hHeld => ?_
    refine wpAnyH_take (i := 0) (v := .agg T.cs.toArray) rfl (by kernel_rfl) (by kernel_rfl) (by kernel_rfl) (fun _ _ _ h => h) (Or.inl ⟨by kernel_rfl, ?_⟩) hHeld ?_
    · (intro w hSw; exact run_loadMgX (.tmp 9) rfl pt rfl T (HOT.out w hSw.1))
    (try simp only [Act.put, List.getElem_toArray, List.getElem_cons_succ, List.getElem_cons_zero, List.setIfInBounds_toArray, List.set_cons_zero, List.set_cons_succ])
    refine wpAnyH_take (i := 1) (v := ?_) rfl (by kernel_rfl) (by kernel_rfl) (by kernel_rfl) (fun _ _ _ h => h) (Or.inl ⟨by kernel_rfl, ?_⟩) hHeld ?_
    rotate_left
    · (intro w hSw; first | (go_simp; done) | (go_simp; with_reducible rfl))
    (try simp only [Act.put, List.getElem_toArray, List.getElem_cons_succ, List.getElem_cons_zero, List.setIfInBounds_toArray, List.set_cons_zero, List.set_cons_succ])
    refine wpAnyH_take (i := 2) (v := ?_) rfl (by kernel_rfl) (by kernel_rfl) (by kernel_rfl) (fun _ _ _ h => h) (Or.inl ⟨by kernel_rfl, ?_⟩) hHeld ?_
    rotate_left
    · (intro w hSw; first | (go_simp; done) | (go_simp; with_reducible rfl))
    (try simp only [Act.put, List.getElem_toArray, List.getElem_cons_succ, List.getElem_cons_zero, List.setIfInBounds_toArray, List.set_cons_zero, List.set_cons_succ])
    refine wpAnyH_take (i := 3) (v := ?_) rfl (by kernel_rfl) (by kernel_rfl) (by kernel_rfl) (fun _ _ _ h => h) (Or.inl ⟨by kernel_rfl, ?_⟩) hHeld ?_
    rotate_left
    · (intro w hSw; first | (go_simp; done) | (go_simp; with_reducible rfl))
    (try simp only [Act.put, List.getElem_toArray, List.getElem_cons_succ, List.getElem_cons_zero, List.setIfInBounds_toArray, List.set_cons_zero, List.set_cons_succ])
    refine wpAnyH_ready (rs := [4]) (by kernel_rfl) (by simp) (AllReadyH.cons rfl (fun K hK => ?_) AllReadyH.nil)
    have hH := hHeld
    (go_simp; go_at_call 30; refine (HID.out _ hH.1).mono ?_; rintro e w9 ⟨rfl, hb9⟩)
    refine hK.out _ _ (by have hb9' : Chg [rb] w4 w9 := hH.1.trans (hb9.mono (by simp)); exact ⟨hb9', hH.2.1.elim (fun old ho => ⟨old, ho.1.chg hb9 (by simp), ho.2⟩), HCT.out _ hb9'⟩) (fun hHq1 => ?_)
    clear hK K hH 
    (try simp only [Act.put, List.getElem_toArray, List.getElem_cons_succ, List.getElem_cons_zero, List.setIfInBounds_toArray, List.set_cons_zero, List.set_cons_succ])
    refine wpAnyH_take (i := 5) (v := ?_) rfl (by kernel_rfl) (by kernel_rfl) (by kernel_rfl) (fun _ _ _ h => h) (Or.inl ⟨by kernel_rfl, ?_⟩) hHq1 ?_
    rotate_left
    · (intro w hSw; first | (go_simp; done) | (go_simp; with_reducible rfl))
    (try simp only [Act.put, List.getElem_toArray, List.getElem_cons_succ, List.getElem_cons_zero, List.setIfInBounds_toArray, List.set_cons_zero, List.set_cons_succ])
    refine wpAnyH_ready (rs := [6]) (by kernel_rfl) (by simp) (AllReadyH.cons rfl (fun K hK => ?_) AllReadyH.nil)
    have hH := hHq1
    (obtain ⟨old, ho, hl⟩ := hH.2.1; refine step_storeMg (by rfl) (.tmp 4) (.tmp 25) (by rfl) rb (by rfl) T (by rfl) old ho hl ?_; intro w5 ho5 hc5)
    refine hK.out _ _ (by have hb9' := hH.1.trans hc5; exact ⟨hb9', ⟨_, ho5, rfl⟩, HCT.out _ hb9'⟩) (fun hHq2 => ?_)
    clear hK K hH hHq1
    have HO5 := Lib.hid ho5
    (try simp only [Act.put, List.getElem_toArray, List.getElem_cons_succ, List.getElem_cons_zero, List.setIfInBounds_toArray, List.set_cons_zero, List.set_cons_succ])
    refine wpAnyH_take (i := 7) (v := ?_) rfl (by kernel_rfl) (by kernel_rfl) (by kernel_rfl) (fun _ _ _ h => h) (Or.inl ⟨by kernel_rfl, ?_⟩) hHq2 ?_
    rotate_left
    · (intro w hSw; first | (go_simp; done) | (go_simp; with_reducible rfl))
    (try simp only [Act.put, List.getElem_toArray, List.getElem_cons_succ, List.getElem_cons_zero, List.setIfInBounds_toArray, List.set_cons_zero, List.set_cons_succ])
    refine wpAnyH_take (i := 8) (v := ?_) rfl (by kernel_rfl) (by kernel_rfl) (by kernel_rfl) (fun _ _ _ h => h) (Or.inl ⟨by kernel_rfl, ?_⟩) hHq2 ?_
    rotate_left
    · (intro w hSw; first | (go_simp; done) | (go_simp; with_reducible rfl))
    (try simp only [Act.put, List.getElem_toArray, List.getElem_cons_succ, List.getElem_cons_zero, List.setIfInBounds_toArray, List.set_cons_zero, List.set_cons_succ])
    refine wpAnyH_done (by kernel_rfl) ?_ _
    have hEnd := hHq2
    have HE := Lib.hid hEnd.1
    clear hHeld hEnd
    go_wp2_with fail
    refine bodyPost_ret (results_row_tmp2 Tryz.results34 _ _ rb 40 _ (0, 0) _ rfl HO5.out Tryz.underlying40 rfl (by kernel_rfl)) rfl ?_
    have h1 := HLT.out p (by simp)
    have h2 := HLT.out b (by simp)
    have h3 := HLT.out d (by simp)
    have e0 := HRB.out
    have hX5 := HX4.out.own (l' := xs) HE.out (by rw [e0]; simp) HO4.out (fun x hx => by simp [hx])
    refine ⟨T, !u, 0, rfl, ⟨fun k2 hk2 => ?_, fun hk2 => (by rw [HN.out] at hk2; cases hk2)⟩, HF.out, hX5.inn, hX5, HS4.out.chg HE.out (by simp; omega) (by simp; omega) (by simp; omega), ?_⟩
    · rw [HN.out] at hk2
      injection hk2 with hk2
      subst hk2
      exact ⟨HX.out, by rw [HU.out], rfl⟩
    · exact HC4.out.then HE.out (fun x hx => by simp only [List.mem_singleton] at hx; subst hx; exact .inr (by omega))
set_option maxHeartbeats 8000000 in
set_option maxRecDepth 100000 in
theorem Take_nil (i : Int) (w : World) :
    Calls Tryz.prog 34 #[.pointer none, .int .i64 i] w fun e w' => e = .returned (.tuple #[.agg zmT.cs.toArray, .bool false, .int .i64 1]) ∧ Chg [] w w' := by
  obtain ⟨W, HWW⟩ : ∃ W, Hid (w.alloc (.cells #[.int .i64 0, .int .i64 0, .int .i64 0, .int .i64 0, .int .i64 0, .int .i64 0, .int .i64 0, .int .u64 0, .int .u64 0, .int .i64 0, .int .i64 0, .slice none 0 0, .slice none 0 0, .slice none 0 0, .slice none 0 0, .int .i64 0, .int .i64 0, .int .i64 0, .int .i64 0, .int .u64 0, .slice none 0 0, .int .i64 0] 40) = W) := ⟨_, Lib.hid rfl⟩
  have HC : Hid (Chg [] w W) := Lib.hid (by rw [← HWW.out]; exact (Chg.refl [] w).alloc _)
  have HO : Hid (Own W w.heap.size 40 zmT.cs) := Lib.hid (by rw [← HWW.out]; exact Own.new w _ zmT.cs)
  have HK := Lib.hid (key_nil i W)
  go_enter Tryz.func34, Tryz.ntmps34
  go_upto_region 1 with fail
  rw [HWW.out]
  go_wp2_with fail
  refine HK.out.mono ?_
  rintro e w1 ⟨rfl, rfl⟩
  go_wp2_with (refine wpList_storeMg rfl (.tmp 4) (.tmp 18) rfl w.heap.size rfl zmT rfl zmT.cs HO.out rfl ?_)
  intro w2 ho hc
  have HO2 := Lib.hid ho
  have HC2 := Lib.hid (HC.out.then hc (fun x hx => by simp only [List.mem_singleton] at hx; subst hx; exact .inr (Nat.le_refl _)))
  clear ho hc
  go_wp2_with fail
  refine bodyPost_ret (results_row_tmp2 Tryz.results34 _ _ w.heap.size 40 _ (0, 0) _ rfl HO2.out Tryz.underlying40 rfl (by kernel_rfl)) rfl ?_
  exact ⟨rfl, HC2.out⟩
end Go.Proofs.YteenlkmnadjnpaaGreat
namespace Go.Proofs.YteenlkmnadjnpaaGreat
open Go.RowKit Go.Maps Go.Sort Go.Shelf Go.Deep
set_option linter.unusedVariables false
set_option linter.unusedSimpArgs false

def mgv (L : List MgT) : List Value := L.flatMap MgT.cs
theorem mgv_length (L : List MgT) : (mgv L).length = L.length * 22 := by
  induction L with
  | nil => rfl
  | cons T L ih =>
    show (T.cs ++ mgv L).length = _
    rw [List.length_append, ih, List.length_cons]
    have : T.cs.length = 22 := rfl
    omega
theorem mgv_append (L M : List MgT) : mgv (L ++ M) = mgv L ++ mgv M := by simp [mgv]
theorem mgv_one (T : MgT) : mgv [T] = T.cs := by simp [mgv]
theorem mgv_at {L : List MgT} {k : Nat} (hk : k < L.length) {j : Nat} (hj : j < 22) : (mgv L)[k * 22 + j]? = L[k].cs[j]? := by
  have h1 : L = L.take k ++ L[k] :: L.drop (k + 1) := by rw [← List.drop_eq_getElem_cons hk, List.take_append_drop]
  have h2 : mgv L = mgv (L.take k) ++ (L[k].cs ++ mgv (L.drop (k + 1))) := by
    conv => lhs; rw [h1]
    rw [mgv_append]
    rfl
  have h3 : (mgv (L.take k)).length = k * 22 := by rw [mgv_length, List.length_take]; omega
  rw [h2, List.getElem?_append_right (by omega), h3, Nat.add_sub_cancel_left, List.getElem?_append_left (by have : L[k].cs.length = 22 := rfl; omega)]
/-- a message's cells within a row that reads as a list -/
theorem mg_range {w : World} {B b off : Nat} {L : List MgT} (h : Ro w B (some ⟨b, off, none⟩) (mgv L)) {k : Nat} (hk : k < L.length) : w.rangeAt b (off + k * 22) L[k].cs := fun j v hv => by
  have hj : j < 22 := by have := (List.getElem?_eq_some_iff.1 hv).1; exact this
  have hl : k * 22 + j < (mgv L).length := by rw [mgv_length]; omega
  rcases h with h | ⟨b', off', h1, h2, h3⟩
  · rw [h] at hl; simp at hl
  · injection h1 with h1
    injection h1 with h1 h1' _
    subst h1 h1'
    have := h3 (k * 22 + j) hl
    rw [Nat.add_assoc, this]
    have h5 := mgv_at hk hj
    rw [List.getD_eq_getElem?_getD, h5, hv]
    rfl
/-- a list of messages that reads so, in a world -/
structure MLR (w : World) (B : Nat) (a : Option Addr) (L : List MgT) : Prop where
  row : Ro w B a (mgv L)
  inn : ∀ T ∈ L, MgIn w B T
  fit : ∀ T ∈ L, MgFit T
theorem MLR.below {w w' : World} {B B' : Nat} {a : Option Addr} {L : List MgT} (h : MLR w B a L) (hb : Below B' w w') (hB : B ≤ B') : MLR w' B a L := ⟨h.row.below hb hB, fun T hT => (h.inn T hT).below hb hB, h.fit⟩
theorem MLR.mono {w : World} {B B' : Nat} {a : Option Addr} {L : List MgT} (h : MLR w B a L) (hB : B ≤ B') : MLR w B' a L := ⟨h.row.mono hB, fun T hT => (h.inn T hT).mono hB, h.fit⟩
theorem MLR.nil (w : World) (B : Nat) (a : Option Addr) : MLR w B a [] := ⟨Ro.nil _ _ _, (fun T hT => by cases hT), (fun T hT => by cases hT)⟩
/-- a list of messages of the call's own -/
structure MLs (w : World) (base : Nat) (v : Value) (L : List MgT) : Prop where
  row : w.ownsRow base 40 22 v L.length (mgv L)
  fit : ∀ T ∈ L, MgFit T
  x : ∀ T ∈ L, MgX w 0 (rowOf v) T
theorem MLs.nil (w : World) (base : Nat) : MLs w base (.slice none 0 0) [] := ⟨World.ownsRow_nil w base _ 22, (fun T hT => by cases hT), (fun T hT => by cases hT)⟩
theorem MLs.kept {w w' : World} {base : Nat} {v : Value} {L : List MgT} (h : MLs w base v L) (hc : Chg [] w w') : MLs w' base v L := by
  refine ⟨⟨h.row.1, ?_⟩, h.fit, fun T hT => (h.x T hT).below hc.low⟩
  rcases h.row.2 with h1 | ⟨g, cap, cur, h1, h2, h3, h4⟩
  · exact .inl h1
  · exact .inr ⟨g, cap, cur, h1, h2, (hc.block g (Array.getElem?_eq_some_iff.1 h3).1 (by simp)).trans h3, h4⟩
theorem MLs.form {w : World} {base : Nat} {v : Value} {L : List MgT} (h : MLs w base v L) : ∃ a c, v = .slice a L.length c ∧ MLR w w.heap.size a L := by
  rcases h.row.2 with ⟨rfl, h0⟩ | ⟨g, cap, cur, rfl, hb, hh, hle, hm, hrest⟩
  · have : L = [] := by simpa using h0
    subst this
    exact ⟨none, 0, rfl, MLR.nil _ _ _⟩
  · refine ⟨some ⟨g, 0, none⟩, cap, rfl, .inr ⟨g, 0, rfl, ?_, fun i hi => ?_⟩, fun T hT => (h.x T hT).inn, h.fit⟩
    · exact (World.ownsRow.lt h.row g rfl).2
    · have := World.ownsRow.cellAt h.row i (by rw [mgv_length] at hi; exact hi)
      rw [Nat.zero_add, this]
      simp only [List.getD, List.getElem?_eq_getElem hi, Option.getD_some]
theorem MLs.rowT {w : World} {base : Nat} {v : Value} {L : List MgT} (h : MLs w base v L) {t : TypeId} (ht : t ≠ 40) : ∀ x ∈ rowOf v, ∀ cur, w.heap[x]? ≠ some (.cells cur t (0, 0)) := by
  intro x hx cur he
  rcases h.row.2 with ⟨rfl, _⟩ | ⟨g, cap, cur', rfl, hb, hh, _⟩
  · simp [rowOf, Value.ownBlock] at hx
  · simp [rowOf, Value.ownBlock] at hx
    subst hx
    rw [hh] at he
    injection he with he
    injection he with _ he _
    exact ht he.symm
theorem MLs.lt {w : World} {base : Nat} {v : Value} {L : List MgT} (h : MLs w base v L) : ∀ x ∈ rowOf v, base ≤ x ∧ x < w.heap.size := by
  intro x hx
  rcases h.row.2 with ⟨rfl, _⟩ | ⟨g, cap, cur', rfl, hb, hh, _⟩
  · simp [rowOf, Value.ownBlock] at hx
  · simp [rowOf, Value.ownBlock] at hx
    subst hx
    exact ⟨hb, (Array.getElem?_eq_some_iff.1 hh).1⟩
theorem MLs.base {w : World} {base base' : Nat} {v : Value} {L : List MgT} (h : MLs w base v L) (hb : base' ≤ base) : MLs w base' v L := by
  refine ⟨⟨h.row.1, ?_⟩, h.fit, h.x⟩
  rcases h.row.2 with h1 | ⟨g, cap, cur, h1, h2, h3⟩
  · exact .inl h1
  · exact .inr ⟨g, cap, cur, h1, by omega, h3⟩
/-- behind an append of one more -/
theorem MLs.more {w w' : World} {base g cap : Nat} {v : Value} {L : List MgT} {T : MgT} (h : MLs w base v L) (hT : MgX w 0 (rowOf v) T) (hf : MgFit T)
    (ho : w'.ownsRow base 40 22 (.slice (some ⟨g, 0, none⟩) (L.length + 1) cap) (L.length + 1) (mgv L ++ T.cs)) (hg : w.grownBy w' v.ownBlock) (ha : v.ownBlock = some g ∨ g = w.heap.size) :
    MLs w' base (.slice (some ⟨g, 0, none⟩) (L.length + 1) cap) (L ++ [T]) ∧ Chg (rowOf v) w w' := by
  have hc : Chg (rowOf v) w w' := (Chg.refl _ w).grown hg (fun k hk => .inl (by simp [rowOf, hk]))
  have hro : rowOf (.slice (some ⟨g, 0, none⟩) (L.length + 1) cap) = [g] := rfl
  have hst : ∀ {a : Option Addr} {vs : List Value}, RoX w (rowOf v) a vs → RoX w' [g] a vs := by
    intro a vs hx
    rcases hx with hx | ⟨b, off, h1, h2, h3, h4⟩
    · exact .inl hx
    · refine .inr ⟨b, off, h1, Nat.lt_of_lt_of_le h2 hc.size, fun hm => ?_, fun i hi => hc.cell (h4 i hi) h3⟩
      simp only [List.mem_singleton] at hm
      rcases ha with ha | ha
      · exact h3 (by simp [rowOf, ha, hm])
      · omega
  have hall : ∀ U, MgX w 0 (rowOf v) U → MgX w' 0 [g] U := fun U hU =>
    ⟨hst hU.d, hst hU.b, hst hU.st, hst hU.bk, hU.sl.chg hc (h.rowT (by decide)), hU.gw.chg hc (h.rowT (by decide)) (h.rowT (by decide))⟩
  refine ⟨⟨?_, ?_, ?_⟩, hc⟩
  · rw [mgv_append, mgv_one, List.length_append]
    exact ho
  · intro U hU
    rcases List.mem_append.1 hU with hU | hU
    · exact h.fit U hU
    · rw [List.mem_singleton.1 hU]; exact hf
  · intro U hU
    rw [hro]
    rcases List.mem_append.1 hU with hU | hU
    · exact hall U (h.x U hU)
    · rw [List.mem_singleton.1 hU]; exact hall T hT
theorem Tryz.info_msg : (Tryz.prog.info? 40).map (fun i => (i.zero, i.size, i.bytes)) = some (some (.agg zmT.cs.toArray), 22, 256) := by kernel_rfl
/-- append of one message, out of a block of its own -/
theorem wpList_appMg {ops : Array Oper} {rest : List Oper} {o : Oper} {a : Act} {w : World} {Q : Exit → Act → World → Prop} (hgd : o.guard = none) (s x : Operand)
    (ho : o.op = .call { callee := .builtin .append, args := #[s, x], argTypes := #[62, 62] })
    (base : Nat) (v : Value) (L : List MgT) (hs : a.eval s = v) (hown : MLs w base v L) (g : Nat) (T : MgT) (hT : MgX w 0 (rowOf v) T) (hf : MgFit T) (t : TypeId) (hnew : Own w g t T.cs)
    (hx : a.eval x = .slice (some ⟨g, 0, none⟩) 1 1) (hlen : L.length ≤ 1000000) (hbase : base ≤ w.heap.size)
    (h : ∀ g' cap w', Hid (MLs w' base (.slice (some ⟨g', 0, none⟩) (L.length + 1) cap) (L ++ [T])) → Chg (rowOf v) w w' → wpList Tryz.prog ops Q rest (a.put o.dst (.slice (some ⟨g', 0, none⟩) (L.length + 1) cap)) w') : wpList Tryz.prog ops Q (o :: rest) a w := by
  obtain ⟨i, hi, hzz⟩ := Option.map_eq_some_iff.1 Tryz.info_msg
  simp only [Prod.mk.injEq] at hzz
  obtain ⟨hz, hsz, hby⟩ := hzz
  refine wpList_append_lies w hgd s x 62 ho base 40 i _ 22 256 Tryz.underlying62 hi hz hsz hby rfl (by omega) v L.length (mgv L) hs hown.row ⟨g, 0, none⟩ 1 1 T.cs hx rfl (fun j u hu => ?_) T.one (by omega) (by unfold maxLen; omega) (by omega) hbase _ rfl fun g' cap w' h2 h3 h4 h5 => ?_
  · rw [add_off, Nat.zero_add, hnew.cell j]; exact hu
  · obtain ⟨k1, k2⟩ := hown.more hT hf h2 h3 h4
    exact h g' cap w' (Lib.hid k1) k2
/-- '[]Message{m}' -/
theorem wpList_sliceMg {ops : Array Oper} {rest : List Oper} {o : Oper} {a : Act} {w : World} {Q : Exit → Act → World → Prop} (hgd : o.guard = none) (x : Operand) (ho : o.op = .buildSlice 62 1 #[(0, x)]) (T : MgT) (hx : a.eval x = .agg T.cs.toArray)
    (h : wpList Tryz.prog ops Q rest (a.put o.dst (.slice (some ⟨w.heap.size, 0, none⟩) 1 1)) (w.alloc (.cells T.cs.toArray 40))) : wpList Tryz.prog ops Q (o :: rest) a w := by
  obtain ⟨i, hi, hz⟩ := Option.map_eq_some_iff.1 Tryz.info_msg
  simp only [Prod.mk.injEq] at hz
  refine wpList_buildSlice hgd _ _ 1 _ ho T.cs.toArray i (.agg zmT.cs.toArray) Tryz.underlying62 hi hz.1 (by rw [hz.2.1]; omega) (by rw [hz.2.1]; omega) ?_ h
  rw [hz.2.1]
  have : (#[(0, x)].map fun (i, x) => (i, a.eval x)).toList = (([.agg T.cs.toArray] : List Value).zipIdx 0).map fun x => (x.2, x.1) := by simp [hx]
  rw [this]
  have := Great.fill_whole (s := 22) (by omega) [.agg T.cs.toArray] ((Array.range (1 * 22)).map ((Value.agg zmT.cs.toArray).cells[· % (Value.agg zmT.cs.toArray).cells.size]!)) (fun v hv => by rw [List.mem_singleton.1 hv]; rfl) (by simp)
  rw [this]
  simp [Value.cells]
end Go.Proofs.YteenlkmnadjnpaaGreat
namespace Go.Proofs.YteenlkmnadjnpaaGreat
open Go.RowKit Go.ChangeShapes Go.WideShapes Go.Deep
set_option linter.unusedVariables false
set_option linter.unusedSimpArgs false

section
variable {H : Type} {enc : TypeId × Value → H} {w : World} {base : Nat} {held : Bool}
theorem flat_len {τ : Type} {cells : τ → List Value} {c : Nat} (hcl : ∀ T, (cells T).length = c) (L : List τ) : (L.flatMap cells).length = L.length * c := by
  induction L with
  | nil => simp
  | cons T L ih => rw [List.flatMap_cons, List.length_append, ih, hcl, List.length_cons, Nat.succ_mul, Nat.add_comm]
theorem flat_at {τ : Type} {cells : τ → List Value} {c : Nat} (hcl : ∀ T, (cells T).length = c) {L : List τ} {k : Nat} (hk : k < L.length) {j : Nat} (hj : j < c) : (L.flatMap cells)[k * c + j]? = (cells L[k])[j]? := by
  have h1 : L = L.take k ++ L[k] :: L.drop (k + 1) := by rw [← List.drop_eq_getElem_cons hk, List.take_append_drop]
  have h2 : L.flatMap cells = (L.take k).flatMap cells ++ (cells L[k] ++ (L.drop (k + 1)).flatMap cells) := by
    conv => lhs; rw [h1]
    rw [List.flatMap_append, List.flatMap_cons]
  have h3 : ((L.take k).flatMap cells).length = k * c := by rw [flat_len hcl, List.length_take]; congr 1; omega
  rw [h2, List.getElem?_append_right (by omega), h3, Nat.add_sub_cancel_left, List.getElem?_append_left (by rw [hcl]; exact hj)]
set_option maxRecDepth 100000 in
/-- a slice of structs of c cells that came in -/
theorem open_rowG {t e : TypeId} {c : Nat} {τ : Type} (d0 : τ) (cells : τ → List Value) (Ok : τ → Prop) (ht : Tryz.prog.underlying t = some (.slice e)) (hc : Tryz.prog.cellsOf e = c) (hcl : ∀ T, (cells T).length = c) (hc0 : 0 < c)
    (hopen : ∀ (n : Nat) (cs : List Value) (y : DataW H × List MemPlace), DataW.trod enc Tryz.prog w base (fun _ => true) held n e cs = some y → ∃ T, cs = cells T ∧ Ok T)
    {n : Nat} {v : Value} {y : DataW H × List MemPlace} (h : DataW.trod enc Tryz.prog w base (fun _ => true) held n t [v] = some y) :
    ∃ (a : Option Addr) (L : List τ) (cap : Nat), v = .slice a L.length cap ∧ L.length ≤ 9223372036854775807 ∧ (∀ T ∈ L, Ok T) ∧ Ro w w.heap.size a (L.flatMap cells) := by
  rcases open_slice ht h with ⟨hv, _⟩ | ⟨a, len, cap, m, k, D, Pl, hv, _, hl, hm, hmm, _, hi⟩
  · exact ⟨none, [], 0, by simpa using hv, by simp, (fun T hT => by cases hT), Ro.nil _ _ _⟩
  · simp only [if_true] at hmm
    subst hmm
    have hall : ∀ i, i < m → ∃ T, Ok T ∧ ∀ j, j < c → w.cell? ((a.add (i * c)).add j) = (cells T)[j]? := by
      intro i him
      obtain ⟨cs, h1, h2⟩ := hi i him
      rw [hc] at h1
      obtain ⟨hsz, _, h3⟩ := World.cells?_some h1
      obtain ⟨T, hT, hok⟩ := hopen _ _ _ h2
      refine ⟨T, hok, fun j hj => ?_⟩
      rw [h3 j hj, ← hT]
    obtain ⟨A, hA⟩ : ∃ A : Nat → τ, ∀ i, i < m → Ok (A i) ∧ ∀ j, j < c → w.cell? ((a.add (i * c)).add j) = (cells (A i))[j]? :=
      ⟨fun i => if hi : i < m then Classical.choose (hall i hi) else d0, fun i him => by
        have := Classical.choose_spec (hall i him)
        dsimp only
        rw [dif_pos him]
        exact this⟩
    refine ⟨some a, (List.range len).map A, m, by simpa using hv, by simp; unfold maxLen at hm; omega, fun T hT => ?_, ?_⟩
    · obtain ⟨i, hi, rfl⟩ := List.mem_map.1 hT
      exact (hA i (by have := List.mem_range.1 hi; omega)).1
    · rcases Nat.eq_zero_or_pos len with h0 | h0
      · subst h0; exact .inl rfl
      · obtain ⟨b, off, spot⟩ := a
        have hc1 := (hA 0 (by omega)).2 0 hc0
        have hc2 : (cells (A 0))[0]? = some ((cells (A 0))[0]'(by rw [hcl]; exact hc0)) := List.getElem?_eq_getElem _
        rw [hc2] at hc1
        have hspot : spot = none := by simpa [Addr.add] using World.cell?_spot hc1
        subst hspot
        have hb := World.block_lt_of_cell? w _ hc1
        refine .inr ⟨b, off, rfl, by simpa [add_off] using hb, fun i hi => ?_⟩
        rw [flat_len hcl, List.length_map, List.length_range] at hi
        have hi2 : i / c < len := Nat.div_lt_of_lt_mul (by rw [Nat.mul_comm]; exact hi)
        have hj := Nat.mod_lt i hc0
        have h4 : i = i / c * c + i % c := by have := Nat.div_add_mod i c; rw [Nat.mul_comm] at this; omega
        generalize i / c = q at *
        generalize i % c = r at *
        have hg := (hA q (by omega)).2 r hj
        rw [add_off, add_off, Nat.add_assoc, ← h4] at hg
        rw [hg]
        have hq : q < ((List.range len).map A).length := by simpa using hi2
        have hget := flat_at hcl hq hj
        rw [← h4] at hget
        rw [show ((List.range len).map A)[q] = A q by simp] at hget
        have hx : r < (cells (A q)).length := by rw [hcl]; exact hj
        rw [List.getD_eq_getElem?_getD, hget, List.getElem?_eq_getElem hx]
        rfl
/-- an act of a soup's script -/
structure AcT where
  kd : Int
  i : Int
  m : MgT
  p : Pl2
def AcT.cs (A : AcT) : List Value := .int .i64 A.kd :: .int .i64 A.i :: (A.m.cs ++ [.int .i64 A.p.1, .int .i64 A.p.2])
structure AcOk (w : World) (A : AcT) : Prop where
  m : MgOk w A.m
  to : Pw A.m.to
  p : Pw A.p
set_option maxRecDepth 100000 in
theorem trod_act {n : Nat} {cl : List Value} {y : DataW H × List MemPlace} (h : DataW.trod enc Tryz.prog w base (fun _ => true) held n 59 cl = some y) :
    ∃ A : AcT, cl = A.cs ∧ AcOk w A := by
  obtain ⟨xs, m, _, _, hlen, hxl, hf⟩ := DataW.trod_struct Tryz.underlying59 h
  have hc : cl.length = 26 := hlen.trans (by kernel_rfl)
  match cl, hc, xs, hxl with
  | [c0, c1, c2, c3, c4, c5, c6, c7, c8, c9, c10, c11, c12, c13, c14, c15, c16, c17, c18, c19, c20, c21, c22, c23, c24, c25], _, [x0, x1, x2, x3], _ =>
    have g0 := hf 0 _ rfl
    have g1 := hf 1 _ rfl
    have g2 := hf 2 _ rfl
    have g3 := hf 3 _ rfl
    clear hf
    change DataW.trod enc Tryz.prog w base (fun _ => true) held m 3 (([c0, c1, c2, c3, c4, c5, c6, c7, c8, c9, c10, c11, c12, c13, c14, c15, c16, c17, c18, c19, c20, c21, c22, c23, c24, c25].drop 0).take (Tryz.prog.cellsOf 3)) = some x0 at g0
    change DataW.trod enc Tryz.prog w base (fun _ => true) held m 3 (([c0, c1, c2, c3, c4, c5, c6, c7, c8, c9, c10, c11, c12, c13, c14, c15, c16, c17, c18, c19, c20, c21, c22, c23, c24, c25].drop 1).take (Tryz.prog.cellsOf 3)) = some x1 at g1
    change DataW.trod enc Tryz.prog w base (fun _ => true) held m 40 (([c0, c1, c2, c3, c4, c5, c6, c7, c8, c9, c10, c11, c12, c13, c14, c15, c16, c17, c18, c19, c20, c21, c22, c23, c24, c25].drop 2).take (Tryz.prog.cellsOf 40)) = some x2 at g2
    change DataW.trod enc Tryz.prog w base (fun _ => true) held m 25 (([c0, c1, c2, c3, c4, c5, c6, c7, c8, c9, c10, c11, c12, c13, c14, c15, c16, c17, c18, c19, c20, c21, c22, c23, c24, c25].drop 24).take (Tryz.prog.cellsOf 25)) = some x3 at g3
    rw [show Tryz.prog.cellsOf 3 = 1 by kernel_rfl] at g0 g1
    rw [show Tryz.prog.cellsOf 40 = 22 by kernel_rfl] at g2
    rw [show Tryz.prog.cellsOf 25 = 2 by kernel_rfl] at g3
    simp only [List.drop_zero, List.drop_succ_cons, List.take_succ_cons, List.take_zero] at g0 g1 g2 g3
    obtain ⟨k, e0, _, hw0⟩ := DataW.trod_int Tryz.underlying3 g0
    obtain ⟨i, e1, _, hw1⟩ := DataW.trod_int Tryz.underlying3 g1
    obtain ⟨M, e2, hM, _, hto⟩ := trod_message g2
    obtain ⟨p, e3, hp⟩ := trod_place g3
    refine ⟨⟨k, i, M, p⟩, ?_, ⟨hM, hto, hp⟩⟩
    simp only [List.cons.injEq, and_true] at e0 e1 e3
    unfold AcT.cs
    simp only
    rw [← e2, e0, e1, e3.1, e3.2]
    rfl
set_option maxRecDepth 100000 in
theorem open_act11V {r : Reach} {b0 : Nat} {v : Value} {d : DataW H} {p : List MemPlace} (hv : Value.okWide Tryz.prog w r b0 59 v) (h : DataW.Trod enc Tryz.prog w base (fun _ => true) held 59 v d p) :
    ∃ A : AcT, v = .agg A.cs.toArray ∧ AcOk w A := by
  obtain ⟨cs, rfl, hsz⟩ := okWide_struct Tryz.underlying59 hv
  obtain ⟨fuel, hf⟩ := h
  obtain ⟨A, h1, h2⟩ := trod_act hf
  have h1' : cs.toList = A.cs := h1
  exact ⟨A, by rw [← h1'], h2⟩
/-- acts that came in -/
structure AcsOk (w : World) (a : Option Addr) (L : List AcT) : Prop where
  len : L.length ≤ 9223372036854775807
  ok : ∀ A ∈ L, AcOk w A
  row : Ro w w.heap.size a (L.flatMap AcT.cs)
set_option maxRecDepth 100000 in
theorem open_acts11V {r : Reach} {b0 : Nat} {v : Value} {d : DataW H} {p : List MemPlace} (hv : Value.okWide Tryz.prog w r b0 50 v) (h : DataW.Trod enc Tryz.prog w base (fun _ => true) held 50 v d p) :
    ∃ (a : Option Addr) (L : List AcT) (c : Nat), v = .slice a L.length c ∧ AcsOk w a L := by
  obtain ⟨a, l, c, rfl⟩ := okWide_slice Tryz.underlying50 hv
  obtain ⟨fuel, hf⟩ := h
  obtain ⟨a', L, cap, e, h1, h2, h3⟩ := open_rowG (c := 26) (⟨0, 0, zmT, (0, 0)⟩ : AcT) AcT.cs (AcOk w) Tryz.underlying50 (by kernel_rfl) (fun T => rfl) (by omega) (fun n cs y hh => trod_act hh) hf
  exact ⟨a', L, cap, e, h1, h2, h3⟩
set_option maxRecDepth 100000 in
/-- messages that came in -/
theorem open_msgsV {r : Reach} {b0 : Nat} {v : Value} {d : DataW H} {p : List MemPlace} (hv : Value.okWide Tryz.prog w r b0 62 v) (h : DataW.Trod enc Tryz.prog w base (fun _ => true) held 62 v d p) :
    ∃ (a : Option Addr) (L : List MgT) (c : Nat), v = .slice a L.length c ∧ MLR w w.heap.size a L ∧ L.length ≤ 9223372036854775807 := by
  obtain ⟨a, l, c, rfl⟩ := okWide_slice Tryz.underlying62 hv
  obtain ⟨fuel, hf⟩ := h
  obtain ⟨a', L, cap, e, h1, h2, h3⟩ := open_rowG (c := 22) zmT MgT.cs (MgOk w) Tryz.underlying62 (by kernel_rfl) (fun T => rfl) (by omega) (fun n cs y hh => by obtain ⟨A, k1, k2, _⟩ := trod_message hh; exact ⟨A, k1, k2⟩) hf
  exact ⟨a', L, cap, e, ⟨h3, fun T hT => (h2 T hT).inn, fun T hT => (h2 T hT).fit⟩, h1⟩
set_option maxRecDepth 100000 in
theorem open_placeV {r : Reach} {b0 : Nat} {v : Value} {d : DataW H} {p : List MemPlace} (hv : Value.okWide Tryz.prog w r b0 25 v) (h : DataW.Trod enc Tryz.prog w base (fun _ => true) held 25 v d p) :
    ∃ q : Pl2, v = plV q ∧ Pw q := by
  obtain ⟨cs, rfl, hsz⟩ := okWide_struct Tryz.underlying25 hv
  obtain ⟨fuel, hf⟩ := h
  obtain ⟨q, h1, h2⟩ := trod_place hf
  have h1' : cs.toList = [.int .i64 q.1, .int .i64 q.2] := h1
  exact ⟨q, by show Value.agg cs = .agg _; congr 1; apply Array.ext'; exact h1', h2⟩
end
end Go.Proofs.YteenlkmnadjnpaaGreat
namespace Go.Proofs.YteenlkmnadjnpaaGreat
open Go.RowKit Go.Maps Go.Sort Go.Shelf Go.Deep
set_option linter.unusedVariables false
set_option linter.unusedSimpArgs false

set_option maxHeartbeats 8000000 in
set_option maxRecDepth 100000 in
theorem Kinds_any {w : World} {p b d : Nat} {S : SpS} (h : Sp w p b d S) :
    Calls Tryz.prog 24 #[.pointer (some ⟨p, 0, none⟩)] w fun e w' => ∃ v, e = .returned v ∧ ∃ Ts : List MgT, MLs w' w.heap.size v Ts ∧ Ts.map MgT.x = (dd S.L).map pMg ∧ Chg [] w w' := by
  have HK := Lib.hid (keys_any h)
  have HOK : Hid (∀ k ∈ dd S.L, MOk k) := Lib.hid fun k hk => h.enc k (dd_mem.1 hk)
  have HLN : Hid ((dd S.L).length ≤ 400) := Lib.hid (by
    have h1 := nodup_sub_le (dd_nodup h.srt) (fun x hx => dd_mem.1 hx)
    have := h.len
    omega)
  clear h
  generalize dd S.L = K at *
  obtain ⟨n, hn⟩ : ∃ n, K.length = n := ⟨_, rfl⟩
  have HN := Lib.hid hn
  have hn4 := HLN.out
  rw [hn] at hn4
  have HN4 := Lib.hid hn4
  clear hn hn4
  go_enter Tryz.func24, Tryz.ntmps24
  go_wp2_with fail
  refine HK.out.mono ?_
  rintro e w1 ⟨v, rfl, hl, hb⟩
  have HB := Lib.hid ((Chg.refl [] w).of_below hb)
  obtain ⟨a, c, rfl, hro, hc, _⟩ := hl.form
  rw [List.length_map, HN.out]
  have HRO := Lib.hid hro
  clear hl hb hro hc
  go_wp2_with fail
  go_loopw [3, 9] (fun v3 v9 wr => ∃ (k : Nat) (Ts : List MgT), v9 = .int .i64 (k : Int) ∧ k ≤ n ∧ Hid (MLs wr w1.heap.size v3 Ts) ∧ Hid (Ts.map MgT.x = (K.take k).map pMg) ∧ Hid (Chg [] w1 wr)) (fun _ v9 _ => n - (intOf v9).toNat)
  case atStart => exact ⟨0, [], rfl, Nat.zero_le _, Lib.hid (MLs.nil _ _), Lib.hid rfl, Lib.hid (Chg.refl _ _)⟩
  case round =>
    obtain ⟨k, Ts, rfl, hk, HM, HT, HC⟩ := hrel
    by_cases hlt : k < n
    · have hkK : k < K.length := by rw [HN.out]; exact hlt
      have hne : K.map sv ≠ [] := fun e => by rw [List.map_eq_nil_iff] at e; rw [e] at hkK; simp at hkK
      obtain ⟨bb, off, rfl, hbb, hcell⟩ := (HRO.out.below HC.out.low (Nat.le_refl _)).at_ hne
      have h9 := hcell k (by rw [List.length_map]; exact hkK)
      have e9 : (K.map sv).getD k undef = sv K[k] := by simp [List.getD, hkK]
      rw [e9] at h9
      have HTS : Hid ((K.take (k + 1)).map pMg = (K.take k).map pMg ++ [pMg K[k]]) := Lib.hid (by rw [List.take_succ_eq_append_getElem hkK, List.map_append]; rfl)
      have HMO := Lib.hid (messageOf_x (rowOf u3) K[k] (HOK.out _ (List.getElem_mem hkK)) wr (fun x hx => (HM.out.lt x hx).2))
      generalize K[k] = kk at *
      have hk0 : (0 : Int) ≤ (k : Int) := by omega
      have hk1 : (k : Int) < (n : Int) := by omega
      have hkb : (k : Int) ≤ 400 := by have := HN4.out; omega
      have hd1 : decide (k < n) = true := by simpa using hlt
      have HKN := Lib.hid hlt
      clear hcell hne hkK e9 hlt
      go_wp2_with fail
      refine HMO.out.mono ?_
      rintro e w2 ⟨T, rfl, hx, hf, hin, hxx, hb2⟩
      have hc2 := (Chg.refl [] wr).of_below hb2
      have HM2 := Lib.hid (HM.out.kept hc2)
      have HX2 := Lib.hid (hxx.base (Nat.zero_le _))
      have HC2 := Lib.hid (HC.out.trans hc2)
      have HF := Lib.hid hf
      have HXE := Lib.hid hx
      clear hx hf hin hxx hb2 hc2
      have HLT : Hid (Ts.length = k) := Lib.hid (by
        have := congrArg List.length HT.out
        rw [List.length_map, List.length_map, List.length_take, HN.out] at this
        have := HKN.out
        omega)
      have HSZ : Hid (w1.heap.size ≤ w2.heap.size) := Lib.hid HC2.out.size
      have HL4 : Hid (Ts.length ≤ 1000000) := Lib.hid (by have := HLT.out; have := HKN.out; have := HN4.out; omega)
      have hca : Chg [] w2 (w2.alloc (.cells T.cs.toArray 40)) := (Chg.refl [] w2).alloc _
      have HCA := Lib.hid hca
      have HM3 := Lib.hid (HM2.out.kept hca)
      have HX3 := Lib.hid (HX2.out.below hca.low)
      have HO3 := Lib.hid (Own.new w2 40 T.cs)
      have HS3 : Hid (w1.heap.size ≤ (w2.alloc (.cells T.cs.toArray 40)).heap.size) := Lib.hid (Nat.le_trans HSZ.out hca.size)
      have HLR := Lib.hid (fun x hx => (HM3.out.lt x hx).1)
      clear hca
      go_wp2_with (first | refine wpList_sliceMg rfl (.tmp 15) rfl T rfl ?_ | (refine wpList_appMg rfl (.tmp 13) (.tmp 16) rfl w1.heap.size u3 Ts rfl HM3.out w2.heap.size T HX3.out HF.out 40 HO3.out rfl HL4.out HS3.out ?_; intro g cap w3 hm hc3))
      have HC3 := Lib.hid ((HC2.out.trans HCA.out).then hc3 (fun x hx => .inr (HLR.out x hx)))
      have HT2 : Hid ((Ts ++ [T]).map MgT.x = (K.take (k + 1)).map pMg) := Lib.hid (by rw [HTS.out, ← HT.out, List.map_append]; simp [HXE.out])
      rw [HLT.out] at hm ⊢
      clear hc3
      go_wp2_with fail
      go_roundw
      case rel => exact ⟨k + 1, Ts ++ [T], by go_num, by omega, hm, HT2, HC3⟩
      case measure => have := HKN.out; simp [intOf]; omega
    · obtain rfl : k = n := by omega
      have HT2 : Hid (Ts.map MgT.x = K.map pMg) := Lib.hid (by have := HT.out; rwa [List.take_of_length_le (by rw [HN.out]; omega)] at this)
      have hd1 : decide (k < k) = false := by simp
      have HM2 : Hid (MLs wr w.heap.size u3 Ts) := Lib.hid (HM.out.base HB.out.size)
      have HC2 := Lib.hid (HB.out.trans HC.out)
      clear hlt hk
      go_wp2_with fail
      go_ret
      exact ⟨u3, rfl, Ts, HM2.out, HT2.out, HC2.out⟩
theorem Kinds_nil (w : World) :
    Calls Tryz.prog 24 #[.pointer none] w fun e w' => e = .returned (.slice none 0 0) ∧ w = w' := by
  have HK := Lib.hid (keys_nil w)
  go_enter Tryz.func24, Tryz.ntmps24
  go_wp2_with fail
  refine HK.out.mono ?_
  rintro e w1 ⟨rfl, rfl⟩
  go_wp2_with fail
  go_loopw [3, 9] (fun v3 v9 wr => v3 = .slice none 0 0 ∧ v9 = .int .i64 0 ∧ w = wr) (fun _ _ _ => 0)
  case atStart => exact ⟨rfl, rfl, rfl⟩
  case round =>
    obtain ⟨rfl, rfl, rfl⟩ := hrel
    go_wp2_with fail
    go_ret
    exact ⟨rfl, rfl⟩
end Go.Proofs.YteenlkmnadjnpaaGreat
namespace Go.Proofs.YteenlkmnadjnpaaGreat
open Go.RowKit Go.Maps Go.Sort Go.Shelf Go.Deep
set_option linter.unusedVariables false
set_option linter.unusedSimpArgs false

def al11 : MgT := ⟨2, (4, 0), (1, 0), 0, 0, 0, 5, 0, noC, none, 0, none, 0, [], none, 0, [], none, 0, (0, 0), (0, 0), ⟨0, none, 0, [], 0⟩⟩
theorem al11_right : mright al11.x = true := by kernel_rfl
theorem al11_in (w : World) (B : Nat) : MgIn w B al11 := ⟨Ro.nil _ _ _, Ro.nil _ _ _, Ro.nil _ _ _, Ro.nil _ _ _, Ro.nil _ _ _, fun s hs => by cases hs⟩
theorem al11_fit : MgFit al11 := ⟨by simp [al11, noC], by simp [al11, noC], by simp [al11], by simp [al11], ⟨by simp [al11], (fun s hs => by cases hs)⟩, (fun s hs => by cases hs), (fun s hs => by cases hs)⟩
set_option maxHeartbeats 8000000 in
set_option maxRecDepth 100000 in
theorem alive11_any (w : World) : Calls Tryz.prog 32 #[] w fun e w' => e = .returned (.bool true) ∧ Below w.heap.size w w' := by
  have HNW := Lib.hid (New_any w)
  go_enter Tryz.func32, Tryz.ntmps32
  go_wp2_with fail
  refine HNW.out.mono ?_
  rintro e w1 ⟨p, rfl, b, d, hs, hb, hge⟩
  have HS1 := Lib.hid hs
  have HB1 := Lib.hid hb
  have HGE := Lib.hid hge
  have HLT := Lib.hid hs.lt
  clear hs hb hge
  go_upto_region 5 with fail
  obtain ⟨W2, hW2⟩ : ∃ W2, w1.alloc (.cells #[.int .i64 1, .int .i64 0] 25) = W2 := ⟨_, rfl⟩
  have hc2 : Chg [] w1 W2 := by rw [← hW2]; exact (Chg.refl [] w1).alloc _
  have hP2 : Own W2 w1.heap.size 25 [.int .i64 1, .int .i64 0] := by rw [← hW2]; exact Own.new w1 _ _
  have HC2 := Lib.hid hc2
  have HP2 := Lib.hid hP2
  have HZ := Lib.hid (Own.new W2 40 zmT.cs)
  obtain ⟨pl, hpl⟩ : ∃ pl, w1.heap.size = pl := ⟨_, rfl⟩
  rw [hW2]
  rw [hpl] at hP2 HP2 ⊢
  have HPL := Lib.hid hpl
  clear hc2 hW2 hpl
  have a0 := hP2.cell 0
  have a1 := hP2.cell 1
  have az := hP2.lt
  simp at a0 a1
  clear hP2
  go_wp2_with (refine wpList_storeMg rfl (.tmp 3) (.tmp 17) rfl W2.heap.size rfl al11 rfl zmT.cs HZ.out rfl ?_)
  intro w3 ho hc
  have hc3 : Chg [] W2 w3 := ((Chg.refl [] W2).alloc _).then hc (fun x hx => by simp only [List.mem_singleton] at hx; subst hx; exact .inr (Nat.le_refl _))
  obtain ⟨mb, hmb⟩ : ∃ mb, W2.heap.size = mb := ⟨_, rfl⟩
  rw [hmb] at ho ⊢
  have HM3 := Lib.hid ho
  have HC3 := Lib.hid (HC2.out.trans hc3)
  have HS3 := Lib.hid (HS1.out.kept HC3.out)
  have HP3 := Lib.hid (HP2.out.chg hc3 (by simp))
  have HFAR : Hid (pl ∉ [p, b, d] ∧ mb ∉ [p, b, d] ∧ ∀ x ∈ [p, b, d], w.heap.size ≤ x) := Lib.hid ⟨fun h => by have := HLT.out _ h; have := HPL.out; omega, fun h => by have := HLT.out _ h; have := HC2.out.size; omega, HGE.out⟩
  have HPU := Lib.hid (Put_any HS3.out (by decide) al11 0 (al11_in _ _) (Nat.zero_le _) al11_fit)
  clear a0 a1 az ho hc hc3 hmb HZ
  go_wp2_with (refine wpList_loadMg rfl (.tmp 3) rfl mb rfl al11 HM3.out ?_)
  refine HPU.out.mono ?_
  rintro e w4 ⟨g, rfl, S1, hr, hs, hc⟩
  obtain ⟨k, hk, he, rfl, rfl⟩ := hr.yes al11_right
  have HK := Lib.hid (And.intro hk he)
  have e1 : SpS.zero.addE = 0 := rfl
  have e2 : SpS.zero.add k = ⟨[k], fun _ => false, 0⟩ := rfl
  rw [e1]
  rw [e2] at hs
  have HM4 := Lib.hid (HM3.out.chg hc (by have := HFAR.out.2.1; simp at this ⊢; omega))
  have HP4 := Lib.hid (HP3.out.chg hc (by have := HFAR.out.1; simp at this ⊢; omega))
  have HC4 := Lib.hid ((HC3.out.mono (l' := [p, b, d]) (by simp)).trans (hc.mono (by simp)))
  have HPU2 := Lib.hid (Put_any hs (Nat.zero_le _) al11 0 (al11_in _ _) (Nat.zero_le _) al11_fit)
  clear hs hc hr hk he e1 e2
  go_wp2_with (refine wpList_loadMg rfl (.tmp 3) rfl mb rfl al11 HM4.out ?_)
  refine HPU2.out.mono ?_
  rintro e w5 ⟨g, rfl, S2, hr, hs, hc⟩
  obtain ⟨k2, hk2, he2, rfl, rfl⟩ := hr.yes al11_right
  obtain rfl : k2 = k := he2.unique HK.out.2
  have e1 : (⟨[k2], fun _ => false, 0⟩ : SpS).addE = 0 := rfl
  have e2 : (⟨[k2], fun _ => false, 0⟩ : SpS).add k2 = ⟨[k2, k2], fun _ => false, 0⟩ := by
    have : ¬ k2 < k2 := List.lt_irrefl k2
    simp [SpS.add, ins, this]
  rw [e1]
  rw [e2] at hs
  have HM5 := Lib.hid (HM4.out.chg hc (by have := HFAR.out.2.1; simp at this ⊢; omega))
  have hp5 := HP4.out.chg hc (by have := HFAR.out.1; simp at this ⊢; omega)
  have HC5 := Lib.hid (HC4.out.trans (hc.mono (by simp)))
  have HDN := Lib.hid (Down_any hs (1, 0) true (by kernel_rfl))
  have a0 := hp5.cell 0
  have a1 := hp5.cell 1
  have az := hp5.lt
  simp at a0 a1
  clear hs hc hr hk2 he2 e1 e2 hp5
  go_wp2_with fail
  refine HDN.out.mono ?_
  rintro e w6 ⟨rfl, hs, hc⟩
  have HM6 := Lib.hid (HM5.out.chg hc (by have := HFAR.out.2.1; simp at this ⊢; omega))
  have HC6 := Lib.hid (HC5.out.trans (hc.mono (by simp)))
  have HS6 := Lib.hid hs
  have HTI := Lib.hid (Times_any hs al11 0 (al11_in _ _) (Nat.zero_le _) al11_fit)
  clear a0 a1 az hs hc
  go_wp2_with (refine wpList_loadMg rfl (.tmp 3) rfl mb rfl al11 HM6.out ?_)
  refine HTI.out.mono ?_
  rintro e w7 ⟨n, rfl, ht, hc⟩
  obtain ⟨k3, hk3, he3, rfl⟩ := ht.yes al11_right
  obtain rfl : k3 = k2 := he3.unique HK.out.2
  have e1 : (SpS.down ⟨[k3, k3], fun _ => false, 0⟩ (1, 0) true).L.count k3 = 2 := by simp [SpS.down]
  rw [e1]
  have HS7 := Lib.hid (HS6.out.kept hc)
  have HC7 := Lib.hid (HC6.out.trans (hc.mono (by simp)))
  have HTK := Lib.hid (Take_x [] HS7.out 0 (by simp))
  clear ht hk3 he3 e1 hc
  go_wp2_with fail
  refine HTK.out.mono ?_
  rintro e w8 ⟨T, u, g, rfl, ht, hf, hin, hx, hs, hc⟩
  have hdd : dd [k3, k3] = [k3] := by
    simp [dd, firsts, List.range, List.range.loop, isFirst]
  have hka : keyAt (SpS.down ⟨[k3, k3], fun _ => false, 0⟩ (1, 0) true).L 0 = some k3 := by
    show keyAt [k3, k3] 0 = _
    unfold keyAt
    rw [hdd]
    rfl
  obtain ⟨y1, y2, rfl⟩ := ht.yes k3 hka
  have hkx : pMg k3 = al11.x := pMg_enc' al11_right HK.out.2
  rw [hkx] at y1 y2
  obtain rfl : u = false := by rw [y2]; rfl
  have e3 : (SpS.down ⟨[k3, k3], fun _ => false, 0⟩ (1, 0) true).take 0 = ⟨[k3], updF (fun _ => false) (1, 0) true, 0⟩ := by
    unfold SpS.take
    rw [hka]
    simp [SpS.rem, SpS.down]
  rw [e3] at hs
  have had : T.ad = 5 := congrArg Mg.ad y1
  have HAD := Lib.hid had
  have HS8 := Lib.hid hs
  have HC8 := Lib.hid (HC7.out.trans (hc.mono (by simp)))
  have HZ := Lib.hid (Own.new w8 40 zmT.cs)
  clear ht hf hin hx hs hc y1 y2 hka hdd hkx e3 had
  go_wp2_with (refine wpList_storeMg rfl (.tmp 8) (.tmp 33) rfl w8.heap.size rfl T rfl zmT.cs HZ.out rfl ?_)
  intro w9 ho hc
  have hc9 : Chg [] w8 w9 := ((Chg.refl [] w8).alloc _).then hc (fun x hx => by simp only [List.mem_singleton] at hx; subst hx; exact .inr (Nat.le_refl _))
  have HS9 := Lib.hid (HS8.out.kept hc9)
  have HC9 := Lib.hid (HC8.out.trans (hc9.mono (by simp)))
  obtain ⟨tb, htb⟩ : ∃ tb, w8.heap.size = tb := ⟨_, rfl⟩
  rw [htb] at ho ⊢
  have a6 := ho.cell 8
  have az := ho.lt
  simp [MgT.cs, HAD.out] at a6
  have HLE := Lib.hid (Len_any HS9.out)
  clear ho hc hc9 htb HZ
  go_wp2_with fail
  refine HLE.out.mono ?_
  rintro e w10 ⟨rfl, hc⟩
  have HS10 := Lib.hid (HS9.out.kept hc)
  have HC10 := Lib.hid (HC9.out.trans (hc.mono (by simp)))
  have HKI := Lib.hid (Kinds_any HS10.out)
  clear hc
  go_wp2_with fail
  refine HKI.out.mono ?_
  rintro e w11 ⟨v, rfl, Ts, hm, hmap, hc⟩
  have hlen : Ts.length = 1 := by
    have := congrArg List.length hmap
    simpa [dd, firsts, List.range, List.range.loop, isFirst] using this
  obtain ⟨a, c, rfl, _⟩ := hm.form
  rw [hlen]
  have HC11 := Lib.hid (HC10.out.trans (hc.mono (by simp)))
  clear hm hmap hlen hc
  go_wp2_with fail
  go_ret
  exact ⟨rfl, below_chg HB1.out HC11.out HB1.out.size HFAR.out.2.2⟩
end Go.Proofs.YteenlkmnadjnpaaGreat
