/-
  Serve of package sequencer, by its contract. No claim of its own.
-/
import Derived.Test.YtdblplkaobeimaaGc14
namespace Go.Proofs.Ytdblplkaobeimaa
open Go.RowKit Go.Deep Go.Shelf
set_option linter.unusedVariables false
set_option linter.unusedSimpArgs false

theorem results_row_tmpQ {P : Program} {fn : Func} {p u : Tmp} {ty : TypeId} (h : fn.results = #[.cell p ty, .tmp u]) (tmps : Array Value) (w : World) (g : Nat) (t : TypeId) (cs : Array Value) (fr : Nat × Nat) (d : TypeDesc)
    (hp : tmps.getD p undef = .pointer (some ⟨g, 0, none⟩)) (hg : w.heap[g]? = some (.cells cs t fr))
    (hu : P.underlying ty = some d) (hd : (match d with | .struct _ | .array _ _ => true | _ => false) = true) (hi : (P.info? ty).map (·.size) = some cs.size) :
    (results fn tmps).run P w = .ok (.tuple #[.agg cs, tmps.getD u undef]) w := by
  have hp' : tmps[p]?.getD undef = .pointer (some ⟨g, 0, none⟩) := by simpa using hp
  simp [results, h, hp', asAddr, run_loadVar_row w g t ty cs fr d hg hu hd hi]
theorem run_loadMgQ {o : Oper} {a : Act} {w : World} (x : Operand) (ho : o.op = .load 40 x) (b : Nat) (hx : a.eval x = .pointer (some ⟨b, 0, none⟩)) (A : MgT) (hr : Own w b 40 A.cs) : (execOp a.eval o).run Try.prog w = .ok (.value (.agg A.cs.toArray)) w := by
  unfold execOp
  simp only [ho, hx, Instr.loadAt, Instr.sureAddr, Sem.run_bind, Sem.run_pure, Result.andThen_ok, run_loadVar_mid w b 0 40 A.cs _ hr.range Try.underlying40 rfl infoMg]

set_option maxHeartbeats 8000000 in
set_option maxRecDepth 100000 in
theorem Serve_wrong (S : SqS) (p : Nat) (A : MgT) (w0 : World) (ho : Sqn w0 p S) (hin : MgIn w0 w0.heap.size A) (hf : MgFit A) (hr : mright A.x = false) :
    Calls Try.prog 9 #[.pointer (some ⟨p, 0, none⟩), .agg A.cs.toArray] w0 fun e w' => e = .returned (.tuple #[.agg zmT.cs.toArray, .bool false]) ∧ Below w0.heap.size w0 w' := by
  obtain ⟨W, HWW, HO1, HO2, HC⟩ := two_new A w0
  have HR := Lib.hid (fun (V : World) (hc : Chg [] w0 V) => mright_any A w0.heap.size V (hin.below hc.low (Nat.le_refl _)) hc.size hf)
  rw [hr] at HR
  simp only [MgT.val] at HR
  clear ho hin hf hr
  go_enter Try.func9, Try.ntmps9
  go_upto_region 1 with fail
  rw [HWW.out]
  have HST : Hid (Own W.drew w0.heap.size 40 A.cs ∧ Own W.drew (w0.heap.size + 1) 40 zmT.cs ∧ Chg [] w0 W.drew) := Lib.hid ⟨HO1.out, HO2.out, HC.out.drew⟩
  refine wp_region_held_drew (S := (fun w' => Own w' w0.heap.size 40 A.cs ∧ Own w' (w0.heap.size + 1) 40 zmT.cs ∧ Chg [] w0 w')) (by kernel_rfl) HST.out (fun hHeld => ?_)
  refine wpAnyH_take (i := 0) (v := ?_) rfl (by kernel_rfl) (by kernel_rfl) (by kernel_rfl) (fun _ _ _ h => h) (Or.inl ⟨by kernel_rfl, ?_⟩) hHeld ?_
  rotate_left
  · (intro w hSw; first | (go_simp; done) | (go_simp; with_reducible rfl))
  (try simp only [Act.put, List.getElem_toArray, List.getElem_cons_succ, List.getElem_cons_zero, List.setIfInBounds_toArray, List.set_cons_zero, List.set_cons_succ])
  refine wpAnyH_take (i := 1) (v := ?_) rfl (by kernel_rfl) (by kernel_rfl) (by kernel_rfl) (fun _ _ _ h => h) (Or.inl ⟨by kernel_rfl, ?_⟩) hHeld ?_
  rotate_left
  · (intro w hSw; first | (go_simp; done) | (go_simp; with_reducible rfl))
  (try simp only [Act.put, List.getElem_toArray, List.getElem_cons_succ, List.getElem_cons_zero, List.setIfInBounds_toArray, List.set_cons_zero, List.set_cons_succ])
  refine wpAnyH_take (i := 2) (v := ?_) rfl (by kernel_rfl) (by kernel_rfl) (by kernel_rfl) (fun _ _ _ h => h) (Or.inl ⟨by kernel_rfl, ?_⟩) hHeld ?_
  rotate_left
  · (intro w hSw; first | (go_simp; done) | (go_simp; with_reducible rfl))
  (try simp only [Act.put, List.getElem_toArray, List.getElem_cons_succ, List.getElem_cons_zero, List.setIfInBounds_toArray, List.set_cons_zero, List.set_cons_succ])
  refine wpAnyH_take (i := 3) (v := .agg A.cs.toArray) rfl (by kernel_rfl) (by kernel_rfl) (by kernel_rfl) (fun _ _ _ h => h) (Or.inl ⟨by kernel_rfl, ?_⟩) hHeld ?_
  · (intro w hSw; exact run_loadMgQ (.tmp 3) rfl w0.heap.size rfl A hSw.1)
  (try simp only [Act.put, List.getElem_toArray, List.getElem_cons_succ, List.getElem_cons_zero, List.setIfInBounds_toArray, List.set_cons_zero, List.set_cons_succ])
  refine wpAnyH_ready (rs := [4]) (by kernel_rfl) (by simp) (AllReadyH.cons rfl (fun K hK => ?_) AllReadyH.nil)
  have hH := hHeld
  (go_simp; go_at_call 7; refine (HR.out _ hH.2.2).mono ?_; rintro e w6 ⟨rfl, hb6⟩)
  refine hK.out _ _ (by exact ⟨hH.1.below hb6 hH.1.lt, hH.2.1.below hb6 hH.2.1.lt, hH.2.2.of_below hb6⟩) (fun hHq1 => ?_)
  clear hK K hH 
  (try simp only [Act.put, List.getElem_toArray, List.getElem_cons_succ, List.getElem_cons_zero, List.setIfInBounds_toArray, List.set_cons_zero, List.set_cons_succ])
  refine wpAnyH_take (i := 5) (v := ?_) rfl (by kernel_rfl) (by kernel_rfl) (by kernel_rfl) (fun _ _ _ h => h) (Or.inl ⟨by kernel_rfl, ?_⟩) hHq1 ?_
  rotate_left
  · (intro w hSw; first | (go_simp; done) | (go_simp; with_reducible rfl))
  (try simp only [Act.put, List.getElem_toArray, List.getElem_cons_succ, List.getElem_cons_zero, List.setIfInBounds_toArray, List.set_cons_zero, List.set_cons_succ])
  refine wpAnyH_take (i := 6) (v := ?_) rfl (by kernel_rfl) (by kernel_rfl) (by kernel_rfl) (fun _ _ _ h => h) (Or.inl ⟨by kernel_rfl, ?_⟩) hHq1 ?_
  rotate_left
  · (intro w hSw; first | (go_simp; done) | (go_simp; with_reducible rfl))
  (try simp only [Act.put, List.getElem_toArray, List.getElem_cons_succ, List.getElem_cons_zero, List.setIfInBounds_toArray, List.set_cons_zero, List.set_cons_succ])
  refine wpAnyH_take (i := 7) (v := ?_) rfl (by kernel_rfl) (by kernel_rfl) (by kernel_rfl) (fun _ _ _ h => h) (Or.inl ⟨by kernel_rfl, ?_⟩) hHq1 ?_
  rotate_left
  · (intro w hSw; first | (go_simp; done) | (go_simp; with_reducible rfl))
  (try simp only [Act.put, List.getElem_toArray, List.getElem_cons_succ, List.getElem_cons_zero, List.setIfInBounds_toArray, List.set_cons_zero, List.set_cons_succ])
  refine wpAnyH_take (i := 8) (v := undef) rfl (by kernel_rfl) (by kernel_rfl) (by kernel_rfl) (fun _ _ _ h => h) (Or.inr ⟨by kernel_rfl, rfl⟩) hHq1 ?_
  (try simp only [Act.put, List.getElem_toArray, List.getElem_cons_succ, List.getElem_cons_zero, List.setIfInBounds_toArray, List.set_cons_zero, List.set_cons_succ])
  refine wpAnyH_take (i := 9) (v := undef) rfl (by kernel_rfl) (by kernel_rfl) (by kernel_rfl) (fun _ _ _ h => h) (Or.inr ⟨by kernel_rfl, rfl⟩) hHq1 ?_
  (try simp only [Act.put, List.getElem_toArray, List.getElem_cons_succ, List.getElem_cons_zero, List.setIfInBounds_toArray, List.set_cons_zero, List.set_cons_succ])
  refine wpAnyH_take (i := 10) (v := undef) rfl (by kernel_rfl) (by kernel_rfl) (by kernel_rfl) (fun _ _ _ h => h) (Or.inr ⟨by kernel_rfl, rfl⟩) hHq1 ?_
  (try simp only [Act.put, List.getElem_toArray, List.getElem_cons_succ, List.getElem_cons_zero, List.setIfInBounds_toArray, List.set_cons_zero, List.set_cons_succ])
  refine wpAnyH_take (i := 11) (v := undef) rfl (by kernel_rfl) (by kernel_rfl) (by kernel_rfl) (fun _ _ _ h => h) (Or.inr ⟨by kernel_rfl, rfl⟩) hHq1 ?_
  (try simp only [Act.put, List.getElem_toArray, List.getElem_cons_succ, List.getElem_cons_zero, List.setIfInBounds_toArray, List.set_cons_zero, List.set_cons_succ])
  refine wpAnyH_take (i := 12) (v := undef) rfl (by kernel_rfl) (by kernel_rfl) (by kernel_rfl) (fun _ _ _ h => h) (Or.inr ⟨by kernel_rfl, rfl⟩) hHq1 ?_
  (try simp only [Act.put, List.getElem_toArray, List.getElem_cons_succ, List.getElem_cons_zero, List.setIfInBounds_toArray, List.set_cons_zero, List.set_cons_succ])
  refine wpAnyH_take (i := 13) (v := ?_) rfl (by kernel_rfl) (by kernel_rfl) (by kernel_rfl) (fun _ _ _ h => h) (Or.inl ⟨by kernel_rfl, ?_⟩) hHq1 ?_
  rotate_left
  · (intro w hSw; first | (go_simp; done) | (go_simp; with_reducible rfl))
  (try simp only [Act.put, List.getElem_toArray, List.getElem_cons_succ, List.getElem_cons_zero, List.setIfInBounds_toArray, List.set_cons_zero, List.set_cons_succ])
  refine wpAnyH_done (by kernel_rfl) ?_ _
  have hEnd := hHq1
  have HE := Lib.hid hEnd
  clear hEnd hHeld hb6
  go_wp2_with (refine wpList_storeMg rfl (.tmp 4) (.tmp 20) rfl (w0.heap.size + 1) rfl zmT rfl zmT.cs HE.out.2.1 rfl ?_)
  intro w7 ho hc
  go_wp2_with fail
  refine bodyPost_ret (results_row_tmpQ Try.results9 _ _ (w0.heap.size + 1) 40 _ (0, 0) _ rfl ho Try.underlying40 rfl (by kernel_rfl)) rfl ?_
  exact ⟨rfl, (HE.out.2.2.then hc (fun x hx => by simp only [List.mem_singleton] at hx; subst hx; exact .inr (Nat.le_succ _))).low⟩

/-! ### rest -/

set_option maxHeartbeats 8000000 in
set_option maxRecDepth 100000 in
theorem Serve_else (S : SqS) (p : Nat) (A : MgT) (w0 : World) (ho : Sqn w0 p S) (hin : MgIn w0 w0.heap.size A) (hf : MgFit A) (hr : mright A.x = true) (ht : ¬ (A.to.1 = 2 ∧ A.to.2 = S.n)) :
    Calls Try.prog 9 #[.pointer (some ⟨p, 0, none⟩), .agg A.cs.toArray] w0 fun e w' => e = .returned (.tuple #[.agg zmT.cs.toArray, .bool false]) ∧ Below w0.heap.size w0 w' := by
  obtain ⟨W, HWW, HO1, HO2, HC⟩ := two_new A w0
  have HR := Lib.hid (fun (V : World) (hc : Chg [] w0 V) => mright_any A w0.heap.size V (hin.below hc.low (Nat.le_refl _)) hc.size hf)
  rw [hr] at HR
  simp only [MgT.val] at HR
  have HS := Lib.hid (ho.chg HC.out (by simp))
  have HPL := Lib.hid (fun (V : World) (h : Sqn V p S) => place_any S p V h)
  have HPG : Hid (p < w0.heap.size) := Lib.hid ho.lt
  have hpl := fun w => eqPlQ A.to.1 A.to.2 2 S.n w
  rw [decide_eq_false ht] at hpl
  clear ho hin hf hr ht
  go_enter Try.func9, Try.ntmps9
  go_upto_region 1 with fail
  rw [HWW.out]
  have HST : Hid (Own W.drew w0.heap.size 40 A.cs ∧ Own W.drew (w0.heap.size + 1) 40 zmT.cs ∧ Sqn W.drew p S ∧ Chg [] w0 W.drew) := Lib.hid ⟨HO1.out, HO2.out, HS.out, HC.out.drew⟩
  refine wp_region_held_drew (S := (fun w' => Own w' w0.heap.size 40 A.cs ∧ Own w' (w0.heap.size + 1) 40 zmT.cs ∧ Sqn w' p S ∧ Chg [] w0 w')) (by kernel_rfl) HST.out (fun hHeld => ?_)
  refine wpAnyH_take (i := 0) (v := ?_) rfl (by kernel_rfl) (by kernel_rfl) (by kernel_rfl) (fun _ _ _ h => h) (Or.inl ⟨by kernel_rfl, ?_⟩) hHeld ?_
  rotate_left
  · (intro w hSw; first | (go_simp; done) | (go_simp; with_reducible rfl))
  (try simp only [Act.put, List.getElem_toArray, List.getElem_cons_succ, List.getElem_cons_zero, List.setIfInBounds_toArray, List.set_cons_zero, List.set_cons_succ])
  refine wpAnyH_take (i := 1) (v := ?_) rfl (by kernel_rfl) (by kernel_rfl) (by kernel_rfl) (fun _ _ _ h => h) (Or.inl ⟨by kernel_rfl, ?_⟩) hHeld ?_
  rotate_left
  · (intro w hSw; first | (go_simp; done) | (go_simp; with_reducible rfl))
  (try simp only [Act.put, List.getElem_toArray, List.getElem_cons_succ, List.getElem_cons_zero, List.setIfInBounds_toArray, List.set_cons_zero, List.set_cons_succ])
  refine wpAnyH_take (i := 2) (v := ?_) rfl (by kernel_rfl) (by kernel_rfl) (by kernel_rfl) (fun _ _ _ h => h) (Or.inl ⟨by kernel_rfl, ?_⟩) hHeld ?_
  rotate_left
  · (intro w hSw; first | (go_simp; done) | (go_simp; with_reducible rfl))
  (try simp only [Act.put, List.getElem_toArray, List.getElem_cons_succ, List.getElem_cons_zero, List.setIfInBounds_toArray, List.set_cons_zero, List.set_cons_succ])
  refine wpAnyH_take (i := 3) (v := .agg A.cs.toArray) rfl (by kernel_rfl) (by kernel_rfl) (by kernel_rfl) (fun _ _ _ h => h) (Or.inl ⟨by kernel_rfl, ?_⟩) hHeld ?_
  · (intro w hSw; exact run_loadMgQ (.tmp 3) rfl w0.heap.size rfl A hSw.1)
  (try simp only [Act.put, List.getElem_toArray, List.getElem_cons_succ, List.getElem_cons_zero, List.setIfInBounds_toArray, List.set_cons_zero, List.set_cons_succ])
  refine wpAnyH_ready (rs := [4]) (by kernel_rfl) (by simp) (AllReadyH.cons rfl (fun K hK => ?_) AllReadyH.nil)
  have hH := hHeld
  (go_simp; go_at_call 7; refine (HR.out _ hH.2.2.2).mono ?_; rintro e w6 ⟨rfl, hb6⟩)
  refine hK.out _ _ (by exact ⟨hH.1.below hb6 hH.1.lt, hH.2.1.below hb6 hH.2.1.lt, hH.2.2.1.below hb6 hH.2.2.1.lt, hH.2.2.2.of_below hb6⟩) (fun hHq1 => ?_)
  clear hK K hH 
  (try simp only [Act.put, List.getElem_toArray, List.getElem_cons_succ, List.getElem_cons_zero, List.setIfInBounds_toArray, List.set_cons_zero, List.set_cons_succ])
  refine wpAnyH_take (i := 5) (v := ?_) rfl (by kernel_rfl) (by kernel_rfl) (by kernel_rfl) (fun _ _ _ h => h) (Or.inl ⟨by kernel_rfl, ?_⟩) hHq1 ?_
  rotate_left
  · (intro w hSw; first | (go_simp; done) | (go_simp; with_reducible rfl))
  (try simp only [Act.put, List.getElem_toArray, List.getElem_cons_succ, List.getElem_cons_zero, List.setIfInBounds_toArray, List.set_cons_zero, List.set_cons_succ])
  refine wpAnyH_take (i := 6) (v := ?_) rfl (by kernel_rfl) (by kernel_rfl) (by kernel_rfl) (fun _ _ _ h => h) (Or.inl ⟨by kernel_rfl, ?_⟩) hHq1 ?_
  rotate_left
  · (intro w hSw; first | (go_simp; done) | (go_simp; with_reducible rfl))
  (try simp only [Act.put, List.getElem_toArray, List.getElem_cons_succ, List.getElem_cons_zero, List.setIfInBounds_toArray, List.set_cons_zero, List.set_cons_succ])
  refine wpAnyH_take (i := 7) (v := ?_) rfl (by kernel_rfl) (by kernel_rfl) (by kernel_rfl) (fun _ _ _ h => h) (Or.inl ⟨by kernel_rfl, ?_⟩) hHq1 ?_
  rotate_left
  · (intro w hSw; first | (go_simp; done) | (go_simp; with_reducible rfl))
  (try simp only [Act.put, List.getElem_toArray, List.getElem_cons_succ, List.getElem_cons_zero, List.setIfInBounds_toArray, List.set_cons_zero, List.set_cons_succ])
  refine wpAnyH_take (i := 8) (v := ?_) rfl (by kernel_rfl) (by kernel_rfl) (by kernel_rfl) (fun _ _ _ h => h) (Or.inl ⟨by kernel_rfl, ?_⟩) hHq1 ?_
  rotate_left
  · (intro w hSw; first | (go_simp; done) | (go_simp; with_reducible rfl))
  (try simp only [Act.put, List.getElem_toArray, List.getElem_cons_succ, List.getElem_cons_zero, List.setIfInBounds_toArray, List.set_cons_zero, List.set_cons_succ])
  refine wpAnyH_take (i := 9) (v := .agg #[.int .i64 A.to.1, .int .i64 A.to.2]) rfl (by kernel_rfl) (by kernel_rfl) (by kernel_rfl) (fun _ _ _ h => h) (Or.inl ⟨by kernel_rfl, ?_⟩) hHq1 ?_
  · (intro w hSw; have c3 := hSw.1.cell 3; have c4 := hSw.1.cell 4; simp [MgT.cs] at c3 c4; go_simp)
  (try simp only [Act.put, List.getElem_toArray, List.getElem_cons_succ, List.getElem_cons_zero, List.setIfInBounds_toArray, List.set_cons_zero, List.set_cons_succ])
  refine wpAnyH_take (i := 10) (v := ?_) rfl (by kernel_rfl) (by kernel_rfl) (by kernel_rfl) (fun _ _ _ h => h) (Or.inl ⟨by kernel_rfl, ?_⟩) hHq1 ?_
  rotate_left
  · (intro w hSw; first | (go_simp; done) | (go_simp; with_reducible rfl))
  (try simp only [Act.put, List.getElem_toArray, List.getElem_cons_succ, List.getElem_cons_zero, List.setIfInBounds_toArray, List.set_cons_zero, List.set_cons_succ])
  refine wpAnyH_ready (rs := [11]) (by kernel_rfl) (by simp) (AllReadyH.cons rfl (fun K hK => ?_) AllReadyH.nil)
  have hH := hHq1
  (go_simp; go_at_call 23; refine (HPL.out _ hH.2.2.1).mono ?_; rintro e w7 ⟨rfl, hb7⟩)
  refine hK.out _ _ (by exact ⟨hH.1.below hb7 hH.1.lt, hH.2.1.below hb7 hH.2.1.lt, hH.2.2.1.below hb7 hH.2.2.1.lt, hH.2.2.2.of_below hb7⟩) (fun hHq2 => ?_)
  clear hK K hH hHq1
  (try simp only [Act.put, List.getElem_toArray, List.getElem_cons_succ, List.getElem_cons_zero, List.setIfInBounds_toArray, List.set_cons_zero, List.set_cons_succ])
  refine wpAnyH_take (i := 12) (v := ?_) rfl (by kernel_rfl) (by kernel_rfl) (by kernel_rfl) (fun _ _ _ h => h) (Or.inl ⟨by kernel_rfl, ?_⟩) hHq2 ?_
  rotate_left
  · (intro w hSw; first | (go_simp; done) | (go_simp; with_reducible rfl))
  (try simp only [Act.put, List.getElem_toArray, List.getElem_cons_succ, List.getElem_cons_zero, List.setIfInBounds_toArray, List.set_cons_zero, List.set_cons_succ])
  refine wpAnyH_take (i := 13) (v := ?_) rfl (by kernel_rfl) (by kernel_rfl) (by kernel_rfl) (fun _ _ _ h => h) (Or.inl ⟨by kernel_rfl, ?_⟩) hHq2 ?_
  rotate_left
  · (intro w hSw; first | (go_simp; done) | (go_simp; with_reducible rfl))
  (try simp only [Act.put, List.getElem_toArray, List.getElem_cons_succ, List.getElem_cons_zero, List.setIfInBounds_toArray, List.set_cons_zero, List.set_cons_succ])
  refine wpAnyH_done (by kernel_rfl) ?_ _
  have hEnd := hHq2
  have HE := Lib.hid hEnd
  clear hEnd hHeld hb6 hb7 hpl
  go_wp2_with (refine wpList_storeMg rfl (.tmp 4) (.tmp 20) rfl (w0.heap.size + 1) rfl zmT rfl zmT.cs HE.out.2.1 rfl ?_)
  intro w7 ho hc
  go_wp2_with fail
  refine bodyPost_ret (results_row_tmpQ Try.results9 _ _ (w0.heap.size + 1) 40 _ (0, 0) _ rfl ho Try.underlying40 rfl (by kernel_rfl)) rfl ?_
  exact ⟨rfl, (HE.out.2.2.2.then hc (fun x hx => by simp only [List.mem_singleton] at hx; subst hx; exact .inr (Nat.le_succ _))).low⟩

set_option maxHeartbeats 8000000 in
set_option maxRecDepth 100000 in
theorem Serve_other (S : SqS) (p : Nat) (A : MgT) (w0 : World) (ho : Sqn w0 p S) (hin : MgIn w0 w0.heap.size A) (hf : MgFit A) (hr : mright A.x = true) (ht : A.to.1 = 2 ∧ A.to.2 = S.n) (k10 : A.k ≠ 10) (k7 : A.k ≠ 7) (k9 : A.k ≠ 9) :
    Calls Try.prog 9 #[.pointer (some ⟨p, 0, none⟩), .agg A.cs.toArray] w0 fun e w' => e = .returned (.tuple #[.agg zmT.cs.toArray, .bool false]) ∧ Below w0.heap.size w0 w' := by
  obtain ⟨W, HWW, HO1, HO2, HC⟩ := two_new A w0
  have HR := Lib.hid (fun (V : World) (hc : Chg [] w0 V) => mright_any A w0.heap.size V (hin.below hc.low (Nat.le_refl _)) hc.size hf)
  rw [hr] at HR
  simp only [MgT.val] at HR
  have HS := Lib.hid (ho.chg HC.out (by simp))
  have HPL := Lib.hid (fun (V : World) (h : Sqn V p S) => place_any S p V h)
  have HPG : Hid (p < w0.heap.size) := Lib.hid ho.lt
  have hpl := fun w => eqPlQ A.to.1 A.to.2 2 S.n w
  rw [decide_eq_true ht] at hpl
  clear ho hin hf hr ht
  go_enter Try.func9, Try.ntmps9
  go_upto_region 1 with fail
  rw [HWW.out]
  have HST : Hid (Own W.drew w0.heap.size 40 A.cs ∧ Own W.drew (w0.heap.size + 1) 40 zmT.cs ∧ Sqn W.drew p S ∧ Chg [] w0 W.drew) := Lib.hid ⟨HO1.out, HO2.out, HS.out, HC.out.drew⟩
  refine wp_region_held_drew (S := (fun w' => Own w' w0.heap.size 40 A.cs ∧ Own w' (w0.heap.size + 1) 40 zmT.cs ∧ Sqn w' p S ∧ Chg [] w0 w')) (by kernel_rfl) HST.out (fun hHeld => ?_)
  refine wpAnyH_take (i := 0) (v := ?_) rfl (by kernel_rfl) (by kernel_rfl) (by kernel_rfl) (fun _ _ _ h => h) (Or.inl ⟨by kernel_rfl, ?_⟩) hHeld ?_
  rotate_left
  · (intro w hSw; first | (go_simp; done) | (go_simp; with_reducible rfl))
  (try simp only [Act.put, List.getElem_toArray, List.getElem_cons_succ, List.getElem_cons_zero, List.setIfInBounds_toArray, List.set_cons_zero, List.set_cons_succ])
  refine wpAnyH_take (i := 1) (v := ?_) rfl (by kernel_rfl) (by kernel_rfl) (by kernel_rfl) (fun _ _ _ h => h) (Or.inl ⟨by kernel_rfl, ?_⟩) hHeld ?_
  rotate_left
  · (intro w hSw; first | (go_simp; done) | (go_simp; with_reducible rfl))
  (try simp only [Act.put, List.getElem_toArray, List.getElem_cons_succ, List.getElem_cons_zero, List.setIfInBounds_toArray, List.set_cons_zero, List.set_cons_succ])
  refine wpAnyH_take (i := 2) (v := ?_) rfl (by kernel_rfl) (by kernel_rfl) (by kernel_rfl) (fun _ _ _ h => h) (Or.inl ⟨by kernel_rfl, ?_⟩) hHeld ?_
  rotate_left
  · (intro w hSw; first | (go_simp; done) | (go_simp; with_reducible rfl))
  (try simp only [Act.put, List.getElem_toArray, List.getElem_cons_succ, List.getElem_cons_zero, List.setIfInBounds_toArray, List.set_cons_zero, List.set_cons_succ])
  refine wpAnyH_take (i := 3) (v := .agg A.cs.toArray) rfl (by kernel_rfl) (by kernel_rfl) (by kernel_rfl) (fun _ _ _ h => h) (Or.inl ⟨by kernel_rfl, ?_⟩) hHeld ?_
  · (intro w hSw; exact run_loadMgQ (.tmp 3) rfl w0.heap.size rfl A hSw.1)
  (try simp only [Act.put, List.getElem_toArray, List.getElem_cons_succ, List.getElem_cons_zero, List.setIfInBounds_toArray, List.set_cons_zero, List.set_cons_succ])
  refine wpAnyH_ready (rs := [4]) (by kernel_rfl) (by simp) (AllReadyH.cons rfl (fun K hK => ?_) AllReadyH.nil)
  have hH := hHeld
  (go_simp; go_at_call 7; refine (HR.out _ hH.2.2.2).mono ?_; rintro e w6 ⟨rfl, hb6⟩)
  refine hK.out _ _ (by exact ⟨hH.1.below hb6 hH.1.lt, hH.2.1.below hb6 hH.2.1.lt, hH.2.2.1.below hb6 hH.2.2.1.lt, hH.2.2.2.of_below hb6⟩) (fun hHq1 => ?_)
  clear hK K hH 
  (try simp only [Act.put, List.getElem_toArray, List.getElem_cons_succ, List.getElem_cons_zero, List.setIfInBounds_toArray, List.set_cons_zero, List.set_cons_succ])
  refine wpAnyH_take (i := 5) (v := ?_) rfl (by kernel_rfl) (by kernel_rfl) (by kernel_rfl) (fun _ _ _ h => h) (Or.inl ⟨by kernel_rfl, ?_⟩) hHq1 ?_
  rotate_left
  · (intro w hSw; first | (go_simp; done) | (go_simp; with_reducible rfl))
  (try simp only [Act.put, List.getElem_toArray, List.getElem_cons_succ, List.getElem_cons_zero, List.setIfInBounds_toArray, List.set_cons_zero, List.set_cons_succ])
  refine wpAnyH_take (i := 6) (v := ?_) rfl (by kernel_rfl) (by kernel_rfl) (by kernel_rfl) (fun _ _ _ h => h) (Or.inl ⟨by kernel_rfl, ?_⟩) hHq1 ?_
  rotate_left
  · (intro w hSw; first | (go_simp; done) | (go_simp; with_reducible rfl))
  (try simp only [Act.put, List.getElem_toArray, List.getElem_cons_succ, List.getElem_cons_zero, List.setIfInBounds_toArray, List.set_cons_zero, List.set_cons_succ])
  refine wpAnyH_take (i := 7) (v := ?_) rfl (by kernel_rfl) (by kernel_rfl) (by kernel_rfl) (fun _ _ _ h => h) (Or.inl ⟨by kernel_rfl, ?_⟩) hHq1 ?_
  rotate_left
  · (intro w hSw; first | (go_simp; done) | (go_simp; with_reducible rfl))
  (try simp only [Act.put, List.getElem_toArray, List.getElem_cons_succ, List.getElem_cons_zero, List.setIfInBounds_toArray, List.set_cons_zero, List.set_cons_succ])
  refine wpAnyH_take (i := 8) (v := ?_) rfl (by kernel_rfl) (by kernel_rfl) (by kernel_rfl) (fun _ _ _ h => h) (Or.inl ⟨by kernel_rfl, ?_⟩) hHq1 ?_
  rotate_left
  · (intro w hSw; first | (go_simp; done) | (go_simp; with_reducible rfl))
  (try simp only [Act.put, List.getElem_toArray, List.getElem_cons_succ, List.getElem_cons_zero, List.setIfInBounds_toArray, List.set_cons_zero, List.set_cons_succ])
  refine wpAnyH_take (i := 9) (v := .agg #[.int .i64 A.to.1, .int .i64 A.to.2]) rfl (by kernel_rfl) (by kernel_rfl) (by kernel_rfl) (fun _ _ _ h => h) (Or.inl ⟨by kernel_rfl, ?_⟩) hHq1 ?_
  · (intro w hSw; have c3 := hSw.1.cell 3; have c4 := hSw.1.cell 4; simp [MgT.cs] at c3 c4; go_simp)
  (try simp only [Act.put, List.getElem_toArray, List.getElem_cons_succ, List.getElem_cons_zero, List.setIfInBounds_toArray, List.set_cons_zero, List.set_cons_succ])
  refine wpAnyH_take (i := 10) (v := ?_) rfl (by kernel_rfl) (by kernel_rfl) (by kernel_rfl) (fun _ _ _ h => h) (Or.inl ⟨by kernel_rfl, ?_⟩) hHq1 ?_
  rotate_left
  · (intro w hSw; first | (go_simp; done) | (go_simp; with_reducible rfl))
  (try simp only [Act.put, List.getElem_toArray, List.getElem_cons_succ, List.getElem_cons_zero, List.setIfInBounds_toArray, List.set_cons_zero, List.set_cons_succ])
  refine wpAnyH_ready (rs := [11]) (by kernel_rfl) (by simp) (AllReadyH.cons rfl (fun K hK => ?_) AllReadyH.nil)
  have hH := hHq1
  (go_simp; go_at_call 23; refine (HPL.out _ hH.2.2.1).mono ?_; rintro e w7 ⟨rfl, hb7⟩)
  refine hK.out _ _ (by exact ⟨hH.1.below hb7 hH.1.lt, hH.2.1.below hb7 hH.2.1.lt, hH.2.2.1.below hb7 hH.2.2.1.lt, hH.2.2.2.of_below hb7⟩) (fun hHq2 => ?_)
  clear hK K hH hHq1
  (try simp only [Act.put, List.getElem_toArray, List.getElem_cons_succ, List.getElem_cons_zero, List.setIfInBounds_toArray, List.set_cons_zero, List.set_cons_succ])
  refine wpAnyH_take (i := 12) (v := ?_) rfl (by kernel_rfl) (by kernel_rfl) (by kernel_rfl) (fun _ _ _ h => h) (Or.inl ⟨by kernel_rfl, ?_⟩) hHq2 ?_
  rotate_left
  · (intro w hSw; first | (go_simp; done) | (go_simp; with_reducible rfl))
  (try simp only [Act.put, List.getElem_toArray, List.getElem_cons_succ, List.getElem_cons_zero, List.setIfInBounds_toArray, List.set_cons_zero, List.set_cons_succ])
  refine wpAnyH_take (i := 13) (v := ?_) rfl (by kernel_rfl) (by kernel_rfl) (by kernel_rfl) (fun _ _ _ h => h) (Or.inl ⟨by kernel_rfl, ?_⟩) hHq2 ?_
  rotate_left
  · (intro w hSw; first | (go_simp; done) | (go_simp; with_reducible rfl))
  (try simp only [Act.put, List.getElem_toArray, List.getElem_cons_succ, List.getElem_cons_zero, List.setIfInBounds_toArray, List.set_cons_zero, List.set_cons_succ])
  refine wpAnyH_done (by kernel_rfl) ?_ _
  have hEnd := hHq2
  have HE := Lib.hid hEnd
  clear hEnd hHeld hb6 hb7 hpl
  have c0 := HE.out.1.cell 0
  have hz := HE.out.1.lt
  simp [MgT.cs] at c0
  have e10 : (A.k == 10) = false := by rw [beq_eq_false_iff_ne]; exact k10
  have e7 : (A.k == 7) = false := by rw [beq_eq_false_iff_ne]; exact k7
  have e9 : (A.k == 9) = false := by rw [beq_eq_false_iff_ne]; exact k9
  clear k10 k7 k9
  go_wp2_with (refine wpList_storeMg rfl (.tmp 4) (.tmp 38) rfl (w0.heap.size + 1) rfl zmT rfl zmT.cs HE.out.2.1 rfl ?_)
  intro w7 ho hc
  go_wp2_with fail
  refine bodyPost_ret (results_row_tmpQ Try.results9 _ _ (w0.heap.size + 1) 40 _ (0, 0) _ rfl ho Try.underlying40 rfl (by kernel_rfl)) rfl ?_
  exact ⟨rfl, (HE.out.2.2.2.then hc (fun x hx => by simp only [List.mem_singleton] at hx; subst hx; exact .inr (Nat.le_succ _))).low⟩

set_option maxHeartbeats 8000000 in
set_option maxRecDepth 100000 in
theorem Serve_beg (S : SqS) (p : Nat) (A : MgT) (w0 : World) (ho : Sqn w0 p S) (hin : MgIn w0 w0.heap.size A) (hf : MgFit A) (hr : mright A.x = true) (ht : A.to.1 = 2 ∧ A.to.2 = S.n) (hk : A.k = 10) (Q Q' : MgT → World → Prop)
    (hM : ∀ V, Chg [] w0 V → Sqn V p S → w0.heap.size + 1 < V.heap.size → Calls Try.prog 24 #[.pointer (some ⟨p, 0, none⟩), .agg A.cs.toArray] V fun e w' => ∃ R, e = .returned (.agg R.cs.toArray) ∧ Chg [p] V w' ∧ Q R w')
    (hQ : ∀ R w' w'', Q R w' → w0.heap.size + 1 < w'.heap.size → (∀ t' : TypeId, t' ≠ 40 → ∀ cur, w'.heap[w0.heap.size + 1]? ≠ some (.cells cur t' (0, 0))) → Chg [w0.heap.size + 1] w' w'' → Q' R w'') :
    Calls Try.prog 9 #[.pointer (some ⟨p, 0, none⟩), .agg A.cs.toArray] w0 fun e w' => ∃ R, e = .returned (.tuple #[.agg R.cs.toArray, .bool true]) ∧ Chg [p] w0 w' ∧ Q' R w' := by
  obtain ⟨W, HWW, HO1, HO2, HC⟩ := two_new A w0
  have HR := Lib.hid (fun (V : World) (hc : Chg [] w0 V) => mright_any A w0.heap.size V (hin.below hc.low (Nat.le_refl _)) hc.size hf)
  rw [hr] at HR
  simp only [MgT.val] at HR
  have HS := Lib.hid (ho.chg HC.out (by simp))
  have HPL := Lib.hid (fun (V : World) (h : Sqn V p S) => place_any S p V h)
  have HPG : Hid (p < w0.heap.size) := Lib.hid ho.lt
  have hpl := fun w => eqPlQ A.to.1 A.to.2 2 S.n w
  rw [decide_eq_true ht] at hpl
  clear ho hin hf hr ht
  go_enter Try.func9, Try.ntmps9
  go_upto_region 1 with fail
  rw [HWW.out]
  have HST : Hid (Own W.drew w0.heap.size 40 A.cs ∧ Own W.drew (w0.heap.size + 1) 40 zmT.cs ∧ Sqn W.drew p S ∧ Chg [] w0 W.drew) := Lib.hid ⟨HO1.out, HO2.out, HS.out, HC.out.drew⟩
  refine wp_region_held_drew (S := (fun w' => Own w' w0.heap.size 40 A.cs ∧ Own w' (w0.heap.size + 1) 40 zmT.cs ∧ Sqn w' p S ∧ Chg [] w0 w')) (by kernel_rfl) HST.out (fun hHeld => ?_)
  refine wpAnyH_take (i := 0) (v := ?_) rfl (by kernel_rfl) (by kernel_rfl) (by kernel_rfl) (fun _ _ _ h => h) (Or.inl ⟨by kernel_rfl, ?_⟩) hHeld ?_
  rotate_left
  · (intro w hSw; first | (go_simp; done) | (go_simp; with_reducible rfl))
  (try simp only [Act.put, List.getElem_toArray, List.getElem_cons_succ, List.getElem_cons_zero, List.setIfInBounds_toArray, List.set_cons_zero, List.set_cons_succ])
  refine wpAnyH_take (i := 1) (v := ?_) rfl (by kernel_rfl) (by kernel_rfl) (by kernel_rfl) (fun _ _ _ h => h) (Or.inl ⟨by kernel_rfl, ?_⟩) hHeld ?_
  rotate_left
  · (intro w hSw; first | (go_simp; done) | (go_simp; with_reducible rfl))
  (try simp only [Act.put, List.getElem_toArray, List.getElem_cons_succ, List.getElem_cons_zero, List.setIfInBounds_toArray, List.set_cons_zero, List.set_cons_succ])
  refine wpAnyH_take (i := 2) (v := ?_) rfl (by kernel_rfl) (by kernel_rfl) (by kernel_rfl) (fun _ _ _ h => h) (Or.inl ⟨by kernel_rfl, ?_⟩) hHeld ?_
  rotate_left
  · (intro w hSw; first | (go_simp; done) | (go_simp; with_reducible rfl))
  (try simp only [Act.put, List.getElem_toArray, List.getElem_cons_succ, List.getElem_cons_zero, List.setIfInBounds_toArray, List.set_cons_zero, List.set_cons_succ])
  refine wpAnyH_take (i := 3) (v := .agg A.cs.toArray) rfl (by kernel_rfl) (by kernel_rfl) (by kernel_rfl) (fun _ _ _ h => h) (Or.inl ⟨by kernel_rfl, ?_⟩) hHeld ?_
  · (intro w hSw; exact run_loadMgQ (.tmp 3) rfl w0.heap.size rfl A hSw.1)
  (try simp only [Act.put, List.getElem_toArray, List.getElem_cons_succ, List.getElem_cons_zero, List.setIfInBounds_toArray, List.set_cons_zero, List.set_cons_succ])
  refine wpAnyH_ready (rs := [4]) (by kernel_rfl) (by simp) (AllReadyH.cons rfl (fun K hK => ?_) AllReadyH.nil)
  have hH := hHeld
  (go_simp; go_at_call 7; refine (HR.out _ hH.2.2.2).mono ?_; rintro e w6 ⟨rfl, hb6⟩)
  refine hK.out _ _ (by exact ⟨hH.1.below hb6 hH.1.lt, hH.2.1.below hb6 hH.2.1.lt, hH.2.2.1.below hb6 hH.2.2.1.lt, hH.2.2.2.of_below hb6⟩) (fun hHq1 => ?_)
  clear hK K hH 
  (try simp only [Act.put, List.getElem_toArray, List.getElem_cons_succ, List.getElem_cons_zero, List.setIfInBounds_toArray, List.set_cons_zero, List.set_cons_succ])
  refine wpAnyH_take (i := 5) (v := ?_) rfl (by kernel_rfl) (by kernel_rfl) (by kernel_rfl) (fun _ _ _ h => h) (Or.inl ⟨by kernel_rfl, ?_⟩) hHq1 ?_
  rotate_left
  · (intro w hSw; first | (go_simp; done) | (go_simp; with_reducible rfl))
  (try simp only [Act.put, List.getElem_toArray, List.getElem_cons_succ, List.getElem_cons_zero, List.setIfInBounds_toArray, List.set_cons_zero, List.set_cons_succ])
  refine wpAnyH_take (i := 6) (v := ?_) rfl (by kernel_rfl) (by kernel_rfl) (by kernel_rfl) (fun _ _ _ h => h) (Or.inl ⟨by kernel_rfl, ?_⟩) hHq1 ?_
  rotate_left
  · (intro w hSw; first | (go_simp; done) | (go_simp; with_reducible rfl))
  (try simp only [Act.put, List.getElem_toArray, List.getElem_cons_succ, List.getElem_cons_zero, List.setIfInBounds_toArray, List.set_cons_zero, List.set_cons_succ])
  refine wpAnyH_take (i := 7) (v := ?_) rfl (by kernel_rfl) (by kernel_rfl) (by kernel_rfl) (fun _ _ _ h => h) (Or.inl ⟨by kernel_rfl, ?_⟩) hHq1 ?_
  rotate_left
  · (intro w hSw; first | (go_simp; done) | (go_simp; with_reducible rfl))
  (try simp only [Act.put, List.getElem_toArray, List.getElem_cons_succ, List.getElem_cons_zero, List.setIfInBounds_toArray, List.set_cons_zero, List.set_cons_succ])
  refine wpAnyH_take (i := 8) (v := ?_) rfl (by kernel_rfl) (by kernel_rfl) (by kernel_rfl) (fun _ _ _ h => h) (Or.inl ⟨by kernel_rfl, ?_⟩) hHq1 ?_
  rotate_left
  · (intro w hSw; first | (go_simp; done) | (go_simp; with_reducible rfl))
  (try simp only [Act.put, List.getElem_toArray, List.getElem_cons_succ, List.getElem_cons_zero, List.setIfInBounds_toArray, List.set_cons_zero, List.set_cons_succ])
  refine wpAnyH_take (i := 9) (v := .agg #[.int .i64 A.to.1, .int .i64 A.to.2]) rfl (by kernel_rfl) (by kernel_rfl) (by kernel_rfl) (fun _ _ _ h => h) (Or.inl ⟨by kernel_rfl, ?_⟩) hHq1 ?_
  · (intro w hSw; have c3 := hSw.1.cell 3; have c4 := hSw.1.cell 4; simp [MgT.cs] at c3 c4; go_simp)
  (try simp only [Act.put, List.getElem_toArray, List.getElem_cons_succ, List.getElem_cons_zero, List.setIfInBounds_toArray, List.set_cons_zero, List.set_cons_succ])
  refine wpAnyH_take (i := 10) (v := ?_) rfl (by kernel_rfl) (by kernel_rfl) (by kernel_rfl) (fun _ _ _ h => h) (Or.inl ⟨by kernel_rfl, ?_⟩) hHq1 ?_
  rotate_left
  · (intro w hSw; first | (go_simp; done) | (go_simp; with_reducible rfl))
  (try simp only [Act.put, List.getElem_toArray, List.getElem_cons_succ, List.getElem_cons_zero, List.setIfInBounds_toArray, List.set_cons_zero, List.set_cons_succ])
  refine wpAnyH_ready (rs := [11]) (by kernel_rfl) (by simp) (AllReadyH.cons rfl (fun K hK => ?_) AllReadyH.nil)
  have hH := hHq1
  (go_simp; go_at_call 23; refine (HPL.out _ hH.2.2.1).mono ?_; rintro e w7 ⟨rfl, hb7⟩)
  refine hK.out _ _ (by exact ⟨hH.1.below hb7 hH.1.lt, hH.2.1.below hb7 hH.2.1.lt, hH.2.2.1.below hb7 hH.2.2.1.lt, hH.2.2.2.of_below hb7⟩) (fun hHq2 => ?_)
  clear hK K hH hHq1
  (try simp only [Act.put, List.getElem_toArray, List.getElem_cons_succ, List.getElem_cons_zero, List.setIfInBounds_toArray, List.set_cons_zero, List.set_cons_succ])
  refine wpAnyH_take (i := 12) (v := ?_) rfl (by kernel_rfl) (by kernel_rfl) (by kernel_rfl) (fun _ _ _ h => h) (Or.inl ⟨by kernel_rfl, ?_⟩) hHq2 ?_
  rotate_left
  · (intro w hSw; first | (go_simp; done) | (go_simp; with_reducible rfl))
  (try simp only [Act.put, List.getElem_toArray, List.getElem_cons_succ, List.getElem_cons_zero, List.setIfInBounds_toArray, List.set_cons_zero, List.set_cons_succ])
  refine wpAnyH_take (i := 13) (v := ?_) rfl (by kernel_rfl) (by kernel_rfl) (by kernel_rfl) (fun _ _ _ h => h) (Or.inl ⟨by kernel_rfl, ?_⟩) hHq2 ?_
  rotate_left
  · (intro w hSw; first | (go_simp; done) | (go_simp; with_reducible rfl))
  (try simp only [Act.put, List.getElem_toArray, List.getElem_cons_succ, List.getElem_cons_zero, List.setIfInBounds_toArray, List.set_cons_zero, List.set_cons_succ])
  refine wpAnyH_done (by kernel_rfl) ?_ _
  have hEnd := hHq2
  have HE := Lib.hid hEnd
  clear hEnd hHeld hb6 hb7 hpl
  have c0 := HE.out.1.cell 0
  have hz := HE.out.1.lt
  simp [MgT.cs] at c0
  have e10 : (A.k == 10) = true := by rw [beq_iff_eq]; exact hk
  have HM := Lib.hid hM
  have HQ := Lib.hid hQ
  clear hk hM hQ
  go_upto_region 5 with fail
  clear e10 c0 hz
  go_wp2_with (refine wpList_loadMg rfl (.tmp 3) rfl w0.heap.size rfl A HE.out.1 ?_)
  refine (HM.out _ HE.out.2.2.2 HE.out.2.2.1 HE.out.2.1.lt).mono ?_
  rintro e w8 ⟨R, rfl, hc8, hq8⟩
  have HO8 := Lib.hid (HE.out.2.1.chg hc8 (by have := HPG.out; simp; omega))
  have HC8 := Lib.hid ((HE.out.2.2.2.mono (l' := [p]) (by simp)).trans hc8)
  have HQ8 := Lib.hid hq8
  clear hc8 hq8
  go_wp2_with (refine wpList_storeMg rfl (.tmp 4) (.tmp 27) rfl (w0.heap.size + 1) rfl R rfl zmT.cs HO8.out rfl ?_)
  intro w9 ho hc
  have hq9 := HQ.out R w8 w9 HQ8.out HO8.out.lt (fun t' ht' => HO8.out.notQ ht' _ (by simp)) hc
  have hc9 := HC8.out.then hc (fun x hx => by simp only [List.mem_singleton] at hx; subst hx; exact .inr (Nat.le_succ _))
  go_wp2_with fail
  refine bodyPost_ret (results_row_tmpQ Try.results9 _ _ (w0.heap.size + 1) 40 _ (0, 0) _ rfl ho Try.underlying40 rfl (by kernel_rfl)) rfl ?_
  exact ⟨R, rfl, hc9, hq9⟩

set_option maxHeartbeats 8000000 in
set_option maxRecDepth 100000 in
theorem Serve_end (S : SqS) (p : Nat) (A : MgT) (w0 : World) (ho : Sqn w0 p S) (hin : MgIn w0 w0.heap.size A) (hf : MgFit A) (hr : mright A.x = true) (ht : A.to.1 = 2 ∧ A.to.2 = S.n) (hk : A.k = 7) (Q Q' : MgT → World → Prop)
    (hM : ∀ V, Chg [] w0 V → Sqn V p S → w0.heap.size + 1 < V.heap.size → Calls Try.prog 25 #[.pointer (some ⟨p, 0, none⟩), .agg A.cs.toArray] V fun e w' => ∃ R, e = .returned (.agg R.cs.toArray) ∧ Chg [p] V w' ∧ Q R w')
    (hQ : ∀ R w' w'', Q R w' → w0.heap.size + 1 < w'.heap.size → (∀ t' : TypeId, t' ≠ 40 → ∀ cur, w'.heap[w0.heap.size + 1]? ≠ some (.cells cur t' (0, 0))) → Chg [w0.heap.size + 1] w' w'' → Q' R w'') :
    Calls Try.prog 9 #[.pointer (some ⟨p, 0, none⟩), .agg A.cs.toArray] w0 fun e w' => ∃ R, e = .returned (.tuple #[.agg R.cs.toArray, .bool true]) ∧ Chg [p] w0 w' ∧ Q' R w' := by
  obtain ⟨W, HWW, HO1, HO2, HC⟩ := two_new A w0
  have HR := Lib.hid (fun (V : World) (hc : Chg [] w0 V) => mright_any A w0.heap.size V (hin.below hc.low (Nat.le_refl _)) hc.size hf)
  rw [hr] at HR
  simp only [MgT.val] at HR
  have HS := Lib.hid (ho.chg HC.out (by simp))
  have HPL := Lib.hid (fun (V : World) (h : Sqn V p S) => place_any S p V h)
  have HPG : Hid (p < w0.heap.size) := Lib.hid ho.lt
  have hpl := fun w => eqPlQ A.to.1 A.to.2 2 S.n w
  rw [decide_eq_true ht] at hpl
  clear ho hin hf hr ht
  go_enter Try.func9, Try.ntmps9
  go_upto_region 1 with fail
  rw [HWW.out]
  have HST : Hid (Own W.drew w0.heap.size 40 A.cs ∧ Own W.drew (w0.heap.size + 1) 40 zmT.cs ∧ Sqn W.drew p S ∧ Chg [] w0 W.drew) := Lib.hid ⟨HO1.out, HO2.out, HS.out, HC.out.drew⟩
  refine wp_region_held_drew (S := (fun w' => Own w' w0.heap.size 40 A.cs ∧ Own w' (w0.heap.size + 1) 40 zmT.cs ∧ Sqn w' p S ∧ Chg [] w0 w')) (by kernel_rfl) HST.out (fun hHeld => ?_)
  refine wpAnyH_take (i := 0) (v := ?_) rfl (by kernel_rfl) (by kernel_rfl) (by kernel_rfl) (fun _ _ _ h => h) (Or.inl ⟨by kernel_rfl, ?_⟩) hHeld ?_
  rotate_left
  · (intro w hSw; first | (go_simp; done) | (go_simp; with_reducible rfl))
  (try simp only [Act.put, List.getElem_toArray, List.getElem_cons_succ, List.getElem_cons_zero, List.setIfInBounds_toArray, List.set_cons_zero, List.set_cons_succ])
  refine wpAnyH_take (i := 1) (v := ?_) rfl (by kernel_rfl) (by kernel_rfl) (by kernel_rfl) (fun _ _ _ h => h) (Or.inl ⟨by kernel_rfl, ?_⟩) hHeld ?_
  rotate_left
  · (intro w hSw; first | (go_simp; done) | (go_simp; with_reducible rfl))
  (try simp only [Act.put, List.getElem_toArray, List.getElem_cons_succ, List.getElem_cons_zero, List.setIfInBounds_toArray, List.set_cons_zero, List.set_cons_succ])
  refine wpAnyH_take (i := 2) (v := ?_) rfl (by kernel_rfl) (by kernel_rfl) (by kernel_rfl) (fun _ _ _ h => h) (Or.inl ⟨by kernel_rfl, ?_⟩) hHeld ?_
  rotate_left
  · (intro w hSw; first | (go_simp; done) | (go_simp; with_reducible rfl))
  (try simp only [Act.put, List.getElem_toArray, List.getElem_cons_succ, List.getElem_cons_zero, List.setIfInBounds_toArray, List.set_cons_zero, List.set_cons_succ])
  refine wpAnyH_take (i := 3) (v := .agg A.cs.toArray) rfl (by kernel_rfl) (by kernel_rfl) (by kernel_rfl) (fun _ _ _ h => h) (Or.inl ⟨by kernel_rfl, ?_⟩) hHeld ?_
  · (intro w hSw; exact run_loadMgQ (.tmp 3) rfl w0.heap.size rfl A hSw.1)
  (try simp only [Act.put, List.getElem_toArray, List.getElem_cons_succ, List.getElem_cons_zero, List.setIfInBounds_toArray, List.set_cons_zero, List.set_cons_succ])
  refine wpAnyH_ready (rs := [4]) (by kernel_rfl) (by simp) (AllReadyH.cons rfl (fun K hK => ?_) AllReadyH.nil)
  have hH := hHeld
  (go_simp; go_at_call 7; refine (HR.out _ hH.2.2.2).mono ?_; rintro e w6 ⟨rfl, hb6⟩)
  refine hK.out _ _ (by exact ⟨hH.1.below hb6 hH.1.lt, hH.2.1.below hb6 hH.2.1.lt, hH.2.2.1.below hb6 hH.2.2.1.lt, hH.2.2.2.of_below hb6⟩) (fun hHq1 => ?_)
  clear hK K hH 
  (try simp only [Act.put, List.getElem_toArray, List.getElem_cons_succ, List.getElem_cons_zero, List.setIfInBounds_toArray, List.set_cons_zero, List.set_cons_succ])
  refine wpAnyH_take (i := 5) (v := ?_) rfl (by kernel_rfl) (by kernel_rfl) (by kernel_rfl) (fun _ _ _ h => h) (Or.inl ⟨by kernel_rfl, ?_⟩) hHq1 ?_
  rotate_left
  · (intro w hSw; first | (go_simp; done) | (go_simp; with_reducible rfl))
  (try simp only [Act.put, List.getElem_toArray, List.getElem_cons_succ, List.getElem_cons_zero, List.setIfInBounds_toArray, List.set_cons_zero, List.set_cons_succ])
  refine wpAnyH_take (i := 6) (v := ?_) rfl (by kernel_rfl) (by kernel_rfl) (by kernel_rfl) (fun _ _ _ h => h) (Or.inl ⟨by kernel_rfl, ?_⟩) hHq1 ?_
  rotate_left
  · (intro w hSw; first | (go_simp; done) | (go_simp; with_reducible rfl))
  (try simp only [Act.put, List.getElem_toArray, List.getElem_cons_succ, List.getElem_cons_zero, List.setIfInBounds_toArray, List.set_cons_zero, List.set_cons_succ])
  refine wpAnyH_take (i := 7) (v := ?_) rfl (by kernel_rfl) (by kernel_rfl) (by kernel_rfl) (fun _ _ _ h => h) (Or.inl ⟨by kernel_rfl, ?_⟩) hHq1 ?_
  rotate_left
  · (intro w hSw; first | (go_simp; done) | (go_simp; with_reducible rfl))
  (try simp only [Act.put, List.getElem_toArray, List.getElem_cons_succ, List.getElem_cons_zero, List.setIfInBounds_toArray, List.set_cons_zero, List.set_cons_succ])
  refine wpAnyH_take (i := 8) (v := ?_) rfl (by kernel_rfl) (by kernel_rfl) (by kernel_rfl) (fun _ _ _ h => h) (Or.inl ⟨by kernel_rfl, ?_⟩) hHq1 ?_
  rotate_left
  · (intro w hSw; first | (go_simp; done) | (go_simp; with_reducible rfl))
  (try simp only [Act.put, List.getElem_toArray, List.getElem_cons_succ, List.getElem_cons_zero, List.setIfInBounds_toArray, List.set_cons_zero, List.set_cons_succ])
  refine wpAnyH_take (i := 9) (v := .agg #[.int .i64 A.to.1, .int .i64 A.to.2]) rfl (by kernel_rfl) (by kernel_rfl) (by kernel_rfl) (fun _ _ _ h => h) (Or.inl ⟨by kernel_rfl, ?_⟩) hHq1 ?_
  · (intro w hSw; have c3 := hSw.1.cell 3; have c4 := hSw.1.cell 4; simp [MgT.cs] at c3 c4; go_simp)
  (try simp only [Act.put, List.getElem_toArray, List.getElem_cons_succ, List.getElem_cons_zero, List.setIfInBounds_toArray, List.set_cons_zero, List.set_cons_succ])
  refine wpAnyH_take (i := 10) (v := ?_) rfl (by kernel_rfl) (by kernel_rfl) (by kernel_rfl) (fun _ _ _ h => h) (Or.inl ⟨by kernel_rfl, ?_⟩) hHq1 ?_
  rotate_left
  · (intro w hSw; first | (go_simp; done) | (go_simp; with_reducible rfl))
  (try simp only [Act.put, List.getElem_toArray, List.getElem_cons_succ, List.getElem_cons_zero, List.setIfInBounds_toArray, List.set_cons_zero, List.set_cons_succ])
  refine wpAnyH_ready (rs := [11]) (by kernel_rfl) (by simp) (AllReadyH.cons rfl (fun K hK => ?_) AllReadyH.nil)
  have hH := hHq1
  (go_simp; go_at_call 23; refine (HPL.out _ hH.2.2.1).mono ?_; rintro e w7 ⟨rfl, hb7⟩)
  refine hK.out _ _ (by exact ⟨hH.1.below hb7 hH.1.lt, hH.2.1.below hb7 hH.2.1.lt, hH.2.2.1.below hb7 hH.2.2.1.lt, hH.2.2.2.of_below hb7⟩) (fun hHq2 => ?_)
  clear hK K hH hHq1
  (try simp only [Act.put, List.getElem_toArray, List.getElem_cons_succ, List.getElem_cons_zero, List.setIfInBounds_toArray, List.set_cons_zero, List.set_cons_succ])
  refine wpAnyH_take (i := 12) (v := ?_) rfl (by kernel_rfl) (by kernel_rfl) (by kernel_rfl) (fun _ _ _ h => h) (Or.inl ⟨by kernel_rfl, ?_⟩) hHq2 ?_
  rotate_left
  · (intro w hSw; first | (go_simp; done) | (go_simp; with_reducible rfl))
  (try simp only [Act.put, List.getElem_toArray, List.getElem_cons_succ, List.getElem_cons_zero, List.setIfInBounds_toArray, List.set_cons_zero, List.set_cons_succ])
  refine wpAnyH_take (i := 13) (v := ?_) rfl (by kernel_rfl) (by kernel_rfl) (by kernel_rfl) (fun _ _ _ h => h) (Or.inl ⟨by kernel_rfl, ?_⟩) hHq2 ?_
  rotate_left
  · (intro w hSw; first | (go_simp; done) | (go_simp; with_reducible rfl))
  (try simp only [Act.put, List.getElem_toArray, List.getElem_cons_succ, List.getElem_cons_zero, List.setIfInBounds_toArray, List.set_cons_zero, List.set_cons_succ])
  refine wpAnyH_done (by kernel_rfl) ?_ _
  have hEnd := hHq2
  have HE := Lib.hid hEnd
  clear hEnd hHeld hb6 hb7 hpl
  have c0 := HE.out.1.cell 0
  have hz := HE.out.1.lt
  simp [MgT.cs] at c0
  have e10 : (A.k == 10) = false := by rw [beq_eq_false_iff_ne, hk]; decide
  have e7 : (A.k == 7) = true := by rw [beq_iff_eq]; exact hk
  have HM := Lib.hid hM
  have HQ := Lib.hid hQ
  clear hk hM hQ
  go_upto_region 7 with fail
  clear e10 e7 c0 hz
  go_wp2_with (refine wpList_loadMg rfl (.tmp 3) rfl w0.heap.size rfl A HE.out.1 ?_)
  refine (HM.out _ HE.out.2.2.2 HE.out.2.2.1 HE.out.2.1.lt).mono ?_
  rintro e w8 ⟨R, rfl, hc8, hq8⟩
  have HO8 := Lib.hid (HE.out.2.1.chg hc8 (by have := HPG.out; simp; omega))
  have HC8 := Lib.hid ((HE.out.2.2.2.mono (l' := [p]) (by simp)).trans hc8)
  have HQ8 := Lib.hid hq8
  clear hc8 hq8
  go_wp2_with (refine wpList_storeMg rfl (.tmp 4) (.tmp 32) rfl (w0.heap.size + 1) rfl R rfl zmT.cs HO8.out rfl ?_)
  intro w9 ho hc
  have hq9 := HQ.out R w8 w9 HQ8.out HO8.out.lt (fun t' ht' => HO8.out.notQ ht' _ (by simp)) hc
  have hc9 := HC8.out.then hc (fun x hx => by simp only [List.mem_singleton] at hx; subst hx; exact .inr (Nat.le_succ _))
  go_wp2_with fail
  refine bodyPost_ret (results_row_tmpQ Try.results9 _ _ (w0.heap.size + 1) 40 _ (0, 0) _ rfl ho Try.underlying40 rfl (by kernel_rfl)) rfl ?_
  exact ⟨R, rfl, hc9, hq9⟩

set_option maxHeartbeats 8000000 in
set_option maxRecDepth 100000 in
theorem Serve_tok (S : SqS) (p : Nat) (A : MgT) (w0 : World) (ho : Sqn w0 p S) (hin : MgIn w0 w0.heap.size A) (hf : MgFit A) (hr : mright A.x = true) (ht : A.to.1 = 2 ∧ A.to.2 = S.n) (hk : A.k = 9) (Q Q' : MgT → World → Prop)
    (hM : ∀ V, Chg [] w0 V → Sqn V p S → w0.heap.size + 1 < V.heap.size → Calls Try.prog 26 #[.pointer (some ⟨p, 0, none⟩), .agg A.cs.toArray] V fun e w' => ∃ R, e = .returned (.agg R.cs.toArray) ∧ Chg [p] V w' ∧ Q R w')
    (hQ : ∀ R w' w'', Q R w' → w0.heap.size + 1 < w'.heap.size → (∀ t' : TypeId, t' ≠ 40 → ∀ cur, w'.heap[w0.heap.size + 1]? ≠ some (.cells cur t' (0, 0))) → Chg [w0.heap.size + 1] w' w'' → Q' R w'') :
    Calls Try.prog 9 #[.pointer (some ⟨p, 0, none⟩), .agg A.cs.toArray] w0 fun e w' => ∃ R, e = .returned (.tuple #[.agg R.cs.toArray, .bool true]) ∧ Chg [p] w0 w' ∧ Q' R w' := by
  obtain ⟨W, HWW, HO1, HO2, HC⟩ := two_new A w0
  have HR := Lib.hid (fun (V : World) (hc : Chg [] w0 V) => mright_any A w0.heap.size V (hin.below hc.low (Nat.le_refl _)) hc.size hf)
  rw [hr] at HR
  simp only [MgT.val] at HR
  have HS := Lib.hid (ho.chg HC.out (by simp))
  have HPL := Lib.hid (fun (V : World) (h : Sqn V p S) => place_any S p V h)
  have HPG : Hid (p < w0.heap.size) := Lib.hid ho.lt
  have hpl := fun w => eqPlQ A.to.1 A.to.2 2 S.n w
  rw [decide_eq_true ht] at hpl
  clear ho hin hf hr ht
  go_enter Try.func9, Try.ntmps9
  go_upto_region 1 with fail
  rw [HWW.out]
  have HST : Hid (Own W.drew w0.heap.size 40 A.cs ∧ Own W.drew (w0.heap.size + 1) 40 zmT.cs ∧ Sqn W.drew p S ∧ Chg [] w0 W.drew) := Lib.hid ⟨HO1.out, HO2.out, HS.out, HC.out.drew⟩
  refine wp_region_held_drew (S := (fun w' => Own w' w0.heap.size 40 A.cs ∧ Own w' (w0.heap.size + 1) 40 zmT.cs ∧ Sqn w' p S ∧ Chg [] w0 w')) (by kernel_rfl) HST.out (fun hHeld => ?_)
  refine wpAnyH_take (i := 0) (v := ?_) rfl (by kernel_rfl) (by kernel_rfl) (by kernel_rfl) (fun _ _ _ h => h) (Or.inl ⟨by kernel_rfl, ?_⟩) hHeld ?_
  rotate_left
  · (intro w hSw; first | (go_simp; done) | (go_simp; with_reducible rfl))
  (try simp only [Act.put, List.getElem_toArray, List.getElem_cons_succ, List.getElem_cons_zero, List.setIfInBounds_toArray, List.set_cons_zero, List.set_cons_succ])
  refine wpAnyH_take (i := 1) (v := ?_) rfl (by kernel_rfl) (by kernel_rfl) (by kernel_rfl) (fun _ _ _ h => h) (Or.inl ⟨by kernel_rfl, ?_⟩) hHeld ?_
  rotate_left
  · (intro w hSw; first | (go_simp; done) | (go_simp; with_reducible rfl))
  (try simp only [Act.put, List.getElem_toArray, List.getElem_cons_succ, List.getElem_cons_zero, List.setIfInBounds_toArray, List.set_cons_zero, List.set_cons_succ])
  refine wpAnyH_take (i := 2) (v := ?_) rfl (by kernel_rfl) (by kernel_rfl) (by kernel_rfl) (fun _ _ _ h => h) (Or.inl ⟨by kernel_rfl, ?_⟩) hHeld ?_
  rotate_left
  · (intro w hSw; first | (go_simp; done) | (go_simp; with_reducible rfl))
  (try simp only [Act.put, List.getElem_toArray, List.getElem_cons_succ, List.getElem_cons_zero, List.setIfInBounds_toArray, List.set_cons_zero, List.set_cons_succ])
  refine wpAnyH_take (i := 3) (v := .agg A.cs.toArray) rfl (by kernel_rfl) (by kernel_rfl) (by kernel_rfl) (fun _ _ _ h => h) (Or.inl ⟨by kernel_rfl, ?_⟩) hHeld ?_
  · (intro w hSw; exact run_loadMgQ (.tmp 3) rfl w0.heap.size rfl A hSw.1)
  (try simp only [Act.put, List.getElem_toArray, List.getElem_cons_succ, List.getElem_cons_zero, List.setIfInBounds_toArray, List.set_cons_zero, List.set_cons_succ])
  refine wpAnyH_ready (rs := [4]) (by kernel_rfl) (by simp) (AllReadyH.cons rfl (fun K hK => ?_) AllReadyH.nil)
  have hH := hHeld
  (go_simp; go_at_call 7; refine (HR.out _ hH.2.2.2).mono ?_; rintro e w6 ⟨rfl, hb6⟩)
  refine hK.out _ _ (by exact ⟨hH.1.below hb6 hH.1.lt, hH.2.1.below hb6 hH.2.1.lt, hH.2.2.1.below hb6 hH.2.2.1.lt, hH.2.2.2.of_below hb6⟩) (fun hHq1 => ?_)
  clear hK K hH 
  (try simp only [Act.put, List.getElem_toArray, List.getElem_cons_succ, List.getElem_cons_zero, List.setIfInBounds_toArray, List.set_cons_zero, List.set_cons_succ])
  refine wpAnyH_take (i := 5) (v := ?_) rfl (by kernel_rfl) (by kernel_rfl) (by kernel_rfl) (fun _ _ _ h => h) (Or.inl ⟨by kernel_rfl, ?_⟩) hHq1 ?_
  rotate_left
  · (intro w hSw; first | (go_simp; done) | (go_simp; with_reducible rfl))
  (try simp only [Act.put, List.getElem_toArray, List.getElem_cons_succ, List.getElem_cons_zero, List.setIfInBounds_toArray, List.set_cons_zero, List.set_cons_succ])
  refine wpAnyH_take (i := 6) (v := ?_) rfl (by kernel_rfl) (by kernel_rfl) (by kernel_rfl) (fun _ _ _ h => h) (Or.inl ⟨by kernel_rfl, ?_⟩) hHq1 ?_
  rotate_left
  · (intro w hSw; first | (go_simp; done) | (go_simp; with_reducible rfl))
  (try simp only [Act.put, List.getElem_toArray, List.getElem_cons_succ, List.getElem_cons_zero, List.setIfInBounds_toArray, List.set_cons_zero, List.set_cons_succ])
  refine wpAnyH_take (i := 7) (v := ?_) rfl (by kernel_rfl) (by kernel_rfl) (by kernel_rfl) (fun _ _ _ h => h) (Or.inl ⟨by kernel_rfl, ?_⟩) hHq1 ?_
  rotate_left
  · (intro w hSw; first | (go_simp; done) | (go_simp; with_reducible rfl))
  (try simp only [Act.put, List.getElem_toArray, List.getElem_cons_succ, List.getElem_cons_zero, List.setIfInBounds_toArray, List.set_cons_zero, List.set_cons_succ])
  refine wpAnyH_take (i := 8) (v := ?_) rfl (by kernel_rfl) (by kernel_rfl) (by kernel_rfl) (fun _ _ _ h => h) (Or.inl ⟨by kernel_rfl, ?_⟩) hHq1 ?_
  rotate_left
  · (intro w hSw; first | (go_simp; done) | (go_simp; with_reducible rfl))
  (try simp only [Act.put, List.getElem_toArray, List.getElem_cons_succ, List.getElem_cons_zero, List.setIfInBounds_toArray, List.set_cons_zero, List.set_cons_succ])
  refine wpAnyH_take (i := 9) (v := .agg #[.int .i64 A.to.1, .int .i64 A.to.2]) rfl (by kernel_rfl) (by kernel_rfl) (by kernel_rfl) (fun _ _ _ h => h) (Or.inl ⟨by kernel_rfl, ?_⟩) hHq1 ?_
  · (intro w hSw; have c3 := hSw.1.cell 3; have c4 := hSw.1.cell 4; simp [MgT.cs] at c3 c4; go_simp)
  (try simp only [Act.put, List.getElem_toArray, List.getElem_cons_succ, List.getElem_cons_zero, List.setIfInBounds_toArray, List.set_cons_zero, List.set_cons_succ])
  refine wpAnyH_take (i := 10) (v := ?_) rfl (by kernel_rfl) (by kernel_rfl) (by kernel_rfl) (fun _ _ _ h => h) (Or.inl ⟨by kernel_rfl, ?_⟩) hHq1 ?_
  rotate_left
  · (intro w hSw; first | (go_simp; done) | (go_simp; with_reducible rfl))
  (try simp only [Act.put, List.getElem_toArray, List.getElem_cons_succ, List.getElem_cons_zero, List.setIfInBounds_toArray, List.set_cons_zero, List.set_cons_succ])
  refine wpAnyH_ready (rs := [11]) (by kernel_rfl) (by simp) (AllReadyH.cons rfl (fun K hK => ?_) AllReadyH.nil)
  have hH := hHq1
  (go_simp; go_at_call 23; refine (HPL.out _ hH.2.2.1).mono ?_; rintro e w7 ⟨rfl, hb7⟩)
  refine hK.out _ _ (by exact ⟨hH.1.below hb7 hH.1.lt, hH.2.1.below hb7 hH.2.1.lt, hH.2.2.1.below hb7 hH.2.2.1.lt, hH.2.2.2.of_below hb7⟩) (fun hHq2 => ?_)
  clear hK K hH hHq1
  (try simp only [Act.put, List.getElem_toArray, List.getElem_cons_succ, List.getElem_cons_zero, List.setIfInBounds_toArray, List.set_cons_zero, List.set_cons_succ])
  refine wpAnyH_take (i := 12) (v := ?_) rfl (by kernel_rfl) (by kernel_rfl) (by kernel_rfl) (fun _ _ _ h => h) (Or.inl ⟨by kernel_rfl, ?_⟩) hHq2 ?_
  rotate_left
  · (intro w hSw; first | (go_simp; done) | (go_simp; with_reducible rfl))
  (try simp only [Act.put, List.getElem_toArray, List.getElem_cons_succ, List.getElem_cons_zero, List.setIfInBounds_toArray, List.set_cons_zero, List.set_cons_succ])
  refine wpAnyH_take (i := 13) (v := ?_) rfl (by kernel_rfl) (by kernel_rfl) (by kernel_rfl) (fun _ _ _ h => h) (Or.inl ⟨by kernel_rfl, ?_⟩) hHq2 ?_
  rotate_left
  · (intro w hSw; first | (go_simp; done) | (go_simp; with_reducible rfl))
  (try simp only [Act.put, List.getElem_toArray, List.getElem_cons_succ, List.getElem_cons_zero, List.setIfInBounds_toArray, List.set_cons_zero, List.set_cons_succ])
  refine wpAnyH_done (by kernel_rfl) ?_ _
  have hEnd := hHq2
  have HE := Lib.hid hEnd
  clear hEnd hHeld hb6 hb7 hpl
  have c0 := HE.out.1.cell 0
  have hz := HE.out.1.lt
  simp [MgT.cs] at c0
  have e10 : (A.k == 10) = false := by rw [beq_eq_false_iff_ne, hk]; decide
  have e7 : (A.k == 7) = false := by rw [beq_eq_false_iff_ne, hk]; decide
  have e9 : (A.k == 9) = true := by rw [beq_iff_eq]; exact hk
  have HM := Lib.hid hM
  have HQ := Lib.hid hQ
  clear hk hM hQ
  go_upto_region 9 with fail
  clear e10 e7 e9 c0 hz
  go_wp2_with (refine wpList_loadMg rfl (.tmp 3) rfl w0.heap.size rfl A HE.out.1 ?_)
  refine (HM.out _ HE.out.2.2.2 HE.out.2.2.1 HE.out.2.1.lt).mono ?_
  rintro e w8 ⟨R, rfl, hc8, hq8⟩
  have HO8 := Lib.hid (HE.out.2.1.chg hc8 (by have := HPG.out; simp; omega))
  have HC8 := Lib.hid ((HE.out.2.2.2.mono (l' := [p]) (by simp)).trans hc8)
  have HQ8 := Lib.hid hq8
  clear hc8 hq8
  go_wp2_with (refine wpList_storeMg rfl (.tmp 4) (.tmp 37) rfl (w0.heap.size + 1) rfl R rfl zmT.cs HO8.out rfl ?_)
  intro w9 ho hc
  have hq9 := HQ.out R w8 w9 HQ8.out HO8.out.lt (fun t' ht' => HO8.out.notQ ht' _ (by simp)) hc
  have hc9 := HC8.out.then hc (fun x hx => by simp only [List.mem_singleton] at hx; subst hx; exact .inr (Nat.le_succ _))
  go_wp2_with fail
  refine bodyPost_ret (results_row_tmpQ Try.results9 _ _ (w0.heap.size + 1) 40 _ (0, 0) _ rfl ho Try.underlying40 rfl (by kernel_rfl)) rfl ?_
  exact ⟨R, rfl, hc9, hq9⟩
end Go.Proofs.Ytdblplkaobeimaa
