/-
  Same of messages that are the same. No claim of its own.
-/
import Derived.Test.YteenlkmnadjnpaaG11
import Derived.Deep.RegionHeld3
namespace Go.Proofs.Yteenlkmnadjnpaa
open Go.RowKit Go.Deep Go.Shelf
set_option linter.unusedVariables false
set_option linter.unusedSimpArgs false

theorem MgT.hd_x {A C : MgT} (h : A.x = C.x) : C.hd = A.hd := by
  unfold MgT.x at h
  injection h with h1 h2 h3 h4 h5 h6 h7 h8 h9 h10 h11 h12 h13 h14
  unfold MgT.hd
  rw [h1, h2, h3, h4, h5, h6, h7, h8, h12, h13]
/-- two messages in two blocks, their cells -/
def MS (W V : World) (p q : Nat) (A C : MgT) : Prop := Below W.heap.size W V ∧ Own V p 58 A.cs ∧ Own V q 58 C.cs
theorem ms_all {W V : World} {p q : Nat} {A C : MgT} (h0 : Below W.heap.size W V) (h1 : Own V p 58 A.cs) (h2 : Own V q 58 C.cs) : Below W.heap.size W V ∧ Own V p 58 A.cs ∧ Own V q 58 C.cs ∧ V.cell? ⟨p, 10, none⟩ = some (.int .i64 A.c.k) ∧ V.cell? ⟨p, 11, none⟩ = some (.slice A.ca A.c.d.length A.cc) ∧ V.cell? ⟨p, 12, none⟩ = some (.slice A.ca2 A.c.b.length A.cc2) ∧ V.cell? ⟨p, 13, none⟩ = some (.slice A.sa A.st.length A.sc) ∧ V.cell? ⟨p, 14, none⟩ = some (.slice A.ka A.bk.length A.kc) ∧ V.cell? ⟨p, 19, none⟩ = some (.int .u64 (A.ly.e : Int)) ∧ V.cell? ⟨p, 20, none⟩ = some (.slice A.ly.a A.ly.sg.length A.ly.c) ∧ V.cell? ⟨p, 21, none⟩ = some (.int .i64 A.ly.q) ∧ V.cell? ⟨q, 10, none⟩ = some (.int .i64 C.c.k) ∧ V.cell? ⟨q, 11, none⟩ = some (.slice C.ca C.c.d.length C.cc) ∧ V.cell? ⟨q, 12, none⟩ = some (.slice C.ca2 C.c.b.length C.cc2) ∧ V.cell? ⟨q, 13, none⟩ = some (.slice C.sa C.st.length C.sc) ∧ V.cell? ⟨q, 14, none⟩ = some (.slice C.ka C.bk.length C.kc) ∧ V.cell? ⟨q, 19, none⟩ = some (.int .u64 (C.ly.e : Int)) ∧ V.cell? ⟨q, 20, none⟩ = some (.slice C.ly.a C.ly.sg.length C.ly.c) ∧ V.cell? ⟨q, 21, none⟩ = some (.int .i64 C.ly.q) :=
  ⟨h0, h1, h2, (h1.cell 10).trans rfl, (h1.cell 11).trans rfl, (h1.cell 12).trans rfl, (h1.cell 13).trans rfl, (h1.cell 14).trans rfl, (h1.cell 19).trans rfl, (h1.cell 20).trans rfl, (h1.cell 21).trans rfl, (h2.cell 10).trans rfl, (h2.cell 11).trans rfl, (h2.cell 12).trans rfl, (h2.cell 13).trans rfl, (h2.cell 14).trans rfl, (h2.cell 19).trans rfl, (h2.cell 20).trans rfl, (h2.cell 21).trans rfl⟩
theorem run_loadMgX {o : Oper} {a : Act} {w : World} (x : Operand) (ho : o.op = .load 58 x) (b : Nat) (hx : a.eval x = .pointer (some ⟨b, 0, none⟩)) (A : MgT) (hr : Own w b 58 A.cs) : (execOp a.eval o).run Try.prog w = .ok (.value (.agg A.cs.toArray)) w := by
  unfold execOp
  simp only [ho, hx, Instr.loadAt, Instr.sureAddr, Sem.run_bind, Sem.run_pure, Result.andThen_ok, run_loadVar_mid w b 0 58 A.cs _ hr.range Try.underlying58 rfl infoMg]
set_option maxHeartbeats 4000000 in
set_option maxRecDepth 100000 in
theorem msame_eq (A C : MgT) (hx : A.x = C.x) (B : Nat) (w0 : World) (ha : MgIn w0 B A) (hc : MgIn w0 B C) (hB : B ≤ w0.heap.size) (hfa : MgFit A) (hfc : MgFit C) :
    Calls Try.prog 29 #[.agg A.cs.toArray, .agg C.cs.toArray] w0 fun e w0' => e = .returned (.bool true) ∧ Below w0.heap.size w0 w0' := by
  obtain ⟨W, Hw⟩ : ∃ W, Hid ((w0.alloc (.cells A.cs.toArray 58)).alloc (.cells C.cs.toArray 58) = W) := ⟨_, Lib.hid rfl⟩
  have hWb : Below w0.heap.size w0 W := by rw [← Hw.out]; exact ((Below.refl _ _).alloc (Nat.le_refl _) _).alloc (by simp) _
  have ho1 : Own W w0.heap.size 58 A.cs := by rw [← Hw.out]; exact (Own.new w0 _ _).alloc _
  have ho2 : Own W (w0.heap.size + 1) 58 C.cs := by
    rw [← Hw.out]
    have := Own.new (w0.alloc (.cells A.cs.toArray 58)) 58 C.cs
    rw [World.size_alloc] at this
    exact this
  have HO1 := Lib.hid ho1
  have HO2 := Lib.hid ho2
  have HB := Lib.hid hWb
  have HHA := Lib.hid (fun V => headOf10_any A V)
  have HHC := Lib.hid (fun V => headOf10_any C V)
  rw [MgT.hd_x hx] at HHC
  have hxx := hx
  unfold MgT.x at hxx
  injection hxx with g1 g2 g3 g4 g5 g6 g7 g8 gc gs gk g12 g13 gl
  have HST : Hid (∀ V, Below W.heap.size W V → Calls Try.prog 55 #[.slice A.sa A.st.length A.sc, .slice C.sa C.st.length C.sc] V fun e w0' => e = .returned (.bool true) ∧ Below V.heap.size V w0') := Lib.hid fun V hV => by
    have := equalInts_any V A.sa C.sa A.st C.st A.sc C.sc _ _ B rfl rfl (ha.below (hWb.trans (hV.mono hWb.size)) hB).st (hc.below (hWb.trans (hV.mono hWb.size)) hB).st hfa.st hfc.st
    rw [decide_eq_true gs] at this
    refine this.mono ?_
    rintro e w' ⟨h1, h2⟩
    exact ⟨h1, ((Chg.refl [] V).qt h2).low⟩
  have HBK : Hid (∀ V, Below W.heap.size W V → Calls Try.prog 56 #[.slice A.ka A.bk.length A.kc, .slice C.ka C.bk.length C.kc] V fun e w0' => e = .returned (.bool true) ∧ Below V.heap.size V w0') := Lib.hid fun V hV => by
    have := equalBacks_any V A.ka C.ka A.bk C.bk A.kc C.kc _ _ B rfl rfl (ha.below (hWb.trans (hV.mono hWb.size)) hB).bk (hc.below (hWb.trans (hV.mono hWb.size)) hB).bk hfa.bk hfc.bk
    rw [decide_eq_true gk] at this
    refine this.mono ?_
    rintro e w' ⟨h1, h2⟩
    exact ⟨h1, ((Chg.refl [] V).qt h2).low⟩
  have HCE : Hid (∀ V, Below W.heap.size W V → Calls Try.prog 57 #[cev A.c.k A.ca A.c.d.length A.cc A.ca2 A.c.b.length A.cc2, cev C.c.k C.ca C.c.d.length C.cc C.ca2 C.c.b.length C.cc2] V fun e w0' => e = .returned (.bool true) ∧ Below V.heap.size V w0') := Lib.hid fun V hV => by
    have := same_any A.c C.c A.ca A.cc A.ca2 A.cc2 C.ca C.cc C.ca2 C.cc2 B V (ha.below (hWb.trans (hV.mono hWb.size)) hB).d (ha.below (hWb.trans (hV.mono hWb.size)) hB).b (hc.below (hWb.trans (hV.mono hWb.size)) hB).d (hc.below (hWb.trans (hV.mono hWb.size)) hB).b (Nat.le_trans hB (hWb.trans (hV.mono hWb.size)).size) hfa.b hfc.b
    rwa [alike_iff.2 gc] at this
  have HLY : Hid (∀ V, Below W.heap.size W V → Calls Try.prog 58 #[.agg #[.int .u64 (A.ly.e : Int), .slice A.ly.a A.ly.sg.length A.ly.c, .int .i64 A.ly.q], .agg #[.int .u64 (C.ly.e : Int), .slice C.ly.a C.ly.sg.length C.ly.c, .int .i64 C.ly.q]] V fun e w0' => e = .returned (.bool true) ∧ Below V.heap.size V w0') := Lib.hid fun V hV => by
    have := lsame_any A.ly C.ly B V (ha.below (hWb.trans (hV.mono hWb.size)) hB).ly (hc.below (hWb.trans (hV.mono hWb.size)) hB).ly hfa.ly hfc.ly (Nat.le_trans hB (hWb.trans (hV.mono hWb.size)).size)
    rwa [lalike_iff.2 gl] at this
  have HSP : Hid (∀ V, (Below W.heap.size W V ∧ Own V w0.heap.size 58 A.cs ∧ Own V (w0.heap.size + 1) 58 C.cs) → Below W.heap.size W V ∧ Own V w0.heap.size 58 A.cs ∧ Own V (w0.heap.size + 1) 58 C.cs ∧ V.cell? ⟨w0.heap.size, 10, none⟩ = some (.int .i64 A.c.k) ∧ V.cell? ⟨w0.heap.size, 11, none⟩ = some (.slice A.ca A.c.d.length A.cc) ∧ V.cell? ⟨w0.heap.size, 12, none⟩ = some (.slice A.ca2 A.c.b.length A.cc2) ∧ V.cell? ⟨w0.heap.size, 13, none⟩ = some (.slice A.sa A.st.length A.sc) ∧ V.cell? ⟨w0.heap.size, 14, none⟩ = some (.slice A.ka A.bk.length A.kc) ∧ V.cell? ⟨w0.heap.size, 19, none⟩ = some (.int .u64 (A.ly.e : Int)) ∧ V.cell? ⟨w0.heap.size, 20, none⟩ = some (.slice A.ly.a A.ly.sg.length A.ly.c) ∧ V.cell? ⟨w0.heap.size, 21, none⟩ = some (.int .i64 A.ly.q) ∧ V.cell? ⟨w0.heap.size + 1, 10, none⟩ = some (.int .i64 C.c.k) ∧ V.cell? ⟨w0.heap.size + 1, 11, none⟩ = some (.slice C.ca C.c.d.length C.cc) ∧ V.cell? ⟨w0.heap.size + 1, 12, none⟩ = some (.slice C.ca2 C.c.b.length C.cc2) ∧ V.cell? ⟨w0.heap.size + 1, 13, none⟩ = some (.slice C.sa C.st.length C.sc) ∧ V.cell? ⟨w0.heap.size + 1, 14, none⟩ = some (.slice C.ka C.bk.length C.kc) ∧ V.cell? ⟨w0.heap.size + 1, 19, none⟩ = some (.int .u64 (C.ly.e : Int)) ∧ V.cell? ⟨w0.heap.size + 1, 20, none⟩ = some (.slice C.ly.a C.ly.sg.length C.ly.c) ∧ V.cell? ⟨w0.heap.size + 1, 21, none⟩ = some (.int .i64 C.ly.q)) := Lib.hid fun V h => ms_all h.1 h.2.1 h.2.2
  have hr := eq_headR A
  clear ha hc hB hfa hfc hWb ho1 ho2 g1 g2 g3 g4 g5 g6 g7 g8 gc gs gk g12 g13 gl
  go_enter Try.func29, Try.ntmps29
  go_upto_region 1 with fail
  rw [Hw.out]
  refine wp_region_held_drew (S := (fun V => Below W.heap.size W V ∧ Own V w0.heap.size 58 A.cs ∧ Own V (w0.heap.size + 1) 58 C.cs ∧ V.cell? ⟨w0.heap.size, 10, none⟩ = some (.int .i64 A.c.k) ∧ V.cell? ⟨w0.heap.size, 11, none⟩ = some (.slice A.ca A.c.d.length A.cc) ∧ V.cell? ⟨w0.heap.size, 12, none⟩ = some (.slice A.ca2 A.c.b.length A.cc2) ∧ V.cell? ⟨w0.heap.size, 13, none⟩ = some (.slice A.sa A.st.length A.sc) ∧ V.cell? ⟨w0.heap.size, 14, none⟩ = some (.slice A.ka A.bk.length A.kc) ∧ V.cell? ⟨w0.heap.size, 19, none⟩ = some (.int .u64 (A.ly.e : Int)) ∧ V.cell? ⟨w0.heap.size, 20, none⟩ = some (.slice A.ly.a A.ly.sg.length A.ly.c) ∧ V.cell? ⟨w0.heap.size, 21, none⟩ = some (.int .i64 A.ly.q) ∧ V.cell? ⟨w0.heap.size + 1, 10, none⟩ = some (.int .i64 C.c.k) ∧ V.cell? ⟨w0.heap.size + 1, 11, none⟩ = some (.slice C.ca C.c.d.length C.cc) ∧ V.cell? ⟨w0.heap.size + 1, 12, none⟩ = some (.slice C.ca2 C.c.b.length C.cc2) ∧ V.cell? ⟨w0.heap.size + 1, 13, none⟩ = some (.slice C.sa C.st.length C.sc) ∧ V.cell? ⟨w0.heap.size + 1, 14, none⟩ = some (.slice C.ka C.bk.length C.kc) ∧ V.cell? ⟨w0.heap.size + 1, 19, none⟩ = some (.int .u64 (C.ly.e : Int)) ∧ V.cell? ⟨w0.heap.size + 1, 20, none⟩ = some (.slice C.ly.a C.ly.sg.length C.ly.c) ∧ V.cell? ⟨w0.heap.size + 1, 21, none⟩ = some (.int .i64 C.ly.q))) (by kernel_rfl) (HSP.out _ ⟨(Below.refl _ _).drew, HO1.out, HO2.out⟩) (fun hHeld => ?_)
  refine wpAnyH_take (i := 0) (v := .agg A.cs.toArray) rfl (by kernel_rfl) (by kernel_rfl) (by kernel_rfl) (fun _ _ _ h => h) (Or.inl ⟨by kernel_rfl, ?_⟩) hHeld ?_
  · (intro w hSw; exact run_loadMgX (.tmp 2) rfl w0.heap.size rfl A hSw.2.1)
  (try simp only [Act.put, List.getElem_toArray, List.getElem_cons_succ, List.getElem_cons_zero, List.setIfInBounds_toArray, List.set_cons_zero, List.set_cons_succ])
  refine wpAnyH_take (i := 2) (v := .agg C.cs.toArray) rfl (by kernel_rfl) (by kernel_rfl) (by kernel_rfl) (fun _ _ _ h => h) (Or.inl ⟨by kernel_rfl, ?_⟩) hHeld ?_
  · (intro w hSw; exact run_loadMgX (.tmp 3) rfl (w0.heap.size + 1) rfl C hSw.2.2.1)
  (try simp only [Act.put, List.getElem_toArray, List.getElem_cons_succ, List.getElem_cons_zero, List.setIfInBounds_toArray, List.set_cons_zero, List.set_cons_succ])
  refine wpAnyH_ready (rs := [1]) (by kernel_rfl) (by simp) (AllReadyH.cons rfl (fun K hK => ?_) AllReadyH.nil)
  have hH := hHeld
  (go_simp; go_at_call 54; refine (HHA.out _).mono ?_; rintro e w9 ⟨rfl, hb9⟩)
  refine hK.out _ _ (by exact HSP.out _ ⟨hH.1.trans (hb9.mono hH.1.size), hH.2.1.below (hb9) hH.2.1.lt, hH.2.2.1.below (hb9) hH.2.2.1.lt⟩) (fun hHq1 => ?_)
  clear hK K hH 
  (try simp only [Act.put, List.getElem_toArray, List.getElem_cons_succ, List.getElem_cons_zero, List.setIfInBounds_toArray, List.set_cons_zero, List.set_cons_succ])
  refine wpAnyH_ready (rs := [3]) (by kernel_rfl) (by simp) (AllReadyH.cons rfl (fun K hK => ?_) AllReadyH.nil)
  have hH := hHq1
  (go_simp; go_at_call 54; refine (HHC.out _).mono ?_; rintro e w9 ⟨rfl, hb9⟩)
  refine hK.out _ _ (by exact HSP.out _ ⟨hH.1.trans (hb9.mono hH.1.size), hH.2.1.below (hb9) hH.2.1.lt, hH.2.2.1.below (hb9) hH.2.2.1.lt⟩) (fun hHq2 => ?_)
  clear hK K hH hHq1
  (try simp only [Act.put, List.getElem_toArray, List.getElem_cons_succ, List.getElem_cons_zero, List.setIfInBounds_toArray, List.set_cons_zero, List.set_cons_succ])
  refine wpAnyH_take (i := 4) (v := .bool true) rfl (by kernel_rfl) (by kernel_rfl) (by kernel_rfl) (fun _ _ _ h => h) (Or.inl ⟨by kernel_rfl, ?_⟩) hHq2 ?_
  · (intro w hSw; have hq := hr w; go_simp)
  (try simp only [Act.put, List.getElem_toArray, List.getElem_cons_succ, List.getElem_cons_zero, List.setIfInBounds_toArray, List.set_cons_zero, List.set_cons_succ])
  refine wpAnyH_take (i := 5) (v := ?_) rfl (by kernel_rfl) (by kernel_rfl) (by kernel_rfl) (fun _ _ _ h => h) (Or.inl ⟨by kernel_rfl, ?_⟩) hHq2 ?_
  rotate_left
  · (intro w hSw; first | (go_simp; done) | (go_simp; with_reducible rfl))
  (try simp only [Act.put, List.getElem_toArray, List.getElem_cons_succ, List.getElem_cons_zero, List.setIfInBounds_toArray, List.set_cons_zero, List.set_cons_succ])
  refine wpAnyH_take (i := 6) (v := ?_) rfl (by kernel_rfl) (by kernel_rfl) (by kernel_rfl) (fun _ _ _ h => h) (Or.inl ⟨by kernel_rfl, ?_⟩) hHq2 ?_
  rotate_left
  · (intro w hSw; first | (go_simp; done) | (go_simp; with_reducible rfl))
  (try simp only [Act.put, List.getElem_toArray, List.getElem_cons_succ, List.getElem_cons_zero, List.setIfInBounds_toArray, List.set_cons_zero, List.set_cons_succ])
  refine wpAnyH_take (i := 7) (v := ?_) rfl (by kernel_rfl) (by kernel_rfl) (by kernel_rfl) (fun _ _ _ h => h) (Or.inl ⟨by kernel_rfl, ?_⟩) hHq2 ?_
  rotate_left
  · (intro w hSw; first | (go_simp; done) | (go_simp; with_reducible rfl))
  (try simp only [Act.put, List.getElem_toArray, List.getElem_cons_succ, List.getElem_cons_zero, List.setIfInBounds_toArray, List.set_cons_zero, List.set_cons_succ])
  refine wpAnyH_take (i := 8) (v := ?_) rfl (by kernel_rfl) (by kernel_rfl) (by kernel_rfl) (fun _ _ _ h => h) (Or.inl ⟨by kernel_rfl, ?_⟩) hHq2 ?_
  rotate_left
  · (intro w hSw; first | (go_simp; done) | (go_simp; with_reducible rfl))
  (try simp only [Act.put, List.getElem_toArray, List.getElem_cons_succ, List.getElem_cons_zero, List.setIfInBounds_toArray, List.set_cons_zero, List.set_cons_succ])
  refine wpAnyH_take (i := 9) (v := ?_) rfl (by kernel_rfl) (by kernel_rfl) (by kernel_rfl) (fun _ _ _ h => h) (Or.inl ⟨by kernel_rfl, ?_⟩) hHq2 ?_
  rotate_left
  · (intro w hSw; first | (go_simp; done) | (go_simp; with_reducible rfl))
  (try simp only [Act.put, List.getElem_toArray, List.getElem_cons_succ, List.getElem_cons_zero, List.setIfInBounds_toArray, List.set_cons_zero, List.set_cons_succ])
  refine wpAnyH_ready (rs := [10]) (by kernel_rfl) (by simp) (AllReadyH.cons rfl (fun K hK => ?_) AllReadyH.nil)
  have hH := hHq2
  (go_simp; go_at_call 55; refine (HST.out _ hH.1).mono ?_; rintro e w9 ⟨rfl, hb9⟩)
  refine hK.out _ _ (by exact HSP.out _ ⟨hH.1.trans (hb9.mono hH.1.size), hH.2.1.below (hb9) hH.2.1.lt, hH.2.2.1.below (hb9) hH.2.2.1.lt⟩) (fun hHq3 => ?_)
  clear hK K hH hHq2
  (try simp only [Act.put, List.getElem_toArray, List.getElem_cons_succ, List.getElem_cons_zero, List.setIfInBounds_toArray, List.set_cons_zero, List.set_cons_succ])
  refine wpAnyH_take (i := 11) (v := ?_) rfl (by kernel_rfl) (by kernel_rfl) (by kernel_rfl) (fun _ _ _ h => h) (Or.inl ⟨by kernel_rfl, ?_⟩) hHq3 ?_
  rotate_left
  · (intro w hSw; first | (go_simp; done) | (go_simp; with_reducible rfl))
  (try simp only [Act.put, List.getElem_toArray, List.getElem_cons_succ, List.getElem_cons_zero, List.setIfInBounds_toArray, List.set_cons_zero, List.set_cons_succ])
  refine wpAnyH_take (i := 12) (v := ?_) rfl (by kernel_rfl) (by kernel_rfl) (by kernel_rfl) (fun _ _ _ h => h) (Or.inl ⟨by kernel_rfl, ?_⟩) hHq3 ?_
  rotate_left
  · (intro w hSw; first | (go_simp; done) | (go_simp; with_reducible rfl))
  (try simp only [Act.put, List.getElem_toArray, List.getElem_cons_succ, List.getElem_cons_zero, List.setIfInBounds_toArray, List.set_cons_zero, List.set_cons_succ])
  refine wpAnyH_take (i := 13) (v := ?_) rfl (by kernel_rfl) (by kernel_rfl) (by kernel_rfl) (fun _ _ _ h => h) (Or.inl ⟨by kernel_rfl, ?_⟩) hHq3 ?_
  rotate_left
  · (intro w hSw; first | (go_simp; done) | (go_simp; with_reducible rfl))
  (try simp only [Act.put, List.getElem_toArray, List.getElem_cons_succ, List.getElem_cons_zero, List.setIfInBounds_toArray, List.set_cons_zero, List.set_cons_succ])
  refine wpAnyH_take (i := 14) (v := ?_) rfl (by kernel_rfl) (by kernel_rfl) (by kernel_rfl) (fun _ _ _ h => h) (Or.inl ⟨by kernel_rfl, ?_⟩) hHq3 ?_
  rotate_left
  · (intro w hSw; first | (go_simp; done) | (go_simp; with_reducible rfl))
  (try simp only [Act.put, List.getElem_toArray, List.getElem_cons_succ, List.getElem_cons_zero, List.setIfInBounds_toArray, List.set_cons_zero, List.set_cons_succ])
  refine wpAnyH_take (i := 15) (v := ?_) rfl (by kernel_rfl) (by kernel_rfl) (by kernel_rfl) (fun _ _ _ h => h) (Or.inl ⟨by kernel_rfl, ?_⟩) hHq3 ?_
  rotate_left
  · (intro w hSw; first | (go_simp; done) | (go_simp; with_reducible rfl))
  (try simp only [Act.put, List.getElem_toArray, List.getElem_cons_succ, List.getElem_cons_zero, List.setIfInBounds_toArray, List.set_cons_zero, List.set_cons_succ])
  refine wpAnyH_take (i := 16) (v := ?_) rfl (by kernel_rfl) (by kernel_rfl) (by kernel_rfl) (fun _ _ _ h => h) (Or.inl ⟨by kernel_rfl, ?_⟩) hHq3 ?_
  rotate_left
  · (intro w hSw; first | (go_simp; done) | (go_simp; with_reducible rfl))
  (try simp only [Act.put, List.getElem_toArray, List.getElem_cons_succ, List.getElem_cons_zero, List.setIfInBounds_toArray, List.set_cons_zero, List.set_cons_succ])
  refine wpAnyH_ready (rs := [17]) (by kernel_rfl) (by simp) (AllReadyH.cons rfl (fun K hK => ?_) AllReadyH.nil)
  have hH := hHq3
  (go_simp; go_at_call 56; refine (HBK.out _ hH.1).mono ?_; rintro e w9 ⟨rfl, hb9⟩)
  refine hK.out _ _ (by exact HSP.out _ ⟨hH.1.trans (hb9.mono hH.1.size), hH.2.1.below (hb9) hH.2.1.lt, hH.2.2.1.below (hb9) hH.2.2.1.lt⟩) (fun hHq4 => ?_)
  clear hK K hH hHq3
  (try simp only [Act.put, List.getElem_toArray, List.getElem_cons_succ, List.getElem_cons_zero, List.setIfInBounds_toArray, List.set_cons_zero, List.set_cons_succ])
  refine wpAnyH_take (i := 18) (v := ?_) rfl (by kernel_rfl) (by kernel_rfl) (by kernel_rfl) (fun _ _ _ h => h) (Or.inl ⟨by kernel_rfl, ?_⟩) hHq4 ?_
  rotate_left
  · (intro w hSw; first | (go_simp; done) | (go_simp; with_reducible rfl))
  (try simp only [Act.put, List.getElem_toArray, List.getElem_cons_succ, List.getElem_cons_zero, List.setIfInBounds_toArray, List.set_cons_zero, List.set_cons_succ])
  refine wpAnyH_take (i := 19) (v := ?_) rfl (by kernel_rfl) (by kernel_rfl) (by kernel_rfl) (fun _ _ _ h => h) (Or.inl ⟨by kernel_rfl, ?_⟩) hHq4 ?_
  rotate_left
  · (intro w hSw; first | (go_simp; done) | (go_simp; with_reducible rfl))
  (try simp only [Act.put, List.getElem_toArray, List.getElem_cons_succ, List.getElem_cons_zero, List.setIfInBounds_toArray, List.set_cons_zero, List.set_cons_succ])
  refine wpAnyH_take (i := 20) (v := ?_) rfl (by kernel_rfl) (by kernel_rfl) (by kernel_rfl) (fun _ _ _ h => h) (Or.inl ⟨by kernel_rfl, ?_⟩) hHq4 ?_
  rotate_left
  · (intro w hSw; first | (go_simp; done) | (go_simp; with_reducible rfl))
  (try simp only [Act.put, List.getElem_toArray, List.getElem_cons_succ, List.getElem_cons_zero, List.setIfInBounds_toArray, List.set_cons_zero, List.set_cons_succ])
  refine wpAnyH_take (i := 21) (v := ?_) rfl (by kernel_rfl) (by kernel_rfl) (by kernel_rfl) (fun _ _ _ h => h) (Or.inl ⟨by kernel_rfl, ?_⟩) hHq4 ?_
  rotate_left
  · (intro w hSw; first | (go_simp; done) | (go_simp; with_reducible rfl))
  (try simp only [Act.put, List.getElem_toArray, List.getElem_cons_succ, List.getElem_cons_zero, List.setIfInBounds_toArray, List.set_cons_zero, List.set_cons_succ])
  refine wpAnyH_take (i := 22) (v := ?_) rfl (by kernel_rfl) (by kernel_rfl) (by kernel_rfl) (fun _ _ _ h => h) (Or.inl ⟨by kernel_rfl, ?_⟩) hHq4 ?_
  rotate_left
  · (intro w hSw; first | (go_simp; done) | (go_simp; with_reducible rfl))
  (try simp only [Act.put, List.getElem_toArray, List.getElem_cons_succ, List.getElem_cons_zero, List.setIfInBounds_toArray, List.set_cons_zero, List.set_cons_succ])
  refine wpAnyH_take (i := 23) (v := ?_) rfl (by kernel_rfl) (by kernel_rfl) (by kernel_rfl) (fun _ _ _ h => h) (Or.inl ⟨by kernel_rfl, ?_⟩) hHq4 ?_
  rotate_left
  · (intro w hSw; first | (go_simp; done) | (go_simp; with_reducible rfl))
  (try simp only [Act.put, List.getElem_toArray, List.getElem_cons_succ, List.getElem_cons_zero, List.setIfInBounds_toArray, List.set_cons_zero, List.set_cons_succ])
  refine wpAnyH_ready (rs := [24]) (by kernel_rfl) (by simp) (AllReadyH.cons rfl (fun K hK => ?_) AllReadyH.nil)
  have hH := hHq4
  (go_simp; go_at_call 57; refine (HCE.out _ hH.1).mono ?_; rintro e w9 ⟨rfl, hb9⟩)
  refine hK.out _ _ (by exact HSP.out _ ⟨hH.1.trans (hb9.mono hH.1.size), hH.2.1.below (hb9) hH.2.1.lt, hH.2.2.1.below (hb9) hH.2.2.1.lt⟩) (fun hHq5 => ?_)
  clear hK K hH hHq4
  (try simp only [Act.put, List.getElem_toArray, List.getElem_cons_succ, List.getElem_cons_zero, List.setIfInBounds_toArray, List.set_cons_zero, List.set_cons_succ])
  refine wpAnyH_take (i := 25) (v := ?_) rfl (by kernel_rfl) (by kernel_rfl) (by kernel_rfl) (fun _ _ _ h => h) (Or.inl ⟨by kernel_rfl, ?_⟩) hHq5 ?_
  rotate_left
  · (intro w hSw; first | (go_simp; done) | (go_simp; with_reducible rfl))
  (try simp only [Act.put, List.getElem_toArray, List.getElem_cons_succ, List.getElem_cons_zero, List.setIfInBounds_toArray, List.set_cons_zero, List.set_cons_succ])
  refine wpAnyH_take (i := 26) (v := ?_) rfl (by kernel_rfl) (by kernel_rfl) (by kernel_rfl) (fun _ _ _ h => h) (Or.inl ⟨by kernel_rfl, ?_⟩) hHq5 ?_
  rotate_left
  · (intro w hSw; first | (go_simp; done) | (go_simp; with_reducible rfl))
  (try simp only [Act.put, List.getElem_toArray, List.getElem_cons_succ, List.getElem_cons_zero, List.setIfInBounds_toArray, List.set_cons_zero, List.set_cons_succ])
  refine wpAnyH_take (i := 27) (v := ?_) rfl (by kernel_rfl) (by kernel_rfl) (by kernel_rfl) (fun _ _ _ h => h) (Or.inl ⟨by kernel_rfl, ?_⟩) hHq5 ?_
  rotate_left
  · (intro w hSw; first | (go_simp; done) | (go_simp; with_reducible rfl))
  (try simp only [Act.put, List.getElem_toArray, List.getElem_cons_succ, List.getElem_cons_zero, List.setIfInBounds_toArray, List.set_cons_zero, List.set_cons_succ])
  refine wpAnyH_take (i := 28) (v := ?_) rfl (by kernel_rfl) (by kernel_rfl) (by kernel_rfl) (fun _ _ _ h => h) (Or.inl ⟨by kernel_rfl, ?_⟩) hHq5 ?_
  rotate_left
  · (intro w hSw; first | (go_simp; done) | (go_simp; with_reducible rfl))
  (try simp only [Act.put, List.getElem_toArray, List.getElem_cons_succ, List.getElem_cons_zero, List.setIfInBounds_toArray, List.set_cons_zero, List.set_cons_succ])
  refine wpAnyH_take (i := 29) (v := ?_) rfl (by kernel_rfl) (by kernel_rfl) (by kernel_rfl) (fun _ _ _ h => h) (Or.inl ⟨by kernel_rfl, ?_⟩) hHq5 ?_
  rotate_left
  · (intro w hSw; first | (go_simp; done) | (go_simp; with_reducible rfl))
  (try simp only [Act.put, List.getElem_toArray, List.getElem_cons_succ, List.getElem_cons_zero, List.setIfInBounds_toArray, List.set_cons_zero, List.set_cons_succ])
  refine wpAnyH_take (i := 30) (v := ?_) rfl (by kernel_rfl) (by kernel_rfl) (by kernel_rfl) (fun _ _ _ h => h) (Or.inl ⟨by kernel_rfl, ?_⟩) hHq5 ?_
  rotate_left
  · (intro w hSw; first | (go_simp; done) | (go_simp; with_reducible rfl))
  (try simp only [Act.put, List.getElem_toArray, List.getElem_cons_succ, List.getElem_cons_zero, List.setIfInBounds_toArray, List.set_cons_zero, List.set_cons_succ])
  refine wpAnyH_ready (rs := [31]) (by kernel_rfl) (by simp) (AllReadyH.cons rfl (fun K hK => ?_) AllReadyH.nil)
  have hH := hHq5
  (go_simp; go_at_call 58; refine (HLY.out _ hH.1).mono ?_; rintro e w9 ⟨rfl, hb9⟩)
  refine hK.out _ _ (by exact HSP.out _ ⟨hH.1.trans (hb9.mono hH.1.size), hH.2.1.below (hb9) hH.2.1.lt, hH.2.2.1.below (hb9) hH.2.2.1.lt⟩) (fun hHq6 => ?_)
  clear hK K hH hHq5
  (try simp only [Act.put, List.getElem_toArray, List.getElem_cons_succ, List.getElem_cons_zero, List.setIfInBounds_toArray, List.set_cons_zero, List.set_cons_succ])
  refine wpAnyH_take (i := 32) (v := ?_) rfl (by kernel_rfl) (by kernel_rfl) (by kernel_rfl) (fun _ _ _ h => h) (Or.inl ⟨by kernel_rfl, ?_⟩) hHq6 ?_
  rotate_left
  · (intro w hSw; first | (go_simp; done) | (go_simp; with_reducible rfl))
  (try simp only [Act.put, List.getElem_toArray, List.getElem_cons_succ, List.getElem_cons_zero, List.setIfInBounds_toArray, List.set_cons_zero, List.set_cons_succ])
  refine wpAnyH_take (i := 33) (v := ?_) rfl (by kernel_rfl) (by kernel_rfl) (by kernel_rfl) (fun _ _ _ h => h) (Or.inl ⟨by kernel_rfl, ?_⟩) hHq6 ?_
  rotate_left
  · (intro w hSw; first | (go_simp; done) | (go_simp; with_reducible rfl))
  (try simp only [Act.put, List.getElem_toArray, List.getElem_cons_succ, List.getElem_cons_zero, List.setIfInBounds_toArray, List.set_cons_zero, List.set_cons_succ])
  refine wpAnyH_done (by kernel_rfl) ?_ _
  have hEnd := hHq6
  have HE := Lib.hid (HB.out.trans (hEnd.1.mono HB.out.size))
  clear hHeld hEnd
  go_wp2_with fail
  go_ret
  exact ⟨rfl, HE.out⟩
end Go.Proofs.Yteenlkmnadjnpaa
namespace Go.Proofs.Yteenlkmnadjnpaa
open Go.RowKit Go.Deep Go.Shelf
set_option linter.unusedVariables false
set_option linter.unusedSimpArgs false

theorem eqIn_place9g (a b a' b' : Int) (w : World) : (Op.equalIn 9999 50 (.agg #[.int .i64 a, .int .i64 b]) (.agg #[.int .i64 a', .int .i64 b'])).run Try.prog w = .ok (decide (a = a' ∧ b = b')) w := by
  have g0 : ∀ (x y : Value), (part 48 #[x, y] 0).run Try.prog w = .ok x w := fun x y => run_part_cell Try.underlying48 rfl w
  have g1 : ∀ (x y : Value), (part 3 #[x, y] 1).run Try.prog w = .ok y w := fun x y => run_part_cell Try.underlying3 rfl w
  have gg : ∀ (x y : Value), (part 48 #[x, y] 1).run Try.prog w = .ok y w := fun x y => run_part_cell Try.underlying48 rfl w
  have ge : ∀ (x y : Int), (Op.equalIn 9998 3 (.int .i64 x) (.int .i64 y)).run Try.prog w = .ok (x == y) w := fun x y => run_equalIn_int w 9997 3 .i64 .i64 _ _ Try.underlying3
  have gr : ∀ (x y : Int), (Op.equalIn 9998 48 (.int .i64 x) (.int .i64 y)).run Try.prog w = .ok (x == y) w := fun x y => run_equalIn_int w 9997 48 .i64 .i64 _ _ Try.underlying48
  refine (run_equalIn_struct w 9998 50 _ _ (by kernel_rfl) (by kernel_rfl)).trans ?_
  simp [Program.fieldsOf, Try.underlying50, Op.eqFields, g0, g1, gg, ge, gr]
  by_cases h1 : a = a'
  · by_cases h2 : b = b' <;> simp [h1, h2]
  · simp [h1]
theorem eqIn_ballot9g (a b a' b' : Int) (w : World) : (Op.equalIn 9999 56 (.agg #[.int .i64 a, .int .i64 b]) (.agg #[.int .i64 a', .int .i64 b'])).run Try.prog w = .ok (decide (a = a' ∧ b = b')) w := by
  have g0 : ∀ (x y : Value), (part 3 #[x, y] 0).run Try.prog w = .ok x w := fun x y => run_part_cell Try.underlying3 rfl w
  have g1 : ∀ (x y : Value), (part 3 #[x, y] 1).run Try.prog w = .ok y w := fun x y => run_part_cell Try.underlying3 rfl w
  have gg : ∀ (x y : Value), (part 3 #[x, y] 1).run Try.prog w = .ok y w := fun x y => run_part_cell Try.underlying3 rfl w
  have ge : ∀ (x y : Int), (Op.equalIn 9998 3 (.int .i64 x) (.int .i64 y)).run Try.prog w = .ok (x == y) w := fun x y => run_equalIn_int w 9997 3 .i64 .i64 _ _ Try.underlying3
  have gr : ∀ (x y : Int), (Op.equalIn 9998 3 (.int .i64 x) (.int .i64 y)).run Try.prog w = .ok (x == y) w := fun x y => run_equalIn_int w 9997 3 .i64 .i64 _ _ Try.underlying3
  refine (run_equalIn_struct w 9998 56 _ _ (by kernel_rfl) (by kernel_rfl)).trans ?_
  simp [Program.fieldsOf, Try.underlying56, Op.eqFields, g0, g1, gg, ge, gr]
  by_cases h1 : a = a'
  · by_cases h2 : b = b' <;> simp [h1, h2]
  · simp [h1]
/-- heads are the same -/
def hdEq (A C : MgT) : Bool := decide (A.k = C.k ∧ A.f = C.f ∧ (A.fr.1 = C.fr.1 ∧ A.fr.2 = C.fr.2) ∧ (A.to.1 = C.to.1 ∧ A.to.2 = C.to.2) ∧ A.id = C.id ∧ A.ep = C.ep ∧ A.ad = C.ad ∧ A.er = C.er ∧ (A.ba.1 = C.ba.1 ∧ A.ba.2 = C.ba.2) ∧ (A.pr.1 = C.pr.1 ∧ A.pr.2 = C.pr.2))
set_option maxHeartbeats 2000000 in
theorem eqIn_head (A C : MgT) (w : World) : (Op.equalIn 10000 101 (.agg A.hd.toArray) (.agg C.hd.toArray)).run Try.prog w = .ok (hdEq A C) w := by
  have ap : ∀ w, (isAgg 50).run Try.prog w = .ok true w := fun w => by unfold isAgg; rw [Sem.run_bind, run_underlying Try.underlying50 w]; rfl
  have ab : ∀ w, (isAgg 56).run Try.prog w = .ok true w := fun w => by unfold isAgg; rw [Sem.run_bind, run_underlying Try.underlying56 w]; rfl
  have zp : ∀ w, (Go.sizeOf 50).run Try.prog w = .ok 2 w := fun w => Try.sizeOf50 w
  have zb : ∀ w, (Go.sizeOf 56).run Try.prog w = .ok 2 w := fun w => Try.sizeOf56 w
  have p0 : (part 47 A.hd.toArray 0).run Try.prog w = .ok (.int .i64 A.k) w := run_part_cell Try.underlying47 rfl w
  have p1 : (part 47 A.hd.toArray 1).run Try.prog w = .ok (.int .i64 A.f) w := run_part_cell Try.underlying47 rfl w
  have p6 : (part 3 A.hd.toArray 6).run Try.prog w = .ok (.int .i64 A.id) w := run_part_cell Try.underlying3 rfl w
  have p7 : (part 22 A.hd.toArray 7).run Try.prog w = .ok (.int .u64 (A.ep : Int)) w := run_part_cell Try.underlying22 rfl w
  have p8 : (part 22 A.hd.toArray 8).run Try.prog w = .ok (.int .u64 (A.ad : Int)) w := run_part_cell Try.underlying22 rfl w
  have p9 : (part 29 A.hd.toArray 9).run Try.prog w = .ok (.int .i64 A.er) w := run_part_cell Try.underlying29 rfl w
  have p2 : (part 50 A.hd.toArray 2).run Try.prog w = .ok (.agg #[.int .i64 A.fr.1, .int .i64 A.fr.2]) w := part_two ap zp w
  have p4 : (part 50 A.hd.toArray 4).run Try.prog w = .ok (.agg #[.int .i64 A.to.1, .int .i64 A.to.2]) w := part_two ap zp w
  have p10 : (part 56 A.hd.toArray 10).run Try.prog w = .ok (.agg #[.int .i64 A.ba.1, .int .i64 A.ba.2]) w := part_two ab zb w
  have p12 : (part 56 A.hd.toArray 12).run Try.prog w = .ok (.agg #[.int .i64 A.pr.1, .int .i64 A.pr.2]) w := part_two ab zb w
  have q0 : (part 47 C.hd.toArray 0).run Try.prog w = .ok (.int .i64 C.k) w := run_part_cell Try.underlying47 rfl w
  have q1 : (part 47 C.hd.toArray 1).run Try.prog w = .ok (.int .i64 C.f) w := run_part_cell Try.underlying47 rfl w
  have q6 : (part 3 C.hd.toArray 6).run Try.prog w = .ok (.int .i64 C.id) w := run_part_cell Try.underlying3 rfl w
  have q7 : (part 22 C.hd.toArray 7).run Try.prog w = .ok (.int .u64 (C.ep : Int)) w := run_part_cell Try.underlying22 rfl w
  have q8 : (part 22 C.hd.toArray 8).run Try.prog w = .ok (.int .u64 (C.ad : Int)) w := run_part_cell Try.underlying22 rfl w
  have q9 : (part 29 C.hd.toArray 9).run Try.prog w = .ok (.int .i64 C.er) w := run_part_cell Try.underlying29 rfl w
  have q2 : (part 50 C.hd.toArray 2).run Try.prog w = .ok (.agg #[.int .i64 C.fr.1, .int .i64 C.fr.2]) w := part_two ap zp w
  have q4 : (part 50 C.hd.toArray 4).run Try.prog w = .ok (.agg #[.int .i64 C.to.1, .int .i64 C.to.2]) w := part_two ap zp w
  have q10 : (part 56 C.hd.toArray 10).run Try.prog w = .ok (.agg #[.int .i64 C.ba.1, .int .i64 C.ba.2]) w := part_two ab zb w
  have q12 : (part 56 C.hd.toArray 12).run Try.prog w = .ok (.agg #[.int .i64 C.pr.1, .int .i64 C.pr.2]) w := part_two ab zb w
  generalize A.hd.toArray = xs at *
  generalize C.hd.toArray = ys at *
  unfold hdEq
  obtain ⟨k, ⟨fr1, fr2⟩, ⟨to1, to2⟩, id, f, ep, ad, er, c, ca, cc, ca2, cc2, st, sa, sc, bk, ka, kc, ⟨ba1, ba2⟩, ⟨pr1, pr2⟩, ly⟩ := A
  obtain ⟨k', ⟨fr1', fr2'⟩, ⟨to1', to2'⟩, id', f', ep', ad', er', c', ca', cc', ca2', cc2', st', sa', sc', bk', ka', kc', ⟨ba1', ba2'⟩, ⟨pr1', pr2'⟩, ly'⟩ := C
  simp only at *
  have ei64MessageKind : ∀ (x y : Int), (Op.equalIn 9999 47 (.int .i64 x) (.int .i64 y)).run Try.prog w = .ok (x == y) w := fun x y => run_equalIn_int w 9998 47 .i64 .i64 _ _ Try.underlying47
  have ei64int : ∀ (x y : Int), (Op.equalIn 9999 3 (.int .i64 x) (.int .i64 y)).run Try.prog w = .ok (x == y) w := fun x y => run_equalIn_int w 9998 3 .i64 .i64 _ _ Try.underlying3
  have eu64uint64 : ∀ (x y : Int), (Op.equalIn 9999 22 (.int .u64 x) (.int .u64 y)).run Try.prog w = .ok (x == y) w := fun x y => run_equalIn_int w 9998 22 .u64 .u64 _ _ Try.underlying22
  have ei64Errno : ∀ (x y : Int), (Op.equalIn 9999 29 (.int .i64 x) (.int .i64 y)).run Try.prog w = .ok (x == y) w := fun x y => run_equalIn_int w 9998 29 .i64 .i64 _ _ Try.underlying29
  refine (run_equalIn_struct w 9999 101 _ _ (by kernel_rfl) (by kernel_rfl)).trans ?_
  simp only [Program.fieldsOf, Try.underlying101, Op.eqFields, Sem.run_bind, p0, p1, p2, p4, p6, p7, p8, p9, p10, p12, q0, q1, q2, q4, q6, q7, q8, q9, q10, q12, ei64MessageKind, ei64int, eu64uint64, ei64Errno, eqIn_place9g, eqIn_ballot9g]
  by_cases h0 : k = k'
  case neg => (simp [h0, p0, p1, p2, p4, p6, p7, p8, p9, p10, p12, q0, q1, q2, q4, q6, q7, q8, q9, q10, q12, ei64MessageKind, ei64int, eu64uint64, ei64Errno, eqIn_place9g, eqIn_ballot9g]; try (intros; omega))
  by_cases h1 : f = f'
  case neg => (simp [h1, p0, p1, p2, p4, p6, p7, p8, p9, p10, p12, q0, q1, q2, q4, q6, q7, q8, q9, q10, q12, ei64MessageKind, ei64int, eu64uint64, ei64Errno, eqIn_place9g, eqIn_ballot9g, h0]; try (intros; omega))
  by_cases h2 : fr1 = fr1' ∧ fr2 = fr2'
  case neg => (simp [h2, p0, p1, p2, p4, p6, p7, p8, p9, p10, p12, q0, q1, q2, q4, q6, q7, q8, q9, q10, q12, ei64MessageKind, ei64int, eu64uint64, ei64Errno, eqIn_place9g, eqIn_ballot9g, h0, h1]; try (intros; omega))
  by_cases h3 : to1 = to1' ∧ to2 = to2'
  case neg => (simp [h3, p0, p1, p2, p4, p6, p7, p8, p9, p10, p12, q0, q1, q2, q4, q6, q7, q8, q9, q10, q12, ei64MessageKind, ei64int, eu64uint64, ei64Errno, eqIn_place9g, eqIn_ballot9g, h0, h1, h2]; try (intros; omega))
  by_cases h4 : id = id'
  case neg => (simp [h4, p0, p1, p2, p4, p6, p7, p8, p9, p10, p12, q0, q1, q2, q4, q6, q7, q8, q9, q10, q12, ei64MessageKind, ei64int, eu64uint64, ei64Errno, eqIn_place9g, eqIn_ballot9g, h0, h1, h2, h3]; try (intros; omega))
  by_cases h5 : ep = ep'
  case neg => (simp [h5, p0, p1, p2, p4, p6, p7, p8, p9, p10, p12, q0, q1, q2, q4, q6, q7, q8, q9, q10, q12, ei64MessageKind, ei64int, eu64uint64, ei64Errno, eqIn_place9g, eqIn_ballot9g, h0, h1, h2, h3, h4]; try (intros; omega))
  by_cases h6 : ad = ad'
  case neg => (simp [h6, p0, p1, p2, p4, p6, p7, p8, p9, p10, p12, q0, q1, q2, q4, q6, q7, q8, q9, q10, q12, ei64MessageKind, ei64int, eu64uint64, ei64Errno, eqIn_place9g, eqIn_ballot9g, h0, h1, h2, h3, h4, h5]; try (intros; omega))
  by_cases h7 : er = er'
  case neg => (simp [h7, p0, p1, p2, p4, p6, p7, p8, p9, p10, p12, q0, q1, q2, q4, q6, q7, q8, q9, q10, q12, ei64MessageKind, ei64int, eu64uint64, ei64Errno, eqIn_place9g, eqIn_ballot9g, h0, h1, h2, h3, h4, h5, h6]; try (intros; omega))
  by_cases h8 : ba1 = ba1' ∧ ba2 = ba2'
  case neg => (simp [h8, p0, p1, p2, p4, p6, p7, p8, p9, p10, p12, q0, q1, q2, q4, q6, q7, q8, q9, q10, q12, ei64MessageKind, ei64int, eu64uint64, ei64Errno, eqIn_place9g, eqIn_ballot9g, h0, h1, h2, h3, h4, h5, h6, h7]; try (intros; omega))
  by_cases h9 : pr1 = pr1' ∧ pr2 = pr2'
  case neg => (simp [h9, p0, p1, p2, p4, p6, p7, p8, p9, p10, p12, q0, q1, q2, q4, q6, q7, q8, q9, q10, q12, ei64MessageKind, ei64int, eu64uint64, ei64Errno, eqIn_place9g, eqIn_ballot9g, h0, h1, h2, h3, h4, h5, h6, h7, h8]; try (intros; omega))
  simp [p0, p1, p2, p4, p6, p7, p8, p9, p10, p12, q0, q1, q2, q4, q6, q7, q8, q9, q10, q12, ei64MessageKind, ei64int, eu64uint64, ei64Errno, eqIn_place9g, eqIn_ballot9g, h0, h1, h2, h3, h4, h5, h6, h7, h8, h9]
theorem eq_head (A C : MgT) (w : World) : (binOp .eql 101 (.agg A.hd.toArray) (.agg C.hd.toArray)).run Try.prog w = .ok (.bool (hdEq A C)) w := by
  rw [run_eql_struct, eqIn_head]; rfl
end Go.Proofs.Yteenlkmnadjnpaa
