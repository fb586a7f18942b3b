/-
  A proposer that begins a phase: enter, walked. No claim of its own.
-/
import Derived.Test.YtcadnlilijkneaaGa11
import Derived.Test.YtcadnlilijkneaaGa8
namespace Go.Proofs.Ytcadnlilijkneaa
open Go.RowKit Go.Maps Go.Shelf Go.Deep
set_option linter.unusedVariables false
set_option linter.unusedSimpArgs false

/-- what a proposer is behind enter, but for its messages -/
def entT (T : PrT) (f : Int) (bm : Nat) : PrT :=
  ⟨T.cl, T.id, T.wi, f, if f = 1 then (nxR T.ba.1 T.he.1, T.cl) else T.ba, T.he, some bm, 0, if f = 1 then (0, 0) else T.fo, if f = 1 then T.wi else T.ly, T.ov⟩
theorem Prs.lt {w : World} {P : Nat → Prop} {p : Nat} {T : PrT} {V : Nat → Option Value} {L : List MgT} (h : Prs w P p T V L) : ∀ x ∈ prM p T, x < w.heap.size := by
  intro x hx
  unfold prM at hx
  simp only [List.mem_cons, List.mem_append, Option.mem_toList] at hx
  rcases hx with rfl | hx | hx
  · exact h.own.lt
  · exact (h.vo x hx).lt
  · exact h.out.lt x hx
theorem PP.start {w : World} {P : Nat → Prop} {p bm : Nat} {T : PrT} (hp : ∀ x, P x → x ∉ prM p T) (hb : w.heap.size ≤ bm) (x : Nat) (hl : x < w.heap.size) (h : P x) : PP w P p bm T.ov x := by
  have h9 := hp x h
  unfold prM at h9
  simp only [List.mem_cons, List.mem_append, not_or] at h9
  refine ⟨.inl ⟨h, hl⟩, ?_⟩
  simp only [List.mem_cons, not_or]
  exact ⟨h9.1, by omega, h9.2.2⟩

theorem EnI.begin {w w7 : World} {P : Nat → Prop} {p : Nat} {T : PrT} {V : Nat → Option Value} {L : List MgT} (h : Prs w P p T V L) (f : Int) (bm : Nat) (ho : Own w7 p 58 (entT T f bm).cs) (hc : Chg [p] w w7) (hb : w.heap.size ≤ bm) (hm : MapI w7 bm (fun _ => none)) :
    EnI w P (prM p T) T.ov p bm (entT T f bm) L 0 T.ov [] w7 := by
  have hn := h.ne.1
  simp only [List.mem_append, not_or] at hn
  have hst : ∀ {A : LyT}, LyP w P A → LyP w7 (PP w P p bm T.ov) A := fun {A} hA => (hA.mono (fun x hx hp => PP.start h.px hb x hx hp)).chg hc (fun x hx hm => hx.2 (by simp only [List.mem_singleton] at hm; simp [hm]))
  refine ⟨ho, ?_, hst h.wi, ?_, hm, ⟨fun e => by have := h.own.lt; omega, hn.2, fun hx => by have := h.out.lt _ hx; omega⟩, hb, fun x hx => .inl hx, Ques.nil _, hc.mono (fun x hx => by simp only [List.mem_singleton] at hx; subst hx; exact .inl (by simp [prM]))⟩
  · rw [List.append_nil]
    exact (h.out.mono (fun x hx hp => PP.start h.px hb x hx hp)).chg hc (fun x hx hm => hx.2 (by simp only [List.mem_singleton] at hm; simp [hm])) (fun x hx hm => hn.2 (by simp only [List.mem_singleton] at hm; subst hm; exact hx))
  · unfold entT
    simp only
    split
    · exact hst h.wi
    · exact hst h.ly
theorem entT_lys {w : World} {P : Nat → Prop} {p : Nat} {T : PrT} {V : Nat → Option Value} {L : List MgT} (h : Prs w P p T V L) (f : Int) (bm : Nat) : LyS (entT T f bm).ly := by
  unfold entT
  simp only
  split
  · exact h.wis
  · exact h.lys

set_option maxHeartbeats 4000000 in
set_option maxRecDepth 100000 in
theorem enter_one (w : World) (P : Nat → Prop) (p : Nat) (T0 : PrT) (V : Nat → Option Value) (L : List MgT) (h : Prs w P p T0 V L) (hb : 0 ≤ T0.ba.1 ∧ T0.ba.1 ≤ 65535) (hh : 0 ≤ T0.he.1 ∧ T0.he.1 ≤ 65535) (hL : L.length ≤ 999990) :
    Calls Try.prog 17 #[.pointer (some ⟨p, 0, none⟩), .int .i64 1] w fun e w' => e = .returned (.tuple #[]) ∧ ∃ bm v Q, Hid (EnI w P (prM p T0) T0.ov p bm (entT T0 1 bm) L 3 v Q w') := by
  have HP := Lib.hid h
  have hmm := @run_makeMap Try.prog
  have HM0 : Hid (p ∈ prM p T0 ∧ ∀ x ∈ rowOf T0.ov, x ∈ prM p T0) := Lib.hid ⟨by simp [prM], fun x hx => by simp [prM, hx]⟩
  have HLL := Lib.hid hL
  have HO := Lib.hid h.own
  have c5 := h.own.cell 5
  have f5 := h.own.frozen 5
  have hz := h.own.lt
  simp [PrT.cs, prcs] at c5
  have HRD : Hid (∀ V, Chg [] (w.setCell ⟨p, 5, none⟩ (.int .i64 1)) V → Calls Try.prog 27 #[.pointer (some ⟨p, 0, none⟩)] V fun e w' => e = .returned (.int .i64 (nxR T0.ba.1 T0.he.1)) ∧ Chg [] V w') := Lib.hid fun V hV => by
    have ho := (h.own.set 5 (.int .i64 1)).chg hV (by simp)
    exact round_any V p ⟨T0.cl, T0.id, T0.wi, 1, T0.ba, T0.he, T0.vb, T0.ti, T0.fo, T0.ly, T0.ov⟩ ho hb hh
  have HO1 : Hid (Own (w.setCell ⟨p, 5, none⟩ (.int .i64 1)) p 58 (⟨T0.cl, T0.id, T0.wi, 1, T0.ba, T0.he, T0.vb, T0.ti, T0.fo, T0.ly, T0.ov⟩ : PrT).cs) := Lib.hid (h.own.set 5 _)
  have HC1 : Hid (Chg [p] w (w.setCell ⟨p, 5, none⟩ (.int .i64 1))) := Lib.hid ((Chg.refl [p] w).setCell (.inl (by simp)) _)
  clear h hb hh hL
  go_enter Try.func17, Try.ntmps17
  go_upto_region 4 with fail
  generalize w.setCell ⟨p, 5, none⟩ (.int .i64 1) = w1 at HRD HO1 HC1 ⊢
  have HZ := Lib.hid HO1.out.lt
  clear c5 f5 hz
  obtain ⟨nr, hnr⟩ : ∃ n, Hid (nxR T0.ba.1 T0.he.1 = n) := ⟨_, Lib.hid rfl⟩
  rw [hnr.out] at HRD
  have HST : Hid (∀ V V', (V.cell? ⟨p, 0, none⟩ = some (.int .i64 T0.cl) ∧ p < V.heap.size ∧ Chg [p] w1 V) → Chg [] V V' → (V'.cell? ⟨p, 0, none⟩ = some (.int .i64 T0.cl) ∧ p < V'.heap.size ∧ Chg [p] w1 V')) := Lib.hid fun V V' h hc => ⟨hc.cell h.1 (by simp), Nat.lt_of_lt_of_le h.2.1 hc.size, h.2.2.trans (hc.mono (fun x hx => by cases hx))⟩
  have HPU : Hid (∀ V, Chg [] w1.drew V → (V.cell? ⟨p, 6, none⟩ = some (.int .i64 T0.ba.1) ∧ V.cell? ⟨p, 7, none⟩ = some (.int .i64 T0.ba.2) ∧ V.frozen? ⟨p, 6, none⟩ = false ∧ V.frozen? ⟨p, 7, none⟩ = false ∧ p < V.heap.size) ∧ (((V.setCell ⟨p, 6, none⟩ (.int .i64 nr)).setCell ⟨p, 7, none⟩ (.int .i64 T0.cl)).cell? ⟨p, 0, none⟩ = some (.int .i64 T0.cl) ∧ p < ((V.setCell ⟨p, 6, none⟩ (.int .i64 nr)).setCell ⟨p, 7, none⟩ (.int .i64 T0.cl)).heap.size ∧ Chg [p] w1 ((V.setCell ⟨p, 6, none⟩ (.int .i64 nr)).setCell ⟨p, 7, none⟩ (.int .i64 T0.cl))) ∧ Own ((V.setCell ⟨p, 6, none⟩ (.int .i64 nr)).setCell ⟨p, 7, none⟩ (.int .i64 T0.cl)) p 58 (⟨T0.cl, T0.id, T0.wi, 1, (nr, T0.cl), T0.he, T0.vb, T0.ti, T0.fo, T0.ly, T0.ov⟩ : PrT).cs) := Lib.hid fun V hV => by
    have hV' : Chg [] w1 V := ((Chg.refl [] w1).drew).trans hV
    have ho := HO1.out.chg hV' (by simp)
    have ho2 := (ho.set 6 (.int .i64 nr)).set 7 (.int .i64 T0.cl)
    refine ⟨⟨by rw [ho.cell]; rfl, by rw [ho.cell]; rfl, ho.frozen 6, ho.frozen 7, ho.lt⟩, ⟨by rw [ho2.cell]; rfl, ho2.lt, ?_⟩, ho2⟩
    exact ((hV'.mono (fun x hx => by cases hx)).setCell (.inl (by simp)) _).setCell (.inl (by simp)) _
  refine wp_region_held_drew (S := (fun V => V.cell? ⟨p, 0, none⟩ = some (.int .i64 T0.cl) ∧ p < V.heap.size ∧ Chg [p] w1 V)) (by kernel_rfl) (HST.out _ _ ⟨by rw [HO1.out.cell]; rfl, HO1.out.lt, Chg.refl _ _⟩ (Chg.refl [] w1).drew) (fun hHeld => ?_)
  refine wpAnyH_take (i := 0) (v := ?_) rfl (by kernel_rfl) (by kernel_rfl) (by kernel_rfl) (fun _ _ _ h => h) (Or.inl ⟨by kernel_rfl, ?_⟩) hHeld ?_
  rotate_left
  · (intro w hSw; first | (go_simp; done) | (go_simp; with_reducible rfl))
  (try simp only [Act.put, List.getElem_toArray, List.getElem_cons_succ, List.getElem_cons_zero, List.setIfInBounds_toArray, List.set_cons_zero, List.set_cons_succ])
  refine wpAnyH_take (i := 1) (v := ?_) rfl (by kernel_rfl) (by kernel_rfl) (by kernel_rfl) (fun _ _ _ h => h) (Or.inl ⟨by kernel_rfl, ?_⟩) hHeld ?_
  rotate_left
  · (intro w hSw; first | (go_simp; done) | (go_simp; with_reducible rfl))
  (try simp only [Act.put, List.getElem_toArray, List.getElem_cons_succ, List.getElem_cons_zero, List.setIfInBounds_toArray, List.set_cons_zero, List.set_cons_succ])
  refine wpAnyH_take (i := 3) (v := ?_) rfl (by kernel_rfl) (by kernel_rfl) (by kernel_rfl) (fun _ _ _ h => h) (Or.inl ⟨by kernel_rfl, ?_⟩) hHeld ?_
  rotate_left
  · (intro w hSw; first | (go_simp; done) | (go_simp; with_reducible rfl))
  (try simp only [Act.put, List.getElem_toArray, List.getElem_cons_succ, List.getElem_cons_zero, List.setIfInBounds_toArray, List.set_cons_zero, List.set_cons_succ])
  refine wpAnyH_take (i := 4) (v := ?_) rfl (by kernel_rfl) (by kernel_rfl) (by kernel_rfl) (fun _ _ _ h => h) (Or.inl ⟨by kernel_rfl, ?_⟩) hHeld ?_
  rotate_left
  · (intro w hSw; first | (go_simp; done) | (go_simp; with_reducible rfl))
  (try simp only [Act.put, List.getElem_toArray, List.getElem_cons_succ, List.getElem_cons_zero, List.setIfInBounds_toArray, List.set_cons_zero, List.set_cons_succ])
  refine wpAnyH_take (i := 5) (v := ?_) rfl (by kernel_rfl) (by kernel_rfl) (by kernel_rfl) (fun _ _ _ h => h) (Or.inl ⟨by kernel_rfl, ?_⟩) hHeld ?_
  rotate_left
  · (intro w hSw; first | (go_simp; done) | (go_simp; with_reducible rfl))
  (try simp only [Act.put, List.getElem_toArray, List.getElem_cons_succ, List.getElem_cons_zero, List.setIfInBounds_toArray, List.set_cons_zero, List.set_cons_succ])
  refine wpAnyH_take (i := 6) (v := ?_) rfl (by kernel_rfl) (by kernel_rfl) (by kernel_rfl) (fun _ _ _ h => h) (Or.inl ⟨by kernel_rfl, ?_⟩) hHeld ?_
  rotate_left
  · (intro w hSw; first | (go_simp; done) | (go_simp; with_reducible rfl))
  (try simp only [Act.put, List.getElem_toArray, List.getElem_cons_succ, List.getElem_cons_zero, List.setIfInBounds_toArray, List.set_cons_zero, List.set_cons_succ])
  refine wpAnyH_ready (rs := [2]) (by kernel_rfl) (by simp) (AllReadyH.cons rfl (fun K hK => ?_) AllReadyH.nil)
  have hH := hHeld
  (go_simp; go_at_call 27; refine (HRD.out _ (Chg.refl [] w1).drew).mono ?_; rintro e wr ⟨rfl, hcr⟩)
  refine hK.out _ _ (by exact HST.out _ _ hH hcr) (fun hHq1 => ?_)
  clear hK K hH 
  have HCR := Lib.hid hcr; clear hcr
  (try simp only [Act.put, List.getElem_toArray, List.getElem_cons_succ, List.getElem_cons_zero, List.setIfInBounds_toArray, List.set_cons_zero, List.set_cons_succ])
  refine wpAnyH_take (i := 7) (v := ?_) rfl (by kernel_rfl) (by kernel_rfl) (by kernel_rfl) (fun _ _ _ h => h) (Or.inl ⟨by kernel_rfl, ?_⟩) hHq1 ?_
  rotate_left
  · (intro w hSw; first | (go_simp; done) | (go_simp; with_reducible rfl))
  (try simp only [Act.put, List.getElem_toArray, List.getElem_cons_succ, List.getElem_cons_zero, List.setIfInBounds_toArray, List.set_cons_zero, List.set_cons_succ])
  refine wpAnyH_take (i := 8) (v := ?_) rfl (by kernel_rfl) (by kernel_rfl) (by kernel_rfl) (fun _ _ _ h => h) (Or.inl ⟨by kernel_rfl, ?_⟩) hHq1 ?_
  rotate_left
  · (intro w hSw; first | (go_simp; done) | (go_simp; with_reducible rfl))
  (try simp only [Act.put, List.getElem_toArray, List.getElem_cons_succ, List.getElem_cons_zero, List.setIfInBounds_toArray, List.set_cons_zero, List.set_cons_succ])
  refine wpAnyH_take (i := 9) (v := ?_) rfl (by kernel_rfl) (by kernel_rfl) (by kernel_rfl) (fun _ _ _ h => h) (Or.inl ⟨by kernel_rfl, ?_⟩) hHq1 ?_
  rotate_left
  · (intro w hSw; first | (go_simp; done) | (go_simp; with_reducible rfl))
  (try simp only [Act.put, List.getElem_toArray, List.getElem_cons_succ, List.getElem_cons_zero, List.setIfInBounds_toArray, List.set_cons_zero, List.set_cons_succ])
  refine wpAnyH_ready (rs := [10]) (by kernel_rfl) (by simp) (AllReadyH.cons rfl (fun K hK => ?_) AllReadyH.nil)
  have hH := hHq1
  (obtain ⟨⟨q6, q7, g6, g7, gz⟩, _⟩ := HPU.out wr HCR.out; go_simp)
  refine hK.out _ _ (by exact (HPU.out wr HCR.out).2.1) (fun hHq2 => ?_)
  clear hK K hH hHq1
  (try simp only [Act.put, List.getElem_toArray, List.getElem_cons_succ, List.getElem_cons_zero, List.setIfInBounds_toArray, List.set_cons_zero, List.set_cons_succ])
  refine wpAnyH_done (by kernel_rfl) ?_ _
  have hEnd := hHq2
  have HO4 := Lib.hid (HPU.out wr HCR.out).2.2
  have HC4 := Lib.hid (HC1.out.trans (HPU.out wr HCR.out).2.1.2.2)
  clear hHeld hEnd HPU HST HRD HC1 HO1 HZ
  generalize (wr.setCell ⟨p, 6, none⟩ (.int .i64 nr)).setCell ⟨p, 7, none⟩ (.int .i64 T0.cl) = w4 at HO4 HC4 ⊢
  clear HCR
  obtain ⟨cl, id, ⟨we, wa, wc, ws, wq⟩, ph, ⟨b1, b2⟩, ⟨h1, h2⟩, vb, ti, ⟨f1, f2⟩, ⟨le, la, lc, ls, lq⟩, ov⟩ := T0
  simp only at HO4 hnr
  obtain ⟨wn, hwn⟩ : ∃ n, Hid (ws.length = n) := ⟨_, Lib.hid rfl⟩
  obtain ⟨ln, hln⟩ : ∃ n, Hid (ls.length = n) := ⟨_, Lib.hid rfl⟩
  simp only [PrT.cs, prcs, hwn.out, hln.out] at HO4
  have c2 := HO4.out.cell 2
  have c3 := HO4.out.cell 3
  have c4 := HO4.out.cell 4
  have c12 := HO4.out.cell 12
  have c13 := HO4.out.cell 13
  have c14 := HO4.out.cell 14
  have c15 := HO4.out.cell 15
  have c16 := HO4.out.cell 16
  have e12 := HO4.out.frozen 12
  have e13 := HO4.out.frozen 13
  have e14 := HO4.out.frozen 14
  have e15 := HO4.out.frozen 15
  have e16 := HO4.out.frozen 16
  have hz := HO4.out.lt
  simp at c2 c3 c4 c12 c13 c14 c15 c16
  have HO5 := Lib.hid (((((HO4.out.set 12 (.int .i64 0)).set 13 (.int .i64 0)).set 14 (.int .u64 (we : Int))).set 15 (.slice wa wn wc)).set 16 (.int .i64 wq))
  have HC5 : Hid (Chg [p] w (((((w4.setCell ⟨p, 12, none⟩ (.int .i64 0)).setCell ⟨p, 13, none⟩ (.int .i64 0)).setCell ⟨p, 14, none⟩ (.int .u64 (we : Int))).setCell ⟨p, 15, none⟩ (.slice wa wn wc)).setCell ⟨p, 16, none⟩ (.int .i64 wq))) := Lib.hid (((((HC4.out.setCell (.inl (by simp)) _).setCell (.inl (by simp)) _).setCell (.inl (by simp)) _).setCell (.inl (by simp)) _).setCell (.inl (by simp)) _)
  go_upto_region 6 with fail
  generalize ((((w4.setCell ⟨p, 12, none⟩ (.int .i64 0)).setCell ⟨p, 13, none⟩ (.int .i64 0)).setCell ⟨p, 14, none⟩ (.int .u64 (we : Int))).setCell ⟨p, 15, none⟩ (.slice wa wn wc)).setCell ⟨p, 16, none⟩ (.int .i64 wq) = w5 at HO5 HC5 ⊢
  clear c2 c3 c4 c12 c13 c14 c15 c16 e12 e13 e14 e15 e16 hz HO4 HC4
  simp only [List.set_cons_succ, List.set_cons_zero] at HO5
  have c10 := HO5.out.cell 10
  have c11 := HO5.out.cell 11
  have e10 := HO5.out.frozen 10
  have e11 := HO5.out.frozen 11
  have hz := HO5.out.lt
  simp at c10 c11
  obtain ⟨bm, hbm⟩ : ∃ b, Hid (w5.heap.size = b) := ⟨_, Lib.hid rfl⟩
  have HM7 : Hid (MapI (((w5.setCell ⟨p, 10, none⟩ (.map (some bm))).setCell ⟨p, 11, none⟩ (.int .i64 0)).alloc (.map #[] 0)) bm (fun _ => none)) := Lib.hid (by
    have hm := MapI.made ((w5.setCell ⟨p, 10, none⟩ (.map (some bm))).setCell ⟨p, 11, none⟩ (.int .i64 0))
    have hz : ((w5.setCell ⟨p, 10, none⟩ (.map (some bm))).setCell ⟨p, 11, none⟩ (.int .i64 0)).heap.size = bm := by rw [set_size, set_size]; exact hbm.out
    rw [hz] at hm
    exact hm)
  have HO7 : Hid (Own (((w5.setCell ⟨p, 10, none⟩ (.map (some bm))).setCell ⟨p, 11, none⟩ (.int .i64 0)).alloc (.map #[] 0)) p 58 (entT ⟨cl, id, ⟨we, wa, wc, ws, wq⟩, ph, (b1, b2), (h1, h2), vb, ti, (f1, f2), ⟨le, la, lc, ls, lq⟩, ov⟩ 1 bm).cs) := Lib.hid (by
    have h9 := ((HO5.out.set 10 (.map (some bm))).set 11 (.int .i64 0)).alloc (.map #[] 0)
    simp only [entT, PrT.cs, prcs, hwn.out, hln.out]
    simp only [if_true, hwn.out, hnr.out]
    exact h9)
  have HC7 : Hid (Chg [p] w (((w5.setCell ⟨p, 10, none⟩ (.map (some bm))).setCell ⟨p, 11, none⟩ (.int .i64 0)).alloc (.map #[] 0))) := Lib.hid (((HC5.out.setCell (.inl (by simp)) _).setCell (.inl (by simp)) _).alloc _)
  have HBM : Hid (w.heap.size ≤ bm) := Lib.hid (by have := HC5.out.size; have := hbm.out; omega)
  go_upto_region 7 with (first | (simp only [hbm.out]) | fail)
  have HI := Lib.hid (EnI.begin HP.out 1 bm HO7.out HC7.out HBM.out HM7.out)
  have HLYS := Lib.hid (entT_lys HP.out 1 bm)
  generalize ((w5.setCell ⟨p, 10, none⟩ (.map (some bm))).setCell ⟨p, 11, none⟩ (.int .i64 0)).alloc (.map #[] 0) = w7 at HI ⊢
  obtain ⟨TT, HTT⟩ : ∃ T, Hid (entT (⟨cl, id, ⟨we, wa, wc, ws, wq⟩, ph, (b1, b2), (h1, h2), vb, ti, (f1, f2), ⟨le, la, lc, ls, lq⟩, ov⟩ : PrT) 1 bm = T) := ⟨_, Lib.hid rfl⟩
  have HI0 := HI
  rw [HTT.out] at HI0 HLYS
  clear c10 c11 e10 e11 hz HM7 HO7 HC7 HBM HO5 HC5 hbm HI hmm
  go_wp2_with fail
  go_loopw [42] (fun i wr => ∃ (k : Nat) (v : Value) (Q : List MgT), k ≤ 3 ∧ i = .int .i64 (k : Int) ∧ Hid (EnI w P (prM p (⟨cl, id, ⟨we, wa, wc, ws, wq⟩, ph, (b1, b2), (h1, h2), vb, ti, (f1, f2), ⟨le, la, lc, ls, lq⟩, ov⟩ : PrT)) ov p bm TT L k v Q wr)) (fun i _ => 3 - (Go.RowKit.intOf i).toNat)
  case atStart => exact ⟨0, _, [], by omega, rfl, HI0⟩
  case round =>
    obtain ⟨k, v, Q, hk, rfl, HI⟩ := hrel
    rename World => w6
    by_cases hlt : k < 3
    · have hk0 : (0 : Int) ≤ (k : Int) := by omega
      have hk1 : (k : Int) < 3 := by omega
      have hQ := question_any w6.drew p (TT.wo v) (PP w P p bm v) HI.out.own HI.out.ly HLYS.out (k : Int)
      have HQ : Hid (Calls Try.prog 28 #[.pointer (some ⟨p, 0, none⟩), .int .i64 (k : Int)] w6.drew fun e w' => ∃ y : LyT, e = .returned (.agg (queT (kd TT.ph) TT.cl TT.id TT.wi.e TT.ba (k : Int) y).cs.toArray) ∧ y.x = (if TT.ph = 2 then TT.ly.x else zLyT.x) ∧ LyP w' (fun x => w6.heap.size ≤ x) y ∧ LyS y ∧ Chg [] w6.drew w') := Lib.hid hQ
      have c17 := HI.out.own.cell 17
      have f17 := HI.out.own.frozen 17
      have hz := HI.out.own.lt
      simp [PrT.cs, prcs, PrT.wo] at c17
      have HC17 : Hid (w6.cell? ⟨p, 17, none⟩ = some v) := Lib.hid c17
      have HNX : Hid (∀ (W1 W3 : World) (y : LyT) (g cap : Nat), Chg [] w6.drew W1 → y.x = (if TT.ph = 2 then TT.ly.x else zLyT.x) → LyS y →
        MLs W3 (fun x => PP w P p bm v x ∧ x < (W1.alloc (.cells (queT (kd TT.ph) TT.cl TT.id TT.wi.e TT.ba (k : Int) y).cs.toArray 40)).heap.size) (.slice (some ⟨g, 0, none⟩) ((L ++ Q).length + 1) cap) (L ++ Q ++ [queT (kd TT.ph) TT.cl TT.id TT.wi.e TT.ba (k : Int) y]) →
        (v.ownBlock = some g ∨ g = (W1.alloc (.cells (queT (kd TT.ph) TT.cl TT.id TT.wi.e TT.ba (k : Int) y).cs.toArray 40)).heap.size) → Chg (rowOf v) (W1.alloc (.cells (queT (kd TT.ph) TT.cl TT.id TT.wi.e TT.ba (k : Int) y).cs.toArray 40)) W3 →
        (W3.cell? ⟨p, 17, none⟩ = some v ∧ W3.frozen? ⟨p, 17, none⟩ = false ∧ p < W3.heap.size ∧ Chg (prM p (⟨cl, id, ⟨we, wa, wc, ws, wq⟩, ph, (b1, b2), (h1, h2), vb, ti, (f1, f2), ⟨le, la, lc, ls, lq⟩, ov⟩ : PrT)) w W3) ∧ EnI w P (prM p (⟨cl, id, ⟨we, wa, wc, ws, wq⟩, ph, (b1, b2), (h1, h2), vb, ti, (f1, f2), ⟨le, la, lc, ls, lq⟩, ov⟩ : PrT)) ov p bm TT L (k + 1) (.slice (some ⟨g, 0, none⟩) ((L ++ Q).length + 1) cap) (Q ++ [queT (kd TT.ph) TT.cl TT.id TT.wi.e TT.ba (k : Int) y]) (W3.setCell ⟨p, 17, none⟩ (.slice (some ⟨g, 0, none⟩) ((L ++ Q).length + 1) cap))) := Lib.hid (by
        intro W1 W3 y g cap g1 g2 g3 g4 g5 g6
        have g1' : Chg [] w6 W1 := ((Chg.refl [] w6).drew).trans g1
        have hcc : Chg (rowOf v) w6 W3 := ((g1'.alloc _).mono (fun x hx => by cases hx)).trans g6
        have ho := HI.out.own.chg hcc HI.out.ne.2.1
        refine ⟨⟨by rw [ho.cell]; rfl, ho.frozen 17, ho.lt, ?_⟩, HI.out.step HM0.out g1' g2 g3 g4 g5 g6⟩
        exact HI.out.chg.then hcc (fun x hx => (HI.out.rw x hx).imp (fun h => HM0.out.2 x h) (fun h => h)))
      have HAP : Hid (∀ (W1 : World) (y : LyT), Chg [] w6.drew W1 → LyP W1 (fun x => w6.heap.size ≤ x) y → MLs (W1.alloc (.cells (queT (kd TT.ph) TT.cl TT.id TT.wi.e TT.ba (k : Int) y).cs.toArray 40)) (PP w P p bm v) v (L ++ Q) ∧ MgP (W1.alloc (.cells (queT (kd TT.ph) TT.cl TT.id TT.wi.e TT.ba (k : Int) y).cs.toArray 40)) (PP w P p bm v) (queT (kd TT.ph) TT.cl TT.id TT.wi.e TT.ba (k : Int) y) ∧ Chg [] w6 (W1.alloc (.cells (queT (kd TT.ph) TT.cl TT.id TT.wi.e TT.ba (k : Int) y).cs.toArray 40))) := Lib.hid (by
        intro W1 y g1 g2
        have g1' : Chg [] w6 W1 := ((Chg.refl [] w6).drew).trans g1
        have ga := (Chg.refl [] W1).alloc (.cells (queT (kd TT.ph) TT.cl TT.id TT.wi.e TT.ba (k : Int) y).cs.toArray 40)
        refine ⟨HI.out.out.kept (g1'.trans ga), (queT_p _ _ _ _ _ _ (g2.mono (fun x _ hx => ⟨.inr (Nat.le_trans HI.out.chg.size hx), fun hm => ?_⟩))).chg ga (by simp), g1'.trans ga⟩
        have hb := HI.out.mp.lt
        have hp := HI.out.own.lt
        simp only [List.mem_cons] at hm
        rcases hm with rfl | rfl | hm
        · omega
        · omega
        · have := HI.out.out.lt x hm; omega)
      have HLEN : Hid ((L ++ Q).length ≤ 1000000) := Lib.hid (by have := HI.out.q.1; have := HLL.out; rw [List.length_append]; omega)
      clear hQ
      go_upto_region 10 with fail
      have HS0 : Hid (Chg (prM p (⟨cl, id, ⟨we, wa, wc, ws, wq⟩, ph, (b1, b2), (h1, h2), vb, ti, (f1, f2), ⟨le, la, lc, ls, lq⟩, ov⟩ : PrT)) w w6) := Lib.hid HI.out.chg
      refine wp_region_held_drew (S := (fun w' => Chg (prM p (⟨cl, id, ⟨we, wa, wc, ws, wq⟩, ph, (b1, b2), (h1, h2), vb, ti, (f1, f2), ⟨le, la, lc, ls, lq⟩, ov⟩ : PrT)) w w')) (by kernel_rfl) HI.out.chg.drew (fun hHeld => ?_)
      refine wpAnyH_take (i := 0) (v := ?_) rfl (by kernel_rfl) (by kernel_rfl) (by kernel_rfl) (fun _ _ _ h => h) (Or.inl ⟨by kernel_rfl, ?_⟩) hHeld ?_
      rotate_left
      · (intro w hSw; first | (go_simp; done) | (go_simp; with_reducible rfl))
      (try simp only [Act.put, List.getElem_toArray, List.getElem_cons_succ, List.getElem_cons_zero, List.setIfInBounds_toArray, List.set_cons_zero, List.set_cons_succ])
      refine wpAnyH_take (i := 1) (v := ?_) rfl (by kernel_rfl) (by kernel_rfl) (by kernel_rfl) (fun _ _ _ h => h) (Or.inl ⟨by kernel_rfl, ?_⟩) hHeld ?_
      rotate_left
      · (intro w hSw; first | (go_simp; done) | (go_simp; with_reducible rfl))
      (try simp only [Act.put, List.getElem_toArray, List.getElem_cons_succ, List.getElem_cons_zero, List.setIfInBounds_toArray, List.set_cons_zero, List.set_cons_succ])
      refine wpAnyH_take (i := 2) (v := ?_) rfl (by kernel_rfl) (by kernel_rfl) (by kernel_rfl) (fun _ _ _ h => h) (Or.inl ⟨by kernel_rfl, ?_⟩) hHeld ?_
      rotate_left
      · (intro w hSw; first | (go_simp; done) | (go_simp; with_reducible rfl))
      (try simp only [Act.put, List.getElem_toArray, List.getElem_cons_succ, List.getElem_cons_zero, List.setIfInBounds_toArray, List.set_cons_zero, List.set_cons_succ])
      refine wpAnyH_take (i := 3) (v := ?_) rfl (by kernel_rfl) (by kernel_rfl) (by kernel_rfl) (fun _ _ _ h => h) (Or.inl ⟨by kernel_rfl, ?_⟩) hHeld ?_
      rotate_left
      · (intro w hSw; first | (go_simp; done) | (go_simp; with_reducible rfl))
      (try simp only [Act.put, List.getElem_toArray, List.getElem_cons_succ, List.getElem_cons_zero, List.setIfInBounds_toArray, List.set_cons_zero, List.set_cons_succ])
      refine wpAnyH_take (i := 5) (v := ?_) rfl (by kernel_rfl) (by kernel_rfl) (by kernel_rfl) (fun _ _ _ h => h) (Or.inl ⟨by kernel_rfl, ?_⟩) hHeld ?_
      rotate_left
      · (intro w hSw; first | (go_simp; done) | (go_simp; with_reducible rfl))
      (try simp only [Act.put, List.getElem_toArray, List.getElem_cons_succ, List.getElem_cons_zero, List.setIfInBounds_toArray, List.set_cons_zero, List.set_cons_succ])
      refine wpAnyH_take (i := 6) (v := ?_) rfl (by kernel_rfl) (by kernel_rfl) (by kernel_rfl) (fun _ _ _ h => h) (Or.inl ⟨by kernel_rfl, ?_⟩) hHeld ?_
      rotate_left
      · (intro w hSw; first | (go_simp; done) | (go_simp; with_reducible rfl))
      (try simp only [Act.put, List.getElem_toArray, List.getElem_cons_succ, List.getElem_cons_zero, List.setIfInBounds_toArray, List.set_cons_zero, List.set_cons_succ])
      refine wpAnyH_ready (rs := [4,7]) (by kernel_rfl) (by simp) (AllReadyH.cons rfl (fun K hK => ?_) (AllReadyH.cons rfl (fun K hK => ?_) AllReadyH.nil))
      · have hH := hHeld
        (have g1 : World.cell? w6.drew ⟨p, 17, none⟩ = some v := HC17.out; go_simp)
        refine hK.out _ _ (by exact hH) (fun hHq1 => ?_)
        clear hK K hH 
        clear g1
        (try simp only [Act.put, List.getElem_toArray, List.getElem_cons_succ, List.getElem_cons_zero, List.setIfInBounds_toArray, List.set_cons_zero, List.set_cons_succ])
        refine wpAnyH_ready (rs := [7]) (by kernel_rfl) (by simp) (AllReadyH.cons rfl (fun K hK => ?_) AllReadyH.nil)
        have hH := hHq1
        (go_simp; go_at_call 28; refine HQ.out.mono ?_; rintro e w9 ⟨y9, rfl, g0, g1, g2, g3⟩)
        refine hK.out _ _ (by exact hH.trans (g3.mono (fun x hx => by cases hx))) (fun hHq2 => ?_)
        clear hK K hH hHq1
        have G0 := Lib.hid g0; have G1 := Lib.hid g1; have G2 := Lib.hid g2; have G3 : Hid (Chg [] w6.drew w9) := Lib.hid g3; clear g0 g1 g2 g3
        (try simp only [Act.put, List.getElem_toArray, List.getElem_cons_succ, List.getElem_cons_zero, List.setIfInBounds_toArray, List.set_cons_zero, List.set_cons_succ])
        refine wpAnyH_ready (rs := [8]) (by kernel_rfl) (by simp) (AllReadyH.cons rfl (fun K hK => ?_) AllReadyH.nil)
        have hH := hHq2
        (refine step_sliceMg (by rfl) (.tmp 52) (by rfl) (queT (kd TT.ph) TT.cl TT.id TT.wi.e TT.ba (k : Int) y9) (by rfl) ?_)
        refine hK.out _ _ (by exact hH.alloc _) (fun hHq3 => ?_)
        clear hK K hH hHq2
        (try simp only [Act.put, List.getElem_toArray, List.getElem_cons_succ, List.getElem_cons_zero, List.setIfInBounds_toArray, List.set_cons_zero, List.set_cons_succ])
        refine wpAnyH_ready (rs := [9]) (by kernel_rfl) (by simp) (AllReadyH.cons rfl (fun K hK => ?_) AllReadyH.nil)
        have hH := hHq3
        (refine step_appMg (by rfl) (.tmp 49) (.tmp 53) (by rfl) (PP w P p bm v) v (L ++ Q) (by rfl) (HAP.out w9 y9 G3.out G1.out).1 (fun x hx hm => hx.2 (by simp [hm])) w9.heap.size (queT (kd TT.ph) TT.cl TT.id TT.wi.e TT.ba (k : Int) y9) (HAP.out w9 y9 G3.out G1.out).2.1 (queT_fit _ _ _ _ _ _ _ G2.out) 40 (Own.new w9 _ _) (by rfl) HLEN.out ?_; intro g5 cap5 w5 K5 K5b K5c)
        refine hK.out _ _ (by exact (HNX.out w9 w5 y9 g5 cap5 G3.out G0.out G2.out K5.out K5b K5c).1.2.2.2) (fun hHq4 => ?_)
        clear hK K hH hHq3
        have N5 := Lib.hid (HNX.out w9 w5 y9 g5 cap5 G3.out G0.out G2.out K5.out K5b K5c); obtain ⟨n1, n2, n3, n4⟩ := N5.out.1; clear n4 K5b K5c
        (try simp only [Act.put, List.getElem_toArray, List.getElem_cons_succ, List.getElem_cons_zero, List.setIfInBounds_toArray, List.set_cons_zero, List.set_cons_succ])
        refine wpAnyH_take (i := 10) (v := ?_) rfl (by kernel_rfl) (by kernel_rfl) (by kernel_rfl) (fun _ _ _ h => h) (Or.inl ⟨by kernel_rfl, ?_⟩) hHq4 ?_
        rotate_left
        · (intro w hSw; first | (go_simp; done) | (go_simp; with_reducible rfl))
        (try simp only [Act.put, List.getElem_toArray, List.getElem_cons_succ, List.getElem_cons_zero, List.setIfInBounds_toArray, List.set_cons_zero, List.set_cons_succ])
        refine wpAnyH_take (i := 11) (v := ?_) rfl (by kernel_rfl) (by kernel_rfl) (by kernel_rfl) (fun _ _ _ h => h) (Or.inl ⟨by kernel_rfl, ?_⟩) hHq4 ?_
        rotate_left
        · (intro w hSw; first | (go_simp; done) | (go_simp; with_reducible rfl))
        (try simp only [Act.put, List.getElem_toArray, List.getElem_cons_succ, List.getElem_cons_zero, List.setIfInBounds_toArray, List.set_cons_zero, List.set_cons_succ])
        refine wpAnyH_ready (rs := [12]) (by kernel_rfl) (by simp) (AllReadyH.cons rfl (fun K hK => ?_) AllReadyH.nil)
        have hH := hHq4
        (go_simp; skip)
        refine hK.out _ _ (by exact hH.setCell (.inl (by simp [prM])) _) (fun hHq5 => ?_)
        clear hK K hH hHq4
        (try simp only [Act.put, List.getElem_toArray, List.getElem_cons_succ, List.getElem_cons_zero, List.setIfInBounds_toArray, List.set_cons_zero, List.set_cons_succ])
        refine wpAnyH_done (by kernel_rfl) ?_ _
        have hEnd := hHq5
        (clear hEnd hHeld n1 n2 n3; go_wp2_with fail; go_roundw; (case rel => exact ⟨k + 1, _, _, by omega, by go_num, Lib.hid (by have h9 := N5.out.2; rw [List.length_append] at h9; exact h9)⟩); (case measure => simp [Go.RowKit.intOf]; omega))
      · have hH := hHeld
        (go_simp; go_at_call 28; refine HQ.out.mono ?_; rintro e w9 ⟨y9, rfl, g0, g1, g2, g3⟩)
        refine hK.out _ _ (by exact hH.trans (g3.mono (fun x hx => by cases hx))) (fun hHq6 => ?_)
        clear hK K hH 
        have G0 := Lib.hid g0; have G1 := Lib.hid g1; have G2 := Lib.hid g2; have G3 : Hid (Chg [] w6.drew w9) := Lib.hid g3; clear g0 g1 g2 g3
        (try simp only [Act.put, List.getElem_toArray, List.getElem_cons_succ, List.getElem_cons_zero, List.setIfInBounds_toArray, List.set_cons_zero, List.set_cons_succ])
        refine wpAnyH_ready (rs := [4,8]) (by kernel_rfl) (by simp) (AllReadyH.cons rfl (fun K hK => ?_) (AllReadyH.cons rfl (fun K hK => ?_) AllReadyH.nil))
        · have hH := hHq6
          (have g1 : World.cell? w9 ⟨p, 17, none⟩ = some v := G3.out.cell HC17.out (by simp); go_simp)
          refine hK.out _ _ (by exact hH) (fun hHq7 => ?_)
          clear hK K hH hHq6
          clear g1
          (try simp only [Act.put, List.getElem_toArray, List.getElem_cons_succ, List.getElem_cons_zero, List.setIfInBounds_toArray, List.set_cons_zero, List.set_cons_succ])
          refine wpAnyH_ready (rs := [8]) (by kernel_rfl) (by simp) (AllReadyH.cons rfl (fun K hK => ?_) AllReadyH.nil)
          have hH := hHq7
          (refine step_sliceMg (by rfl) (.tmp 52) (by rfl) (queT (kd TT.ph) TT.cl TT.id TT.wi.e TT.ba (k : Int) y9) (by rfl) ?_)
          refine hK.out _ _ (by exact hH.alloc _) (fun hHq8 => ?_)
          clear hK K hH hHq7
          (try simp only [Act.put, List.getElem_toArray, List.getElem_cons_succ, List.getElem_cons_zero, List.setIfInBounds_toArray, List.set_cons_zero, List.set_cons_succ])
          refine wpAnyH_ready (rs := [9]) (by kernel_rfl) (by simp) (AllReadyH.cons rfl (fun K hK => ?_) AllReadyH.nil)
          have hH := hHq8
          (refine step_appMg (by rfl) (.tmp 49) (.tmp 53) (by rfl) (PP w P p bm v) v (L ++ Q) (by rfl) (HAP.out w9 y9 G3.out G1.out).1 (fun x hx hm => hx.2 (by simp [hm])) w9.heap.size (queT (kd TT.ph) TT.cl TT.id TT.wi.e TT.ba (k : Int) y9) (HAP.out w9 y9 G3.out G1.out).2.1 (queT_fit _ _ _ _ _ _ _ G2.out) 40 (Own.new w9 _ _) (by rfl) HLEN.out ?_; intro g5 cap5 w5 K5 K5b K5c)
          refine hK.out _ _ (by exact (HNX.out w9 w5 y9 g5 cap5 G3.out G0.out G2.out K5.out K5b K5c).1.2.2.2) (fun hHq9 => ?_)
          clear hK K hH hHq8
          have N5 := Lib.hid (HNX.out w9 w5 y9 g5 cap5 G3.out G0.out G2.out K5.out K5b K5c); obtain ⟨n1, n2, n3, n4⟩ := N5.out.1; clear n4 K5b K5c
          (try simp only [Act.put, List.getElem_toArray, List.getElem_cons_succ, List.getElem_cons_zero, List.setIfInBounds_toArray, List.set_cons_zero, List.set_cons_succ])
          refine wpAnyH_take (i := 10) (v := ?_) rfl (by kernel_rfl) (by kernel_rfl) (by kernel_rfl) (fun _ _ _ h => h) (Or.inl ⟨by kernel_rfl, ?_⟩) hHq9 ?_
          rotate_left
          · (intro w hSw; first | (go_simp; done) | (go_simp; with_reducible rfl))
          (try simp only [Act.put, List.getElem_toArray, List.getElem_cons_succ, List.getElem_cons_zero, List.setIfInBounds_toArray, List.set_cons_zero, List.set_cons_succ])
          refine wpAnyH_take (i := 11) (v := ?_) rfl (by kernel_rfl) (by kernel_rfl) (by kernel_rfl) (fun _ _ _ h => h) (Or.inl ⟨by kernel_rfl, ?_⟩) hHq9 ?_
          rotate_left
          · (intro w hSw; first | (go_simp; done) | (go_simp; with_reducible rfl))
          (try simp only [Act.put, List.getElem_toArray, List.getElem_cons_succ, List.getElem_cons_zero, List.setIfInBounds_toArray, List.set_cons_zero, List.set_cons_succ])
          refine wpAnyH_ready (rs := [12]) (by kernel_rfl) (by simp) (AllReadyH.cons rfl (fun K hK => ?_) AllReadyH.nil)
          have hH := hHq9
          (go_simp; skip)
          refine hK.out _ _ (by exact hH.setCell (.inl (by simp [prM])) _) (fun hHq10 => ?_)
          clear hK K hH hHq9
          (try simp only [Act.put, List.getElem_toArray, List.getElem_cons_succ, List.getElem_cons_zero, List.setIfInBounds_toArray, List.set_cons_zero, List.set_cons_succ])
          refine wpAnyH_done (by kernel_rfl) ?_ _
          have hEnd := hHq10
          (clear hEnd hHeld n1 n2 n3; go_wp2_with fail; go_roundw; (case rel => exact ⟨k + 1, _, _, by omega, by go_num, Lib.hid (by have h9 := N5.out.2; rw [List.length_append] at h9; exact h9)⟩); (case measure => simp [Go.RowKit.intOf]; omega))
        · have hH := hHq6
          (refine step_sliceMg (by rfl) (.tmp 52) (by rfl) (queT (kd TT.ph) TT.cl TT.id TT.wi.e TT.ba (k : Int) y9) (by rfl) ?_)
          refine hK.out _ _ (by exact hH.alloc _) (fun hHq11 => ?_)
          clear hK K hH hHq6
          (try simp only [Act.put, List.getElem_toArray, List.getElem_cons_succ, List.getElem_cons_zero, List.setIfInBounds_toArray, List.set_cons_zero, List.set_cons_succ])
          refine wpAnyH_ready (rs := [4]) (by kernel_rfl) (by simp) (AllReadyH.cons rfl (fun K hK => ?_) AllReadyH.nil)
          have hH := hHq11
          (have g1 : World.cell? (w9.alloc (.cells (queT (kd TT.ph) TT.cl TT.id TT.wi.e TT.ba (k : Int) y9).cs.toArray 40)) ⟨p, 17, none⟩ = some v := (HAP.out w9 y9 G3.out G1.out).2.2.cell HC17.out (by simp); go_simp)
          refine hK.out _ _ (by exact hH) (fun hHq12 => ?_)
          clear hK K hH hHq11
          clear g1
          (try simp only [Act.put, List.getElem_toArray, List.getElem_cons_succ, List.getElem_cons_zero, List.setIfInBounds_toArray, List.set_cons_zero, List.set_cons_succ])
          refine wpAnyH_ready (rs := [9]) (by kernel_rfl) (by simp) (AllReadyH.cons rfl (fun K hK => ?_) AllReadyH.nil)
          have hH := hHq12
          (refine step_appMg (by rfl) (.tmp 49) (.tmp 53) (by rfl) (PP w P p bm v) v (L ++ Q) (by rfl) (HAP.out w9 y9 G3.out G1.out).1 (fun x hx hm => hx.2 (by simp [hm])) w9.heap.size (queT (kd TT.ph) TT.cl TT.id TT.wi.e TT.ba (k : Int) y9) (HAP.out w9 y9 G3.out G1.out).2.1 (queT_fit _ _ _ _ _ _ _ G2.out) 40 (Own.new w9 _ _) (by rfl) HLEN.out ?_; intro g5 cap5 w5 K5 K5b K5c)
          refine hK.out _ _ (by exact (HNX.out w9 w5 y9 g5 cap5 G3.out G0.out G2.out K5.out K5b K5c).1.2.2.2) (fun hHq13 => ?_)
          clear hK K hH hHq12
          have N5 := Lib.hid (HNX.out w9 w5 y9 g5 cap5 G3.out G0.out G2.out K5.out K5b K5c); obtain ⟨n1, n2, n3, n4⟩ := N5.out.1; clear n4 K5b K5c
          (try simp only [Act.put, List.getElem_toArray, List.getElem_cons_succ, List.getElem_cons_zero, List.setIfInBounds_toArray, List.set_cons_zero, List.set_cons_succ])
          refine wpAnyH_take (i := 10) (v := ?_) rfl (by kernel_rfl) (by kernel_rfl) (by kernel_rfl) (fun _ _ _ h => h) (Or.inl ⟨by kernel_rfl, ?_⟩) hHq13 ?_
          rotate_left
          · (intro w hSw; first | (go_simp; done) | (go_simp; with_reducible rfl))
          (try simp only [Act.put, List.getElem_toArray, List.getElem_cons_succ, List.getElem_cons_zero, List.setIfInBounds_toArray, List.set_cons_zero, List.set_cons_succ])
          refine wpAnyH_take (i := 11) (v := ?_) rfl (by kernel_rfl) (by kernel_rfl) (by kernel_rfl) (fun _ _ _ h => h) (Or.inl ⟨by kernel_rfl, ?_⟩) hHq13 ?_
          rotate_left
          · (intro w hSw; first | (go_simp; done) | (go_simp; with_reducible rfl))
          (try simp only [Act.put, List.getElem_toArray, List.getElem_cons_succ, List.getElem_cons_zero, List.setIfInBounds_toArray, List.set_cons_zero, List.set_cons_succ])
          refine wpAnyH_ready (rs := [12]) (by kernel_rfl) (by simp) (AllReadyH.cons rfl (fun K hK => ?_) AllReadyH.nil)
          have hH := hHq13
          (go_simp; skip)
          refine hK.out _ _ (by exact hH.setCell (.inl (by simp [prM])) _) (fun hHq14 => ?_)
          clear hK K hH hHq13
          (try simp only [Act.put, List.getElem_toArray, List.getElem_cons_succ, List.getElem_cons_zero, List.setIfInBounds_toArray, List.set_cons_zero, List.set_cons_succ])
          refine wpAnyH_done (by kernel_rfl) ?_ _
          have hEnd := hHq14
          (clear hEnd hHeld n1 n2 n3; go_wp2_with fail; go_roundw; (case rel => exact ⟨k + 1, _, _, by omega, by go_num, Lib.hid (by have h9 := N5.out.2; rw [List.length_append] at h9; exact h9)⟩); (case measure => simp [Go.RowKit.intOf]; omega))
    · obtain rfl : k = 3 := by omega
      go_wp2_with fail
      go_end0
      exact ⟨rfl, bm, v, Q, Lib.hid (by rw [HTT.out]; exact HI.out)⟩

set_option maxHeartbeats 4000000 in
set_option maxRecDepth 100000 in
theorem enter_two (w : World) (P : Nat → Prop) (p : Nat) (T0 : PrT) (V : Nat → Option Value) (L : List MgT) (h : Prs w P p T0 V L) (hb : 0 ≤ T0.ba.1 ∧ T0.ba.1 ≤ 65535) (hh : 0 ≤ T0.he.1 ∧ T0.he.1 ≤ 65535) (hL : L.length ≤ 999990) :
    Calls Try.prog 17 #[.pointer (some ⟨p, 0, none⟩), .int .i64 2] w fun e w' => e = .returned (.tuple #[]) ∧ ∃ bm v Q, Hid (EnI w P (prM p T0) T0.ov p bm (entT T0 2 bm) L 3 v Q w') := by
  have HP := Lib.hid h
  have hmm := @run_makeMap Try.prog
  have HM0 : Hid (p ∈ prM p T0 ∧ ∀ x ∈ rowOf T0.ov, x ∈ prM p T0) := Lib.hid ⟨by simp [prM], fun x hx => by simp [prM, hx]⟩
  have HLL := Lib.hid hL
  have HO := Lib.hid h.own
  have c5 := h.own.cell 5
  have f5 := h.own.frozen 5
  have hz := h.own.lt
  simp [PrT.cs, prcs] at c5
  have HO1 : Hid (Own (w.setCell ⟨p, 5, none⟩ (.int .i64 2)) p 58 (⟨T0.cl, T0.id, T0.wi, 2, T0.ba, T0.he, T0.vb, T0.ti, T0.fo, T0.ly, T0.ov⟩ : PrT).cs) := Lib.hid (h.own.set 5 _)
  have HC1 : Hid (Chg [p] w (w.setCell ⟨p, 5, none⟩ (.int .i64 2))) := Lib.hid ((Chg.refl [p] w).setCell (.inl (by simp)) _)
  clear h hb hh hL
  go_enter Try.func17, Try.ntmps17
  go_upto_region 6 with fail
  generalize w.setCell ⟨p, 5, none⟩ (.int .i64 2) = w5 at HO1 HC1 ⊢
  clear c5 f5 hz
  obtain ⟨cl, id, ⟨we, wa, wc, ws, wq⟩, ph, ⟨b1, b2⟩, ⟨h1, h2⟩, vb, ti, ⟨f1, f2⟩, ⟨le, la, lc, ls, lq⟩, ov⟩ := T0
  obtain ⟨wn, hwn⟩ : ∃ n, Hid (ws.length = n) := ⟨_, Lib.hid rfl⟩
  obtain ⟨ln, hln⟩ : ∃ n, Hid (ls.length = n) := ⟨_, Lib.hid rfl⟩
  have HO5 := HO1
  have HC5 := HC1
  simp only [PrT.cs, prcs, hwn.out, hln.out] at HO5
  have c10 := HO5.out.cell 10
  have c11 := HO5.out.cell 11
  have e10 := HO5.out.frozen 10
  have e11 := HO5.out.frozen 11
  have hz := HO5.out.lt
  simp at c10 c11
  obtain ⟨bm, hbm⟩ : ∃ b, Hid (w5.heap.size = b) := ⟨_, Lib.hid rfl⟩
  have HM7 : Hid (MapI (((w5.setCell ⟨p, 10, none⟩ (.map (some bm))).setCell ⟨p, 11, none⟩ (.int .i64 0)).alloc (.map #[] 0)) bm (fun _ => none)) := Lib.hid (by
    have hm := MapI.made ((w5.setCell ⟨p, 10, none⟩ (.map (some bm))).setCell ⟨p, 11, none⟩ (.int .i64 0))
    have hz : ((w5.setCell ⟨p, 10, none⟩ (.map (some bm))).setCell ⟨p, 11, none⟩ (.int .i64 0)).heap.size = bm := by rw [set_size, set_size]; exact hbm.out
    rw [hz] at hm
    exact hm)
  have HO7 : Hid (Own (((w5.setCell ⟨p, 10, none⟩ (.map (some bm))).setCell ⟨p, 11, none⟩ (.int .i64 0)).alloc (.map #[] 0)) p 58 (entT ⟨cl, id, ⟨we, wa, wc, ws, wq⟩, ph, (b1, b2), (h1, h2), vb, ti, (f1, f2), ⟨le, la, lc, ls, lq⟩, ov⟩ 2 bm).cs) := Lib.hid (by
    have h9 := ((HO5.out.set 10 (.map (some bm))).set 11 (.int .i64 0)).alloc (.map #[] 0)
    simp only [entT, PrT.cs, prcs, hwn.out, hln.out]
    simp only [show ((2 : Int) = 1) = False by decide, if_false, hwn.out, hln.out]
    exact h9)
  have HC7 : Hid (Chg [p] w (((w5.setCell ⟨p, 10, none⟩ (.map (some bm))).setCell ⟨p, 11, none⟩ (.int .i64 0)).alloc (.map #[] 0))) := Lib.hid (((HC5.out.setCell (.inl (by simp)) _).setCell (.inl (by simp)) _).alloc _)
  have HBM : Hid (w.heap.size ≤ bm) := Lib.hid (by have := HC5.out.size; have := hbm.out; omega)
  go_upto_region 7 with (first | (simp only [hbm.out]) | fail)
  have HI := Lib.hid (EnI.begin HP.out 2 bm HO7.out HC7.out HBM.out HM7.out)
  have HLYS := Lib.hid (entT_lys HP.out 2 bm)
  generalize ((w5.setCell ⟨p, 10, none⟩ (.map (some bm))).setCell ⟨p, 11, none⟩ (.int .i64 0)).alloc (.map #[] 0) = w7 at HI ⊢
  obtain ⟨TT, HTT⟩ : ∃ T, Hid (entT (⟨cl, id, ⟨we, wa, wc, ws, wq⟩, ph, (b1, b2), (h1, h2), vb, ti, (f1, f2), ⟨le, la, lc, ls, lq⟩, ov⟩ : PrT) 2 bm = T) := ⟨_, Lib.hid rfl⟩
  have HI0 := HI
  rw [HTT.out] at HI0 HLYS
  clear c10 c11 e10 e11 hz HM7 HO7 HC7 HBM HO5 HC5 hbm HI hmm
  go_wp2_with fail
  go_loopw [42] (fun i wr => ∃ (k : Nat) (v : Value) (Q : List MgT), k ≤ 3 ∧ i = .int .i64 (k : Int) ∧ Hid (EnI w P (prM p (⟨cl, id, ⟨we, wa, wc, ws, wq⟩, ph, (b1, b2), (h1, h2), vb, ti, (f1, f2), ⟨le, la, lc, ls, lq⟩, ov⟩ : PrT)) ov p bm TT L k v Q wr)) (fun i _ => 3 - (Go.RowKit.intOf i).toNat)
  case atStart => exact ⟨0, _, [], by omega, rfl, HI0⟩
  case round =>
    obtain ⟨k, v, Q, hk, rfl, HI⟩ := hrel
    rename World => w6
    by_cases hlt : k < 3
    · have hk0 : (0 : Int) ≤ (k : Int) := by omega
      have hk1 : (k : Int) < 3 := by omega
      have hQ := question_any w6.drew p (TT.wo v) (PP w P p bm v) HI.out.own HI.out.ly HLYS.out (k : Int)
      have HQ : Hid (Calls Try.prog 28 #[.pointer (some ⟨p, 0, none⟩), .int .i64 (k : Int)] w6.drew fun e w' => ∃ y : LyT, e = .returned (.agg (queT (kd TT.ph) TT.cl TT.id TT.wi.e TT.ba (k : Int) y).cs.toArray) ∧ y.x = (if TT.ph = 2 then TT.ly.x else zLyT.x) ∧ LyP w' (fun x => w6.heap.size ≤ x) y ∧ LyS y ∧ Chg [] w6.drew w') := Lib.hid hQ
      have c17 := HI.out.own.cell 17
      have f17 := HI.out.own.frozen 17
      have hz := HI.out.own.lt
      simp [PrT.cs, prcs, PrT.wo] at c17
      have HC17 : Hid (w6.cell? ⟨p, 17, none⟩ = some v) := Lib.hid c17
      have HNX : Hid (∀ (W1 W3 : World) (y : LyT) (g cap : Nat), Chg [] w6.drew W1 → y.x = (if TT.ph = 2 then TT.ly.x else zLyT.x) → LyS y →
        MLs W3 (fun x => PP w P p bm v x ∧ x < (W1.alloc (.cells (queT (kd TT.ph) TT.cl TT.id TT.wi.e TT.ba (k : Int) y).cs.toArray 40)).heap.size) (.slice (some ⟨g, 0, none⟩) ((L ++ Q).length + 1) cap) (L ++ Q ++ [queT (kd TT.ph) TT.cl TT.id TT.wi.e TT.ba (k : Int) y]) →
        (v.ownBlock = some g ∨ g = (W1.alloc (.cells (queT (kd TT.ph) TT.cl TT.id TT.wi.e TT.ba (k : Int) y).cs.toArray 40)).heap.size) → Chg (rowOf v) (W1.alloc (.cells (queT (kd TT.ph) TT.cl TT.id TT.wi.e TT.ba (k : Int) y).cs.toArray 40)) W3 →
        (W3.cell? ⟨p, 17, none⟩ = some v ∧ W3.frozen? ⟨p, 17, none⟩ = false ∧ p < W3.heap.size ∧ Chg (prM p (⟨cl, id, ⟨we, wa, wc, ws, wq⟩, ph, (b1, b2), (h1, h2), vb, ti, (f1, f2), ⟨le, la, lc, ls, lq⟩, ov⟩ : PrT)) w W3) ∧ EnI w P (prM p (⟨cl, id, ⟨we, wa, wc, ws, wq⟩, ph, (b1, b2), (h1, h2), vb, ti, (f1, f2), ⟨le, la, lc, ls, lq⟩, ov⟩ : PrT)) ov p bm TT L (k + 1) (.slice (some ⟨g, 0, none⟩) ((L ++ Q).length + 1) cap) (Q ++ [queT (kd TT.ph) TT.cl TT.id TT.wi.e TT.ba (k : Int) y]) (W3.setCell ⟨p, 17, none⟩ (.slice (some ⟨g, 0, none⟩) ((L ++ Q).length + 1) cap))) := Lib.hid (by
        intro W1 W3 y g cap g1 g2 g3 g4 g5 g6
        have g1' : Chg [] w6 W1 := ((Chg.refl [] w6).drew).trans g1
        have hcc : Chg (rowOf v) w6 W3 := ((g1'.alloc _).mono (fun x hx => by cases hx)).trans g6
        have ho := HI.out.own.chg hcc HI.out.ne.2.1
        refine ⟨⟨by rw [ho.cell]; rfl, ho.frozen 17, ho.lt, ?_⟩, HI.out.step HM0.out g1' g2 g3 g4 g5 g6⟩
        exact HI.out.chg.then hcc (fun x hx => (HI.out.rw x hx).imp (fun h => HM0.out.2 x h) (fun h => h)))
      have HAP : Hid (∀ (W1 : World) (y : LyT), Chg [] w6.drew W1 → LyP W1 (fun x => w6.heap.size ≤ x) y → MLs (W1.alloc (.cells (queT (kd TT.ph) TT.cl TT.id TT.wi.e TT.ba (k : Int) y).cs.toArray 40)) (PP w P p bm v) v (L ++ Q) ∧ MgP (W1.alloc (.cells (queT (kd TT.ph) TT.cl TT.id TT.wi.e TT.ba (k : Int) y).cs.toArray 40)) (PP w P p bm v) (queT (kd TT.ph) TT.cl TT.id TT.wi.e TT.ba (k : Int) y) ∧ Chg [] w6 (W1.alloc (.cells (queT (kd TT.ph) TT.cl TT.id TT.wi.e TT.ba (k : Int) y).cs.toArray 40))) := Lib.hid (by
        intro W1 y g1 g2
        have g1' : Chg [] w6 W1 := ((Chg.refl [] w6).drew).trans g1
        have ga := (Chg.refl [] W1).alloc (.cells (queT (kd TT.ph) TT.cl TT.id TT.wi.e TT.ba (k : Int) y).cs.toArray 40)
        refine ⟨HI.out.out.kept (g1'.trans ga), (queT_p _ _ _ _ _ _ (g2.mono (fun x _ hx => ⟨.inr (Nat.le_trans HI.out.chg.size hx), fun hm => ?_⟩))).chg ga (by simp), g1'.trans ga⟩
        have hb := HI.out.mp.lt
        have hp := HI.out.own.lt
        simp only [List.mem_cons] at hm
        rcases hm with rfl | rfl | hm
        · omega
        · omega
        · have := HI.out.out.lt x hm; omega)
      have HLEN : Hid ((L ++ Q).length ≤ 1000000) := Lib.hid (by have := HI.out.q.1; have := HLL.out; rw [List.length_append]; omega)
      clear hQ
      go_upto_region 10 with fail
      have HS0 : Hid (Chg (prM p (⟨cl, id, ⟨we, wa, wc, ws, wq⟩, ph, (b1, b2), (h1, h2), vb, ti, (f1, f2), ⟨le, la, lc, ls, lq⟩, ov⟩ : PrT)) w w6) := Lib.hid HI.out.chg
      refine wp_region_held_drew (S := (fun w' => Chg (prM p (⟨cl, id, ⟨we, wa, wc, ws, wq⟩, ph, (b1, b2), (h1, h2), vb, ti, (f1, f2), ⟨le, la, lc, ls, lq⟩, ov⟩ : PrT)) w w')) (by kernel_rfl) HI.out.chg.drew (fun hHeld => ?_)
      refine wpAnyH_take (i := 0) (v := ?_) rfl (by kernel_rfl) (by kernel_rfl) (by kernel_rfl) (fun _ _ _ h => h) (Or.inl ⟨by kernel_rfl, ?_⟩) hHeld ?_
      rotate_left
      · (intro w hSw; first | (go_simp; done) | (go_simp; with_reducible rfl))
      (try simp only [Act.put, List.getElem_toArray, List.getElem_cons_succ, List.getElem_cons_zero, List.setIfInBounds_toArray, List.set_cons_zero, List.set_cons_succ])
      refine wpAnyH_take (i := 1) (v := ?_) rfl (by kernel_rfl) (by kernel_rfl) (by kernel_rfl) (fun _ _ _ h => h) (Or.inl ⟨by kernel_rfl, ?_⟩) hHeld ?_
      rotate_left
      · (intro w hSw; first | (go_simp; done) | (go_simp; with_reducible rfl))
      (try simp only [Act.put, List.getElem_toArray, List.getElem_cons_succ, List.getElem_cons_zero, List.setIfInBounds_toArray, List.set_cons_zero, List.set_cons_succ])
      refine wpAnyH_take (i := 2) (v := ?_) rfl (by kernel_rfl) (by kernel_rfl) (by kernel_rfl) (fun _ _ _ h => h) (Or.inl ⟨by kernel_rfl, ?_⟩) hHeld ?_
      rotate_left
      · (intro w hSw; first | (go_simp; done) | (go_simp; with_reducible rfl))
      (try simp only [Act.put, List.getElem_toArray, List.getElem_cons_succ, List.getElem_cons_zero, List.setIfInBounds_toArray, List.set_cons_zero, List.set_cons_succ])
      refine wpAnyH_take (i := 3) (v := ?_) rfl (by kernel_rfl) (by kernel_rfl) (by kernel_rfl) (fun _ _ _ h => h) (Or.inl ⟨by kernel_rfl, ?_⟩) hHeld ?_
      rotate_left
      · (intro w hSw; first | (go_simp; done) | (go_simp; with_reducible rfl))
      (try simp only [Act.put, List.getElem_toArray, List.getElem_cons_succ, List.getElem_cons_zero, List.setIfInBounds_toArray, List.set_cons_zero, List.set_cons_succ])
      refine wpAnyH_take (i := 5) (v := ?_) rfl (by kernel_rfl) (by kernel_rfl) (by kernel_rfl) (fun _ _ _ h => h) (Or.inl ⟨by kernel_rfl, ?_⟩) hHeld ?_
      rotate_left
      · (intro w hSw; first | (go_simp; done) | (go_simp; with_reducible rfl))
      (try simp only [Act.put, List.getElem_toArray, List.getElem_cons_succ, List.getElem_cons_zero, List.setIfInBounds_toArray, List.set_cons_zero, List.set_cons_succ])
      refine wpAnyH_take (i := 6) (v := ?_) rfl (by kernel_rfl) (by kernel_rfl) (by kernel_rfl) (fun _ _ _ h => h) (Or.inl ⟨by kernel_rfl, ?_⟩) hHeld ?_
      rotate_left
      · (intro w hSw; first | (go_simp; done) | (go_simp; with_reducible rfl))
      (try simp only [Act.put, List.getElem_toArray, List.getElem_cons_succ, List.getElem_cons_zero, List.setIfInBounds_toArray, List.set_cons_zero, List.set_cons_succ])
      refine wpAnyH_ready (rs := [4,7]) (by kernel_rfl) (by simp) (AllReadyH.cons rfl (fun K hK => ?_) (AllReadyH.cons rfl (fun K hK => ?_) AllReadyH.nil))
      · have hH := hHeld
        (have g1 : World.cell? w6.drew ⟨p, 17, none⟩ = some v := HC17.out; go_simp)
        refine hK.out _ _ (by exact hH) (fun hHq1 => ?_)
        clear hK K hH 
        clear g1
        (try simp only [Act.put, List.getElem_toArray, List.getElem_cons_succ, List.getElem_cons_zero, List.setIfInBounds_toArray, List.set_cons_zero, List.set_cons_succ])
        refine wpAnyH_ready (rs := [7]) (by kernel_rfl) (by simp) (AllReadyH.cons rfl (fun K hK => ?_) AllReadyH.nil)
        have hH := hHq1
        (go_simp; go_at_call 28; refine HQ.out.mono ?_; rintro e w9 ⟨y9, rfl, g0, g1, g2, g3⟩)
        refine hK.out _ _ (by exact hH.trans (g3.mono (fun x hx => by cases hx))) (fun hHq2 => ?_)
        clear hK K hH hHq1
        have G0 := Lib.hid g0; have G1 := Lib.hid g1; have G2 := Lib.hid g2; have G3 : Hid (Chg [] w6.drew w9) := Lib.hid g3; clear g0 g1 g2 g3
        (try simp only [Act.put, List.getElem_toArray, List.getElem_cons_succ, List.getElem_cons_zero, List.setIfInBounds_toArray, List.set_cons_zero, List.set_cons_succ])
        refine wpAnyH_ready (rs := [8]) (by kernel_rfl) (by simp) (AllReadyH.cons rfl (fun K hK => ?_) AllReadyH.nil)
        have hH := hHq2
        (refine step_sliceMg (by rfl) (.tmp 52) (by rfl) (queT (kd TT.ph) TT.cl TT.id TT.wi.e TT.ba (k : Int) y9) (by rfl) ?_)
        refine hK.out _ _ (by exact hH.alloc _) (fun hHq3 => ?_)
        clear hK K hH hHq2
        (try simp only [Act.put, List.getElem_toArray, List.getElem_cons_succ, List.getElem_cons_zero, List.setIfInBounds_toArray, List.set_cons_zero, List.set_cons_succ])
        refine wpAnyH_ready (rs := [9]) (by kernel_rfl) (by simp) (AllReadyH.cons rfl (fun K hK => ?_) AllReadyH.nil)
        have hH := hHq3
        (refine step_appMg (by rfl) (.tmp 49) (.tmp 53) (by rfl) (PP w P p bm v) v (L ++ Q) (by rfl) (HAP.out w9 y9 G3.out G1.out).1 (fun x hx hm => hx.2 (by simp [hm])) w9.heap.size (queT (kd TT.ph) TT.cl TT.id TT.wi.e TT.ba (k : Int) y9) (HAP.out w9 y9 G3.out G1.out).2.1 (queT_fit _ _ _ _ _ _ _ G2.out) 40 (Own.new w9 _ _) (by rfl) HLEN.out ?_; intro g5 cap5 w5 K5 K5b K5c)
        refine hK.out _ _ (by exact (HNX.out w9 w5 y9 g5 cap5 G3.out G0.out G2.out K5.out K5b K5c).1.2.2.2) (fun hHq4 => ?_)
        clear hK K hH hHq3
        have N5 := Lib.hid (HNX.out w9 w5 y9 g5 cap5 G3.out G0.out G2.out K5.out K5b K5c); obtain ⟨n1, n2, n3, n4⟩ := N5.out.1; clear n4 K5b K5c
        (try simp only [Act.put, List.getElem_toArray, List.getElem_cons_succ, List.getElem_cons_zero, List.setIfInBounds_toArray, List.set_cons_zero, List.set_cons_succ])
        refine wpAnyH_take (i := 10) (v := ?_) rfl (by kernel_rfl) (by kernel_rfl) (by kernel_rfl) (fun _ _ _ h => h) (Or.inl ⟨by kernel_rfl, ?_⟩) hHq4 ?_
        rotate_left
        · (intro w hSw; first | (go_simp; done) | (go_simp; with_reducible rfl))
        (try simp only [Act.put, List.getElem_toArray, List.getElem_cons_succ, List.getElem_cons_zero, List.setIfInBounds_toArray, List.set_cons_zero, List.set_cons_succ])
        refine wpAnyH_take (i := 11) (v := ?_) rfl (by kernel_rfl) (by kernel_rfl) (by kernel_rfl) (fun _ _ _ h => h) (Or.inl ⟨by kernel_rfl, ?_⟩) hHq4 ?_
        rotate_left
        · (intro w hSw; first | (go_simp; done) | (go_simp; with_reducible rfl))
        (try simp only [Act.put, List.getElem_toArray, List.getElem_cons_succ, List.getElem_cons_zero, List.setIfInBounds_toArray, List.set_cons_zero, List.set_cons_succ])
        refine wpAnyH_ready (rs := [12]) (by kernel_rfl) (by simp) (AllReadyH.cons rfl (fun K hK => ?_) AllReadyH.nil)
        have hH := hHq4
        (go_simp; skip)
        refine hK.out _ _ (by exact hH.setCell (.inl (by simp [prM])) _) (fun hHq5 => ?_)
        clear hK K hH hHq4
        (try simp only [Act.put, List.getElem_toArray, List.getElem_cons_succ, List.getElem_cons_zero, List.setIfInBounds_toArray, List.set_cons_zero, List.set_cons_succ])
        refine wpAnyH_done (by kernel_rfl) ?_ _
        have hEnd := hHq5
        (clear hEnd hHeld n1 n2 n3; go_wp2_with fail; go_roundw; (case rel => exact ⟨k + 1, _, _, by omega, by go_num, Lib.hid (by have h9 := N5.out.2; rw [List.length_append] at h9; exact h9)⟩); (case measure => simp [Go.RowKit.intOf]; omega))
      · have hH := hHeld
        (go_simp; go_at_call 28; refine HQ.out.mono ?_; rintro e w9 ⟨y9, rfl, g0, g1, g2, g3⟩)
        refine hK.out _ _ (by exact hH.trans (g3.mono (fun x hx => by cases hx))) (fun hHq6 => ?_)
        clear hK K hH 
        have G0 := Lib.hid g0; have G1 := Lib.hid g1; have G2 := Lib.hid g2; have G3 : Hid (Chg [] w6.drew w9) := Lib.hid g3; clear g0 g1 g2 g3
        (try simp only [Act.put, List.getElem_toArray, List.getElem_cons_succ, List.getElem_cons_zero, List.setIfInBounds_toArray, List.set_cons_zero, List.set_cons_succ])
        refine wpAnyH_ready (rs := [4,8]) (by kernel_rfl) (by simp) (AllReadyH.cons rfl (fun K hK => ?_) (AllReadyH.cons rfl (fun K hK => ?_) AllReadyH.nil))
        · have hH := hHq6
          (have g1 : World.cell? w9 ⟨p, 17, none⟩ = some v := G3.out.cell HC17.out (by simp); go_simp)
          refine hK.out _ _ (by exact hH) (fun hHq7 => ?_)
          clear hK K hH hHq6
          clear g1
          (try simp only [Act.put, List.getElem_toArray, List.getElem_cons_succ, List.getElem_cons_zero, List.setIfInBounds_toArray, List.set_cons_zero, List.set_cons_succ])
          refine wpAnyH_ready (rs := [8]) (by kernel_rfl) (by simp) (AllReadyH.cons rfl (fun K hK => ?_) AllReadyH.nil)
          have hH := hHq7
          (refine step_sliceMg (by rfl) (.tmp 52) (by rfl) (queT (kd TT.ph) TT.cl TT.id TT.wi.e TT.ba (k : Int) y9) (by rfl) ?_)
          refine hK.out _ _ (by exact hH.alloc _) (fun hHq8 => ?_)
          clear hK K hH hHq7
          (try simp only [Act.put, List.getElem_toArray, List.getElem_cons_succ, List.getElem_cons_zero, List.setIfInBounds_toArray, List.set_cons_zero, List.set_cons_succ])
          refine wpAnyH_ready (rs := [9]) (by kernel_rfl) (by simp) (AllReadyH.cons rfl (fun K hK => ?_) AllReadyH.nil)
          have hH := hHq8
          (refine step_appMg (by rfl) (.tmp 49) (.tmp 53) (by rfl) (PP w P p bm v) v (L ++ Q) (by rfl) (HAP.out w9 y9 G3.out G1.out).1 (fun x hx hm => hx.2 (by simp [hm])) w9.heap.size (queT (kd TT.ph) TT.cl TT.id TT.wi.e TT.ba (k : Int) y9) (HAP.out w9 y9 G3.out G1.out).2.1 (queT_fit _ _ _ _ _ _ _ G2.out) 40 (Own.new w9 _ _) (by rfl) HLEN.out ?_; intro g5 cap5 w5 K5 K5b K5c)
          refine hK.out _ _ (by exact (HNX.out w9 w5 y9 g5 cap5 G3.out G0.out G2.out K5.out K5b K5c).1.2.2.2) (fun hHq9 => ?_)
          clear hK K hH hHq8
          have N5 := Lib.hid (HNX.out w9 w5 y9 g5 cap5 G3.out G0.out G2.out K5.out K5b K5c); obtain ⟨n1, n2, n3, n4⟩ := N5.out.1; clear n4 K5b K5c
          (try simp only [Act.put, List.getElem_toArray, List.getElem_cons_succ, List.getElem_cons_zero, List.setIfInBounds_toArray, List.set_cons_zero, List.set_cons_succ])
          refine wpAnyH_take (i := 10) (v := ?_) rfl (by kernel_rfl) (by kernel_rfl) (by kernel_rfl) (fun _ _ _ h => h) (Or.inl ⟨by kernel_rfl, ?_⟩) hHq9 ?_
          rotate_left
          · (intro w hSw; first | (go_simp; done) | (go_simp; with_reducible rfl))
          (try simp only [Act.put, List.getElem_toArray, List.getElem_cons_succ, List.getElem_cons_zero, List.setIfInBounds_toArray, List.set_cons_zero, List.set_cons_succ])
          refine wpAnyH_take (i := 11) (v := ?_) rfl (by kernel_rfl) (by kernel_rfl) (by kernel_rfl) (fun _ _ _ h => h) (Or.inl ⟨by kernel_rfl, ?_⟩) hHq9 ?_
          rotate_left
          · (intro w hSw; first | (go_simp; done) | (go_simp; with_reducible rfl))
          (try simp only [Act.put, List.getElem_toArray, List.getElem_cons_succ, List.getElem_cons_zero, List.setIfInBounds_toArray, List.set_cons_zero, List.set_cons_succ])
          refine wpAnyH_ready (rs := [12]) (by kernel_rfl) (by simp) (AllReadyH.cons rfl (fun K hK => ?_) AllReadyH.nil)
          have hH := hHq9
          (go_simp; skip)
          refine hK.out _ _ (by exact hH.setCell (.inl (by simp [prM])) _) (fun hHq10 => ?_)
          clear hK K hH hHq9
          (try simp only [Act.put, List.getElem_toArray, List.getElem_cons_succ, List.getElem_cons_zero, List.setIfInBounds_toArray, List.set_cons_zero, List.set_cons_succ])
          refine wpAnyH_done (by kernel_rfl) ?_ _
          have hEnd := hHq10
          (clear hEnd hHeld n1 n2 n3; go_wp2_with fail; go_roundw; (case rel => exact ⟨k + 1, _, _, by omega, by go_num, Lib.hid (by have h9 := N5.out.2; rw [List.length_append] at h9; exact h9)⟩); (case measure => simp [Go.RowKit.intOf]; omega))
        · have hH := hHq6
          (refine step_sliceMg (by rfl) (.tmp 52) (by rfl) (queT (kd TT.ph) TT.cl TT.id TT.wi.e TT.ba (k : Int) y9) (by rfl) ?_)
          refine hK.out _ _ (by exact hH.alloc _) (fun hHq11 => ?_)
          clear hK K hH hHq6
          (try simp only [Act.put, List.getElem_toArray, List.getElem_cons_succ, List.getElem_cons_zero, List.setIfInBounds_toArray, List.set_cons_zero, List.set_cons_succ])
          refine wpAnyH_ready (rs := [4]) (by kernel_rfl) (by simp) (AllReadyH.cons rfl (fun K hK => ?_) AllReadyH.nil)
          have hH := hHq11
          (have g1 : World.cell? (w9.alloc (.cells (queT (kd TT.ph) TT.cl TT.id TT.wi.e TT.ba (k : Int) y9).cs.toArray 40)) ⟨p, 17, none⟩ = some v := (HAP.out w9 y9 G3.out G1.out).2.2.cell HC17.out (by simp); go_simp)
          refine hK.out _ _ (by exact hH) (fun hHq12 => ?_)
          clear hK K hH hHq11
          clear g1
          (try simp only [Act.put, List.getElem_toArray, List.getElem_cons_succ, List.getElem_cons_zero, List.setIfInBounds_toArray, List.set_cons_zero, List.set_cons_succ])
          refine wpAnyH_ready (rs := [9]) (by kernel_rfl) (by simp) (AllReadyH.cons rfl (fun K hK => ?_) AllReadyH.nil)
          have hH := hHq12
          (refine step_appMg (by rfl) (.tmp 49) (.tmp 53) (by rfl) (PP w P p bm v) v (L ++ Q) (by rfl) (HAP.out w9 y9 G3.out G1.out).1 (fun x hx hm => hx.2 (by simp [hm])) w9.heap.size (queT (kd TT.ph) TT.cl TT.id TT.wi.e TT.ba (k : Int) y9) (HAP.out w9 y9 G3.out G1.out).2.1 (queT_fit _ _ _ _ _ _ _ G2.out) 40 (Own.new w9 _ _) (by rfl) HLEN.out ?_; intro g5 cap5 w5 K5 K5b K5c)
          refine hK.out _ _ (by exact (HNX.out w9 w5 y9 g5 cap5 G3.out G0.out G2.out K5.out K5b K5c).1.2.2.2) (fun hHq13 => ?_)
          clear hK K hH hHq12
          have N5 := Lib.hid (HNX.out w9 w5 y9 g5 cap5 G3.out G0.out G2.out K5.out K5b K5c); obtain ⟨n1, n2, n3, n4⟩ := N5.out.1; clear n4 K5b K5c
          (try simp only [Act.put, List.getElem_toArray, List.getElem_cons_succ, List.getElem_cons_zero, List.setIfInBounds_toArray, List.set_cons_zero, List.set_cons_succ])
          refine wpAnyH_take (i := 10) (v := ?_) rfl (by kernel_rfl) (by kernel_rfl) (by kernel_rfl) (fun _ _ _ h => h) (Or.inl ⟨by kernel_rfl, ?_⟩) hHq13 ?_
          rotate_left
          · (intro w hSw; first | (go_simp; done) | (go_simp; with_reducible rfl))
          (try simp only [Act.put, List.getElem_toArray, List.getElem_cons_succ, List.getElem_cons_zero, List.setIfInBounds_toArray, List.set_cons_zero, List.set_cons_succ])
          refine wpAnyH_take (i := 11) (v := ?_) rfl (by kernel_rfl) (by kernel_rfl) (by kernel_rfl) (fun _ _ _ h => h) (Or.inl ⟨by kernel_rfl, ?_⟩) hHq13 ?_
          rotate_left
          · (intro w hSw; first | (go_simp; done) | (go_simp; with_reducible rfl))
          (try simp only [Act.put, List.getElem_toArray, List.getElem_cons_succ, List.getElem_cons_zero, List.setIfInBounds_toArray, List.set_cons_zero, List.set_cons_succ])
          refine wpAnyH_ready (rs := [12]) (by kernel_rfl) (by simp) (AllReadyH.cons rfl (fun K hK => ?_) AllReadyH.nil)
          have hH := hHq13
          (go_simp; skip)
          refine hK.out _ _ (by exact hH.setCell (.inl (by simp [prM])) _) (fun hHq14 => ?_)
          clear hK K hH hHq13
          (try simp only [Act.put, List.getElem_toArray, List.getElem_cons_succ, List.getElem_cons_zero, List.setIfInBounds_toArray, List.set_cons_zero, List.set_cons_succ])
          refine wpAnyH_done (by kernel_rfl) ?_ _
          have hEnd := hHq14
          (clear hEnd hHeld n1 n2 n3; go_wp2_with fail; go_roundw; (case rel => exact ⟨k + 1, _, _, by omega, by go_num, Lib.hid (by have h9 := N5.out.2; rw [List.length_append] at h9; exact h9)⟩); (case measure => simp [Go.RowKit.intOf]; omega))
    · obtain rfl : k = 3 := by omega
      go_wp2_with fail
      go_end0
      exact ⟨rfl, bm, v, Q, Lib.hid (by rw [HTT.out]; exact HI.out)⟩
end Go.Proofs.Ytcadnlilijkneaa
