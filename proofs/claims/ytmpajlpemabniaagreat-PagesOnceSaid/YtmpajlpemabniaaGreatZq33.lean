/-
  What a record says is done: a mark. No claim of their own.
-/
import Derived.Test.YtmpajlpemabniaaGreatZq32
namespace Go.Proofs.YtmpajlpemabniaaGreat
open Go.RowKit Go.Maps Go.Shelf Go.Deep
set_option linter.unusedVariables false
set_option linter.unusedSimpArgs false
theorem Sta.rowq {w : World} {q p : Nat} {v : Value} {b : Nat} {C : List Nat} {S : PS} (h : Sta w q p v b C S) : q ∉ p :: rowOf v := by
  have hq : ∀ g, v.ownBlock = some g → g ≠ q := fun g hg e => by
    subst e
    rcases h.set.row.2 with ⟨hn, _⟩ | ⟨g', cap, cur, hv, hb, hgg, rest⟩
    · rw [hn] at hg; cases hg
    · rw [hv] at hg
      simp [Value.ownBlock] at hg
      subst hg
      have h1 := h.own
      unfold Own at h1
      rw [hgg] at h1; simp at h1
  intro hx
  rcases List.mem_cons.1 hx with e | e
  · exact h.qp e
  · exact hq q (mem_rowOf.1 e) rfl
theorem Sta.rowb {w : World} {q p : Nat} {v : Value} {b : Nat} {C : List Nat} {S : PS} (h : Sta w q p v b C S) : b ∉ p :: rowOf v := by
  intro hx
  rcases List.mem_cons.1 hx with e | e
  · exact h.bRow.2.1 e.symm
  · exact h.bRow.2.2 b (mem_rowOf.1 e) rfl
structure ExM (w W : World) (q p : Nat) (v : Value) (b : Nat) (C : List Nat) (S : PS) (V : Nat → Option Value) (n : Nat) : Prop where
  own : Own W q 138 [.int .u64 (S.ep : Int), .int .u64 (S.op : Int), .int .u64 (n : Int), .pointer (some ⟨p, 0, none⟩), .map (some b)]
  set : St W p v S.T
  map : MapV W b V
  cel : CelV W C S.m V
  chg : Chg [q] w W
theorem ExM.mk' {w W : World} {q p : Nat} {v : Value} {b : Nat} {C : List Nat} {S : PS} {V : Nat → Option Value} {n : Nat} (h : Sta w q p v b C S) (hV : MapV w b V) (hV2 : CelV w C S.m V) (hc : Chg [q] w W)
    (ho : Own W q 138 [.int .u64 (S.ep : Int), .int .u64 (S.op : Int), .int .u64 (n : Int), .pointer (some ⟨p, 0, none⟩), .map (some b)]) : ExM w W q p v b C S V n := by
  have hC : ∀ x ∈ C, x ∉ [q] := fun x hx => by have := (h.ap x hx).2; simp only [List.mem_cons, not_or] at this; simpa using this.1
  refine ⟨ho, h.set.chg hc (by simpa using fun e => h.qp e.symm) (fun g hg => ?_), hV.chg hc (by simpa using fun e => h.bRow.1 e.symm), hV2.chg hc hC, hc⟩
  have h1 := h.rowq
  simp only [List.mem_cons, not_or, mem_rowOf] at h1
  intro h2
  simp at h2
  exact h1.2 (h2 ▸ hg)
theorem ExM.done {w W w3 w4 : World} {q p : Nat} {v v' : Value} {b : Nat} {C : List Nat} {S : PS} {V : Nat → Option Value} {n f t : Nat} {T' : List Rn} (h : Sta w q p v b C S) (x : ExM w W q p v b C S V n) (hs : St w3 p v' T') (hc3 : Chg (p :: rowOf v) W w3) (hn : Nb W v v')
    (hm : MapV w4 b (rmV V f t)) (hc4 : Chg [b] w3 w4) (hg : Gd ⟨S.ep, S.op, n, T', rmC S.m f t⟩) :
    Sta w4 q p v' b C ⟨S.ep, S.op, n, T', rmC S.m f t⟩ ∧ Chg (q :: p :: b :: rowOf v) w w4 ∧ Nb w v v' := by
  have hCq : ∀ y ∈ C, y ∉ p :: rowOf v := fun y hy hx => (h.ap y hy).2 (by rcases List.mem_cons.1 hx with e | e <;> simp [e])
  have hCb : ∀ y ∈ C, y ∉ [b] := fun y hy => by have := (h.ap y hy).2; simp only [List.mem_cons, not_or] at this; simpa using this.2.2.1
  have hnw : Nb w v v' := hn.mono x.chg.size
  have hvb : ∀ g, v'.ownBlock = some g → g ≠ b := fun g hg => by
    rcases hn with e | e
    · exact h.bRow.2.2 g (e ▸ hg)
    · have h1 := e g hg
      have h2 := x.map.lt
      omega
  refine ⟨⟨(x.own.chg hc3 h.rowq).chg hc4 (by simpa using h.bRow.1), hs.chg hc4 (by simpa using h.bRow.2.1) (fun g hg => by simpa using hvb g hg), ⟨_, hm, ((x.cel.chg hc3 hCq).chg hc4 hCb).removed f t⟩, hg, fun y hy => ⟨?_, ?_⟩⟩, ?_, hnw⟩
  · exact Nat.lt_of_lt_of_le (h.ap y hy).1 (Nat.le_trans (Nat.le_trans x.chg.size hc3.size) hc4.size)
  · have h1 := (h.ap y hy).2
    simp only [List.mem_cons, not_or, mem_rowOf] at h1 ⊢
    refine ⟨h1.1, h1.2.1, h1.2.2.1, fun e2 => ?_⟩
    rcases hnw with e | e
    · exact h1.2.2.2 (e ▸ e2)
    · have h3 := e y e2
      have h4 := (h.ap y hy).1
      omega
  · exact ((x.chg.mono (by simp)).trans (hc3.mono (fun y hy => .inl (by rcases List.mem_cons.1 hy with e | e <;> simp [e])))).trans (hc4.mono (by simp))
set_option maxHeartbeats 1000000 in
theorem exec_mark (w : World) {q p : Nat} {v : Value} {b : Nat} {C : List Nat} {S : PS} (h : Sta w q p v b C S) (n t : Nat) (A : CeT) (hn : n ≤ 1048576) (hl : S.T.length ≤ 999999) (hg : Gd ⟨S.ep, S.op, n, cutL S.T (0, n), rmC S.m 0 n⟩) :
    Calls Tryz.prog 43 #[.pointer (some ⟨q, 0, none⟩), rcv 3 n t A] w fun e w' => e = .returned (.tuple #[]) ∧ ∃ v', Sta w' q p v' b C ⟨S.ep, S.op, n, cutL S.T (0, n), rmC S.m 0 n⟩ ∧ Chg (q :: p :: b :: rowOf v) w w' ∧ Nb w v v' := by
  obtain ⟨V, hV, hV2⟩ := h.map
  obtain ⟨⟨c0, c1, c2, c3, c4⟩, fr⟩ := (h.own.alloc (rcb 3 n t A)).five
  have f2 := fr 2
  obtain ⟨W2, HW2⟩ : ∃ W, Hid ((w.alloc (rcb 3 n t A)).setCell ⟨q, 2, none⟩ (.int .u64 (n : Int)) = W) := ⟨_, Lib.hid rfl⟩
  have hx : ExM w W2 q p v b C S V n := by
    rw [← HW2.out]
    exact ExM.mk' h hV hV2 (((Chg.refl [q] w).alloc _).setCell (.inl (by simp)) _) ((h.own.alloc _).set 2 _)
  have HD := Lib.hid (drop_any W2.drew p v S.T (hx.set.kept (Chg.refl [] W2).drew) (0, n) ⟨by show 0 < 18446744073709551616; omega, by show n < 18446744073709551616; omega⟩ hl)
  obtain ⟨⟨d0, d1, d2, d3, d4⟩, _⟩ := hx.own.five
  have HS := Lib.hid (show W2.cell? ⟨q, 3, none⟩ = some (.pointer (some ⟨p, 0, none⟩)) ∧ W2.cell? ⟨q, 2, none⟩ = some (.int .u64 (n : Int)) from ⟨d3, d2⟩)
  have HX := Lib.hid hx
  have HH := Lib.hid h
  have HG := Lib.hid hg
  have HQ := Lib.hid h.rowq
  unfold rcb at c0 c1 c2 c3 c4 f2 HW2
  unfold rcv
  clear h hV hV2 fr hx d0 d1 d2 d3 d4 hg hl
  go_enter Tryz.func43, Tryz.ntmps43
  go_wp2_with fail
  rw [HW2.out]
  clear c0 c1 c2 c3 c4 f2
  refine wp_region_held_drew (S := (fun W : World => W.cell? ⟨q, 3, none⟩ = some (.pointer (some ⟨p, 0, none⟩)) ∧ W.cell? ⟨q, 2, none⟩ = some (.int .u64 (n : Int)))) (by kernel_rfl) HS.out (fun hHeld => ?_)
  refine tkH (i := 0) (v := ?_) rfl hHeld ?_ ?_
  rotate_left
  · (intro w hSw; first | (go_simp; done) | (go_simp; with_reducible rfl))
  (try simp only [Act.put, sTt, sZz, sSs, sGt, sGs, sGz])
  refine tkH (i := 1) (v := ?_) rfl hHeld ?_ ?_
  rotate_left
  · (intro w hSw; first | (go_simp; done) | (go_simp; with_reducible rfl))
  (try simp only [Act.put, sTt, sZz, sSs, sGt, sGs, sGz])
  refine tkH (i := 2) (v := ?_) rfl hHeld ?_ ?_
  rotate_left
  · (intro w hSw; first | (go_simp; done) | (go_simp; with_reducible rfl))
  (try simp only [Act.put, sTt, sZz, sSs, sGt, sGs, sGz])
  refine tkH (i := 3) (v := ?_) rfl hHeld ?_ ?_
  rotate_left
  · (intro w hSw; first | (go_simp; done) | (go_simp; with_reducible rfl))
  (try simp only [Act.put, sTt, sZz, sSs, sGt, sGs, sGz])
  refine tkH (i := 4) (v := ?_) rfl hHeld ?_ ?_
  rotate_left
  · (intro w hSw; first | (go_simp; done) | (go_simp; with_reducible rfl))
  (try simp only [Act.put, sTt, sZz, sSs, sGt, sGs, sGz])
  refine tkH (i := 5) (v := ?_) rfl hHeld ?_ ?_
  rotate_left
  · (intro w hSw; first | (go_simp; done) | (go_simp; with_reducible rfl))
  (try simp only [Act.put, sTt, sZz, sSs, sGt, sGs, sGz])
  refine tkH (i := 6) (v := ?_) rfl hHeld ?_ ?_
  rotate_left
  · (intro w hSw; first | (go_simp; done) | (go_simp; with_reducible rfl))
  (try simp only [Act.put, sTt, sZz, sSs, sGt, sGs, sGz])
  refine tkH (i := 7) (v := ?_) rfl hHeld ?_ ?_
  rotate_left
  · (intro w hSw; first | (go_simp; done) | (go_simp; with_reducible rfl))
  (try simp only [Act.put, sTt, sZz, sSs, sGt, sGs, sGz])
  refine tkH (i := 8) (v := ?_) rfl hHeld ?_ ?_
  rotate_left
  · (intro w hSw; first | (go_simp; done) | (go_simp; with_reducible rfl))
  (try simp only [Act.put, sTt, sZz, sSs, sGt, sGs, sGz])
  refine wpAnyH_ready (rs := [9]) (by kernel_rfl) (by simp) (AllReadyH.cons rfl (fun K hK => ?_) AllReadyH.nil)
  have hH := hHeld
  (go_simp; go_at_call 90; refine HD.out.mono ?_; rintro e w3 ⟨v', rfl, hs3, hc3, hn3⟩)
  refine hK.out _ _ (by exact ⟨hc3.cell hH.1 HQ.out, hc3.cell hH.2 HQ.out⟩) (fun hHq1 => ?_)
  clear hK K hH 
  (try simp only [Act.put, sTt, sZz, sSs, sGt, sGs, sGz])
  refine wpAnyH_done (by kernel_rfl) ?_ _
  have hEnd := hHq1
  have hc3' : Chg (p :: rowOf v) W2 w3 := ((Chg.refl _ W2).drew).trans hc3
  have q4 : w3.cell? ⟨q, 4, none⟩ = some (.map (some b)) := hc3'.cell HX.out.own.five.1.2.2.2.2 HQ.out
  have hCq : ∀ y ∈ C, y ∉ p :: rowOf v := fun y hy hx => (HH.out.ap y hy).2 (by rcases List.mem_cons.1 hx with e | e <;> simp [e])
  have HR := Lib.hid (removeCells_raw w3 q4 (HX.out.map.chg hc3' HH.out.rowb) (HX.out.cel.vals) 0 n)
  have HE := Lib.hid (And.intro hs3 (And.intro hc3' hn3))
  have q2 := hEnd.2
  clear hs3 hc3 hn3 hc3' hCq hEnd hHeld q4
  go_wp2_with (first
    | (go_at_call 91; refine HR.out.mono ?_; rintro e w4 ⟨rfl, hm4, hc4⟩)
    | fail)
  go_end0
  obtain ⟨r1, r2, r3⟩ := ExM.done HH.out HX.out HE.out.1 HE.out.2.1 (HE.out.2.2.mono (Nat.le_refl _)) hm4 hc4 HG.out
  exact ⟨rfl, v', r1, r2, r3⟩
end Go.Proofs.YtmpajlpemabniaaGreat
namespace Go.Proofs.YtmpajlpemabniaaGreat
open Go.RowKit Go.Maps Go.Shelf Go.Deep
set_option linter.unusedVariables false
set_option linter.unusedSimpArgs false
set_option maxHeartbeats 1000000 in
theorem exec_tr (w : World) {q p : Nat} {v : Value} {b : Nat} {C : List Nat} {S : PS} (h : Sta w q p v b C S) (n t : Nat) (A : CeT) (hn : n ≤ 1048576) (ht : t ≤ 1048576) (hl : S.T.length ≤ 999999) (hg : Gd ⟨S.ep, S.op, S.mr, putL S.T (max n S.mr, t), rmC S.m n t⟩) :
    Calls Tryz.prog 43 #[.pointer (some ⟨q, 0, none⟩), rcv 4 n t A] w fun e w' => e = .returned (.tuple #[]) ∧ ∃ v', Sta w' q p v' b C ⟨S.ep, S.op, S.mr, putL S.T (max n S.mr, t), rmC S.m n t⟩ ∧ Chg (q :: p :: b :: rowOf v) w w' ∧ Nb w v v' := by
  obtain ⟨V, hV, hV2⟩ := h.map
  obtain ⟨W2, HW2⟩ : ∃ W, Hid (w.alloc (rcb 4 n t A) = W) := ⟨_, Lib.hid rfl⟩
  have hx : ExM w W2 q p v b C S V S.mr := by
    rw [← HW2.out]
    exact ExM.mk' h hV hV2 ((Chg.refl [q] w).alloc _) (h.own.alloc _)
  have hmr := h.gd.mr
  have HD := Lib.hid (add_any W2.drew p v S.T (hx.set.kept (Chg.refl [] W2).drew) (max n S.mr, t) ⟨by show max n S.mr < 18446744073709551616; omega, by show t < 18446744073709551616; omega⟩ hl)
  obtain ⟨M, hM⟩ : ∃ M, M = max n S.mr := ⟨_, rfl⟩
  have hMi : max (n : Int) (S.mr : Int) = (M : Int) := by rw [hM]; omega
  rw [← hM] at HD
  unfold rv at HD
  simp only at HD
  obtain ⟨⟨d0, d1, d2, d3, d4⟩, _⟩ := hx.own.five
  have hob : Own W2 w.heap.size 101 [.int .u64 4, .int .u64 (n : Int), .int .u64 (t : Int), .int .i64 A.x.k, .slice A.a A.x.d.length A.c, .slice A.a2 A.x.b.length A.c2] := by rw [← HW2.out]; exact Own.new w _ _
  have HS := Lib.hid (show W2.cell? ⟨q, 3, none⟩ = some (.pointer (some ⟨p, 0, none⟩)) ∧ W2.cell? ⟨q, 2, none⟩ = some (.int .u64 (S.mr : Int)) ∧ W2.cell? ⟨w.heap.size, 1, none⟩ = some (.int .u64 (n : Int)) ∧ W2.cell? ⟨w.heap.size, 2, none⟩ = some (.int .u64 (t : Int)) from ⟨d3, d2, by rw [hob.cell]; rfl, by rw [hob.cell]; rfl⟩)
  have HX := Lib.hid hx
  have HH := Lib.hid h
  have HG := Lib.hid hg
  have HQ := Lib.hid h.rowq
  have HZ : Hid (w.heap.size ∉ p :: rowOf v) := Lib.hid (fun hx => Nat.lt_irrefl _ (h.set.rowlt _ hx))
  unfold rcb at HW2
  unfold rcv
  obtain ⟨mr, hmr2⟩ : ∃ x, Hid (S.mr = x) := ⟨_, Lib.hid rfl⟩
  rw [hmr2.out] at hMi HS
  have HMX := Lib.hid hM
  clear h hV hV2 hx d0 d1 d2 d3 d4 hg hl hmr hM hob hn ht
  go_enter Tryz.func43, Tryz.ntmps43
  go_wp2_with fail
  rw [HW2.out]
  refine wp_region_held_drew (S := (fun W : World => W.cell? ⟨q, 3, none⟩ = some (.pointer (some ⟨p, 0, none⟩)) ∧ W.cell? ⟨q, 2, none⟩ = some (.int .u64 (mr : Int)) ∧ W.cell? ⟨w.heap.size, 1, none⟩ = some (.int .u64 (n : Int)) ∧ W.cell? ⟨w.heap.size, 2, none⟩ = some (.int .u64 (t : Int)))) (by kernel_rfl) HS.out (fun hHeld => ?_)
  refine tkH (i := 0) (v := ?_) rfl hHeld ?_ ?_
  rotate_left
  · (intro w hSw; first | (go_simp; done) | (go_simp; with_reducible rfl))
  (try simp only [Act.put, sTt, sZz, sSs, sGt, sGs, sGz])
  refine tkH (i := 1) (v := ?_) rfl hHeld ?_ ?_
  rotate_left
  · (intro w hSw; first | (go_simp; done) | (go_simp; with_reducible rfl))
  (try simp only [Act.put, sTt, sZz, sSs, sGt, sGs, sGz])
  refine tkH (i := 2) (v := ?_) rfl hHeld ?_ ?_
  rotate_left
  · (intro w hSw; first | (go_simp; done) | (go_simp; with_reducible rfl))
  (try simp only [Act.put, sTt, sZz, sSs, sGt, sGs, sGz])
  refine tkH (i := 3) (v := ?_) rfl hHeld ?_ ?_
  rotate_left
  · (intro w hSw; first | (go_simp; done) | (go_simp; with_reducible rfl))
  (try simp only [Act.put, sTt, sZz, sSs, sGt, sGs, sGz])
  refine tkH (i := 4) (v := ?_) rfl hHeld ?_ ?_
  rotate_left
  · (intro w hSw; first | (go_simp; done) | (go_simp; with_reducible rfl))
  (try simp only [Act.put, sTt, sZz, sSs, sGt, sGs, sGz])
  refine tkH (i := 5) (v := ?_) rfl hHeld ?_ ?_
  rotate_left
  · (intro w hSw; first | (go_simp; done) | (go_simp; with_reducible rfl))
  (try simp only [Act.put, sTt, sZz, sSs, sGt, sGs, sGz])
  refine tkH (i := 6) (v := ?_) rfl hHeld ?_ ?_
  rotate_left
  · (intro w hSw; first | (go_simp; done) | (go_simp; with_reducible rfl))
  (try simp only [Act.put, sTt, sZz, sSs, sGt, sGs, sGz])
  refine tkH (i := 7) (v := ?_) rfl hHeld ?_ ?_
  rotate_left
  · (intro w hSw; first | (go_simp; done) | (go_simp; with_reducible rfl))
  (try simp only [Act.put, sTt, sZz, sSs, sGt, sGs, sGz])
  refine tkH (i := 8) (v := ?_) rfl hHeld ?_ ?_
  rotate_left
  · (intro w hSw; first | (go_simp; done) | (go_simp; with_reducible rfl))
  (try simp only [Act.put, sTt, sZz, sSs, sGt, sGs, sGz])
  refine tkH (i := 9) (v := ?_) rfl hHeld ?_ ?_
  rotate_left
  · (intro w hSw; first | (go_simp; done) | (go_simp; with_reducible rfl))
  (try simp only [Act.put, sTt, sZz, sSs, sGt, sGs, sGz])
  refine tkH (i := 10) (v := ?_) rfl hHeld ?_ ?_
  rotate_left
  · (intro w hSw; first | (go_simp; done) | (go_simp; with_reducible rfl))
  (try simp only [Act.put, sTt, sZz, sSs, sGt, sGs, sGz])
  refine tkH (i := 11) (v := ?_) rfl hHeld ?_ ?_
  rotate_left
  · (intro w hSw; first | (go_simp; done) | (go_simp; with_reducible rfl))
  (try simp only [Act.put, sTt, sZz, sSs, sGt, sGs, sGz])
  refine tkH (i := 12) (v := ?_) rfl hHeld ?_ ?_
  rotate_left
  · (intro w hSw; first | (go_simp; done) | (go_simp; with_reducible rfl))
  (try simp only [Act.put, sTt, sZz, sSs, sGt, sGs, sGz])
  refine tkH (i := 13) (v := ?_) rfl hHeld ?_ ?_
  rotate_left
  · (intro w hSw; first | (go_simp; done) | (go_simp; with_reducible rfl))
  (try simp only [Act.put, sTt, sZz, sSs, sGt, sGs, sGz])
  refine wpAnyH_ready (rs := [14]) (by kernel_rfl) (by simp) (AllReadyH.cons rfl (fun K hK => ?_) AllReadyH.nil)
  have hH := hHeld
  (go_simp; go_at_call 92; refine HD.out.mono ?_; rintro e w3 ⟨v', rfl, hs3, hc3, hn3⟩)
  refine hK.out _ _ (by exact ⟨hc3.cell hH.1 HQ.out, hc3.cell hH.2.1 HQ.out, hc3.cell hH.2.2.1 HZ.out, hc3.cell hH.2.2.2 HZ.out⟩) (fun hHq1 => ?_)
  clear hK K hH 
  (try simp only [Act.put, sTt, sZz, sSs, sGt, sGs, sGz])
  refine wpAnyH_done (by kernel_rfl) ?_ _
  have hEnd := hHq1
  have hc3' : Chg (p :: rowOf v) W2 w3 := ((Chg.refl _ W2).drew).trans hc3
  have q4 : w3.cell? ⟨q, 4, none⟩ = some (.map (some b)) := hc3'.cell HX.out.own.five.1.2.2.2.2 HQ.out
  have HR := Lib.hid (removeCells_raw w3 q4 (HX.out.map.chg hc3' HH.out.rowb) (HX.out.cel.vals) n t)
  have HE := Lib.hid (And.intro hs3 (And.intro hc3' hn3))
  obtain ⟨_, _, q1, q2⟩ := hEnd
  clear hs3 hc3 hn3 hc3' hHeld q4
  go_wp2_with (first
    | (go_at_call 91; refine HR.out.mono ?_; rintro e w4 ⟨rfl, hm4, hc4⟩)
    | fail)
  go_end0
  have hg9 := HG.out
  rw [← HMX.out] at hg9
  obtain ⟨r1, r2, r3⟩ := ExM.done HH.out HX.out HE.out.1 HE.out.2.1 (HE.out.2.2.mono (Nat.le_refl _)) hm4 hc4 hg9
  rw [← HMX.out]
  exact ⟨rfl, v', r1, r2, r3⟩
end Go.Proofs.YtmpajlpemabniaaGreat
namespace Go.Proofs.YtmpajlpemabniaaGreat
open Go.RowKit Go.Maps Go.Shelf Go.Deep
set_option linter.unusedVariables false
set_option linter.unusedSimpArgs false
theorem Sta.mono {w : World} {q p : Nat} {v : Value} {b : Nat} {C C' : List Nat} {S : PS} (h : Sta w q p v b C S) (hC : ∀ x ∈ C, x ∈ C') (ha : ∀ x ∈ C', x < w.heap.size ∧ x ∉ q :: p :: b :: rowOf v) : Sta w q p v b C' S := by
  obtain ⟨V, hV, hV2⟩ := h.map
  refine ⟨h.own, h.set, ⟨V, hV, fun a => ?_⟩, h.gd, ha⟩
  rcases hV2 a with h1 | ⟨A, h1, h2, h3⟩
  · exact .inl h1
  · exact .inr ⟨A, h1, h2, h3.mono hC⟩
set_option maxHeartbeats 1000000 in
theorem exec_cell (w : World) {q p : Nat} {v : Value} {b : Nat} {C : List Nat} {S : PS} (h : Sta w q p v b C S) (n t : Nat) (A : CeT) (hn : n < 1048576) (hA : CellV w C A) (hg : Gd { S with m := updC S.m n A.x }) :
    Calls Tryz.prog 43 #[.pointer (some ⟨q, 0, none⟩), rcv 2 n t A] w fun e w' => e = .returned (.tuple #[]) ∧ Sta w' q p v b C { S with m := updC S.m n A.x } ∧ Chg [b] w w' := by
  obtain ⟨V, hV, hV2⟩ := h.map
  obtain ⟨W2, HW2⟩ : ∃ W, Hid (w.alloc (rcb 2 n t A) = W) := ⟨_, Lib.hid rfl⟩
  have hC2 : Chg [] w W2 := by rw [← HW2.out]; exact (Chg.refl [] w).alloc _
  have hC2d : Chg [] w W2.drew := hC2.drew
  obtain ⟨w3, hrun, hm3, hc3⟩ := (hV.kept hC2d).put (t := 136) (e := 42) Tryz.underlying136 hn A.val
  obtain ⟨⟨d0, d1, d2, d3, d4⟩, _⟩ := (h.own.chg hC2 (by simp)).five
  have hob : Own W2 w.heap.size 101 [.int .u64 2, .int .u64 (n : Int), .int .u64 (t : Int), .int .i64 A.x.k, .slice A.a A.x.d.length A.c, .slice A.a2 A.x.b.length A.c2] := by rw [← HW2.out]; exact Own.new w _ _
  have HS := Lib.hid (show W2.cell? ⟨q, 4, none⟩ = some (.map (some b)) ∧ W2.cell? ⟨w.heap.size, 1, none⟩ = some (.int .u64 (n : Int)) ∧ W2.cell? ⟨w.heap.size, 3, none⟩ = some (.int .i64 A.x.k) ∧ W2.cell? ⟨w.heap.size, 4, none⟩ = some (.slice A.a A.x.d.length A.c) ∧ W2.cell? ⟨w.heap.size, 5, none⟩ = some (.slice A.a2 A.x.b.length A.c2) from ⟨d4, by rw [hob.cell]; rfl, by rw [hob.cell]; rfl, by rw [hob.cell]; rfl, by rw [hob.cell]; rfl⟩)
  have hbq : q ∉ [b] := by simpa using h.bRow.1
  have hbz : w.heap.size ∉ [b] := by have := hV.lt; simp; omega
  have HN := Lib.hid (And.intro hbq hbz)
  have hC := fun x (hx : x ∈ C) => (h.ap x hx).2
  have HF : Hid (∀ w4, Chg [] w3 w4 → Sta w4 q p v b C { S with m := updC S.m n A.x }) := Lib.hid (fun w4 h4 => by
    have hc : Chg [b] w w3 := (hC2d.mono (by simp)).trans hc3
    have hCb : ∀ x ∈ C, x ∉ [b] := fun x hx => by have := hC x hx; simp only [List.mem_cons, not_or] at this; simpa using this.2.2.1
    have : Sta w3 q p v b C { S with m := updC S.m n A.x } := by
      refine ⟨h.own.chg hc hbq, h.set.chg hc (by simpa using h.bRow.2.1) (fun g hg => by simpa using h.bRow.2.2 g hg), ⟨_, hm3, fun a => ?_⟩, hg, fun x hx => ⟨Nat.lt_of_lt_of_le (h.ap x hx).1 hc.size, (h.ap x hx).2⟩⟩
      unfold updC updV
      dsimp only
      by_cases e : a = n
      · rw [if_pos e, if_pos e]
        exact .inr ⟨A, rfl, rfl, hA.chg hc hCb⟩
      · rw [if_neg e, if_neg e]
        exact hV2.chg hc hCb a
    exact this.kept h4)
  have HC3 := Lib.hid ((hC2d.mono (l' := [b]) (by simp)).trans hc3)
  have HC4 := Lib.hid hc3
  unfold rcb at HW2
  unfold rcv
  clear h hV hV2 hC2 hC2d d0 d1 d2 d3 d4 hob hg hbq hbz hC hm3 hc3 hA
  obtain ⟨⟨ck, cd, cb⟩, a1, c1, a2, c2⟩ := A
  unfold CeT.val at hrun
  simp only at hrun HS HW2 ⊢
  obtain ⟨dn, hdn⟩ : ∃ x, cd.length = x := ⟨_, rfl⟩
  obtain ⟨bn, hbn⟩ : ∃ x, cb.length = x := ⟨_, rfl⟩
  rw [hdn, hbn] at hrun HS HW2 ⊢
  clear hdn hbn
  go_enter Tryz.func43, Tryz.ntmps43
  go_wp2_with fail
  simp only [HW2.out]
  refine wp_region_held_drew (S := (fun W : World => W.cell? ⟨q, 4, none⟩ = some (.map (some b)) ∧ W.cell? ⟨w.heap.size, 1, none⟩ = some (.int .u64 (n : Int)) ∧ W.cell? ⟨w.heap.size, 3, none⟩ = some (.int .i64 ck) ∧ W.cell? ⟨w.heap.size, 4, none⟩ = some (.slice a1 dn c1) ∧ W.cell? ⟨w.heap.size, 5, none⟩ = some (.slice a2 bn c2))) (by kernel_rfl) HS.out (fun hHeld => ?_)
  refine tkH (i := 0) (v := ?_) rfl hHeld ?_ ?_
  rotate_left
  · (intro w hSw; first | (go_simp; done) | (go_simp; with_reducible rfl))
  (try simp only [Act.put, sTt, sZz, sSs, sGt, sGs, sGz])
  refine tkH (i := 1) (v := ?_) rfl hHeld ?_ ?_
  rotate_left
  · (intro w hSw; first | (go_simp; done) | (go_simp; with_reducible rfl))
  (try simp only [Act.put, sTt, sZz, sSs, sGt, sGs, sGz])
  refine tkH (i := 2) (v := ?_) rfl hHeld ?_ ?_
  rotate_left
  · (intro w hSw; first | (go_simp; done) | (go_simp; with_reducible rfl))
  (try simp only [Act.put, sTt, sZz, sSs, sGt, sGs, sGz])
  refine tkH (i := 3) (v := ?_) rfl hHeld ?_ ?_
  rotate_left
  · (intro w hSw; first | (go_simp; done) | (go_simp; with_reducible rfl))
  (try simp only [Act.put, sTt, sZz, sSs, sGt, sGs, sGz])
  refine tkH (i := 4) (v := ?_) rfl hHeld ?_ ?_
  rotate_left
  · (intro w hSw; first | (go_simp; done) | (go_simp; with_reducible rfl))
  (try simp only [Act.put, sTt, sZz, sSs, sGt, sGs, sGz])
  refine tkH (i := 5) (v := ?_) rfl hHeld ?_ ?_
  rotate_left
  · (intro w hSw; first | (go_simp; done) | (go_simp; with_reducible rfl))
  (try simp only [Act.put, sTt, sZz, sSs, sGt, sGs, sGz])
  refine tkH (i := 6) (v := ?_) rfl hHeld ?_ ?_
  rotate_left
  · (intro w hSw; first | (go_simp; done) | (go_simp; with_reducible rfl))
  (try simp only [Act.put, sTt, sZz, sSs, sGt, sGs, sGz])
  refine tkH (i := 7) (v := ?_) rfl hHeld ?_ ?_
  rotate_left
  · (intro w hSw; first | (go_simp; done) | (go_simp; with_reducible rfl))
  (try simp only [Act.put, sTt, sZz, sSs, sGt, sGs, sGz])
  refine wpAnyH_ready (rs := [8]) (by kernel_rfl) (by simp) (AllReadyH.cons rfl (fun K hK => ?_) AllReadyH.nil)
  have hH := hHeld
  (go_simp; skip)
  refine hK.out _ _ (by exact ⟨HC4.out.cell hH.1 HN.out.1, HC4.out.cell hH.2.1 HN.out.2, HC4.out.cell hH.2.2.1 HN.out.2, HC4.out.cell hH.2.2.2.1 HN.out.2, HC4.out.cell hH.2.2.2.2 HN.out.2⟩) (fun hHq1 => ?_)
  clear hK K hH 
  (try simp only [Act.put, sTt, sZz, sSs, sGt, sGs, sGz])
  refine wpAnyH_done (by kernel_rfl) ?_ _
  have hEnd := hHq1
  clear hEnd hHeld HS
  go_wp2_with fail
  go_end0
  exact ⟨rfl, HF.out w3 (Chg.refl [] w3), HC3.out⟩
theorem exec_any (w : World) {q p : Nat} {v : Value} {b : Nat} {C : List Nat} {S : PS} (h : Sta w q p v b C S) (r : Rc) (A : CeT) (hA : r.k = 2 → A.x = r.c ∧ CellV w C A) (ho : okN r) (ha : allow S r = true) (hl : S.T.length ≤ 999999) :
    Calls Tryz.prog 43 #[.pointer (some ⟨q, 0, none⟩), rcv (r.k : Int) r.n r.t A] w fun e w' => e = .returned (.tuple #[]) ∧ ∃ v', Sta w' q p v' b C (exec S r) ∧ Chg (q :: p :: b :: rowOf v) w w' ∧ Nb w v v' := by
  have hg := h.gd.exec ho ha
  obtain ⟨k, n, t, c⟩ := r
  have hk : k = 1 ∨ k = 2 ∨ k = 3 ∨ k = 4 ∨ k = 5 := by have h1 := ho.k1; have h5 := ho.k5; simp only at h1 h5; omega
  simp only at hA ⊢
  rcases hk with rfl | rfl | rfl | rfl | rfl
  · have e : exec S ⟨1, n, t, c⟩ = { S with ep := n } := by simp [exec]
    rw [e] at hg ⊢
    exact (exec_ep w h n t A hg).mono fun e w' ⟨h1, h2, h3⟩ => ⟨h1, v, h2, h3.mono (by simp), Nb.refl _ _⟩
  · obtain ⟨e2, hA2⟩ := hA rfl
    subst e2
    have e : exec S ⟨2, n, t, A.x⟩ = { S with m := updC S.m n A.x } := by simp [exec]
    rw [e] at hg ⊢
    have hn : n < 1048576 := by have := ho.n; simpa using this
    exact (exec_cell w h n t A hn hA2 hg).mono fun e w' ⟨h1, h2, h3⟩ => ⟨h1, v, h2, h3.mono (by simp), Nb.refl _ _⟩
  · have e : exec S ⟨3, n, t, c⟩ = ⟨S.ep, S.op, n, cutL S.T (0, n), rmC S.m 0 n⟩ := by simp [exec]
    rw [e] at hg ⊢
    have hn : n ≤ 1048576 := by simp [allow] at ha; exact ha.2
    exact (exec_mark w h n t A hn hl hg).mono fun e w' ⟨h1, h2⟩ => ⟨h1, h2⟩
  · have e : exec S ⟨4, n, t, c⟩ = ⟨S.ep, S.op, S.mr, putL S.T (max n S.mr, t), rmC S.m n t⟩ := by simp [exec]
    rw [e] at hg ⊢
    have hn : n < t ∧ t ≤ 1048576 := by simpa [allow] using ha
    exact (exec_tr w h n t A (by omega) hn.2 hl hg).mono fun e w' ⟨h1, h2⟩ => ⟨h1, h2⟩
  · have e : exec S ⟨5, n, t, c⟩ = { S with op := n } := by simp [exec]
    rw [e] at hg ⊢
    exact (exec_op w h n t A hg).mono fun e w' ⟨h1, h2, h3⟩ => ⟨h1, v, h2, h3.mono (by simp), Nb.refl _ _⟩
structure Two (w W : World) (p' : Nat) (v' : Value) (b' : Nat) (T : List Rn) (V : Nat → Option Value) : Prop where
  set : New W w.heap.size p' v' T
  map : MapV W b' V
  lowb : w.heap.size ≤ b'
  chg : Chg [] w W
theorem Two.kept {w W W' : World} {p' : Nat} {v' : Value} {b' : Nat} {T : List Rn} {V : Nat → Option Value} (h : Two w W p' v' b' T V) (hc : Chg [] W W') : Two w W' p' v' b' T V :=
  ⟨⟨h.set.st.kept hc, h.set.lowp, h.set.lowg⟩, h.map.kept hc, h.lowb, h.chg.trans hc⟩
theorem New.low {w : World} {B B' p : Nat} {v : Value} {L : List Rn} (h : New w B p v L) (hB : B' ≤ B) : New w B' p v L := ⟨h.st, Nat.le_trans hB h.lowp, fun g hg => Nat.le_trans hB (h.lowg g hg)⟩
theorem Two.sta {w W : World} {q p : Nat} {v : Value} {b : Nat} {C : List Nat} {S : PS} {p' : Nat} {v' : Value} {b' q' : Nat} {V : Nat → Option Value} (x : Two w W p' v' b' S.T V) (h : Sta w q p v b C S) (hV2 : CelV w C S.m V)
    (ho : Own W q' 138 [.int .u64 (S.ep : Int), .int .u64 (S.op : Int), .int .u64 (S.mr : Int), .pointer (some ⟨p', 0, none⟩), .map (some b')]) (hq : w.heap.size ≤ q') : Sta W q' p' v' b' C S := by
  refine ⟨ho, x.set.st, ⟨V, x.map, hV2.chg x.chg (by simp)⟩, h.gd, fun y hy => ⟨Nat.lt_of_lt_of_le (h.ap y hy).1 x.chg.size, fun hx => ?_⟩⟩
  have h1 := (h.ap y hy).1
  have h2 := x.set.lowp
  have h3 := x.lowb
  simp only [List.mem_cons, mem_rowOf] at hx
  rcases hx with e | e | e | e
  · omega
  · omega
  · omega
  · have := x.set.lowg y e; omega
theorem pwith_fin {w W : World} {q p : Nat} {v : Value} {b : Nat} {C : List Nat} {S : PS} {p' : Nat} {v' : Value} {b' : Nat} {V : Nat → Option Value} (h : Sta w q p v b C S) (hV2 : CelV w C S.m V) {ep op mr : Nat} (h1 : S.ep = ep) (h2 : S.op = op) (h3 : S.mr = mr) (x : Two w W p' v' b' S.T V) :
    Sta (W.alloc (.cells #[.int .u64 (ep : Int), .int .u64 (op : Int), .int .u64 (mr : Int), .pointer (some ⟨p', 0, none⟩), .map (some b')] 138)) W.heap.size p' v' b' C S ∧ (∀ y ∈ W.heap.size :: p' :: b' :: rowOf v', w.heap.size ≤ y) ∧ Chg [] w (W.alloc (.cells #[.int .u64 (ep : Int), .int .u64 (op : Int), .int .u64 (mr : Int), .pointer (some ⟨p', 0, none⟩), .map (some b')] 138)) := by
  subst h1 h2 h3
  have hc := (Chg.refl [] W).alloc (.cells #[.int .u64 (S.ep : Int), .int .u64 (S.op : Int), .int .u64 (S.mr : Int), .pointer (some ⟨p', 0, none⟩), .map (some b')] 138)
  refine ⟨(x.kept hc).sta h hV2 (Own.new W _ _) x.chg.size, fun y hy => ?_, x.chg.trans hc⟩
  have h1 := x.chg.size
  have h2 := x.set.lowp
  have h3 := x.lowb
  simp only [List.mem_cons, mem_rowOf] at hy
  rcases hy with e | e | e | e
  · omega
  · omega
  · omega
  · exact x.set.lowg y e
set_option maxHeartbeats 1000000 in
set_option maxRecDepth 100000 in
theorem pwith_any (w : World) {q p : Nat} {v : Value} {b : Nat} {C : List Nat} {S : PS} (h : Sta w q p v b C S) (r : Rc) (A : CeT) (hA : r.k = 2 → A.x = r.c ∧ CellV w C A) (ho : okN r) (ha : allow S r = true) (hl : S.T.length ≤ 999999) :
    Calls Tryz.prog 124 #[.pointer (some ⟨q, 0, none⟩), rcv (r.k : Int) r.n r.t A] w fun e w' => ∃ q' p' v' b', e = .returned (.pointer (some ⟨q', 0, none⟩)) ∧ Sta w' q' p' v' b' C (exec S r) ∧ Chg [] w w' := by
  obtain ⟨V, hV, hV2⟩ := h.map
  obtain ⟨w1, HW1⟩ : ∃ W, Hid (w.alloc (rcb (r.k : Int) r.n r.t A) = W) := ⟨_, Lib.hid rfl⟩
  have hC1 : Chg [] w w1 := by rw [← HW1.out]; exact (Chg.refl [] w).alloc _
  have hob : Own w1 w.heap.size 101 [.int .u64 (r.k : Int), .int .u64 (r.n : Int), .int .u64 (r.t : Int), .int .i64 A.x.k, .slice A.a A.x.d.length A.c, .slice A.a2 A.x.b.length A.c2] := by rw [← HW1.out]; exact Own.new w _ _
  have HCP : Hid (∀ W, Chg [] w1 W → Calls Tryz.prog 183 #[.pointer (some ⟨p, 0, none⟩)] W fun e w' => ∃ p' v', e = .returned (.pointer (some ⟨p', 0, none⟩)) ∧ New w' w.heap.size p' v' S.T ∧ Chg [] W w') := Lib.hid (fun W hW1 => have hW := hC1.trans hW1;
    (Copy_some W p v S.T (h.set.kept hW)).mono fun e w' ⟨p', v', h1, h2, h3⟩ => ⟨p', v', h1, h2.low hW.size, low_chg h3⟩)
  have HMC : Hid (∀ W, Chg [] w1 W → Calls Tryz.prog 184 #[.map (some b)] W fun e w' => ∃ b', e = .returned (.map (some b')) ∧ MapV w' b' V ∧ w.heap.size ≤ b' ∧ Chg [] W w') := Lib.hid (fun W hW1 => by
    have hW := hC1.trans hW1
    obtain ⟨D, hD1, hD2⟩ := (hV.kept hW).own
    exact (AnyW.maps_Clone_owns cloneM 37 idR b 1048576 D W hD1).mono fun e w' ⟨h1, h2, h3, h4⟩ => ⟨_, h1, ⟨⟨D, h2, hD2⟩, hV.dom⟩, hW.size, low_chg h4⟩)
  have HEX : Hid (∀ W q' p' v' b', Sta W q' p' v' b' C S → Chg [] w W → Calls Tryz.prog 43 #[.pointer (some ⟨q', 0, none⟩), rcv (r.k : Int) r.n r.t A] W fun e w' => e = .returned (.tuple #[]) ∧ ∃ v'', Sta w' q' p' v'' b' C (exec S r) ∧ Chg (q' :: p' :: b' :: rowOf v') W w') := Lib.hid (fun W q' p' v' b' hS hW =>
    (exec_any W hS r A (fun e => ⟨(hA e).1, (hA e).2.chg hW (by simp)⟩) ho ha hl).mono fun e w' ⟨h1, v2, h2, h3, _⟩ => ⟨h1, v2, h2, h3⟩)
  obtain ⟨⟨d0, d1, d2, d3, d4⟩, _⟩ := (h.own.chg hC1 (by simp)).five
  have HS := Lib.hid (And.intro d0 (And.intro d1 (And.intro d2 (And.intro d3 (And.intro d4 (Chg.refl [] w1))))))
  have HC1 := Lib.hid hC1
  have HH := Lib.hid h
  have HV2 := Lib.hid hV2
  have HO := Lib.hid hob
  unfold rcb at HW1
  unfold rcv at HEX ⊢
  obtain ⟨ep, hep⟩ : ∃ x, Hid (S.ep = x) := ⟨_, Lib.hid rfl⟩
  obtain ⟨op, hop⟩ : ∃ x, Hid (S.op = x) := ⟨_, Lib.hid rfl⟩
  obtain ⟨mr, hmr⟩ : ∃ x, Hid (S.mr = x) := ⟨_, Lib.hid rfl⟩
  rw [hep.out, hop.out, hmr.out] at HS
  clear h hV hV2 hC1 hob d0 d1 d2 d3 d4 hA ho ha hl
  obtain ⟨⟨ck, cd, cb⟩, a1, c1, a2, c2⟩ := A
  obtain ⟨k, n, t, c⟩ := r
  simp only at HW1 HEX HO ⊢
  obtain ⟨dn, hdn⟩ : ∃ x, Hid (cd.length = x) := ⟨_, Lib.hid rfl⟩
  obtain ⟨bn, hbn⟩ : ∃ x, Hid (cb.length = x) := ⟨_, Lib.hid rfl⟩
  simp only [hdn.out, hbn.out] at HW1 HEX HO ⊢
  go_enter Tryz.func124, Tryz.ntmps124
  go_upto_region 1 with fail
  rw [HW1.out]
  go_cut [5] from 5 to 29 (fun v5 wx => ∃ q' p' v' b', v5 = .pointer (some ⟨q', 0, none⟩) ∧ Hid (Sta wx q' p' v' b' C S ∧ (∀ x ∈ q' :: p' :: b' :: rowOf v', w.heap.size ≤ x) ∧ Chg [] w wx ∧ Chg [] w1 wx))
  case first =>
    refine wp_region_held_drew (S := (fun W : World => W.cell? ⟨q, 0, none⟩ = some (.int .u64 (ep : Int)) ∧ W.cell? ⟨q, 1, none⟩ = some (.int .u64 (op : Int)) ∧ W.cell? ⟨q, 2, none⟩ = some (.int .u64 (mr : Int)) ∧ W.cell? ⟨q, 3, none⟩ = some (.pointer (some ⟨p, 0, none⟩)) ∧ W.cell? ⟨q, 4, none⟩ = some (.map (some b)) ∧ Chg [] w1 W)) (by kernel_rfl) (by have h9 := HS.out; exact ⟨h9.1, h9.2.1, h9.2.2.1, h9.2.2.2.1, h9.2.2.2.2.1, h9.2.2.2.2.2.drew⟩) (fun hHeld => ?_)
    refine tkH (i := 0) (v := ?_) rfl hHeld ?_ ?_
    rotate_left
    · (intro w hSw; first | (go_simp; done) | (go_simp; with_reducible rfl))
    (try simp only [Act.put, sTt, sZz, sSs, sGt, sGs, sGz])
    refine tkH (i := 1) (v := ?_) rfl hHeld ?_ ?_
    rotate_left
    · (intro w hSw; first | (go_simp; done) | (go_simp; with_reducible rfl))
    (try simp only [Act.put, sTt, sZz, sSs, sGt, sGs, sGz])
    refine tkH (i := 2) (v := ?_) rfl hHeld ?_ ?_
    rotate_left
    · (intro w hSw; first | (go_simp; done) | (go_simp; with_reducible rfl))
    (try simp only [Act.put, sTt, sZz, sSs, sGt, sGs, sGz])
    refine tkH (i := 3) (v := ?_) rfl hHeld ?_ ?_
    rotate_left
    · (intro w hSw; first | (go_simp; done) | (go_simp; with_reducible rfl))
    (try simp only [Act.put, sTt, sZz, sSs, sGt, sGs, sGz])
    refine tkH (i := 4) (v := ?_) rfl hHeld ?_ ?_
    rotate_left
    · (intro w hSw; first | (go_simp; done) | (go_simp; with_reducible rfl))
    (try simp only [Act.put, sTt, sZz, sSs, sGt, sGs, sGz])
    refine tkH (i := 5) (v := ?_) rfl hHeld ?_ ?_
    rotate_left
    · (intro w hSw; first | (go_simp; done) | (go_simp; with_reducible rfl))
    (try simp only [Act.put, sTt, sZz, sSs, sGt, sGs, sGz])
    refine tkH (i := 6) (v := ?_) rfl hHeld ?_ ?_
    rotate_left
    · (intro w hSw; first | (go_simp; done) | (go_simp; with_reducible rfl))
    (try simp only [Act.put, sTt, sZz, sSs, sGt, sGs, sGz])
    refine tkH (i := 7) (v := ?_) rfl hHeld ?_ ?_
    rotate_left
    · (intro w hSw; first | (go_simp; done) | (go_simp; with_reducible rfl))
    (try simp only [Act.put, sTt, sZz, sSs, sGt, sGs, sGz])
    refine tkH (i := 8) (v := ?_) rfl hHeld ?_ ?_
    rotate_left
    · (intro w hSw; first | (go_simp; done) | (go_simp; with_reducible rfl))
    (try simp only [Act.put, sTt, sZz, sSs, sGt, sGs, sGz])
    refine tkH (i := 9) (v := ?_) rfl hHeld ?_ ?_
    rotate_left
    · (intro w hSw; first | (go_simp; done) | (go_simp; with_reducible rfl))
    (try simp only [Act.put, sTt, sZz, sSs, sGt, sGs, sGz])
    refine tkH (i := 10) (v := ?_) rfl hHeld ?_ ?_
    rotate_left
    · (intro w hSw; first | (go_simp; done) | (go_simp; with_reducible rfl))
    (try simp only [Act.put, sTt, sZz, sSs, sGt, sGs, sGz])
    refine tkH (i := 11) (v := ?_) rfl hHeld ?_ ?_
    rotate_left
    · (intro w hSw; first | (go_simp; done) | (go_simp; with_reducible rfl))
    (try simp only [Act.put, sTt, sZz, sSs, sGt, sGs, sGz])
    refine tkH (i := 12) (v := ?_) rfl hHeld ?_ ?_
    rotate_left
    · (intro w hSw; first | (go_simp; done) | (go_simp; with_reducible rfl))
    (try simp only [Act.put, sTt, sZz, sSs, sGt, sGs, sGz])
    refine tkH (i := 13) (v := ?_) rfl hHeld ?_ ?_
    rotate_left
    · (intro w hSw; first | (go_simp; done) | (go_simp; with_reducible rfl))
    (try simp only [Act.put, sTt, sZz, sSs, sGt, sGs, sGz])
    refine tkH (i := 14) (v := ?_) rfl hHeld ?_ ?_
    rotate_left
    · (intro w hSw; first | (go_simp; done) | (go_simp; with_reducible rfl))
    (try simp only [Act.put, sTt, sZz, sSs, sGt, sGs, sGz])
    refine tkH (i := 15) (v := ?_) rfl hHeld ?_ ?_
    rotate_left
    · (intro w hSw; first | (go_simp; done) | (go_simp; with_reducible rfl))
    (try simp only [Act.put, sTt, sZz, sSs, sGt, sGs, sGz])
    refine tkH (i := 17) (v := ?_) rfl hHeld ?_ ?_
    rotate_left
    · (intro w hSw; first | (go_simp; done) | (go_simp; with_reducible rfl))
    (try simp only [Act.put, sTt, sZz, sSs, sGt, sGs, sGz])
    refine tkH (i := 18) (v := ?_) rfl hHeld ?_ ?_
    rotate_left
    · (intro w hSw; first | (go_simp; done) | (go_simp; with_reducible rfl))
    (try simp only [Act.put, sTt, sZz, sSs, sGt, sGs, sGz])
    refine tkH (i := 19) (v := ?_) rfl hHeld ?_ ?_
    rotate_left
    · (intro w hSw; first | (go_simp; done) | (go_simp; with_reducible rfl))
    (try simp only [Act.put, sTt, sZz, sSs, sGt, sGs, sGz])
    refine tkH (i := 20) (v := ?_) rfl hHeld ?_ ?_
    rotate_left
    · (intro w hSw; first | (go_simp; done) | (go_simp; with_reducible rfl))
    (try simp only [Act.put, sTt, sZz, sSs, sGt, sGs, sGz])
    refine wpAnyH_ready (rs := [16]) (by kernel_rfl) (by simp) (AllReadyH.cons rfl (fun K hK => ?_) AllReadyH.nil)
    have hH := hHeld
    (go_simp; go_at_call 183; refine (HCP.out _ hH.2.2.2.2.2).mono ?_; rintro e w2 ⟨p', v', rfl, hn, hb2⟩)
    refine hK.out _ _ (by exact ⟨hb2.cell hH.1 (by simp), hb2.cell hH.2.1 (by simp), hb2.cell hH.2.2.1 (by simp), hb2.cell hH.2.2.2.1 (by simp), hb2.cell hH.2.2.2.2.1 (by simp), hH.2.2.2.2.2.trans hb2⟩) (fun hHq1 => ?_)
    clear hK K hH 
    have HN := Lib.hid hn
    (try simp only [Act.put, sTt, sZz, sSs, sGt, sGs, sGz])
    refine wpAnyH_ready (rs := [21]) (by kernel_rfl) (by simp) (AllReadyH.cons rfl (fun K hK => ?_) AllReadyH.nil)
    have hH := hHq1
    (go_simp; go_at_call 184; refine (HMC.out _ hH.2.2.2.2.2).mono ?_; rintro e w3 ⟨b', rfl, hm3, hz3, hb3⟩; have HT : Hid (Two w w3 p' v' b' S.T V) := Lib.hid ⟨⟨HN.out.st.kept hb3, HN.out.lowp, HN.out.lowg⟩, hm3, hz3, HC1.out.trans (hH.2.2.2.2.2.trans hb3)⟩)
    refine hK.out _ _ (by exact ⟨hb3.cell hH.1 (by simp), hb3.cell hH.2.1 (by simp), hb3.cell hH.2.2.1 (by simp), hb3.cell hH.2.2.2.1 (by simp), hb3.cell hH.2.2.2.2.1 (by simp), hH.2.2.2.2.2.trans hb3⟩) (fun hHq2 => ?_)
    clear hK K hH hHq1
    (try simp only [Act.put, sTt, sZz, sSs, sGt, sGs, sGz])
    refine tkH (i := 22) (v := ?_) rfl hHq2 ?_ ?_
    rotate_left
    · (intro w hSw; first | (go_simp; done) | (go_simp; with_reducible rfl))
    (try simp only [Act.put, sTt, sZz, sSs, sGt, sGs, sGz])
    refine wpAnyH_ready (rs := [23]) (by kernel_rfl) (by simp) (AllReadyH.cons rfl (fun K hK => ?_) AllReadyH.nil)
    have hH := hHq2
    (go_simp; skip)
    refine hK.out _ _ (by exact ⟨((Chg.refl [] _).alloc _).cell hH.1 (by simp), ((Chg.refl [] _).alloc _).cell hH.2.1 (by simp), ((Chg.refl [] _).alloc _).cell hH.2.2.1 (by simp), ((Chg.refl [] _).alloc _).cell hH.2.2.2.1 (by simp), ((Chg.refl [] _).alloc _).cell hH.2.2.2.2.1 (by simp), hH.2.2.2.2.2.alloc _⟩) (fun hHq3 => ?_)
    clear hK K hH hHq2
    (try simp only [Act.put, sTt, sZz, sSs, sGt, sGs, sGz])
    refine tkH (i := 24) (v := ?_) rfl hHq3 ?_ ?_
    rotate_left
    · (intro w hSw; first | (go_simp; done) | (go_simp; with_reducible rfl))
    (try simp only [Act.put, sTt, sZz, sSs, sGt, sGs, sGz])
    refine wpAnyH_done (by kernel_rfl) ?_ _
    have hEnd := hHq3
    (go_wp2_with fail; go_meet; (case rel => exact ⟨_, p', v', b', rfl, Lib.hid ⟨(pwith_fin HH.out HV2.out hep.out hop.out hmr.out HT.out).1, (pwith_fin HH.out HV2.out hep.out hop.out hmr.out HT.out).2.1, (pwith_fin HH.out HV2.out hep.out hop.out hmr.out HT.out).2.2, hEnd.2.2.2.2.2⟩⟩))
  case rest =>
    rename World => wx
    obtain ⟨q', p', v', b', rfl, HX⟩ := hcut
    have hO2 := HO.out.chg HX.out.2.2.2 (by simp)
    have HE := Lib.hid (HEX.out wx q' p' v' b' HX.out.1 HX.out.2.2.1)
    have r0 : wx.cell? ⟨w.heap.size, 0, none⟩ = some (.int .u64 (k : Int)) := by rw [hO2.cell]; rfl
    have r1 : wx.cell? ⟨w.heap.size, 1, none⟩ = some (.int .u64 (n : Int)) := by rw [hO2.cell]; rfl
    have r2 : wx.cell? ⟨w.heap.size, 2, none⟩ = some (.int .u64 (t : Int)) := by rw [hO2.cell]; rfl
    have r3 : wx.cell? ⟨w.heap.size, 3, none⟩ = some (.int .i64 ck) := by rw [hO2.cell]; rfl
    have r4 : wx.cell? ⟨w.heap.size, 4, none⟩ = some (.slice a1 dn c1) := by rw [hO2.cell]; rfl
    have r5 : wx.cell? ⟨w.heap.size, 5, none⟩ = some (.slice a2 bn c2) := by rw [hO2.cell]; rfl
    clear hO2 HEX HCP HMC HS
    go_wp2_with (first
      | (go_at_call 43; refine HE.out.mono ?_; rintro e w4 ⟨rfl, v2, hs4, hc4⟩)
      | fail)
    go_ret
    exact ⟨q', p', v2, b', rfl, hs4, HX.out.2.2.1.then hc4 (fun y hy => .inr (HX.out.2.1 y hy))⟩
end Go.Proofs.YtmpajlpemabniaaGreat
