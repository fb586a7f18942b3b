/-
  A change on a tape that is full: all records anew, or nothing; any change. No claim of its own.
-/
import Derived.Test.YtmpajlpemabniaaGreatZq37
import Derived.Test.YtmpajlpemabniaaGreatZq36
import Derived.Test.YtmpajlpemabniaaGreatZq34
namespace Go.Proofs.YtmpajlpemabniaaGreat
open Go.RowKit Go.Maps Go.Shelf Go.Deep
set_option linter.unusedVariables false
set_option linter.unusedSimpArgs false
def ptS (T : PT) : TS := calm T.F (fun _ => none) T.h T.L
def Pgx (w : World) (u : Nat) (l : List Nat) (q p g b n sq sp sb : Nat) (v : Value) (C : List Nat) (T : PT) (w' : World) : Prop :=
  ∃ l' v', Pgs w' u l' q p g b n (ptS T) sq sp sb v' C T.S ∧ (∀ x ∈ l', x ∈ l ∨ w.heap.size ≤ x) ∧ Nb w v v' ∧ Chg (l ++ [g, b] ++ stB sq sp sb v) w w'
theorem Pgs.tape {w w' : World} {u : Nat} {l l' : List Nat} {q p g b n : Nat} {X X' : TS} {sq sp sb : Nat} {v : Value} {C : List Nat} {S : PS} (P : Pgs w u l q p g b n X sq sp sb v C S) (hc : Chg l w w') (ht : TD w' l' q p g b n X') (hl : ∀ x ∈ l', x ∈ l ∨ w.heap.size ≤ x) : Pgs w' u l' q p g b n X' sq sp sb v C S := by
  have hu := P.own.lt
  have hsl := P.sta.lt
  have hul := P.ul
  have hd := P.td.dlt
  simp only [List.mem_append, not_or] at hul
  have hmem : ∀ x, x < w.heap.size → x ∉ l ++ [g, b] → x ∉ l' ++ [g, b] := fun x hx h1 h2 => by
    rcases List.mem_append.1 h2 with h2 | h2
    · rcases hl x h2 with h3 | h3
      · exact h1 (List.mem_append_left _ h3)
      · omega
    · exact h1 (List.mem_append_right _ h2)
  refine ⟨P.own.chg hc hul.1, ht, P.sta.chg hc (fun x hx h => (P.sl x hx).1 (List.mem_append_left _ h)) (fun x hx h => P.cl x hx (List.mem_append_left _ h)), hmem u hu P.ul, P.us, fun x hx => ⟨hmem x (hsl x hx) (P.sl x hx).1, (P.sl x hx).2⟩, fun x hx => hmem x (P.sta.ap x hx).1 (P.cl x hx)⟩
theorem app_full {n : Nat} {F : Nat → Sec} {h : Nat} {L : List Rec} {r : Rec} (ho : okR r) (hfit : hsec n * 64 < (frs L).length + 2 + r.length) :
    appE n 0 h h L L r = 61 ∧ appS n (calm F (fun _ => none) h L) r = calm F (fun _ => none) h L := by
  have e1 : appE n 0 h h L L r = 61 := by
    unfold appE
    rw [if_neg (by simpa using ho), if_neg (by simp), if_pos]
    unfold roomN
    simp
    omega
  refine ⟨e1, ?_⟩
  unfold appS calm appL
  simp only [e1]
  rfl
theorem rep_full {n : Nat} {F : Nat → Sec} {h : Nat} {L : List Rec} {xs : List SB} (ho : allR xs) (hfit : hsec n * 64 < (frs (recs xs)).length) :
    replE n 0 xs = 61 ∧ replS n (calm F (fun _ => none) h L) xs = calm F (fun _ => none) h L := by
  have e1 : replE n 0 xs = 61 := by
    unfold replE
    rw [if_neg (by simpa using ho), if_neg (by simp), if_pos hfit]
  refine ⟨e1, ?_⟩
  unfold replS calm replH replL
  simp only [e1]
  rfl
theorem rep_room {n : Nat} {F : Nat → Sec} {h : Nat} {L : List Rec} {xs : List SB} (ho : allR xs) (hfit : ¬ hsec n * 64 < (frs (recs xs)).length) :
    replE n 0 xs = 0 ∧ replS n (calm F (fun _ => none) h L) xs = ⟨F, fun _ => none, h, 1 - h, L, recs xs, 0⟩ := by
  have e1 : replE n 0 xs = 0 := by
    unfold replE
    rw [if_neg (by simpa using ho), if_neg (by simp), if_neg hfit]
  refine ⟨e1, ?_⟩
  unfold replS calm replH replL
  simp only [e1]
  rfl
theorem rep_commit {n : Nat} {F : Nat → Sec} {h : Nat} {L L2 : List Rec} (h1 : h ≤ 1) : commitS n ⟨F, fun _ => none, h, 1 - h, L, L2, 0⟩ = calm (cmF n F h (1 - h) L L2) (fun _ => none) (1 - h) L2 := by
  rw [commit_k0 (by unfold TS.idle idle; simp; intro e; omega) rfl]
  rfl
set_option maxHeartbeats 2000000 in
set_option maxRecDepth 100000 in
theorem change_no (w : World) {u : Nat} {l : List Nat} {q p g b n : Nat} {F : Nat → Sec} {h : Nat} {L : List Rec} {sq sp sb : Nat} {v : Value} {C : List Nat} {S : PS} (P : Pgs w u l q p g b n (calm F (fun _ => none) h L) sq sp sb v C S)
    (r : Rc) (A : CeT) (hA : r.k = 2 → A.x = r.c ∧ CellV w C A) (ho : okN r) (ha : allow S r = true) (hl : S.T.length ≤ 999999) (hlr : (all (exec S r)).length ≤ 100000) (hfit : hsec n * 64 < (frs L).length + 2 + (encR r).length) (hfit2 : hsec n * 64 < (frs (all (exec S r))).length) :
    Calls Tryz.prog 69 #[.pointer (some ⟨u, 0, none⟩), rcv (r.k : Int) r.n r.t A] w fun e w' => e = .returned (.int .i64 61) ∧ Hid (Pgx w u l q p g b n sq sp sb v C ⟨F, h, L, S⟩ w') := by
  have hE := app_full (n := n) (F := F) (h := h) (encR_ok ho) hfit
  have hg : Gd (exec S r) := P.sta.gd.exec ho ha
  obtain ⟨w1, HW1⟩ : ∃ W, Hid (w.alloc (rcb (r.k : Int) r.n r.t A) = W) := ⟨_, Lib.hid rfl⟩
  have hC1 : Chg [] w w1 := by rw [← HW1.out]; exact (Chg.refl [] w).alloc _
  have hob : Own w1 w.heap.size 101 [.int .u64 (r.k : Int), .int .u64 (r.n : Int), .int .u64 (r.t : Int), .int .i64 A.x.k, .slice A.a A.x.d.length A.c, .slice A.a2 A.x.b.length A.c2] := by rw [← HW1.out]; exact Own.new w _ _
  have HEN : Hid (∀ W, Chg [] w W → Calls Tryz.prog 122 #[rcv (r.k : Int) r.n r.t A] W fun e w' => ∃ a c, e = .returned (.slice a (encR r).length c) ∧ Ro w' w'.heap.size a (u8s (encR r)) ∧ (∀ ad, a = some ad → w.heap.size ≤ ad.block) ∧ Chg [] W w') := Lib.hid (fun W hW =>
    (encoded_any W r A ho (fun e => ⟨(hA e).1, ((hA e).2.chg hW (by simp)).d, ((hA e).2.chg hW (by simp)).b⟩)).mono fun e w' ⟨a, c, h1, h2, h3, h4⟩ => ⟨a, c, h1, h2, fun ad e => Nat.le_trans hW.size (h3 ad e), h4⟩)
  have HAP : Hid (∀ W a c, Chg [] w W → Ro W W.heap.size a (u8s (encR r)) → (∀ ad, a = some ad → w.heap.size ≤ ad.block) → Calls Tryz.prog 58 #[.pointer (some ⟨q, 0, none⟩), .slice a (encR r).length c] W fun e w' => e = .returned (.int .i64 61) ∧ Hid (TDT W l q p g b n (calm F (fun _ => none) h L) w')) := Lib.hid (fun W a c hW hr hn =>
    (append_TD (P.td.kept hW) a (encR r) c W.heap.size hr (Nat.le_refl _) (fun _ x e hx => by have h1 := hn x e; have h2 := P.td.lt _ hx; omega)).mono fun e w' ⟨h1, h2⟩ => ⟨by rw [h1]; show Ending.returned (.int .i64 ((appE n 0 h h L L (encR r) : Nat) : Int)) = _; rw [hE.1]; rfl, by rw [hE.2] at h2; exact h2⟩)
  have HWI : Hid (∀ W, Sta W sq sp v sb C S → (r.k = 2 → CellV W C A) → Calls Tryz.prog 124 #[.pointer (some ⟨sq, 0, none⟩), rcv (r.k : Int) r.n r.t A] W fun e w' => ∃ q' p' v' b', e = .returned (.pointer (some ⟨q', 0, none⟩)) ∧ Hid (Sta w' q' p' v' b' C (exec S r)) ∧ Chg [] W w') := Lib.hid (fun W hS hC =>
    (pwith_any W hS r A (fun e => ⟨(hA e).1, hC e⟩) ho ha hl).mono fun e w' ⟨q', p', v', b', h1, h2, h3⟩ => ⟨q', p', v', b', h1, Lib.hid h2, h3⟩)
  have HRE : Hid (∀ W q' p' v' b', Sta W q' p' v' b' C (exec S r) → Calls Tryz.prog 125 #[.pointer (some ⟨q', 0, none⟩)] W fun e w' => ∃ a xs c, e = .returned (.slice a (xs : List SB).length c) ∧ recs xs = all (exec S r) ∧ Hid (RoL w' w'.heap.size a xs ∧ (∀ x, a = some x → W.heap.size ≤ x.block) ∧ ∀ y ∈ xs, ∀ x, y.a = some x → W.heap.size ≤ x.block) ∧ Chg [] W w') := Lib.hid (fun W q' p' v' b' hS =>
    recs8_any W hS hlr)
  have HRP : Hid (∀ W l' a xs c, TD W l' q p g b n (calm F (fun _ => none) h L) → RoL W W.heap.size a xs → Sep l' a xs → recs xs = all (exec S r) → Calls Tryz.prog 123 #[.pointer (some ⟨q, 0, none⟩), .slice a (xs : List SB).length c] W fun e w' => e = .returned (.int .i64 61) ∧ Hid (TDT W l' q p g b n (calm F (fun _ => none) h L) w')) := Lib.hid (fun W l' a xs c ht hr hs he => by
    have hok : allR xs := fun x hx => (Desc.all hg).okL x.bs (by rw [← he]; exact List.mem_map_of_mem hx)
    have h9 := rep_full (n := n) (F := F) (h := h) (L := L) hok (by rw [he]; exact hfit2)
    have hlx : xs.length ≤ 1000000 := by have := congrArg List.length he; rw [recs_len] at this; omega
    refine (replace_TD ht a xs c W.heap.size hr (Nat.le_refl _) hs hlx).mono fun e w' ⟨h1, h2⟩ => ⟨?_, ?_⟩
    · rw [h1]
      show Ending.returned (.int .i64 ((replE n 0 xs : Nat) : Int)) = _
      rw [h9.1]
      rfl
    · rw [h9.2] at h2
      exact h2)
  have HP := Lib.hid P
  have HX : Hid (∀ W, Sta W sq sp v sb C S → (r.k = 2 → CellV W C A) → Calls Tryz.prog 43 #[.pointer (some ⟨sq, 0, none⟩), rcv (r.k : Int) r.n r.t A] W fun e w' => e = .returned (.tuple #[]) ∧ ∃ v', Sta w' sq sp v' sb C (exec S r) ∧ Chg (sq :: sp :: sb :: rowOf v) W w' ∧ Nb W v v') := Lib.hid (fun W hS hC =>
    exec_any W hS r A (fun e => ⟨(hA e).1, hC e⟩) ho ha hl)
  obtain ⟨d0, d1⟩ := (P.own.chg hC1 (by simp)).two
  have HS : Hid (ChS u q sq w.heap.size (r.k : Int) (r.n : Int) (r.t : Int) A.x.k A.a A.x.d.length A.c A.a2 A.x.b.length A.c2 w1) := Lib.hid ⟨d0, d1, by rw [hob.cell]; rfl, by rw [hob.cell]; rfl, by rw [hob.cell]; rfl, by rw [hob.cell]; rfl, by rw [hob.cell]; rfl, by rw [hob.cell]; rfl⟩
  have HC1 := Lib.hid hC1
  have HZ : Hid (w.heap.size ∉ l ++ [g, b]) := Lib.hid (fun hx => by
    have h3 := P.td.dlt
    rcases List.mem_append.1 hx with hx | hx
    · exact Nat.lt_irrefl _ (P.td.lt _ hx)
    · simp at hx; omega)
  have HA := Lib.hid hA
  have HSZ1 : Hid (w1.heap.size = w.heap.size + 1) := Lib.hid (by rw [← HW1.out]; unfold rcb; rw [World.size_alloc])
  have HH1 : Hid (h ≤ 1) := Lib.hid (by obtain ⟨_, _, _, _, tv⟩ := P.td.tp; exact tv.half)
  unfold rcb at HW1
  unfold rcv at HEN HX HWI ⊢
  clear P hE hg hC1 hob d0 d1 hA ho ha hl hlr hfit hfit2
  obtain ⟨⟨ck, cd, cb⟩, a1, c1, a2, c2⟩ := A
  obtain ⟨k, nn, t, c⟩ := r
  simp only at HW1 HEN HX HWI HS ⊢
  obtain ⟨dn, hdn⟩ : ∃ x, Hid (cd.length = x) := ⟨_, Lib.hid rfl⟩
  obtain ⟨bn, hbn⟩ : ∃ x, Hid (cb.length = x) := ⟨_, Lib.hid rfl⟩
  simp only [hdn.out, hbn.out] at HW1 HEN HX HWI HS ⊢
  obtain ⟨S2, hS2⟩ : ∃ x, Hid (exec S ⟨k, nn, t, c⟩ = x) := ⟨_, Lib.hid rfl⟩
  simp only [hS2.out] at HWI HRE HRP HX ⊢
  obtain ⟨en, hen⟩ : ∃ x, Hid (encR ⟨k, nn, t, c⟩ = x) := ⟨_, Lib.hid rfl⟩
  simp only [hen.out] at HEN HAP
  go_enter Tryz.func69, Tryz.ntmps69
  go_upto_region 1 with fail
  rw [HW1.out]
  refine wp_region_held_drew (S := (fun W : World => W.cell? ⟨u, 0, none⟩ = some (.pointer (some ⟨q, 0, none⟩)) ∧ W.cell? ⟨u, 1, none⟩ = some (.pointer (some ⟨sq, 0, none⟩)) ∧ W.cell? ⟨w.heap.size, 0, none⟩ = some (.int .u64 (k : Int)) ∧ W.cell? ⟨w.heap.size, 1, none⟩ = some (.int .u64 (nn : Int)) ∧ W.cell? ⟨w.heap.size, 2, none⟩ = some (.int .u64 (t : Int)) ∧ W.cell? ⟨w.heap.size, 3, none⟩ = some (.int .i64 ck) ∧ W.cell? ⟨w.heap.size, 4, none⟩ = some (.slice a1 dn c1) ∧ W.cell? ⟨w.heap.size, 5, none⟩ = some (.slice a2 bn c2))) (by kernel_rfl) (by have h9 := HS.out.step (m := []) (Chg.refl [] w1).drew (by simp) (by simp); exact h9) (fun hHeld => ?_)
  refine tkH (i := 0) (v := ?_) rfl hHeld ?_ ?_
  rotate_left
  · (intro w hSw; first | (go_simp; done) | (go_simp; with_reducible rfl))
  (try simp only [Act.put, sTt, sZz, sSs, sGt, sGs, sGz])
  refine tkH (i := 1) (v := ?_) rfl hHeld ?_ ?_
  rotate_left
  · (intro w hSw; first | (go_simp; done) | (go_simp; with_reducible rfl))
  (try simp only [Act.put, sTt, sZz, sSs, sGt, sGs, sGz])
  refine tkH (i := 2) (v := ?_) rfl hHeld ?_ ?_
  rotate_left
  · (intro w hSw; first | (go_simp; done) | (go_simp; with_reducible rfl))
  (try simp only [Act.put, sTt, sZz, sSs, sGt, sGs, sGz])
  refine tkH (i := 3) (v := ?_) rfl hHeld ?_ ?_
  rotate_left
  · (intro w hSw; first | (go_simp; done) | (go_simp; with_reducible rfl))
  (try simp only [Act.put, sTt, sZz, sSs, sGt, sGs, sGz])
  refine tkH (i := 4) (v := ?_) rfl hHeld ?_ ?_
  rotate_left
  · (intro w hSw; first | (go_simp; done) | (go_simp; with_reducible rfl))
  (try simp only [Act.put, sTt, sZz, sSs, sGt, sGs, sGz])
  refine wpAnyH_ready (rs := [5]) (by kernel_rfl) (by simp) (AllReadyH.cons rfl (fun K hK => ?_) AllReadyH.nil)
  have hH := hHeld
  (go_simp; go_at_call 122; refine (HEN.out _ HC1.out.drew).mono ?_; rintro e w2 ⟨a2', c2', rfl, hr2, hn2, hc2⟩)
  refine hK.out _ _ (by exact ChS.step hH hc2 (by simp) (by simp)) (fun hHq1 => ?_)
  clear hK K hH 
  have HC2 := Lib.hid (HC1.out.drew.trans hc2); have HR2 := Lib.hid (And.intro hr2 hn2)
  (try simp only [Act.put, sTt, sZz, sSs, sGt, sGs, sGz])
  refine wpAnyH_ready (rs := [6]) (by kernel_rfl) (by simp) (AllReadyH.cons rfl (fun K hK => ?_) AllReadyH.nil)
  have hH := hHq1
  (go_simp; go_at_call 58; refine (HAP.out _ _ _ HC2.out HR2.out.1 HR2.out.2).mono ?_; rintro e w3 ⟨rfl, ht3⟩; obtain ⟨l3, ht4, hl4, hc4⟩ := ht3.out)
  refine hK.out _ _ (by exact ChS.step hH hc4 (fun hx => HP.out.ul (by simp [hx])) (fun hx => HZ.out (by simp [hx]))) (fun hHq2 => ?_)
  clear hK K hH hHq1
  (try simp only [Act.put, sTt, sZz, sSs, sGt, sGs, sGz])
  refine tkH (i := 7) (v := ?_) rfl hHq2 ?_ ?_
  rotate_left
  · (intro w hSw; first | (go_simp; done) | (go_simp; with_reducible rfl))
  (try simp only [Act.put, sTt, sZz, sSs, sGt, sGs, sGz])
  refine wpAnyH_done (by kernel_rfl) ?_ _
  have hEnd := hHq2
  have HC3 : Hid (Chg l w w3) := Lib.hid ((HC2.out.mono (by simp)).trans hc4)
  have HL3 : Hid (∀ x ∈ l3, x ∈ l ∨ w.heap.size + 1 ≤ x) := Lib.hid (fun x hx => by
    rcases hl4 x hx with h1 | h1
    · exact .inl h1
    · have h2 := HC2.out.size
      have h3 := HSZ1.out
      have h4 := hc2.size
      have h5 : w1.drew.heap.size = w1.heap.size := rfl
      exact .inr (by omega))
  have HP3 := Lib.hid (HP.out.tape HC3.out ht4 (fun x hx => (HL3.out x hx).imp id (fun h1 => by omega)))
  have HA3 : Hid (k = 2 → CellV w3 C ⟨⟨ck, cd, cb⟩, a1, c1, a2, c2⟩) := Lib.hid (fun e => (HA.out e).2.chg HC3.out (fun x hx h9 => HP.out.cl x hx (List.mem_append_left _ h9)))
  have HS3 : Hid (ChS u q sq w.heap.size (k : Int) (nn : Int) (t : Int) ck a1 dn c1 a2 bn c2 w3) := Lib.hid hEnd
  have HZ3 : Hid (w.heap.size ∉ l3 ++ [g, b]) := Lib.hid (fun hx => by
    rcases List.mem_append.1 hx with hx | hx
    · rcases HL3.out _ hx with h1 | h1
      · exact HZ.out (List.mem_append_left _ h1)
      · omega
    · exact HZ.out (List.mem_append_right _ hx))
  clear hHeld hr2 hn2 hc2 ht3 ht4 hl4 hc4 hEnd HEN HAP HR2
  go_upto_region 3 with fail
  refine wp_region_held_drew (S := (fun W : World => W.cell? ⟨u, 0, none⟩ = some (.pointer (some ⟨q, 0, none⟩)) ∧ W.cell? ⟨u, 1, none⟩ = some (.pointer (some ⟨sq, 0, none⟩)) ∧ W.cell? ⟨w.heap.size, 0, none⟩ = some (.int .u64 (k : Int)) ∧ W.cell? ⟨w.heap.size, 1, none⟩ = some (.int .u64 (nn : Int)) ∧ W.cell? ⟨w.heap.size, 2, none⟩ = some (.int .u64 (t : Int)) ∧ W.cell? ⟨w.heap.size, 3, none⟩ = some (.int .i64 ck) ∧ W.cell? ⟨w.heap.size, 4, none⟩ = some (.slice a1 dn c1) ∧ W.cell? ⟨w.heap.size, 5, none⟩ = some (.slice a2 bn c2))) (by kernel_rfl) (by have h9 := HS3.out.step (m := []) (Chg.refl [] w3).drew (by simp) (by simp); exact h9) (fun hHeld => ?_)
  refine tkH (i := 0) (v := ?_) rfl hHeld ?_ ?_
  rotate_left
  · (intro w hSw; first | (go_simp; done) | (go_simp; with_reducible rfl))
  (try simp only [Act.put, sTt, sZz, sSs, sGt, sGs, sGz])
  refine tkH (i := 1) (v := ?_) rfl hHeld ?_ ?_
  rotate_left
  · (intro w hSw; first | (go_simp; done) | (go_simp; with_reducible rfl))
  (try simp only [Act.put, sTt, sZz, sSs, sGt, sGs, sGz])
  refine tkH (i := 2) (v := ?_) rfl hHeld ?_ ?_
  rotate_left
  · (intro w hSw; first | (go_simp; done) | (go_simp; with_reducible rfl))
  (try simp only [Act.put, sTt, sZz, sSs, sGt, sGs, sGz])
  refine tkH (i := 3) (v := ?_) rfl hHeld ?_ ?_
  rotate_left
  · (intro w hSw; first | (go_simp; done) | (go_simp; with_reducible rfl))
  (try simp only [Act.put, sTt, sZz, sSs, sGt, sGs, sGz])
  refine tkH (i := 4) (v := ?_) rfl hHeld ?_ ?_
  rotate_left
  · (intro w hSw; first | (go_simp; done) | (go_simp; with_reducible rfl))
  (try simp only [Act.put, sTt, sZz, sSs, sGt, sGs, sGz])
  refine tkH (i := 5) (v := ?_) rfl hHeld ?_ ?_
  rotate_left
  · (intro w hSw; first | (go_simp; done) | (go_simp; with_reducible rfl))
  (try simp only [Act.put, sTt, sZz, sSs, sGt, sGs, sGz])
  refine tkH (i := 6) (v := ?_) rfl hHeld ?_ ?_
  rotate_left
  · (intro w hSw; first | (go_simp; done) | (go_simp; with_reducible rfl))
  (try simp only [Act.put, sTt, sZz, sSs, sGt, sGs, sGz])
  refine tkH (i := 7) (v := ?_) rfl hHeld ?_ ?_
  rotate_left
  · (intro w hSw; first | (go_simp; done) | (go_simp; with_reducible rfl))
  (try simp only [Act.put, sTt, sZz, sSs, sGt, sGs, sGz])
  refine tkH (i := 8) (v := ?_) rfl hHeld ?_ ?_
  rotate_left
  · (intro w hSw; first | (go_simp; done) | (go_simp; with_reducible rfl))
  (try simp only [Act.put, sTt, sZz, sSs, sGt, sGs, sGz])
  refine wpAnyH_ready (rs := [9]) (by kernel_rfl) (by simp) (AllReadyH.cons rfl (fun K hK => ?_) AllReadyH.nil)
  have hH := hHeld
  (go_simp; go_at_call 124; refine (HWI.out _ (HP3.out.sta.kept ((Chg.refl [] w3).drew)) (fun e => (HA3.out e).chg ((Chg.refl [] w3).drew) (by simp))).mono ?_; rintro e w4 ⟨q4, p4, v4, b4, rfl, hs4, hc4⟩)
  refine hK.out _ _ (by exact ChS.step hH hc4 (by simp) (by simp)) (fun hHq1 => ?_)
  clear hK K hH 
  have HC4 := Lib.hid (((Chg.refl [] w3).drew).trans hc4); have HS4 := Lib.hid hs4.out
  (try simp only [Act.put, sTt, sZz, sSs, sGt, sGs, sGz])
  refine wpAnyH_ready (rs := [10]) (by kernel_rfl) (by simp) (AllReadyH.cons rfl (fun K hK => ?_) AllReadyH.nil)
  have hH := hHq1
  (go_simp; go_at_call 125; refine (HRE.out _ _ _ _ _ HS4.out).mono ?_; rintro e w5 ⟨a5, xs, c5, rfl, he5, hr5, hc5⟩)
  refine hK.out _ _ (by exact ChS.step hH hc5 (by simp) (by simp)) (fun hHq2 => ?_)
  clear hK K hH hHq1
  have HC5 := Lib.hid (HC4.out.trans hc5); have HR5 := Lib.hid (And.intro he5 hr5.out); have HP5 := Lib.hid (HP3.out.kept HC5.out); have HSE := Lib.hid (show Sep l3 a5 xs from ⟨fun _ x e hx => by have h1 := hr5.out.2.1 x e; have h2 := HP3.out.td.lt _ hx; have h3 := HC4.out.size; omega, fun y hy _ x e hx => by have h1 := hr5.out.2.2 y hy x e; have h2 := HP3.out.td.lt _ hx; have h3 := HC4.out.size; omega⟩)
  (try simp only [Act.put, sTt, sZz, sSs, sGt, sGs, sGz])
  refine wpAnyH_ready (rs := [11]) (by kernel_rfl) (by simp) (AllReadyH.cons rfl (fun K hK => ?_) AllReadyH.nil)
  have hH := hHq2
  (go_simp; go_at_call 123; refine (HRP.out _ l3 _ xs _ HP5.out.td HR5.out.2.1 HSE.out HR5.out.1).mono ?_; rintro e w6 ⟨rfl, ht6⟩; obtain ⟨l6, ht7, hl7, hc7⟩ := ht6.out)
  refine hK.out _ _ (by exact ChS.step hH hc7 (fun hx => HP5.out.ul (by simp [hx])) (fun hx => HZ3.out (by simp [hx]))) (fun hHq3 => ?_)
  clear hK K hH hHq2
  (try simp only [Act.put, sTt, sZz, sSs, sGt, sGs, sGz])
  refine tkH (i := 12) (v := ?_) rfl hHq3 ?_ ?_
  rotate_left
  · (intro w hSw; first | (go_simp; done) | (go_simp; with_reducible rfl))
  (try simp only [Act.put, sTt, sZz, sSs, sGt, sGs, sGz])
  refine wpAnyH_done (by kernel_rfl) ?_ _
  have hEnd := hHq3
  have HP6 := Lib.hid (HP5.out.tape hc7 ht7 hl7)
  have HL6 : Hid (∀ x ∈ l6, x ∈ l ∨ w.heap.size + 1 ≤ x) := Lib.hid (fun x hx => by
    rcases hl7 x hx with h1 | h1
    · exact HL3.out x h1
    · have h2 := HC5.out.size
      have h3 := HC3.out.size
      have h4 := HC2.out.size
      have h5 := HSZ1.out
      have h6 := HP3.out.own.lt
      have h7 := HS3.out
      have h8 : w.heap.size < w3.heap.size := World.block_lt_of_cell? w3 _ h7.2.2.1
      exact .inr (by omega))
  have HC6 : Hid (Chg l w w6) := Lib.hid ((HC3.out.trans (HC5.out.mono (by simp))).then hc7 (fun x hx => (HL3.out x hx).imp id (fun h1 => by omega)))
  have HS6 : Hid (ChS u q sq w.heap.size (k : Int) (nn : Int) (t : Int) ck a1 dn c1 a2 bn c2 w6) := Lib.hid hEnd
  clear hHeld hs4 hc4 he5 hr5 hc5 ht6 ht7 hl7 hc7 HWI HRE HRP HSE HR5 hEnd
  go_wp2_with fail
  go_ret
  exact ⟨rfl, Lib.hid ⟨l6, v, HP6.out, fun x hx => (HL6.out x hx).imp id (fun h1 => by omega), Nb.refl _ _, HC6.out.mono (fun x hx => .inl (List.mem_append_left _ (List.mem_append_left _ hx)))⟩⟩
set_option maxHeartbeats 2000000 in
set_option maxRecDepth 100000 in
theorem change_yes (w : World) {u : Nat} {l : List Nat} {q p g b n : Nat} {F : Nat → Sec} {h : Nat} {L : List Rec} {sq sp sb : Nat} {v : Value} {C : List Nat} {S : PS} (P : Pgs w u l q p g b n (calm F (fun _ => none) h L) sq sp sb v C S)
    (r : Rc) (A : CeT) (hA : r.k = 2 → A.x = r.c ∧ CellV w C A) (ho : okN r) (ha : allow S r = true) (hl : S.T.length ≤ 999999) (hlr : (all (exec S r)).length ≤ 100000) (hfit : hsec n * 64 < (frs L).length + 2 + (encR r).length) (hfit2 : ¬ hsec n * 64 < (frs (all (exec S r))).length) :
    Calls Tryz.prog 69 #[.pointer (some ⟨u, 0, none⟩), rcv (r.k : Int) r.n r.t A] w fun e w' => e = .returned (.int .i64 0) ∧ Hid (Pgx w u l q p g b n sq sp sb v C ⟨cmF n F h (1 - h) L (all (exec S r)), 1 - h, all (exec S r), exec S r⟩ w') := by
  have hE := app_full (n := n) (F := F) (h := h) (encR_ok ho) hfit
  have hg : Gd (exec S r) := P.sta.gd.exec ho ha
  obtain ⟨w1, HW1⟩ : ∃ W, Hid (w.alloc (rcb (r.k : Int) r.n r.t A) = W) := ⟨_, Lib.hid rfl⟩
  have hC1 : Chg [] w w1 := by rw [← HW1.out]; exact (Chg.refl [] w).alloc _
  have hob : Own w1 w.heap.size 101 [.int .u64 (r.k : Int), .int .u64 (r.n : Int), .int .u64 (r.t : Int), .int .i64 A.x.k, .slice A.a A.x.d.length A.c, .slice A.a2 A.x.b.length A.c2] := by rw [← HW1.out]; exact Own.new w _ _
  have HEN : Hid (∀ W, Chg [] w W → Calls Tryz.prog 122 #[rcv (r.k : Int) r.n r.t A] W fun e w' => ∃ a c, e = .returned (.slice a (encR r).length c) ∧ Ro w' w'.heap.size a (u8s (encR r)) ∧ (∀ ad, a = some ad → w.heap.size ≤ ad.block) ∧ Chg [] W w') := Lib.hid (fun W hW =>
    (encoded_any W r A ho (fun e => ⟨(hA e).1, ((hA e).2.chg hW (by simp)).d, ((hA e).2.chg hW (by simp)).b⟩)).mono fun e w' ⟨a, c, h1, h2, h3, h4⟩ => ⟨a, c, h1, h2, fun ad e => Nat.le_trans hW.size (h3 ad e), h4⟩)
  have HAP : Hid (∀ W a c, Chg [] w W → Ro W W.heap.size a (u8s (encR r)) → (∀ ad, a = some ad → w.heap.size ≤ ad.block) → Calls Tryz.prog 58 #[.pointer (some ⟨q, 0, none⟩), .slice a (encR r).length c] W fun e w' => e = .returned (.int .i64 61) ∧ Hid (TDT W l q p g b n (calm F (fun _ => none) h L) w')) := Lib.hid (fun W a c hW hr hn =>
    (append_TD (P.td.kept hW) a (encR r) c W.heap.size hr (Nat.le_refl _) (fun _ x e hx => by have h1 := hn x e; have h2 := P.td.lt _ hx; omega)).mono fun e w' ⟨h1, h2⟩ => ⟨by rw [h1]; show Ending.returned (.int .i64 ((appE n 0 h h L L (encR r) : Nat) : Int)) = _; rw [hE.1]; rfl, by rw [hE.2] at h2; exact h2⟩)
  have HWI : Hid (∀ W, Sta W sq sp v sb C S → (r.k = 2 → CellV W C A) → Calls Tryz.prog 124 #[.pointer (some ⟨sq, 0, none⟩), rcv (r.k : Int) r.n r.t A] W fun e w' => ∃ q' p' v' b', e = .returned (.pointer (some ⟨q', 0, none⟩)) ∧ Hid (Sta w' q' p' v' b' C (exec S r)) ∧ Chg [] W w') := Lib.hid (fun W hS hC =>
    (pwith_any W hS r A (fun e => ⟨(hA e).1, hC e⟩) ho ha hl).mono fun e w' ⟨q', p', v', b', h1, h2, h3⟩ => ⟨q', p', v', b', h1, Lib.hid h2, h3⟩)
  have HRE : Hid (∀ W q' p' v' b', Sta W q' p' v' b' C (exec S r) → Calls Tryz.prog 125 #[.pointer (some ⟨q', 0, none⟩)] W fun e w' => ∃ a xs c, e = .returned (.slice a (xs : List SB).length c) ∧ recs xs = all (exec S r) ∧ Hid (RoL w' w'.heap.size a xs ∧ (∀ x, a = some x → W.heap.size ≤ x.block) ∧ ∀ y ∈ xs, ∀ x, y.a = some x → W.heap.size ≤ x.block) ∧ Chg [] W w') := Lib.hid (fun W q' p' v' b' hS =>
    recs8_any W hS hlr)
  have HRP : Hid (∀ W l' a xs c, TD W l' q p g b n (calm F (fun _ => none) h L) → RoL W W.heap.size a xs → Sep l' a xs → recs xs = all (exec S r) → Calls Tryz.prog 123 #[.pointer (some ⟨q, 0, none⟩), .slice a (xs : List SB).length c] W fun e w' => e = .returned (.int .i64 0) ∧ Hid (TDT W l' q p g b n ⟨F, fun _ => none, h, 1 - h, L, all (exec S r), 0⟩ w')) := Lib.hid (fun W l' a xs c ht hr hs he => by
    have hok : allR xs := fun x hx => (Desc.all hg).okL x.bs (by rw [← he]; exact List.mem_map_of_mem hx)
    have h9 := rep_room (n := n) (F := F) (h := h) (L := L) hok (by rw [he]; exact hfit2)
    have hlx : xs.length ≤ 1000000 := by have := congrArg List.length he; rw [recs_len] at this; omega
    refine (replace_TD ht a xs c W.heap.size hr (Nat.le_refl _) hs hlx).mono fun e w' ⟨h1, h2⟩ => ⟨?_, ?_⟩
    · rw [h1]
      show Ending.returned (.int .i64 ((replE n 0 xs : Nat) : Int)) = _
      rw [h9.1]
      rfl
    · rw [h9.2, he] at h2
      exact h2)
  have HP := Lib.hid P
  have HX : Hid (∀ W, Sta W sq sp v sb C S → (r.k = 2 → CellV W C A) → Calls Tryz.prog 43 #[.pointer (some ⟨sq, 0, none⟩), rcv (r.k : Int) r.n r.t A] W fun e w' => e = .returned (.tuple #[]) ∧ ∃ v', Sta w' sq sp v' sb C (exec S r) ∧ Chg (sq :: sp :: sb :: rowOf v) W w' ∧ Nb W v v') := Lib.hid (fun W hS hC =>
    exec_any W hS r A (fun e => ⟨(hA e).1, hC e⟩) ho ha hl)
  obtain ⟨d0, d1⟩ := (P.own.chg hC1 (by simp)).two
  have HS : Hid (ChS u q sq w.heap.size (r.k : Int) (r.n : Int) (r.t : Int) A.x.k A.a A.x.d.length A.c A.a2 A.x.b.length A.c2 w1) := Lib.hid ⟨d0, d1, by rw [hob.cell]; rfl, by rw [hob.cell]; rfl, by rw [hob.cell]; rfl, by rw [hob.cell]; rfl, by rw [hob.cell]; rfl, by rw [hob.cell]; rfl⟩
  have HC1 := Lib.hid hC1
  have HZ : Hid (w.heap.size ∉ l ++ [g, b]) := Lib.hid (fun hx => by
    have h3 := P.td.dlt
    rcases List.mem_append.1 hx with hx | hx
    · exact Nat.lt_irrefl _ (P.td.lt _ hx)
    · simp at hx; omega)
  have HA := Lib.hid hA
  have HSZ1 : Hid (w1.heap.size = w.heap.size + 1) := Lib.hid (by rw [← HW1.out]; unfold rcb; rw [World.size_alloc])
  have HH1 : Hid (h ≤ 1) := Lib.hid (by obtain ⟨_, _, _, _, tv⟩ := P.td.tp; exact tv.half)
  unfold rcb at HW1
  unfold rcv at HEN HX HWI ⊢
  clear P hE hg hC1 hob d0 d1 hA ho ha hl hlr hfit hfit2
  obtain ⟨⟨ck, cd, cb⟩, a1, c1, a2, c2⟩ := A
  obtain ⟨k, nn, t, c⟩ := r
  simp only at HW1 HEN HX HWI HS ⊢
  obtain ⟨dn, hdn⟩ : ∃ x, Hid (cd.length = x) := ⟨_, Lib.hid rfl⟩
  obtain ⟨bn, hbn⟩ : ∃ x, Hid (cb.length = x) := ⟨_, Lib.hid rfl⟩
  simp only [hdn.out, hbn.out] at HW1 HEN HX HWI HS ⊢
  obtain ⟨S2, hS2⟩ : ∃ x, Hid (exec S ⟨k, nn, t, c⟩ = x) := ⟨_, Lib.hid rfl⟩
  simp only [hS2.out] at HWI HRE HRP HX ⊢
  obtain ⟨en, hen⟩ : ∃ x, Hid (encR ⟨k, nn, t, c⟩ = x) := ⟨_, Lib.hid rfl⟩
  simp only [hen.out] at HEN HAP
  go_enter Tryz.func69, Tryz.ntmps69
  go_upto_region 1 with fail
  rw [HW1.out]
  refine wp_region_held_drew (S := (fun W : World => W.cell? ⟨u, 0, none⟩ = some (.pointer (some ⟨q, 0, none⟩)) ∧ W.cell? ⟨u, 1, none⟩ = some (.pointer (some ⟨sq, 0, none⟩)) ∧ W.cell? ⟨w.heap.size, 0, none⟩ = some (.int .u64 (k : Int)) ∧ W.cell? ⟨w.heap.size, 1, none⟩ = some (.int .u64 (nn : Int)) ∧ W.cell? ⟨w.heap.size, 2, none⟩ = some (.int .u64 (t : Int)) ∧ W.cell? ⟨w.heap.size, 3, none⟩ = some (.int .i64 ck) ∧ W.cell? ⟨w.heap.size, 4, none⟩ = some (.slice a1 dn c1) ∧ W.cell? ⟨w.heap.size, 5, none⟩ = some (.slice a2 bn c2))) (by kernel_rfl) (by have h9 := HS.out.step (m := []) (Chg.refl [] w1).drew (by simp) (by simp); exact h9) (fun hHeld => ?_)
  refine tkH (i := 0) (v := ?_) rfl hHeld ?_ ?_
  rotate_left
  · (intro w hSw; first | (go_simp; done) | (go_simp; with_reducible rfl))
  (try simp only [Act.put, sTt, sZz, sSs, sGt, sGs, sGz])
  refine tkH (i := 1) (v := ?_) rfl hHeld ?_ ?_
  rotate_left
  · (intro w hSw; first | (go_simp; done) | (go_simp; with_reducible rfl))
  (try simp only [Act.put, sTt, sZz, sSs, sGt, sGs, sGz])
  refine tkH (i := 2) (v := ?_) rfl hHeld ?_ ?_
  rotate_left
  · (intro w hSw; first | (go_simp; done) | (go_simp; with_reducible rfl))
  (try simp only [Act.put, sTt, sZz, sSs, sGt, sGs, sGz])
  refine tkH (i := 3) (v := ?_) rfl hHeld ?_ ?_
  rotate_left
  · (intro w hSw; first | (go_simp; done) | (go_simp; with_reducible rfl))
  (try simp only [Act.put, sTt, sZz, sSs, sGt, sGs, sGz])
  refine tkH (i := 4) (v := ?_) rfl hHeld ?_ ?_
  rotate_left
  · (intro w hSw; first | (go_simp; done) | (go_simp; with_reducible rfl))
  (try simp only [Act.put, sTt, sZz, sSs, sGt, sGs, sGz])
  refine wpAnyH_ready (rs := [5]) (by kernel_rfl) (by simp) (AllReadyH.cons rfl (fun K hK => ?_) AllReadyH.nil)
  have hH := hHeld
  (go_simp; go_at_call 122; refine (HEN.out _ HC1.out.drew).mono ?_; rintro e w2 ⟨a2', c2', rfl, hr2, hn2, hc2⟩)
  refine hK.out _ _ (by exact ChS.step hH hc2 (by simp) (by simp)) (fun hHq1 => ?_)
  clear hK K hH 
  have HC2 := Lib.hid (HC1.out.drew.trans hc2); have HR2 := Lib.hid (And.intro hr2 hn2)
  (try simp only [Act.put, sTt, sZz, sSs, sGt, sGs, sGz])
  refine wpAnyH_ready (rs := [6]) (by kernel_rfl) (by simp) (AllReadyH.cons rfl (fun K hK => ?_) AllReadyH.nil)
  have hH := hHq1
  (go_simp; go_at_call 58; refine (HAP.out _ _ _ HC2.out HR2.out.1 HR2.out.2).mono ?_; rintro e w3 ⟨rfl, ht3⟩; obtain ⟨l3, ht4, hl4, hc4⟩ := ht3.out)
  refine hK.out _ _ (by exact ChS.step hH hc4 (fun hx => HP.out.ul (by simp [hx])) (fun hx => HZ.out (by simp [hx]))) (fun hHq2 => ?_)
  clear hK K hH hHq1
  (try simp only [Act.put, sTt, sZz, sSs, sGt, sGs, sGz])
  refine tkH (i := 7) (v := ?_) rfl hHq2 ?_ ?_
  rotate_left
  · (intro w hSw; first | (go_simp; done) | (go_simp; with_reducible rfl))
  (try simp only [Act.put, sTt, sZz, sSs, sGt, sGs, sGz])
  refine wpAnyH_done (by kernel_rfl) ?_ _
  have hEnd := hHq2
  have HC3 : Hid (Chg l w w3) := Lib.hid ((HC2.out.mono (by simp)).trans hc4)
  have HL3 : Hid (∀ x ∈ l3, x ∈ l ∨ w.heap.size + 1 ≤ x) := Lib.hid (fun x hx => by
    rcases hl4 x hx with h1 | h1
    · exact .inl h1
    · have h2 := HC2.out.size
      have h3 := HSZ1.out
      have h4 := hc2.size
      have h5 : w1.drew.heap.size = w1.heap.size := rfl
      exact .inr (by omega))
  have HP3 := Lib.hid (HP.out.tape HC3.out ht4 (fun x hx => (HL3.out x hx).imp id (fun h1 => by omega)))
  have HA3 : Hid (k = 2 → CellV w3 C ⟨⟨ck, cd, cb⟩, a1, c1, a2, c2⟩) := Lib.hid (fun e => (HA.out e).2.chg HC3.out (fun x hx h9 => HP.out.cl x hx (List.mem_append_left _ h9)))
  have HS3 : Hid (ChS u q sq w.heap.size (k : Int) (nn : Int) (t : Int) ck a1 dn c1 a2 bn c2 w3) := Lib.hid hEnd
  have HZ3 : Hid (w.heap.size ∉ l3 ++ [g, b]) := Lib.hid (fun hx => by
    rcases List.mem_append.1 hx with hx | hx
    · rcases HL3.out _ hx with h1 | h1
      · exact HZ.out (List.mem_append_left _ h1)
      · omega
    · exact HZ.out (List.mem_append_right _ hx))
  clear hHeld hr2 hn2 hc2 ht3 ht4 hl4 hc4 hEnd HEN HAP HR2
  go_upto_region 3 with fail
  refine wp_region_held_drew (S := (fun W : World => W.cell? ⟨u, 0, none⟩ = some (.pointer (some ⟨q, 0, none⟩)) ∧ W.cell? ⟨u, 1, none⟩ = some (.pointer (some ⟨sq, 0, none⟩)) ∧ W.cell? ⟨w.heap.size, 0, none⟩ = some (.int .u64 (k : Int)) ∧ W.cell? ⟨w.heap.size, 1, none⟩ = some (.int .u64 (nn : Int)) ∧ W.cell? ⟨w.heap.size, 2, none⟩ = some (.int .u64 (t : Int)) ∧ W.cell? ⟨w.heap.size, 3, none⟩ = some (.int .i64 ck) ∧ W.cell? ⟨w.heap.size, 4, none⟩ = some (.slice a1 dn c1) ∧ W.cell? ⟨w.heap.size, 5, none⟩ = some (.slice a2 bn c2))) (by kernel_rfl) (by have h9 := HS3.out.step (m := []) (Chg.refl [] w3).drew (by simp) (by simp); exact h9) (fun hHeld => ?_)
  refine tkH (i := 0) (v := ?_) rfl hHeld ?_ ?_
  rotate_left
  · (intro w hSw; first | (go_simp; done) | (go_simp; with_reducible rfl))
  (try simp only [Act.put, sTt, sZz, sSs, sGt, sGs, sGz])
  refine tkH (i := 1) (v := ?_) rfl hHeld ?_ ?_
  rotate_left
  · (intro w hSw; first | (go_simp; done) | (go_simp; with_reducible rfl))
  (try simp only [Act.put, sTt, sZz, sSs, sGt, sGs, sGz])
  refine tkH (i := 2) (v := ?_) rfl hHeld ?_ ?_
  rotate_left
  · (intro w hSw; first | (go_simp; done) | (go_simp; with_reducible rfl))
  (try simp only [Act.put, sTt, sZz, sSs, sGt, sGs, sGz])
  refine tkH (i := 3) (v := ?_) rfl hHeld ?_ ?_
  rotate_left
  · (intro w hSw; first | (go_simp; done) | (go_simp; with_reducible rfl))
  (try simp only [Act.put, sTt, sZz, sSs, sGt, sGs, sGz])
  refine tkH (i := 4) (v := ?_) rfl hHeld ?_ ?_
  rotate_left
  · (intro w hSw; first | (go_simp; done) | (go_simp; with_reducible rfl))
  (try simp only [Act.put, sTt, sZz, sSs, sGt, sGs, sGz])
  refine tkH (i := 5) (v := ?_) rfl hHeld ?_ ?_
  rotate_left
  · (intro w hSw; first | (go_simp; done) | (go_simp; with_reducible rfl))
  (try simp only [Act.put, sTt, sZz, sSs, sGt, sGs, sGz])
  refine tkH (i := 6) (v := ?_) rfl hHeld ?_ ?_
  rotate_left
  · (intro w hSw; first | (go_simp; done) | (go_simp; with_reducible rfl))
  (try simp only [Act.put, sTt, sZz, sSs, sGt, sGs, sGz])
  refine tkH (i := 7) (v := ?_) rfl hHeld ?_ ?_
  rotate_left
  · (intro w hSw; first | (go_simp; done) | (go_simp; with_reducible rfl))
  (try simp only [Act.put, sTt, sZz, sSs, sGt, sGs, sGz])
  refine tkH (i := 8) (v := ?_) rfl hHeld ?_ ?_
  rotate_left
  · (intro w hSw; first | (go_simp; done) | (go_simp; with_reducible rfl))
  (try simp only [Act.put, sTt, sZz, sSs, sGt, sGs, sGz])
  refine wpAnyH_ready (rs := [9]) (by kernel_rfl) (by simp) (AllReadyH.cons rfl (fun K hK => ?_) AllReadyH.nil)
  have hH := hHeld
  (go_simp; go_at_call 124; refine (HWI.out _ (HP3.out.sta.kept ((Chg.refl [] w3).drew)) (fun e => (HA3.out e).chg ((Chg.refl [] w3).drew) (by simp))).mono ?_; rintro e w4 ⟨q4, p4, v4, b4, rfl, hs4, hc4⟩)
  refine hK.out _ _ (by exact ChS.step hH hc4 (by simp) (by simp)) (fun hHq1 => ?_)
  clear hK K hH 
  have HC4 := Lib.hid (((Chg.refl [] w3).drew).trans hc4); have HS4 := Lib.hid hs4.out
  (try simp only [Act.put, sTt, sZz, sSs, sGt, sGs, sGz])
  refine wpAnyH_ready (rs := [10]) (by kernel_rfl) (by simp) (AllReadyH.cons rfl (fun K hK => ?_) AllReadyH.nil)
  have hH := hHq1
  (go_simp; go_at_call 125; refine (HRE.out _ _ _ _ _ HS4.out).mono ?_; rintro e w5 ⟨a5, xs, c5, rfl, he5, hr5, hc5⟩)
  refine hK.out _ _ (by exact ChS.step hH hc5 (by simp) (by simp)) (fun hHq2 => ?_)
  clear hK K hH hHq1
  have HC5 := Lib.hid (HC4.out.trans hc5); have HR5 := Lib.hid (And.intro he5 hr5.out); have HP5 := Lib.hid (HP3.out.kept HC5.out); have HSE := Lib.hid (show Sep l3 a5 xs from ⟨fun _ x e hx => by have h1 := hr5.out.2.1 x e; have h2 := HP3.out.td.lt _ hx; have h3 := HC4.out.size; omega, fun y hy _ x e hx => by have h1 := hr5.out.2.2 y hy x e; have h2 := HP3.out.td.lt _ hx; have h3 := HC4.out.size; omega⟩)
  (try simp only [Act.put, sTt, sZz, sSs, sGt, sGs, sGz])
  refine wpAnyH_ready (rs := [11]) (by kernel_rfl) (by simp) (AllReadyH.cons rfl (fun K hK => ?_) AllReadyH.nil)
  have hH := hHq2
  (go_simp; go_at_call 123; refine (HRP.out _ l3 _ xs _ HP5.out.td HR5.out.2.1 HSE.out HR5.out.1).mono ?_; rintro e w6 ⟨rfl, ht6⟩; obtain ⟨l6, ht7, hl7, hc7⟩ := ht6.out)
  refine hK.out _ _ (by exact ChS.step hH hc7 (fun hx => HP5.out.ul (by simp [hx])) (fun hx => HZ3.out (by simp [hx]))) (fun hHq3 => ?_)
  clear hK K hH hHq2
  (try simp only [Act.put, sTt, sZz, sSs, sGt, sGs, sGz])
  refine tkH (i := 12) (v := ?_) rfl hHq3 ?_ ?_
  rotate_left
  · (intro w hSw; first | (go_simp; done) | (go_simp; with_reducible rfl))
  (try simp only [Act.put, sTt, sZz, sSs, sGt, sGs, sGz])
  refine wpAnyH_done (by kernel_rfl) ?_ _
  have hEnd := hHq3
  have HP6 := Lib.hid (HP5.out.tape hc7 ht7 hl7)
  have HL6 : Hid (∀ x ∈ l6, x ∈ l ∨ w.heap.size + 1 ≤ x) := Lib.hid (fun x hx => by
    rcases hl7 x hx with h1 | h1
    · exact HL3.out x h1
    · have h2 := HC5.out.size
      have h3 := HC3.out.size
      have h4 := HC2.out.size
      have h5 := HSZ1.out
      have h6 := HP3.out.own.lt
      have h7 := HS3.out
      have h8 : w.heap.size < w3.heap.size := World.block_lt_of_cell? w3 _ h7.2.2.1
      exact .inr (by omega))
  have HC6 : Hid (Chg l w w6) := Lib.hid ((HC3.out.trans (HC5.out.mono (by simp))).then hc7 (fun x hx => (HL3.out x hx).imp id (fun h1 => by omega)))
  have HS6 : Hid (ChS u q sq w.heap.size (k : Int) (nn : Int) (t : Int) ck a1 dn c1 a2 bn c2 w6) := Lib.hid hEnd
  clear hHeld hs4 hc4 he5 hr5 hc5 ht6 ht7 hl7 hc7 HWI HRE HRP HSE HR5 hEnd
  have HCM := Lib.hid (commit_TD HP6.out.td)
  have HZ6 : Hid (w.heap.size ∉ l6 ++ [g, b]) := Lib.hid (fun hx => by
    rcases List.mem_append.1 hx with hx | hx
    · rcases HL6.out _ hx with h1 | h1
      · exact HZ.out (List.mem_append_left _ h1)
      · omega
    · exact HZ.out (List.mem_append_right _ hx))
  obtain ⟨u0, u1, _⟩ := HS6.out
  go_wp2_with (first
    | (go_at_call 59; refine HCM.out.mono ?_; rintro e w7 ⟨rfl, ht7, hc7⟩
       have HT7 := Lib.hid ht7.out
       have HS7 := Lib.hid (HS6.out.step hc7 HP6.out.ul HZ6.out)
       have HC7 := Lib.hid ((HC6.out.mono (fun x hx => .inl (List.mem_append_left _ hx))).then hc7 (l := l ++ [g, b]) (fun x hx => by
         rcases List.mem_append.1 hx with hx | hx
         · exact (HL6.out x hx).imp (fun h1 => List.mem_append_left _ h1) (fun h1 => by omega)
         · exact .inl (List.mem_append_right _ hx)))
       clear hc7 ht7)
    | fail)
  have HZ9 : Hid (w.heap.size ∉ stB sq sp sb v) := Lib.hid (fun hx => Nat.lt_irrefl _ (HP.out.sta.lt _ hx))
  have HEX : Hid (Calls Tryz.prog 43 #[.pointer (some ⟨sq, 0, none⟩), .agg #[.int .u64 (k : Int), .int .u64 (nn : Int), .int .u64 (t : Int), .int .i64 ck, .slice a1 dn c1, .slice a2 bn c2]] w7.drew fun e w' => e = .returned (.tuple #[]) ∧ ∃ v', Sta w' sq sp v' sb C S2 ∧ Chg (sq :: sp :: sb :: rowOf v) w7.drew w' ∧ Nb w7.drew v v') :=
    Lib.hid (HX.out w7.drew (HP.out.sta.chg (HC7.out.drew) (fun x hx => (HP.out.sl x hx).1) HP.out.cl) (fun e => (HA.out e).2.chg HC7.out.drew HP.out.cl))
  clear HX HCM u0 u1
  refine wp_region_held_drew (S := (fun W : World => W.cell? ⟨u, 0, none⟩ = some (.pointer (some ⟨q, 0, none⟩)) ∧ W.cell? ⟨u, 1, none⟩ = some (.pointer (some ⟨sq, 0, none⟩)) ∧ W.cell? ⟨w.heap.size, 0, none⟩ = some (.int .u64 (k : Int)) ∧ W.cell? ⟨w.heap.size, 1, none⟩ = some (.int .u64 (nn : Int)) ∧ W.cell? ⟨w.heap.size, 2, none⟩ = some (.int .u64 (t : Int)) ∧ W.cell? ⟨w.heap.size, 3, none⟩ = some (.int .i64 ck) ∧ W.cell? ⟨w.heap.size, 4, none⟩ = some (.slice a1 dn c1) ∧ W.cell? ⟨w.heap.size, 5, none⟩ = some (.slice a2 bn c2))) (by kernel_rfl) (by have h9 := HS7.out.step (m := []) (Chg.refl [] w7).drew (by simp) (by simp); exact h9) (fun hHeld => ?_)
  refine tkH (i := 0) (v := ?_) rfl hHeld ?_ ?_
  rotate_left
  · (intro w hSw; first | (go_simp; done) | (go_simp; with_reducible rfl))
  (try simp only [Act.put, sTt, sZz, sSs, sGt, sGs, sGz])
  refine tkH (i := 1) (v := ?_) rfl hHeld ?_ ?_
  rotate_left
  · (intro w hSw; first | (go_simp; done) | (go_simp; with_reducible rfl))
  (try simp only [Act.put, sTt, sZz, sSs, sGt, sGs, sGz])
  refine tkH (i := 2) (v := ?_) rfl hHeld ?_ ?_
  rotate_left
  · (intro w hSw; first | (go_simp; done) | (go_simp; with_reducible rfl))
  (try simp only [Act.put, sTt, sZz, sSs, sGt, sGs, sGz])
  refine tkH (i := 3) (v := ?_) rfl hHeld ?_ ?_
  rotate_left
  · (intro w hSw; first | (go_simp; done) | (go_simp; with_reducible rfl))
  (try simp only [Act.put, sTt, sZz, sSs, sGt, sGs, sGz])
  refine tkH (i := 4) (v := ?_) rfl hHeld ?_ ?_
  rotate_left
  · (intro w hSw; first | (go_simp; done) | (go_simp; with_reducible rfl))
  (try simp only [Act.put, sTt, sZz, sSs, sGt, sGs, sGz])
  refine wpAnyH_ready (rs := [5]) (by kernel_rfl) (by simp) (AllReadyH.cons rfl (fun K hK => ?_) AllReadyH.nil)
  have hH := hHeld
  (go_simp; go_at_call 43; refine HEX.out.mono ?_; rintro e w8 ⟨rfl, v', hs8, hc8, hn8⟩)
  refine hK.out _ _ (by exact ChS.step hH hc8 HP.out.us HZ9.out) (fun hHq1 => ?_)
  clear hK K hH 
  (try simp only [Act.put, sTt, sZz, sSs, sGt, sGs, sGz])
  refine wpAnyH_done (by kernel_rfl) ?_ _
  have hEnd := hHq1
  have hc8' : Chg (stB sq sp sb v) w7 w8 := ((Chg.refl _ w7).drew).trans hc8
  have hte := HT7.out
  rw [rep_commit HH1.out] at hte
  have HFIN := Lib.hid (Pgs.after HP.out hte (fun x hx => (HL6.out x hx).imp id (fun h1 => by omega)) HC7.out hs8 hc8' (hn8.mono (Nat.le_refl _)))
  clear hEnd hHeld hs8 hc8 hn8 hc8' hte
  go_wp2_with fail
  go_ret
  exact ⟨rfl, Lib.hid ⟨l6, v', HFIN.out.1, fun x hx => (HL6.out x hx).imp id (fun h1 => by omega), HFIN.out.2.1, HFIN.out.2.2⟩⟩
theorem change_any (w : World) {u : Nat} {l : List Nat} {q p g b n : Nat} {sq sp sb : Nat} {v : Value} {C : List Nat} {T : PT} (P : Pgs w u l q p g b n (ptS T) sq sp sb v C T.S) (iv : Iv n T)
    (r : Rc) (A : CeT) (hA : r.k = 2 → A.x = r.c ∧ CellV w C A) (ho : okN r) (ha : allow T.S r = true) :
    Calls Tryz.prog 69 #[.pointer (some ⟨u, 0, none⟩), rcv (r.k : Int) r.n r.t A] w fun e w' => e = .returned (.int .i64 ((chg n T r).1 : Int)) ∧ Hid (Pgx w u l q p g b n sq sp sb v C (chg n T r).2 w') := by
  have hn := P.td.dsk.top
  have hl := iv.runs hn
  have hlr := iv.recs hn ho ha
  unfold chg
  by_cases h1 : hsec n * 64 < (frs T.L).length + 2 + (encR r).length
  · rw [if_pos h1]
    by_cases h2 : hsec n * 64 < (frs (all (exec T.S r))).length
    · rw [if_pos h2]
      exact change_no w P r A hA ho ha hl hlr h1 h2
    · rw [if_neg h2]
      exact change_yes w P r A hA ho ha hl hlr h1 h2
  · rw [if_neg h1]
    refine Calls.mono (R' := _) (change_room w P r A hA ho ha hl (by omega)) ?_
    rintro e w' ⟨h3, l', v', h4, h5, h6, h7⟩
    exact ⟨h3, Lib.hid ⟨l', v', h4.out, h5, h6, h7⟩⟩
end Go.Proofs.YtmpajlpemabniaaGreat
namespace Go.Proofs.YtmpajlpemabniaaGreat
open Go.RowKit Go.Maps Go.Shelf Go.Deep
set_option linter.unusedVariables false
set_option linter.unusedSimpArgs false
set_option maxHeartbeats 1000000 in
theorem Write_arg (w : World) (u : Nat) (a : Nat) (A : CeT) (h2 : Ro w w.heap.size A.a2 (bcs A.x.b)) (hl1 : A.x.d.length ≤ 9223372036854775807) (hl2 : A.x.b.length ≤ 9223372036854775807) (he : 1048576 ≤ a ∨ right A.x = false) :
    Calls Tryz.prog 23 #[.pointer (some ⟨u, 0, none⟩), .int .u64 (a : Int), A.val] w fun e w' => e = .returned (.int .i64 1) ∧ Chg [] w w' := by
  obtain ⟨w1, HW1⟩ : ∃ W, Hid (w.alloc (.cells #[.int .i64 A.x.k, .slice A.a A.x.d.length A.c, .slice A.a2 A.x.b.length A.c2] 42) = W) := ⟨_, Lib.hid rfl⟩
  have hC1 : Chg [] w w1 := by rw [← HW1.out]; exact (Chg.refl [] w).alloc _
  have hob : Own w1 w.heap.size 42 [.int .i64 A.x.k, .slice A.a A.x.d.length A.c, .slice A.a2 A.x.b.length A.c2] := by rw [← HW1.out]; exact Own.new w _ _
  have c0 : w1.cell? ⟨w.heap.size, 0, none⟩ = some (.int .i64 A.x.k) := by rw [hob.cell]; rfl
  have c1 : w1.cell? ⟨w.heap.size, 1, none⟩ = some (.slice A.a A.x.d.length A.c) := by rw [hob.cell]; rfl
  have c2 : w1.cell? ⟨w.heap.size, 2, none⟩ = some (.slice A.a2 A.x.b.length A.c2) := by rw [hob.cell]; rfl
  have HC1 := Lib.hid hC1
  by_cases ha : 1048576 ≤ a
  · have e1 : decide ((1048576 : Int) ≤ (a : Int)) = true := decide_eq_true (by omega)
    clear hC1 hob h2 he hl1 hl2 ha
    obtain ⟨⟨ck, cd, cb⟩, a1, c1', a2, c2'⟩ := A
    unfold CeT.val
    simp only at HW1 c0 c1 c2 ⊢
    generalize cd.length = dn at HW1 c0 c1 c2 ⊢
    generalize cb.length = bn at HW1 c0 c1 c2 ⊢
    go_enter Tryz.func23, Tryz.ntmps23
    go_upto_region 1 with fail
    simp only [HW1.out]
    go_wp2_with fail
    go_ret
    exact ⟨rfl, HC1.out⟩
  · have hr : right A.x = false := he.resolve_left ha
    have HRI : Hid (∀ W, Chg [] w W → Calls Tryz.prog 66 #[A.val] W fun e w' => e = .returned (.bool false) ∧ Chg [] W w') := Lib.hid (fun W hW => by
      have h9 := right_any A.x A.a A.c A.a2 A.c2 w.heap.size W (h2.below hW.low (Nat.le_refl _)) hW.size hl2 hl1
      rw [hr] at h9
      exact h9.mono fun e w' ⟨x, y⟩ => ⟨x, low_chg y⟩)
    have e1 : decide ((1048576 : Int) ≤ (a : Int)) = false := decide_eq_false (by omega)
    clear hC1 hob h2 he hl1 hl2 ha hr
    obtain ⟨⟨ck, cd, cb⟩, a1, c1', a2, c2'⟩ := A
    unfold CeT.val at HRI ⊢
    simp only at HRI HW1 c0 c1 c2 ⊢
    generalize cd.length = dn at HRI HW1 c0 c1 c2 ⊢
    generalize cb.length = bn at HRI HW1 c0 c1 c2 ⊢
    go_enter Tryz.func23, Tryz.ntmps23
    go_upto_region 1 with fail
    simp only [HW1.out]
    go_wp2_with (first
      | (go_at_call 66; refine (HRI.out _ HC1.out).mono ?_; rintro e w2 ⟨rfl, hc2⟩
         have HC2 := Lib.hid hc2
         clear hc2)
      | fail)
    go_ret
    exact ⟨rfl, HC1.out.trans HC2.out⟩
end Go.Proofs.YtmpajlpemabniaaGreat
