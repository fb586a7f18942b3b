/-
  Pages in memory; a change for which there is room. No claim of their own.
-/
import Derived.Test.YtmpajlpemabniaaGreatZq32
import Derived.Test.YtmpajlpemabniaaGreatZq33
import Derived.Test.YtmpajlpemabniaaGreatZq23
namespace Go.Proofs.YtmpajlpemabniaaGreat
open Go.RowKit Go.Maps Go.Shelf Go.Deep
set_option linter.unusedVariables false
set_option linter.unusedSimpArgs false
def stB (sq sp sb : Nat) (v : Value) : List Nat := sq :: sp :: sb :: rowOf v
structure Pgs (w : World) (u : Nat) (l : List Nat) (q p g b n : Nat) (X : TS) (sq sp sb : Nat) (v : Value) (C : List Nat) (S : PS) : Prop where
  own : Own w u 95 [.pointer (some ⟨q, 0, none⟩), .pointer (some ⟨sq, 0, none⟩)]
  td : TD w l q p g b n X
  sta : Sta w sq sp v sb C S
  ul : u ∉ l ++ [g, b]
  us : u ∉ stB sq sp sb v
  sl : ∀ x ∈ stB sq sp sb v, x ∉ l ++ [g, b] ∧ x ≠ p
  cl : ∀ x ∈ C, x ∉ l ++ [g, b]
theorem Own.two {w : World} {u : Nat} {t : TypeId} {a b : Value} (h : Own w u t [a, b]) : w.cell? ⟨u, 0, none⟩ = some a ∧ w.cell? ⟨u, 1, none⟩ = some b := by
  refine ⟨?_, ?_⟩ <;> rw [h.cell] <;> rfl
theorem Sta.lt {w : World} {q p : Nat} {v : Value} {b : Nat} {C : List Nat} {S : PS} (h : Sta w q p v b C S) : ∀ x ∈ stB q p b v, x < w.heap.size := fun x hx => by
  obtain ⟨V, hV, _⟩ := h.map
  unfold stB at hx
  simp only [List.mem_cons] at hx
  rcases hx with rfl | rfl | rfl | hx
  · exact h.own.lt
  · exact h.set.own.lt
  · exact hV.lt
  · exact h.set.rowlt x (by simp [hx])
theorem Pgs.after {w w5 w6 : World} {u : Nat} {l l' : List Nat} {q p g b n : Nat} {X X' : TS} {sq sp sb : Nat} {v v' : Value} {C : List Nat} {S S' : PS} (P : Pgs w u l q p g b n X sq sp sb v C S)
    (ht : TD w5 l' q p g b n X') (hl' : ∀ x ∈ l', x ∈ l ∨ w.heap.size ≤ x) (hc5 : Chg (l ++ [g, b]) w w5) (hs : Sta w6 sq sp v' sb C S') (hc6 : Chg (stB sq sp sb v) w5 w6) (hn : Nb w5 v v') :
    Pgs w6 u l' q p g b n X' sq sp sb v' C S' ∧ Nb w v v' ∧ Chg (l ++ [g, b] ++ stB sq sp sb v) w w6 := by
  have hsz := hc5.size
  have hul := P.ul
  have hult := P.own.lt
  have hsl := P.sta.lt
  have hd := P.td.dlt
  have hd5 := ht.dlt
  have hm : ∀ x, x < w.heap.size → x ∉ l ++ [g, b] → x ∉ l' ++ [g, b] := fun x hx h1 h2 => by
    rcases List.mem_append.1 h2 with h2 | h2
    · rcases hl' x h2 with h3 | h3
      · exact h1 (List.mem_append_left _ h3)
      · omega
    · exact h1 (List.mem_append_right _ h2)
  refine ⟨⟨(P.own.chg hc5 P.ul).chg hc6 P.us, ht.chg hc6 (fun x hx => ?_), hs, hm u hult hul, ?_, ?_, fun x hx => hm x (P.sta.ap x hx).1 (P.cl x hx)⟩, hn.mono hsz, ?_⟩
  · have h1 := P.sl x hx
    have h2 := hm x (hsl x hx) h1.1
    simp only [List.mem_append, List.mem_cons, List.not_mem_nil, or_false, not_or] at h2
    exact ⟨h2.1, h1.2, h2.2.1, h2.2.2⟩
  · intro hx
    unfold stB at hx
    have h1 := P.us
    unfold stB at h1
    simp only [List.mem_cons, mem_rowOf, not_or] at hx h1
    rcases hx with e | e | e | e
    · exact h1.1 e
    · exact h1.2.1 e
    · exact h1.2.2.1 e
    · rcases hn with h3 | h3
      · exact h1.2.2.2 (h3 ▸ e)
      · have := h3 u e; omega
  · intro x hx
    have hold : x ∈ stB sq sp sb v → x ∉ l' ++ [g, b] ∧ x ≠ p := fun h1 => ⟨hm x (hsl x h1) (P.sl x h1).1, (P.sl x h1).2⟩
    unfold stB at hx hold
    simp only [List.mem_cons, mem_rowOf] at hx hold
    rcases hx with e | e | e | e
    · exact hold (.inl e)
    · exact hold (.inr (.inl e))
    · exact hold (.inr (.inr (.inl e)))
    · rcases hn with h3 | h3
      · exact hold (.inr (.inr (.inr (h3 ▸ e))))
      · have h4 := h3 x e
        refine ⟨fun h5 => ?_, by omega⟩
        rcases List.mem_append.1 h5 with h5 | h5
        · have := ht.lt x h5; omega
        · simp at h5; omega
  · exact (hc5.mono (fun x hx => .inl (List.mem_append_left _ hx))).trans (hc6.mono (fun x hx => .inl (List.mem_append_right _ hx)))
def ChS (u q sq g0 : Nat) (k n t : Int) (ck : Int) (a1 : Option Addr) (dn c1 : Nat) (a2 : Option Addr) (bn c2 : Nat) (W : World) : Prop :=
  W.cell? ⟨u, 0, none⟩ = some (.pointer (some ⟨q, 0, none⟩)) ∧ W.cell? ⟨u, 1, none⟩ = some (.pointer (some ⟨sq, 0, none⟩)) ∧
  W.cell? ⟨g0, 0, none⟩ = some (.int .u64 k) ∧ W.cell? ⟨g0, 1, none⟩ = some (.int .u64 n) ∧ W.cell? ⟨g0, 2, none⟩ = some (.int .u64 t) ∧ W.cell? ⟨g0, 3, none⟩ = some (.int .i64 ck) ∧ W.cell? ⟨g0, 4, none⟩ = some (.slice a1 dn c1) ∧ W.cell? ⟨g0, 5, none⟩ = some (.slice a2 bn c2)
theorem ChS.step {u q sq g0 : Nat} {k n t : Int} {ck : Int} {a1 : Option Addr} {dn c1 : Nat} {a2 : Option Addr} {bn c2 : Nat} {m : List Nat} {W W' : World} (h : ChS u q sq g0 k n t ck a1 dn c1 a2 bn c2 W) (hc : Chg m W W') (hu : u ∉ m) (hg : g0 ∉ m) : ChS u q sq g0 k n t ck a1 dn c1 a2 bn c2 W' := by
  obtain ⟨h0, h1, h2, h3, h4, h5, h6, h7⟩ := h
  exact ⟨hc.cell h0 hu, hc.cell h1 hu, hc.cell h2 hg, hc.cell h3 hg, hc.cell h4 hg, hc.cell h5 hg, hc.cell h6 hg, hc.cell h7 hg⟩
theorem app_commit {n : Nat} {F : Nat → Sec} {h : Nat} {L : List Rec} {r : Rec} (ho : okR r) (hfit : (frs L).length + 2 + r.length ≤ hsec n * 64) :
    appE n 0 h h L L r = 0 ∧ commitS n (appS n (calm F (fun _ => none) h L) r) = calm (cmF n F h h L (L ++ [r])) (fun _ => none) h (L ++ [r]) := by
  have e1 : appE n 0 h h L L r = 0 := by
    unfold appE
    rw [if_neg (by simpa using ho), if_neg (by simp), if_neg]
    unfold roomN
    simp
    omega
  refine ⟨e1, ?_⟩
  have e2 : appS n (calm F (fun _ => none) h L) r = ⟨F, fun _ => none, h, h, L, L ++ [r], 0⟩ := by
    unfold appS calm appL
    simp only [e1, if_true]
  rw [e2, commit_k0 (by unfold TS.idle idle; simp) rfl]
  rfl
set_option maxHeartbeats 1000000 in
set_option maxRecDepth 100000 in
theorem change_room (w : World) {u : Nat} {l : List Nat} {q p g b n : Nat} {F : Nat → Sec} {h : Nat} {L : List Rec} {sq sp sb : Nat} {v : Value} {C : List Nat} {S : PS} (P : Pgs w u l q p g b n (calm F (fun _ => none) h L) sq sp sb v C S)
    (r : Rc) (A : CeT) (hA : r.k = 2 → A.x = r.c ∧ CellV w C A) (ho : okN r) (ha : allow S r = true) (hl : S.T.length ≤ 999999) (hfit : (frs L).length + 2 + (encR r).length ≤ hsec n * 64) :
    Calls Tryz.prog 69 #[.pointer (some ⟨u, 0, none⟩), rcv (r.k : Int) r.n r.t A] w fun e w' => e = .returned (.int .i64 0) ∧ ∃ l' v', Hid (Pgs w' u l' q p g b n (calm (cmF n F h h L (L ++ [encR r])) (fun _ => none) h (L ++ [encR r])) sq sp sb v' C (exec S r)) ∧ (∀ x ∈ l', x ∈ l ∨ w.heap.size ≤ x) ∧ Nb w v v' ∧ Chg (l ++ [g, b] ++ stB sq sp sb v) w w' := by
  have hE := app_commit (n := n) (F := F) (h := h) (encR_ok ho) hfit
  obtain ⟨w1, HW1⟩ : ∃ W, Hid (w.alloc (rcb (r.k : Int) r.n r.t A) = W) := ⟨_, Lib.hid rfl⟩
  have hC1 : Chg [] w w1 := by rw [← HW1.out]; exact (Chg.refl [] w).alloc _
  have hob : Own w1 w.heap.size 101 [.int .u64 (r.k : Int), .int .u64 (r.n : Int), .int .u64 (r.t : Int), .int .i64 A.x.k, .slice A.a A.x.d.length A.c, .slice A.a2 A.x.b.length A.c2] := by rw [← HW1.out]; exact Own.new w _ _
  -- the calls
  have HEN : Hid (∀ W, Chg [] w W → Calls Tryz.prog 122 #[rcv (r.k : Int) r.n r.t A] W fun e w' => ∃ a c, e = .returned (.slice a (encR r).length c) ∧ Ro w' w'.heap.size a (u8s (encR r)) ∧ (∀ ad, a = some ad → w.heap.size ≤ ad.block) ∧ Chg [] W w') := Lib.hid (fun W hW =>
    (encoded_any W r A ho (fun e => ⟨(hA e).1, ((hA e).2.chg hW (by simp)).d, ((hA e).2.chg hW (by simp)).b⟩)).mono fun e w' ⟨a, c, h1, h2, h3, h4⟩ => ⟨a, c, h1, h2, fun ad e => Nat.le_trans hW.size (h3 ad e), h4⟩)
  have HAP : Hid (∀ W a c, Chg [] w W → Ro W W.heap.size a (u8s (encR r)) → (∀ ad, a = some ad → w.heap.size ≤ ad.block) → Calls Tryz.prog 58 #[.pointer (some ⟨q, 0, none⟩), .slice a (encR r).length c] W fun e w' => e = .returned (.int .i64 0) ∧ Hid (TDT W l q p g b n (appS n (calm F (fun _ => none) h L) (encR r)) w')) := Lib.hid (fun W a c hW hr hn =>
    (append_TD (P.td.kept hW) a (encR r) c W.heap.size hr (Nat.le_refl _) (fun _ x e hx => by have h1 := hn x e; have h2 := P.td.lt _ hx; omega)).mono fun e w' ⟨h1, h2⟩ => ⟨by rw [h1]; show Ending.returned (.int .i64 ((appE n 0 h h L L (encR r) : Nat) : Int)) = _; rw [hE.1]; rfl, h2⟩)
  have HP := Lib.hid P
  have HE := Lib.hid hE.2
  have HX : Hid (∀ W, Sta W sq sp v sb C S → (r.k = 2 → CellV W C A) → Calls Tryz.prog 43 #[.pointer (some ⟨sq, 0, none⟩), rcv (r.k : Int) r.n r.t A] W fun e w' => e = .returned (.tuple #[]) ∧ ∃ v', Sta w' sq sp v' sb C (exec S r) ∧ Chg (sq :: sp :: sb :: rowOf v) W w' ∧ Nb W v v') := Lib.hid (fun W hS hC =>
    exec_any W hS r A (fun e => ⟨(hA e).1, hC e⟩) ho ha hl)
  obtain ⟨d0, d1⟩ := (P.own.chg hC1 (by simp)).two
  have HS : Hid (ChS u q sq w.heap.size (r.k : Int) (r.n : Int) (r.t : Int) A.x.k A.a A.x.d.length A.c A.a2 A.x.b.length A.c2 w1) := Lib.hid ⟨d0, d1, by rw [hob.cell]; rfl, by rw [hob.cell]; rfl, by rw [hob.cell]; rfl, by rw [hob.cell]; rfl, by rw [hob.cell]; rfl, by rw [hob.cell]; rfl⟩
  have HC1 := Lib.hid hC1
  have HZ : Hid (w.heap.size ∉ l ++ [g, b]) := Lib.hid (fun hx => by
    have h3 := P.td.dlt
    rcases List.mem_append.1 hx with hx | hx
    · exact Nat.lt_irrefl _ (P.td.lt _ hx)
    · simp at hx; omega)
  have HA := Lib.hid hA
  unfold rcb at HW1
  unfold rcv at HEN HX ⊢
  clear P hE hC1 hob d0 d1 hA ho ha hl hfit
  obtain ⟨⟨ck, cd, cb⟩, a1, c1, a2, c2⟩ := A
  obtain ⟨k, nn, t, c⟩ := r
  simp only at HW1 HEN HX HS ⊢
  obtain ⟨dn, hdn⟩ : ∃ x, Hid (cd.length = x) := ⟨_, Lib.hid rfl⟩
  obtain ⟨bn, hbn⟩ : ∃ x, Hid (cb.length = x) := ⟨_, Lib.hid rfl⟩
  simp only [hdn.out, hbn.out] at HW1 HEN HX HS ⊢
  go_enter Tryz.func69, Tryz.ntmps69
  go_upto_region 1 with fail
  rw [HW1.out]
  refine wp_region_held_drew (S := (fun W : World => W.cell? ⟨u, 0, none⟩ = some (.pointer (some ⟨q, 0, none⟩)) ∧ W.cell? ⟨u, 1, none⟩ = some (.pointer (some ⟨sq, 0, none⟩)) ∧ W.cell? ⟨w.heap.size, 0, none⟩ = some (.int .u64 (k : Int)) ∧ W.cell? ⟨w.heap.size, 1, none⟩ = some (.int .u64 (nn : Int)) ∧ W.cell? ⟨w.heap.size, 2, none⟩ = some (.int .u64 (t : Int)) ∧ W.cell? ⟨w.heap.size, 3, none⟩ = some (.int .i64 ck) ∧ W.cell? ⟨w.heap.size, 4, none⟩ = some (.slice a1 dn c1) ∧ W.cell? ⟨w.heap.size, 5, none⟩ = some (.slice a2 bn c2))) (by kernel_rfl) (by have h9 := HS.out.step (m := []) (Chg.refl [] w1).drew (by simp) (by simp); exact h9) (fun hHeld => ?_)
  refine tkH (i := 0) (v := ?_) rfl hHeld ?_ ?_
  rotate_left
  · (intro w hSw; first | (go_simp; done) | (go_simp; with_reducible rfl))
  (try simp only [Act.put, sTt, sZz, sSs, sGt, sGs, sGz])
  refine tkH (i := 1) (v := ?_) rfl hHeld ?_ ?_
  rotate_left
  · (intro w hSw; first | (go_simp; done) | (go_simp; with_reducible rfl))
  (try simp only [Act.put, sTt, sZz, sSs, sGt, sGs, sGz])
  refine tkH (i := 2) (v := ?_) rfl hHeld ?_ ?_
  rotate_left
  · (intro w hSw; first | (go_simp; done) | (go_simp; with_reducible rfl))
  (try simp only [Act.put, sTt, sZz, sSs, sGt, sGs, sGz])
  refine tkH (i := 3) (v := ?_) rfl hHeld ?_ ?_
  rotate_left
  · (intro w hSw; first | (go_simp; done) | (go_simp; with_reducible rfl))
  (try simp only [Act.put, sTt, sZz, sSs, sGt, sGs, sGz])
  refine tkH (i := 4) (v := ?_) rfl hHeld ?_ ?_
  rotate_left
  · (intro w hSw; first | (go_simp; done) | (go_simp; with_reducible rfl))
  (try simp only [Act.put, sTt, sZz, sSs, sGt, sGs, sGz])
  refine wpAnyH_ready (rs := [5]) (by kernel_rfl) (by simp) (AllReadyH.cons rfl (fun K hK => ?_) AllReadyH.nil)
  have hH := hHeld
  (go_simp; go_at_call 122; refine (HEN.out _ HC1.out.drew).mono ?_; rintro e w2 ⟨a2', c2', rfl, hr2, hn2, hc2⟩)
  refine hK.out _ _ (by exact ChS.step hH hc2 (by simp) (by simp)) (fun hHq1 => ?_)
  clear hK K hH 
  have HC2 := Lib.hid (HC1.out.drew.trans hc2); have HR2 := Lib.hid (And.intro hr2 hn2)
  (try simp only [Act.put, sTt, sZz, sSs, sGt, sGs, sGz])
  refine wpAnyH_ready (rs := [6]) (by kernel_rfl) (by simp) (AllReadyH.cons rfl (fun K hK => ?_) AllReadyH.nil)
  have hH := hHq1
  (go_simp; go_at_call 58; refine (HAP.out _ _ _ HC2.out HR2.out.1 HR2.out.2).mono ?_; rintro e w3 ⟨rfl, ht3⟩; obtain ⟨l', ht4, hl4, hc4⟩ := ht3.out)
  refine hK.out _ _ (by exact ChS.step hH hc4 (fun hx => HP.out.ul (by simp [hx])) (fun hx => HZ.out (by simp [hx]))) (fun hHq2 => ?_)
  clear hK K hH hHq1
  (try simp only [Act.put, sTt, sZz, sSs, sGt, sGs, sGz])
  refine tkH (i := 7) (v := ?_) rfl hHq2 ?_ ?_
  rotate_left
  · (intro w hSw; first | (go_simp; done) | (go_simp; with_reducible rfl))
  (try simp only [Act.put, sTt, sZz, sSs, sGt, sGs, sGz])
  refine wpAnyH_done (by kernel_rfl) ?_ _
  have hEnd := hHq2
  have HZ2 : Hid (∀ x ∈ l', x ∈ l ∨ w.heap.size + 1 ≤ x) := Lib.hid (fun x hx => by
    rcases hl4 x hx with h1 | h1
    · exact .inl h1
    · have h2 := HC2.out.size
      have h3 : w1.heap.size = w.heap.size + 1 := by rw [← HW1.out, World.size_alloc]
      have h4 := hc2.size
      have h5 : w1.drew.heap.size = w1.heap.size := rfl
      exact .inr (by omega))
  have HC3 : Hid (Chg l w w3) := Lib.hid ((HC2.out.mono (by simp)).trans hc4)
  have HCM := Lib.hid (commit_TD ht4)
  have HQ3 : Hid (ChS u q sq w.heap.size (k : Int) (nn : Int) (t : Int) ck a1 dn c1 a2 bn c2 w3) := Lib.hid hEnd
  obtain ⟨u0, u1, _⟩ := hEnd
  clear hHeld hr2 hn2 hc2 ht3 ht4 hl4 hc4
  have HCOM : Hid (∀ w5, Hid (TD w5 l' q p g b n (commitS n (appS n (calm F (fun _ => none) h L) (encR ⟨k, nn, t, c⟩)))) → Chg (l' ++ [g, b]) w3 w5 → ChS u q sq w.heap.size (k : Int) (nn : Int) (t : Int) ck a1 dn c1 a2 bn c2 w5 ∧ Chg (l ++ [g, b]) w w5) := Lib.hid (fun w5 _ h5 => by
    have hult := HP.out.own.lt
    have hd := HP.out.td.dlt
    refine ⟨HQ3.out.step h5 (fun hx => ?_) (fun hx => ?_), (HC3.out.mono (fun x hx => .inl (List.mem_append_left _ hx))).then h5 (fun x hx => ?_)⟩
    · rcases List.mem_append.1 hx with hx | hx
      · rcases HZ2.out _ hx with h1 | h1
        · exact HP.out.ul (List.mem_append_left _ h1)
        · omega
      · exact HP.out.ul (List.mem_append_right _ hx)
    · rcases List.mem_append.1 hx with hx | hx
      · rcases HZ2.out _ hx with h1 | h1
        · exact HZ.out (List.mem_append_left _ h1)
        · omega
      · exact HZ.out (List.mem_append_right _ hx)
    · rcases List.mem_append.1 hx with hx | hx
      · rcases HZ2.out _ hx with h1 | h1
        · exact .inl (List.mem_append_left _ h1)
        · exact .inr (by omega)
      · exact .inl (List.mem_append_right _ hx))
  go_wp2_with (first
    | (go_at_call 59; refine HCM.out.mono ?_; rintro e w5 ⟨rfl, ht5, hc5⟩
       have HC5 := Lib.hid (HCOM.out w5 ht5 hc5); clear hc5)
    | fail)
  have HZ3 : Hid (w.heap.size ∉ stB sq sp sb v) := Lib.hid (fun hx => Nat.lt_irrefl _ (HP.out.sta.lt _ hx))
  have HEX : Hid (Calls Tryz.prog 43 #[.pointer (some ⟨sq, 0, none⟩), .agg #[.int .u64 (k : Int), .int .u64 (nn : Int), .int .u64 (t : Int), .int .i64 ck, .slice a1 dn c1, .slice a2 bn c2]] w5.drew fun e w' => e = .returned (.tuple #[]) ∧ ∃ v', Sta w' sq sp v' sb C (exec S ⟨k, nn, t, c⟩) ∧ Chg (sq :: sp :: sb :: rowOf v) w5.drew w' ∧ Nb w5.drew v v') :=
    Lib.hid (HX.out w5.drew (HP.out.sta.chg (HC5.out.2.drew) (fun x hx => (HP.out.sl x hx).1) HP.out.cl) (fun e => (HA.out e).2.chg HC5.out.2.drew HP.out.cl))
  clear HX HEN HAP HCM HCOM u0 u1
  refine wp_region_held_drew (S := (fun W : World => W.cell? ⟨u, 0, none⟩ = some (.pointer (some ⟨q, 0, none⟩)) ∧ W.cell? ⟨u, 1, none⟩ = some (.pointer (some ⟨sq, 0, none⟩)) ∧ W.cell? ⟨w.heap.size, 0, none⟩ = some (.int .u64 (k : Int)) ∧ W.cell? ⟨w.heap.size, 1, none⟩ = some (.int .u64 (nn : Int)) ∧ W.cell? ⟨w.heap.size, 2, none⟩ = some (.int .u64 (t : Int)) ∧ W.cell? ⟨w.heap.size, 3, none⟩ = some (.int .i64 ck) ∧ W.cell? ⟨w.heap.size, 4, none⟩ = some (.slice a1 dn c1) ∧ W.cell? ⟨w.heap.size, 5, none⟩ = some (.slice a2 bn c2))) (by kernel_rfl) (by have h9 := HC5.out.1.step (m := []) (Chg.refl [] w5).drew (by simp) (by simp); exact h9) (fun hHeld => ?_)
  refine tkH (i := 0) (v := ?_) rfl hHeld ?_ ?_
  rotate_left
  · (intro w hSw; first | (go_simp; done) | (go_simp; with_reducible rfl))
  (try simp only [Act.put, sTt, sZz, sSs, sGt, sGs, sGz])
  refine tkH (i := 1) (v := ?_) rfl hHeld ?_ ?_
  rotate_left
  · (intro w hSw; first | (go_simp; done) | (go_simp; with_reducible rfl))
  (try simp only [Act.put, sTt, sZz, sSs, sGt, sGs, sGz])
  refine tkH (i := 2) (v := ?_) rfl hHeld ?_ ?_
  rotate_left
  · (intro w hSw; first | (go_simp; done) | (go_simp; with_reducible rfl))
  (try simp only [Act.put, sTt, sZz, sSs, sGt, sGs, sGz])
  refine tkH (i := 3) (v := ?_) rfl hHeld ?_ ?_
  rotate_left
  · (intro w hSw; first | (go_simp; done) | (go_simp; with_reducible rfl))
  (try simp only [Act.put, sTt, sZz, sSs, sGt, sGs, sGz])
  refine tkH (i := 4) (v := ?_) rfl hHeld ?_ ?_
  rotate_left
  · (intro w hSw; first | (go_simp; done) | (go_simp; with_reducible rfl))
  (try simp only [Act.put, sTt, sZz, sSs, sGt, sGs, sGz])
  refine wpAnyH_ready (rs := [5]) (by kernel_rfl) (by simp) (AllReadyH.cons rfl (fun K hK => ?_) AllReadyH.nil)
  have hH := hHeld
  (go_simp; go_at_call 43; refine HEX.out.mono ?_; rintro e w6 ⟨rfl, v', hs6, hc6, hn6⟩)
  refine hK.out _ _ (by exact ChS.step hH hc6 HP.out.us HZ3.out) (fun hHq1 => ?_)
  clear hK K hH 
  (try simp only [Act.put, sTt, sZz, sSs, sGt, sGs, sGz])
  refine wpAnyH_done (by kernel_rfl) ?_ _
  have hEnd := hHq1
  have hc6' : Chg (stB sq sp sb v) w5 w6 := ((Chg.refl _ w5).drew).trans hc6
  have hte := ht5.out
  rw [HE.out] at hte
  have HFIN := Lib.hid (Pgs.after HP.out hte (fun x hx => (HZ2.out x hx).imp id (fun h1 => by omega)) HC5.out.2 hs6 hc6' (hn6.mono (Nat.le_refl _)))
  clear hEnd hHeld hs6 hc6 hn6 hc6' hte
  go_wp2_with fail
  go_ret
  exact ⟨rfl, l', v', Lib.hid HFIN.out.1, fun x hx => (HZ2.out x hx).imp id (fun h1 => by omega), HFIN.out.2.1, HFIN.out.2.2⟩
theorem right_lens {x : Ce} (h : right x = true) : x.d.length ≤ 100 ∧ x.b.length ≤ 4 := by
  rcases right_kind h with hk | hk
  · exact ⟨(right_data h hk).1, (right_data h hk).2.1⟩
  · rw [right_junk h hk]; exact ⟨Nat.zero_le _, Nat.zero_le _⟩
set_option maxHeartbeats 1000000 in
theorem Write_go (w : World) {u : Nat} {l : List Nat} {q p g b n : Nat} {X : TS} {sq sp sb : Nat} {v : Value} {C : List Nat} {S : PS} (P : Pgs w u l q p g b n X sq sp sb v C S) (a : Nat) (A : CeT) (ha : a < 1048576)
    (h1 : Ro w w.heap.size A.a (u8s A.x.d)) (h2 : Ro w w.heap.size A.a2 (bcs A.x.b)) (hr : right A.x = true) (ht : S.tr a = false) (hm : S.m a = none) (E : Int) (Q : World → Prop)
    (hch : ∀ W A', Chg [] w W → A'.x = A.x → NewC w W A' → Calls Tryz.prog 69 #[.pointer (some ⟨u, 0, none⟩), rcv 2 a 0 A'] W fun e w' => e = .returned (.int .i64 E) ∧ Q w') :
    Calls Tryz.prog 23 #[.pointer (some ⟨u, 0, none⟩), .int .u64 (a : Int), A.val] w fun e w' => e = .returned (.int .i64 E) ∧ Q w' := by
  obtain ⟨w1, HW1⟩ : ∃ W, Hid (w.alloc (.cells #[.int .i64 A.x.k, .slice A.a A.x.d.length A.c, .slice A.a2 A.x.b.length A.c2] 42) = W) := ⟨_, Lib.hid rfl⟩
  have hC1 : Chg [] w w1 := by rw [← HW1.out]; exact (Chg.refl [] w).alloc _
  have hob : Own w1 w.heap.size 42 [.int .i64 A.x.k, .slice A.a A.x.d.length A.c, .slice A.a2 A.x.b.length A.c2] := by rw [← HW1.out]; exact Own.new w _ _
  have hlen := right_lens hr
  have HRI : Hid (∀ W, Chg [] w W → Calls Tryz.prog 66 #[A.val] W fun e w' => e = .returned (.bool true) ∧ Chg [] W w') := Lib.hid (fun W hW => by
    have h9 := right_any A.x A.a A.c A.a2 A.c2 w.heap.size W (h2.below hW.low (Nat.le_refl _)) hW.size (by omega) (by omega)
    rw [hr] at h9
    exact h9.mono fun e w' ⟨x, y⟩ => ⟨x, low_chg y⟩)
  have HTR : Hid (∀ W, Chg [] w W → Calls Tryz.prog 67 #[.pointer (some ⟨sq, 0, none⟩), .int .u64 (a : Int)] W fun e w' => e = .returned (.bool false) ∧ Chg [] W w') := Lib.hid (fun W hW => by
    have h9 := isTrimmed_any W (P.sta.kept hW) a (by omega)
    rwa [ht] at h9)
  have HWR : Hid (∀ W, Chg [] w W → Calls Tryz.prog 68 #[.pointer (some ⟨sq, 0, none⟩), .int .u64 (a : Int)] W fun e w' => e = .returned (.bool false) ∧ Chg [] W w') := Lib.hid (fun W hW => by
    have h9 := isWritten_any W (P.sta.kept hW) a (by omega)
    rwa [hm] at h9)
  have HCO : Hid (∀ W, Chg [] w W → Calls Tryz.prog 70 #[A.val] W fun e w' => ∃ A', e = .returned A'.val ∧ A'.x = A.x ∧ Hid (NewC w w' A') ∧ Chg [] W w') := Lib.hid (fun W hW =>
    (copyOf_any A A.blocks W ⟨(h1.below hW.low (Nat.le_refl _)).mono hW.size, (h2.below hW.low (Nat.le_refl _)).mono hW.size, fun h0 _ e => CeT.mem_a h0 e, fun h0 _ e => CeT.mem_b h0 e⟩ (by omega) (by omega)).mono fun e w' ⟨A', x1, x2, x3, x4⟩ => ⟨A', x1, x2, Lib.hid ⟨x3.out.d, x3.out.b, fun ad e => Nat.le_trans hW.size (x3.out.da ad e), fun ad e => Nat.le_trans hW.size (x3.out.ba ad e)⟩, x4⟩)
  have HCH := Lib.hid hch
  have HC1 := Lib.hid hC1
  obtain ⟨u0, u1⟩ := (P.own.chg hC1 (by simp)).two
  have HU := Lib.hid P.own
  have e1 : decide ((1048576 : Int) ≤ (a : Int)) = false := decide_eq_false (by omega)
  have c0 : w1.cell? ⟨w.heap.size, 0, none⟩ = some (.int .i64 A.x.k) := by rw [hob.cell]; rfl
  have c1 : w1.cell? ⟨w.heap.size, 1, none⟩ = some (.slice A.a A.x.d.length A.c) := by rw [hob.cell]; rfl
  have c2 : w1.cell? ⟨w.heap.size, 2, none⟩ = some (.slice A.a2 A.x.b.length A.c2) := by rw [hob.cell]; rfl
  have HO := Lib.hid hob
  clear P hch hC1 hob h1 h2 hr ht hm hlen
  obtain ⟨⟨ck, cd, cb⟩, a1, c1', a2, c2'⟩ := A
  unfold CeT.val at HRI HCO ⊢
  simp only at HRI HCO HW1 HO c0 c1 c2 ⊢
  generalize cd.length = dn at HRI HCO HW1 HO c0 c1 c2 ⊢
  generalize cb.length = bn at HRI HCO HW1 HO c0 c1 c2 ⊢
  go_enter Tryz.func23, Tryz.ntmps23
  go_upto_region 1 with fail
  simp only [HW1.out]
  have HB : Hid (∀ W, Chg [] w1 W → W.cell? ⟨w.heap.size, 0, none⟩ = some (.int .i64 ck) ∧ W.cell? ⟨w.heap.size, 1, none⟩ = some (.slice a1 dn c1') ∧ W.cell? ⟨w.heap.size, 2, none⟩ = some (.slice a2 bn c2') ∧ W.cell? ⟨u, 1, none⟩ = some (.pointer (some ⟨sq, 0, none⟩))) := Lib.hid (fun W hW => ⟨hW.cell c0 (by simp), hW.cell c1 (by simp), hW.cell c2 (by simp), hW.cell u1 (by simp)⟩)
  go_wp2_with (first
    | (go_at_call 66; refine (HRI.out _ HC1.out).mono ?_; rintro e w2 ⟨rfl, hc2⟩
       obtain ⟨x0, x1, x2, x3⟩ := HB.out _ hc2
       have HC2 := Lib.hid hc2
       clear hc2)
    | (go_at_call 67; refine (HTR.out _ (HC1.out.trans HC2.out)).mono ?_; rintro e w3 ⟨rfl, hc3⟩
       obtain ⟨y0, y1, y2, y3⟩ := HB.out _ (HC2.out.trans hc3)
       have HC3 := Lib.hid (HC2.out.trans hc3)
       clear hc3)
    | (go_at_call 68; refine (HWR.out _ (HC1.out.trans HC3.out)).mono ?_; rintro e w4 ⟨rfl, hc4⟩
       obtain ⟨z0, z1, z2, z3⟩ := HB.out _ (HC3.out.trans hc4)
       have HC4 := Lib.hid (HC3.out.trans hc4)
       clear hc4)
    | (go_at_call 70; refine (HCO.out _ (HC1.out.trans HC4.out)).mono ?_; rintro e w5 ⟨A', rfl, hx5, hn5, hc5⟩
       have HCX := Lib.hid (HCH.out w5 A' (HC1.out.trans (HC4.out.trans hc5)) hx5 hn5.out)
       clear hx5 hn5 hc5
       obtain ⟨⟨k5, d5, b5⟩, a5, m5, a6, m6⟩ := A'
       unfold rcv at HCX
       simp only at HCX)
    | (go_at_call 69; refine HCX.out.mono ?_; rintro e w6 ⟨rfl, hq⟩)
    | fail)
  go_ret
  exact ⟨rfl, hq⟩
def zA : CeT := ⟨zCe, none, 0, none, 0⟩
set_option maxHeartbeats 1000000 in
theorem Write_wr (w : World) {u : Nat} {l : List Nat} {q p g b n : Nat} {X : TS} {sq sp sb : Nat} {v : Value} {C : List Nat} {S : PS} (P : Pgs w u l q p g b n X sq sp sb v C S) (a : Nat) (A : CeT) (ha : a < 1048576)
    (h1 : Ro w w.heap.size A.a (u8s A.x.d)) (h2 : Ro w w.heap.size A.a2 (bcs A.x.b)) (hr : right A.x = true) (ht : S.tr a = false) (hm : (S.m a).isSome = true) :
    Calls Tryz.prog 23 #[.pointer (some ⟨u, 0, none⟩), .int .u64 (a : Int), A.val] w fun e w' => e = .returned (.int .i64 81) ∧ Chg [] w w' := by
  obtain ⟨w1, HW1⟩ : ∃ W, Hid (w.alloc (.cells #[.int .i64 A.x.k, .slice A.a A.x.d.length A.c, .slice A.a2 A.x.b.length A.c2] 42) = W) := ⟨_, Lib.hid rfl⟩
  have hC1 : Chg [] w w1 := by rw [← HW1.out]; exact (Chg.refl [] w).alloc _
  have hob : Own w1 w.heap.size 42 [.int .i64 A.x.k, .slice A.a A.x.d.length A.c, .slice A.a2 A.x.b.length A.c2] := by rw [← HW1.out]; exact Own.new w _ _
  have hlen := right_lens hr
  have HRI : Hid (∀ W, Chg [] w W → Calls Tryz.prog 66 #[A.val] W fun e w' => e = .returned (.bool true) ∧ Chg [] W w') := Lib.hid (fun W hW => by
    have h9 := right_any A.x A.a A.c A.a2 A.c2 w.heap.size W (h2.below hW.low (Nat.le_refl _)) hW.size (by omega) (by omega)
    rw [hr] at h9
    exact h9.mono fun e w' ⟨x, y⟩ => ⟨x, low_chg y⟩)
  have HTR : Hid (∀ W, Chg [] w W → Calls Tryz.prog 67 #[.pointer (some ⟨sq, 0, none⟩), .int .u64 (a : Int)] W fun e w' => e = .returned (.bool false) ∧ Chg [] W w') := Lib.hid (fun W hW => by
    have h9 := isTrimmed_any W (P.sta.kept hW) a (by omega)
    rwa [ht] at h9)
  have HWR : Hid (∀ W, Chg [] w W → Calls Tryz.prog 68 #[.pointer (some ⟨sq, 0, none⟩), .int .u64 (a : Int)] W fun e w' => e = .returned (.bool true) ∧ Chg [] W w') := Lib.hid (fun W hW => by
    have h9 := isWritten_any W (P.sta.kept hW) a (by omega)
    rwa [hm] at h9)
  have HC1 := Lib.hid hC1
  obtain ⟨u0, u1⟩ := (P.own.chg hC1 (by simp)).two
  have HU := Lib.hid P.own
  have e1 : decide ((1048576 : Int) ≤ (a : Int)) = false := decide_eq_false (by omega)
  have c0 : w1.cell? ⟨w.heap.size, 0, none⟩ = some (.int .i64 A.x.k) := by rw [hob.cell]; rfl
  have c1 : w1.cell? ⟨w.heap.size, 1, none⟩ = some (.slice A.a A.x.d.length A.c) := by rw [hob.cell]; rfl
  have c2 : w1.cell? ⟨w.heap.size, 2, none⟩ = some (.slice A.a2 A.x.b.length A.c2) := by rw [hob.cell]; rfl
  have HO := Lib.hid hob
  clear P hC1 hob h1 h2 hr ht hm hlen
  obtain ⟨⟨ck, cd, cb⟩, a1, c1', a2, c2'⟩ := A
  unfold CeT.val at HRI ⊢
  simp only at HRI HW1 HO c0 c1 c2 ⊢
  generalize cd.length = dn at HRI HW1 HO c0 c1 c2 ⊢
  generalize cb.length = bn at HRI HW1 HO c0 c1 c2 ⊢
  go_enter Tryz.func23, Tryz.ntmps23
  go_upto_region 1 with fail
  simp only [HW1.out]
  have HB : Hid (∀ W, Chg [] w1 W → W.cell? ⟨w.heap.size, 0, none⟩ = some (.int .i64 ck) ∧ W.cell? ⟨w.heap.size, 1, none⟩ = some (.slice a1 dn c1') ∧ W.cell? ⟨w.heap.size, 2, none⟩ = some (.slice a2 bn c2') ∧ W.cell? ⟨u, 1, none⟩ = some (.pointer (some ⟨sq, 0, none⟩))) := Lib.hid (fun W hW => ⟨hW.cell c0 (by simp), hW.cell c1 (by simp), hW.cell c2 (by simp), hW.cell u1 (by simp)⟩)
  go_wp2_with (first
    | (go_at_call 66; refine (HRI.out _ HC1.out).mono ?_; rintro e w2 ⟨rfl, hc2⟩
       obtain ⟨x0, x1, x2, x3⟩ := HB.out _ hc2
       have HC2 := Lib.hid hc2
       clear hc2)
    | (go_at_call 67; refine (HTR.out _ (HC1.out.trans HC2.out)).mono ?_; rintro e w3 ⟨rfl, hc3⟩
       obtain ⟨y0, y1, y2, y3⟩ := HB.out _ (HC2.out.trans hc3)
       have HC3 := Lib.hid (HC2.out.trans hc3)
       clear hc3)
    | (go_at_call 68; refine (HWR.out _ (HC1.out.trans HC3.out)).mono ?_; rintro e w4 ⟨rfl, hc4⟩
       obtain ⟨z0, z1, z2, z3⟩ := HB.out _ (HC3.out.trans hc4)
       have HC4 := Lib.hid (HC3.out.trans hc4)
       clear hc4)
    | fail)
  go_ret
  exact ⟨rfl, HC1.out.trans HC4.out⟩
set_option maxHeartbeats 1000000 in
theorem Write_tr (w : World) {u : Nat} {l : List Nat} {q p g b n : Nat} {X : TS} {sq sp sb : Nat} {v : Value} {C : List Nat} {S : PS} (P : Pgs w u l q p g b n X sq sp sb v C S) (a : Nat) (A : CeT) (ha : a < 1048576)
    (h1 : Ro w w.heap.size A.a (u8s A.x.d)) (h2 : Ro w w.heap.size A.a2 (bcs A.x.b)) (hr : right A.x = true) (ht : S.tr a = true) :
    Calls Tryz.prog 23 #[.pointer (some ⟨u, 0, none⟩), .int .u64 (a : Int), A.val] w fun e w' => e = .returned (.int .i64 83) ∧ Chg [] w w' := by
  obtain ⟨w1, HW1⟩ : ∃ W, Hid (w.alloc (.cells #[.int .i64 A.x.k, .slice A.a A.x.d.length A.c, .slice A.a2 A.x.b.length A.c2] 42) = W) := ⟨_, Lib.hid rfl⟩
  have hC1 : Chg [] w w1 := by rw [← HW1.out]; exact (Chg.refl [] w).alloc _
  have hob : Own w1 w.heap.size 42 [.int .i64 A.x.k, .slice A.a A.x.d.length A.c, .slice A.a2 A.x.b.length A.c2] := by rw [← HW1.out]; exact Own.new w _ _
  have hlen := right_lens hr
  have HRI : Hid (∀ W, Chg [] w W → Calls Tryz.prog 66 #[A.val] W fun e w' => e = .returned (.bool true) ∧ Chg [] W w') := Lib.hid (fun W hW => by
    have h9 := right_any A.x A.a A.c A.a2 A.c2 w.heap.size W (h2.below hW.low (Nat.le_refl _)) hW.size (by omega) (by omega)
    rw [hr] at h9
    exact h9.mono fun e w' ⟨x, y⟩ => ⟨x, low_chg y⟩)
  have HTR : Hid (∀ W, Chg [] w W → Calls Tryz.prog 67 #[.pointer (some ⟨sq, 0, none⟩), .int .u64 (a : Int)] W fun e w' => e = .returned (.bool true) ∧ Chg [] W w') := Lib.hid (fun W hW => by
    have h9 := isTrimmed_any W (P.sta.kept hW) a (by omega)
    rwa [ht] at h9)
  have HC1 := Lib.hid hC1
  obtain ⟨u0, u1⟩ := (P.own.chg hC1 (by simp)).two
  have HU := Lib.hid P.own
  have e1 : decide ((1048576 : Int) ≤ (a : Int)) = false := decide_eq_false (by omega)
  have c0 : w1.cell? ⟨w.heap.size, 0, none⟩ = some (.int .i64 A.x.k) := by rw [hob.cell]; rfl
  have c1 : w1.cell? ⟨w.heap.size, 1, none⟩ = some (.slice A.a A.x.d.length A.c) := by rw [hob.cell]; rfl
  have c2 : w1.cell? ⟨w.heap.size, 2, none⟩ = some (.slice A.a2 A.x.b.length A.c2) := by rw [hob.cell]; rfl
  have HO := Lib.hid hob
  clear P hC1 hob h1 h2 hr ht hlen
  obtain ⟨⟨ck, cd, cb⟩, a1, c1', a2, c2'⟩ := A
  unfold CeT.val at HRI ⊢
  simp only at HRI HW1 HO c0 c1 c2 ⊢
  generalize cd.length = dn at HRI HW1 HO c0 c1 c2 ⊢
  generalize cb.length = bn at HRI HW1 HO c0 c1 c2 ⊢
  go_enter Tryz.func23, Tryz.ntmps23
  go_upto_region 1 with fail
  simp only [HW1.out]
  have HB : Hid (∀ W, Chg [] w1 W → W.cell? ⟨w.heap.size, 0, none⟩ = some (.int .i64 ck) ∧ W.cell? ⟨w.heap.size, 1, none⟩ = some (.slice a1 dn c1') ∧ W.cell? ⟨w.heap.size, 2, none⟩ = some (.slice a2 bn c2') ∧ W.cell? ⟨u, 1, none⟩ = some (.pointer (some ⟨sq, 0, none⟩))) := Lib.hid (fun W hW => ⟨hW.cell c0 (by simp), hW.cell c1 (by simp), hW.cell c2 (by simp), hW.cell u1 (by simp)⟩)
  go_wp2_with (first
    | (go_at_call 66; refine (HRI.out _ HC1.out).mono ?_; rintro e w2 ⟨rfl, hc2⟩
       obtain ⟨x0, x1, x2, x3⟩ := HB.out _ hc2
       have HC2 := Lib.hid hc2
       clear hc2)
    | (go_at_call 67; refine (HTR.out _ (HC1.out.trans HC2.out)).mono ?_; rintro e w3 ⟨rfl, hc3⟩
       obtain ⟨y0, y1, y2, y3⟩ := HB.out _ (HC2.out.trans hc3)
       have HC3 := Lib.hid (HC2.out.trans hc3)
       clear hc3)
    | fail)
  go_ret
  exact ⟨rfl, HC1.out.trans HC3.out⟩
set_option maxHeartbeats 1000000 in
theorem TrimOne_go (w : World) {u : Nat} {l : List Nat} {q p g b n : Nat} {X : TS} {sq sp sb : Nat} {v : Value} {C : List Nat} {S : PS} (P : Pgs w u l q p g b n X sq sp sb v C S) (a : Nat) (ha : a < 1048576) (ht : S.tr a = false) (E : Int) (Q : World → Prop)
    (hch : ∀ W, Chg [] w W → Calls Tryz.prog 69 #[.pointer (some ⟨u, 0, none⟩), rcv 4 a (a + 1) zA] W fun e w' => e = .returned (.int .i64 E) ∧ Q w') :
    Calls Tryz.prog 25 #[.pointer (some ⟨u, 0, none⟩), .int .u64 (a : Int)] w fun e w' => e = .returned (.int .i64 E) ∧ Q w' := by
  have HTR := isTrimmed_any w P.sta a (by omega)
  rw [ht] at HTR
  have HT := Lib.hid HTR
  have HCH : Hid (∀ W, Chg [] w W → Calls Tryz.prog 69 #[.pointer (some ⟨u, 0, none⟩), .agg #[.int .u64 4, .int .u64 (a : Int), .int .u64 ((a : Int) + 1), .int .i64 0, .slice none 0 0, .slice none 0 0]] W fun e w' => e = .returned (.int .i64 E) ∧ Q w') := Lib.hid hch
  obtain ⟨u0, u1⟩ := P.own.two
  have e1 : decide ((1048576 : Int) ≤ (a : Int)) = false := decide_eq_false (by omega)
  have hx0 : (0 : Int) ≤ (a : Int) := by omega
  have hx1 : (a : Int) < 1048576 := by omega
  clear P hch ht HTR
  go_enter Tryz.func25, Tryz.ntmps25
  go_wp2_with (first
    | (go_at_call 67; refine HT.out.mono ?_; rintro e w2 ⟨rfl, hc2⟩)
    | (go_at_call 69; refine (HCH.out _ hc2).mono ?_; rintro e w6 ⟨rfl, hq⟩)
    | fail)
  go_ret
  exact ⟨rfl, hq⟩
theorem TrimOne_tr (w : World) {u : Nat} {l : List Nat} {q p g b n : Nat} {X : TS} {sq sp sb : Nat} {v : Value} {C : List Nat} {S : PS} (P : Pgs w u l q p g b n X sq sp sb v C S) (a : Nat) (ha : a < 1048576) (ht : S.tr a = true) :
    Calls Tryz.prog 25 #[.pointer (some ⟨u, 0, none⟩), .int .u64 (a : Int)] w fun e w' => e = .returned (.int .i64 0) ∧ Chg [] w w' := by
  have HTR := isTrimmed_any w P.sta a (by omega)
  rw [ht] at HTR
  have HT := Lib.hid HTR
  obtain ⟨u0, u1⟩ := P.own.two
  have e1 : decide ((1048576 : Int) ≤ (a : Int)) = false := decide_eq_false (by omega)
  clear P ht HTR
  go_enter Tryz.func25, Tryz.ntmps25
  go_wp2_with (first
    | (go_at_call 67; refine HT.out.mono ?_; rintro e w2 ⟨rfl, hc2⟩)
    | fail)
  go_ret
  exact ⟨rfl, hc2⟩
theorem Trim_go (w : World) {u : Nat} {l : List Nat} {q p g b n : Nat} {X : TS} {sq sp sb : Nat} {v : Value} {C : List Nat} {S : PS} (P : Pgs w u l q p g b n X sq sp sb v C S) (a : Nat) (ha : a ≤ 1048576) (ht : S.mr < a) (E : Int) (Q : World → Prop)
    (hch : Calls Tryz.prog 69 #[.pointer (some ⟨u, 0, none⟩), rcv 3 a 0 zA] w fun e w' => e = .returned (.int .i64 E) ∧ Q w') :
    Calls Tryz.prog 24 #[.pointer (some ⟨u, 0, none⟩), .int .u64 (a : Int)] w fun e w' => e = .returned (.int .i64 E) ∧ Q w' := by
  have HCH : Hid (Calls Tryz.prog 69 #[.pointer (some ⟨u, 0, none⟩), .agg #[.int .u64 3, .int .u64 (a : Int), .int .u64 0, .int .i64 0, .slice none 0 0, .slice none 0 0]] w fun e w' => e = .returned (.int .i64 E) ∧ Q w') := Lib.hid hch
  obtain ⟨u0, u1⟩ := P.own.two
  obtain ⟨h0, h1, h2, h3, h4⟩ := P.sta.cells
  obtain ⟨z, hz⟩ : ∃ z, S.mr = z := ⟨_, rfl⟩
  rw [hz] at ht h2
  have e1 : decide ((1048576 : Int) < (a : Int)) = false := decide_eq_false (by omega)
  have e2 : decide ((a : Int) ≤ (z : Int)) = false := decide_eq_false (by omega)
  have e3 : decide (a ≤ z) = false := decide_eq_false (by omega)
  clear P hch ht hz
  go_enter Tryz.func24, Tryz.ntmps24
  go_wp2_with (first
    | (go_at_call 69; refine HCH.out.mono ?_; rintro e w6 ⟨rfl, hq⟩)
    | fail)
  go_ret
  exact ⟨rfl, hq⟩
theorem Trim_no (w : World) {u : Nat} {l : List Nat} {q p g b n : Nat} {X : TS} {sq sp sb : Nat} {v : Value} {C : List Nat} {S : PS} (P : Pgs w u l q p g b n X sq sp sb v C S) (a : Nat) (ha : a ≤ 1048576) (ht : a ≤ S.mr) :
    Calls Tryz.prog 24 #[.pointer (some ⟨u, 0, none⟩), .int .u64 (a : Int)] w fun e w' => e = .returned (.int .i64 0) ∧ w' = w := by
  obtain ⟨u0, u1⟩ := P.own.two
  obtain ⟨h0, h1, h2, h3, h4⟩ := P.sta.cells
  obtain ⟨z, hz⟩ : ∃ z, S.mr = z := ⟨_, rfl⟩
  rw [hz] at ht h2
  have e1 : decide ((1048576 : Int) < (a : Int)) = false := decide_eq_false (by omega)
  have e2 : decide ((a : Int) ≤ (z : Int)) = true := decide_eq_true (by omega)
  have e3 : decide (a ≤ z) = true := decide_eq_true (by omega)
  clear P ht hz
  go_enter Tryz.func24, Tryz.ntmps24
  go_wp2_with fail
  go_ret
  exact ⟨rfl, rfl⟩
theorem Trim_arg (w : World) (u : Nat) (a : Nat) (ha : 1048576 < a) :
    Calls Tryz.prog 24 #[.pointer (some ⟨u, 0, none⟩), .int .u64 (a : Int)] w fun e w' => e = .returned (.int .i64 1) ∧ w' = w := by
  have e1 : decide ((1048576 : Int) < (a : Int)) = true := decide_eq_true (by omega)
  clear ha
  go_enter Tryz.func24, Tryz.ntmps24
  go_wp2_with fail
  go_ret
  exact ⟨rfl, rfl⟩
theorem Seal_go (w : World) {u : Nat} {l : List Nat} {q p g b n : Nat} {X : TS} {sq sp sb : Nat} {v : Value} {C : List Nat} {S : PS} (P : Pgs w u l q p g b n X sq sp sb v C S) (a : Nat) (ha : a ≤ 1048576) (ht : S.ep < a) (E : Int) (Q : World → Prop)
    (hch : Calls Tryz.prog 69 #[.pointer (some ⟨u, 0, none⟩), rcv 1 a 0 zA] w fun e w' => e = .returned (.int .i64 E) ∧ Q w') :
    Calls Tryz.prog 26 #[.pointer (some ⟨u, 0, none⟩), .int .u64 (a : Int)] w fun e w' => e = .returned (.int .i64 E) ∧ Q w' := by
  have HCH : Hid (Calls Tryz.prog 69 #[.pointer (some ⟨u, 0, none⟩), .agg #[.int .u64 1, .int .u64 (a : Int), .int .u64 0, .int .i64 0, .slice none 0 0, .slice none 0 0]] w fun e w' => e = .returned (.int .i64 E) ∧ Q w') := Lib.hid hch
  obtain ⟨u0, u1⟩ := P.own.two
  obtain ⟨h0, h1, h2, h3, h4⟩ := P.sta.cells
  obtain ⟨z, hz⟩ : ∃ z, S.ep = z := ⟨_, rfl⟩
  rw [hz] at ht h0
  have e1 : decide ((1048576 : Int) < (a : Int)) = false := decide_eq_false (by omega)
  have e2 : decide ((a : Int) ≤ (z : Int)) = false := decide_eq_false (by omega)
  have e3 : decide (a ≤ z) = false := decide_eq_false (by omega)
  clear P hch ht hz
  go_enter Tryz.func26, Tryz.ntmps26
  go_wp2_with (first
    | (go_at_call 69; refine HCH.out.mono ?_; rintro e w6 ⟨rfl, hq⟩)
    | fail)
  go_ret
  exact ⟨rfl, hq⟩
theorem Seal_no (w : World) {u : Nat} {l : List Nat} {q p g b n : Nat} {X : TS} {sq sp sb : Nat} {v : Value} {C : List Nat} {S : PS} (P : Pgs w u l q p g b n X sq sp sb v C S) (a : Nat) (ha : a ≤ 1048576) (ht : a ≤ S.ep) :
    Calls Tryz.prog 26 #[.pointer (some ⟨u, 0, none⟩), .int .u64 (a : Int)] w fun e w' => e = .returned (.int .i64 84) ∧ w' = w := by
  obtain ⟨u0, u1⟩ := P.own.two
  obtain ⟨h0, h1, h2, h3, h4⟩ := P.sta.cells
  obtain ⟨z, hz⟩ : ∃ z, S.ep = z := ⟨_, rfl⟩
  rw [hz] at ht h0
  have e1 : decide ((1048576 : Int) < (a : Int)) = false := decide_eq_false (by omega)
  have e2 : decide ((a : Int) ≤ (z : Int)) = true := decide_eq_true (by omega)
  have e3 : decide (a ≤ z) = true := decide_eq_true (by omega)
  clear P ht hz
  go_enter Tryz.func26, Tryz.ntmps26
  go_wp2_with fail
  go_ret
  exact ⟨rfl, rfl⟩
theorem Seal_arg (w : World) (u : Nat) (a : Nat) (ha : 1048576 < a) :
    Calls Tryz.prog 26 #[.pointer (some ⟨u, 0, none⟩), .int .u64 (a : Int)] w fun e w' => e = .returned (.int .i64 1) ∧ w' = w := by
  have e1 : decide ((1048576 : Int) < (a : Int)) = true := decide_eq_true (by omega)
  clear ha
  go_enter Tryz.func26, Tryz.ntmps26
  go_wp2_with fail
  go_ret
  exact ⟨rfl, rfl⟩
theorem OpenE_go (w : World) {u : Nat} {l : List Nat} {q p g b n : Nat} {X : TS} {sq sp sb : Nat} {v : Value} {C : List Nat} {S : PS} (P : Pgs w u l q p g b n X sq sp sb v C S) (a : Nat) (ha : a ≤ 1048576) (ht : S.op < a) (E : Int) (Q : World → Prop)
    (hch : Calls Tryz.prog 69 #[.pointer (some ⟨u, 0, none⟩), rcv 5 a 0 zA] w fun e w' => e = .returned (.int .i64 E) ∧ Q w') :
    Calls Tryz.prog 27 #[.pointer (some ⟨u, 0, none⟩), .int .u64 (a : Int)] w fun e w' => e = .returned (.int .i64 E) ∧ Q w' := by
  have HCH : Hid (Calls Tryz.prog 69 #[.pointer (some ⟨u, 0, none⟩), .agg #[.int .u64 5, .int .u64 (a : Int), .int .u64 0, .int .i64 0, .slice none 0 0, .slice none 0 0]] w fun e w' => e = .returned (.int .i64 E) ∧ Q w') := Lib.hid hch
  obtain ⟨u0, u1⟩ := P.own.two
  obtain ⟨h0, h1, h2, h3, h4⟩ := P.sta.cells
  obtain ⟨z, hz⟩ : ∃ z, S.op = z := ⟨_, rfl⟩
  rw [hz] at ht h1
  have e1 : decide ((1048576 : Int) < (a : Int)) = false := decide_eq_false (by omega)
  have e2 : decide ((a : Int) ≤ (z : Int)) = false := decide_eq_false (by omega)
  have e3 : decide (a ≤ z) = false := decide_eq_false (by omega)
  clear P hch ht hz
  go_enter Tryz.func27, Tryz.ntmps27
  go_wp2_with (first
    | (go_at_call 69; refine HCH.out.mono ?_; rintro e w6 ⟨rfl, hq⟩)
    | fail)
  go_ret
  exact ⟨rfl, hq⟩
theorem OpenE_no (w : World) {u : Nat} {l : List Nat} {q p g b n : Nat} {X : TS} {sq sp sb : Nat} {v : Value} {C : List Nat} {S : PS} (P : Pgs w u l q p g b n X sq sp sb v C S) (a : Nat) (ha : a ≤ 1048576) (ht : a ≤ S.op) :
    Calls Tryz.prog 27 #[.pointer (some ⟨u, 0, none⟩), .int .u64 (a : Int)] w fun e w' => e = .returned (.int .i64 0) ∧ w' = w := by
  obtain ⟨u0, u1⟩ := P.own.two
  obtain ⟨h0, h1, h2, h3, h4⟩ := P.sta.cells
  obtain ⟨z, hz⟩ : ∃ z, S.op = z := ⟨_, rfl⟩
  rw [hz] at ht h1
  have e1 : decide ((1048576 : Int) < (a : Int)) = false := decide_eq_false (by omega)
  have e2 : decide ((a : Int) ≤ (z : Int)) = true := decide_eq_true (by omega)
  have e3 : decide (a ≤ z) = true := decide_eq_true (by omega)
  clear P ht hz
  go_enter Tryz.func27, Tryz.ntmps27
  go_wp2_with fail
  go_ret
  exact ⟨rfl, rfl⟩
theorem OpenE_arg (w : World) (u : Nat) (a : Nat) (ha : 1048576 < a) :
    Calls Tryz.prog 27 #[.pointer (some ⟨u, 0, none⟩), .int .u64 (a : Int)] w fun e w' => e = .returned (.int .i64 1) ∧ w' = w := by
  have e1 : decide ((1048576 : Int) < (a : Int)) = true := decide_eq_true (by omega)
  clear ha
  go_enter Tryz.func27, Tryz.ntmps27
  go_wp2_with fail
  go_ret
  exact ⟨rfl, rfl⟩
theorem TrimOne_arg (w : World) (u : Nat) (a : Nat) (ha : 1048576 ≤ a) :
    Calls Tryz.prog 25 #[.pointer (some ⟨u, 0, none⟩), .int .u64 (a : Int)] w fun e w' => e = .returned (.int .i64 1) ∧ w' = w := by
  have e1 : decide ((1048576 : Int) ≤ (a : Int)) = true := decide_eq_true (by omega)
  clear ha
  go_enter Tryz.func25, Tryz.ntmps25
  go_wp2_with fail
  go_ret
  exact ⟨rfl, rfl⟩
end Go.Proofs.YtmpajlpemabniaaGreat
