/-
  A state beside another one: with. No claim of their own.
-/
import Derived.Test.YtmpajlpemabniaaGreatJ30
namespace Go.Proofs.YtmpajlpemabniaaGreat
open Go.RowKit Go.Maps Go.Shelf Go.Deep
set_option linter.unusedVariables false
set_option linter.unusedSimpArgs false

/-- both parts of a copied state -/
structure Two (w W : World) (p' : Nat) (v' : Value) (b' : Nat) (T : List Rn) (V : Nat → Option Value) : Prop where
  set : New W w.heap.size p' v' T
  map : MapV W b' V
  lowb : w.heap.size ≤ b'
  chg : Chg [] w W
theorem Two.kept {w W W' : World} {p' : Nat} {v' : Value} {b' : Nat} {T : List Rn} {V : Nat → Option Value} (h : Two w W p' v' b' T V) (hc : Chg [] W W') : Two w W' p' v' b' T V :=
  ⟨⟨h.set.st.kept hc, h.set.lowp, h.set.lowg⟩, h.map.kept hc, h.lowb, h.chg.trans hc⟩
theorem New.low {w : World} {B B' p : Nat} {v : Value} {L : List Rn} (h : New w B p v L) (hB : B' ≤ B) : New w B' p v L := ⟨h.st, Nat.le_trans hB h.lowp, fun g hg => Nat.le_trans hB (h.lowg g hg)⟩
theorem Two.sta {w W : World} {q p : Nat} {v : Value} {b : Nat} {C : List Nat} {S : PS} {p' : Nat} {v' : Value} {b' q' : Nat} {V : Nat → Option Value} (x : Two w W p' v' b' S.T V) (h : Sta w q p v b C S) (hV2 : CelV w C S.m V)
    (ho : Own W q' 138 [.int .u64 (S.ep : Int), .int .u64 (S.op : Int), .int .u64 (S.mr : Int), .pointer (some ⟨p', 0, none⟩), .map (some b')]) (hq : w.heap.size ≤ q') : Sta W q' p' v' b' C S := by
  refine ⟨ho, x.set.st, ⟨V, x.map, hV2.chg x.chg (by simp)⟩, h.gd, fun y hy => ⟨Nat.lt_of_lt_of_le (h.ap y hy).1 x.chg.size, fun hx => ?_⟩⟩
  have h1 := (h.ap y hy).1
  have h2 := x.set.lowp
  have h3 := x.lowb
  simp only [List.mem_cons, mem_rowOf] at hx
  rcases hx with e | e | e | e
  · omega
  · omega
  · omega
  · have := x.set.lowg y e; omega
theorem pwith_fin {w W : World} {q p : Nat} {v : Value} {b : Nat} {C : List Nat} {S : PS} {p' : Nat} {v' : Value} {b' : Nat} {V : Nat → Option Value} (h : Sta w q p v b C S) (hV2 : CelV w C S.m V) {ep op mr : Nat} (h1 : S.ep = ep) (h2 : S.op = op) (h3 : S.mr = mr) (x : Two w W p' v' b' S.T V) :
    Sta (W.alloc (.cells #[.int .u64 (ep : Int), .int .u64 (op : Int), .int .u64 (mr : Int), .pointer (some ⟨p', 0, none⟩), .map (some b')] 138)) W.heap.size p' v' b' C S ∧ (∀ y ∈ W.heap.size :: p' :: b' :: rowOf v', w.heap.size ≤ y) ∧ Chg [] w (W.alloc (.cells #[.int .u64 (ep : Int), .int .u64 (op : Int), .int .u64 (mr : Int), .pointer (some ⟨p', 0, none⟩), .map (some b')] 138)) := by
  subst h1 h2 h3
  have hc := (Chg.refl [] W).alloc (.cells #[.int .u64 (S.ep : Int), .int .u64 (S.op : Int), .int .u64 (S.mr : Int), .pointer (some ⟨p', 0, none⟩), .map (some b')] 138)
  refine ⟨(x.kept hc).sta h hV2 (Own.new W _ _) x.chg.size, fun y hy => ?_, x.chg.trans hc⟩
  have h1 := x.chg.size
  have h2 := x.set.lowp
  have h3 := x.lowb
  simp only [List.mem_cons, mem_rowOf] at hy
  rcases hy with e | e | e | e
  · omega
  · omega
  · omega
  · exact x.set.lowg y e
set_option maxHeartbeats 1000000 in
set_option maxRecDepth 100000 in
theorem pwith_any (w : World) {q p : Nat} {v : Value} {b : Nat} {C : List Nat} {S : PS} (h : Sta w q p v b C S) (r : Rc) (A : CeT) (hA : r.k = 2 → A.x = r.c ∧ CellV w C A) (ho : okN r) (ha : allow S r = true) (hl : S.T.length ≤ 999999) :
    Calls Tryz.prog 124 #[.pointer (some ⟨q, 0, none⟩), rcv (r.k : Int) r.n r.t A] w fun e w' => ∃ q' p' v' b', e = .returned (.pointer (some ⟨q', 0, none⟩)) ∧ Sta w' q' p' v' b' C (exec S r) ∧ Chg [] w w' := by
  obtain ⟨V, hV, hV2⟩ := h.map
  obtain ⟨w1, HW1⟩ : ∃ W, Hid (w.alloc (rcb (r.k : Int) r.n r.t A) = W) := ⟨_, Lib.hid rfl⟩
  have hC1 : Chg [] w w1 := by rw [← HW1.out]; exact (Chg.refl [] w).alloc _
  have hob : Own w1 w.heap.size 101 [.int .u64 (r.k : Int), .int .u64 (r.n : Int), .int .u64 (r.t : Int), .int .i64 A.x.k, .slice A.a A.x.d.length A.c, .slice A.a2 A.x.b.length A.c2] := by rw [← HW1.out]; exact Own.new w _ _
  have HCP : Hid (∀ W, Chg [] w1 W → Calls Tryz.prog 183 #[.pointer (some ⟨p, 0, none⟩)] W fun e w' => ∃ p' v', e = .returned (.pointer (some ⟨p', 0, none⟩)) ∧ New w' w.heap.size p' v' S.T ∧ Chg [] W w') := Lib.hid (fun W hW1 => have hW := hC1.trans hW1;
    (Copy_some W p v S.T (h.set.kept hW)).mono fun e w' ⟨p', v', h1, h2, h3⟩ => ⟨p', v', h1, h2.low hW.size, low_chg h3⟩)
  have HMC : Hid (∀ W, Chg [] w1 W → Calls Tryz.prog 184 #[.map (some b)] W fun e w' => ∃ b', e = .returned (.map (some b')) ∧ MapV w' b' V ∧ w.heap.size ≤ b' ∧ Chg [] W w') := Lib.hid (fun W hW1 => by
    have hW := hC1.trans hW1
    obtain ⟨D, hD1, hD2⟩ := (hV.kept hW).own
    exact (AnyW.maps_Clone_owns cloneM 37 idR b 1048576 D W hD1).mono fun e w' ⟨h1, h2, h3, h4⟩ => ⟨_, h1, ⟨⟨D, h2, hD2⟩, hV.dom⟩, hW.size, low_chg h4⟩)
  have HEX : Hid (∀ W q' p' v' b', Sta W q' p' v' b' C S → Chg [] w W → Calls Tryz.prog 43 #[.pointer (some ⟨q', 0, none⟩), rcv (r.k : Int) r.n r.t A] W fun e w' => e = .returned (.tuple #[]) ∧ ∃ v'', Sta w' q' p' v'' b' C (exec S r) ∧ Chg (q' :: p' :: b' :: rowOf v') W w') := Lib.hid (fun W q' p' v' b' hS hW =>
    (exec_any W hS r A (fun e => ⟨(hA e).1, (hA e).2.chg hW (by simp)⟩) ho ha hl).mono fun e w' ⟨h1, v2, h2, h3, _⟩ => ⟨h1, v2, h2, h3⟩)
  obtain ⟨⟨d0, d1, d2, d3, d4⟩, _⟩ := (h.own.chg hC1 (by simp)).five
  have HS := Lib.hid (And.intro d0 (And.intro d1 (And.intro d2 (And.intro d3 (And.intro d4 (Chg.refl [] w1))))))
  have HC1 := Lib.hid hC1
  have HH := Lib.hid h
  have HV2 := Lib.hid hV2
  have HO := Lib.hid hob
  unfold rcb at HW1
  unfold rcv at HEX ⊢
  obtain ⟨ep, hep⟩ : ∃ x, Hid (S.ep = x) := ⟨_, Lib.hid rfl⟩
  obtain ⟨op, hop⟩ : ∃ x, Hid (S.op = x) := ⟨_, Lib.hid rfl⟩
  obtain ⟨mr, hmr⟩ : ∃ x, Hid (S.mr = x) := ⟨_, Lib.hid rfl⟩
  rw [hep.out, hop.out, hmr.out] at HS
  clear h hV hV2 hC1 hob d0 d1 d2 d3 d4 hA ho ha hl
  obtain ⟨⟨ck, cd, cb⟩, a1, c1, a2, c2⟩ := A
  obtain ⟨k, n, t, c⟩ := r
  simp only at HW1 HEX HO ⊢
  obtain ⟨dn, hdn⟩ : ∃ x, Hid (cd.length = x) := ⟨_, Lib.hid rfl⟩
  obtain ⟨bn, hbn⟩ : ∃ x, Hid (cb.length = x) := ⟨_, Lib.hid rfl⟩
  simp only [hdn.out, hbn.out] at HW1 HEX HO ⊢
  go_enter Tryz.func124, Tryz.ntmps124
  go_upto_region 1 with fail
  rw [HW1.out]
  go_cut [5] from 5 to 29 (fun v5 wx => ∃ q' p' v' b', v5 = .pointer (some ⟨q', 0, none⟩) ∧ Hid (Sta wx q' p' v' b' C S ∧ (∀ x ∈ q' :: p' :: b' :: rowOf v', w.heap.size ≤ x) ∧ Chg [] w wx ∧ Chg [] w1 wx))
  case first =>
    refine wp_region_held_drew (S := (fun W : World => W.cell? ⟨q, 0, none⟩ = some (.int .u64 (ep : Int)) ∧ W.cell? ⟨q, 1, none⟩ = some (.int .u64 (op : Int)) ∧ W.cell? ⟨q, 2, none⟩ = some (.int .u64 (mr : Int)) ∧ W.cell? ⟨q, 3, none⟩ = some (.pointer (some ⟨p, 0, none⟩)) ∧ W.cell? ⟨q, 4, none⟩ = some (.map (some b)) ∧ Chg [] w1 W)) (by kernel_rfl) (by have h9 := HS.out; exact ⟨h9.1, h9.2.1, h9.2.2.1, h9.2.2.2.1, h9.2.2.2.2.1, h9.2.2.2.2.2.drew⟩) (fun hHeld => ?_)
    refine wpAnyH_take (i := 0) (v := ?_) rfl (by kernel_rfl) (by kernel_rfl) (by kernel_rfl) (fun _ _ _ h => h) (Or.inl ⟨by kernel_rfl, ?_⟩) hHeld ?_
    rotate_left
    · (intro w hSw; first | (go_simp; done) | (go_simp; with_reducible rfl))
    (try simp only [Act.put, List.getElem_toArray, List.getElem_cons_succ, List.getElem_cons_zero, List.setIfInBounds_toArray, List.set_cons_zero, List.set_cons_succ])
    refine wpAnyH_take (i := 1) (v := ?_) rfl (by kernel_rfl) (by kernel_rfl) (by kernel_rfl) (fun _ _ _ h => h) (Or.inl ⟨by kernel_rfl, ?_⟩) hHeld ?_
    rotate_left
    · (intro w hSw; first | (go_simp; done) | (go_simp; with_reducible rfl))
    (try simp only [Act.put, List.getElem_toArray, List.getElem_cons_succ, List.getElem_cons_zero, List.setIfInBounds_toArray, List.set_cons_zero, List.set_cons_succ])
    refine wpAnyH_take (i := 2) (v := ?_) rfl (by kernel_rfl) (by kernel_rfl) (by kernel_rfl) (fun _ _ _ h => h) (Or.inl ⟨by kernel_rfl, ?_⟩) hHeld ?_
    rotate_left
    · (intro w hSw; first | (go_simp; done) | (go_simp; with_reducible rfl))
    (try simp only [Act.put, List.getElem_toArray, List.getElem_cons_succ, List.getElem_cons_zero, List.setIfInBounds_toArray, List.set_cons_zero, List.set_cons_succ])
    refine wpAnyH_take (i := 3) (v := ?_) rfl (by kernel_rfl) (by kernel_rfl) (by kernel_rfl) (fun _ _ _ h => h) (Or.inl ⟨by kernel_rfl, ?_⟩) hHeld ?_
    rotate_left
    · (intro w hSw; first | (go_simp; done) | (go_simp; with_reducible rfl))
    (try simp only [Act.put, List.getElem_toArray, List.getElem_cons_succ, List.getElem_cons_zero, List.setIfInBounds_toArray, List.set_cons_zero, List.set_cons_succ])
    refine wpAnyH_take (i := 4) (v := ?_) rfl (by kernel_rfl) (by kernel_rfl) (by kernel_rfl) (fun _ _ _ h => h) (Or.inl ⟨by kernel_rfl, ?_⟩) hHeld ?_
    rotate_left
    · (intro w hSw; first | (go_simp; done) | (go_simp; with_reducible rfl))
    (try simp only [Act.put, List.getElem_toArray, List.getElem_cons_succ, List.getElem_cons_zero, List.setIfInBounds_toArray, List.set_cons_zero, List.set_cons_succ])
    refine wpAnyH_take (i := 5) (v := ?_) rfl (by kernel_rfl) (by kernel_rfl) (by kernel_rfl) (fun _ _ _ h => h) (Or.inl ⟨by kernel_rfl, ?_⟩) hHeld ?_
    rotate_left
    · (intro w hSw; first | (go_simp; done) | (go_simp; with_reducible rfl))
    (try simp only [Act.put, List.getElem_toArray, List.getElem_cons_succ, List.getElem_cons_zero, List.setIfInBounds_toArray, List.set_cons_zero, List.set_cons_succ])
    refine wpAnyH_take (i := 6) (v := ?_) rfl (by kernel_rfl) (by kernel_rfl) (by kernel_rfl) (fun _ _ _ h => h) (Or.inl ⟨by kernel_rfl, ?_⟩) hHeld ?_
    rotate_left
    · (intro w hSw; first | (go_simp; done) | (go_simp; with_reducible rfl))
    (try simp only [Act.put, List.getElem_toArray, List.getElem_cons_succ, List.getElem_cons_zero, List.setIfInBounds_toArray, List.set_cons_zero, List.set_cons_succ])
    refine wpAnyH_take (i := 7) (v := ?_) rfl (by kernel_rfl) (by kernel_rfl) (by kernel_rfl) (fun _ _ _ h => h) (Or.inl ⟨by kernel_rfl, ?_⟩) hHeld ?_
    rotate_left
    · (intro w hSw; first | (go_simp; done) | (go_simp; with_reducible rfl))
    (try simp only [Act.put, List.getElem_toArray, List.getElem_cons_succ, List.getElem_cons_zero, List.setIfInBounds_toArray, List.set_cons_zero, List.set_cons_succ])
    refine wpAnyH_take (i := 8) (v := ?_) rfl (by kernel_rfl) (by kernel_rfl) (by kernel_rfl) (fun _ _ _ h => h) (Or.inl ⟨by kernel_rfl, ?_⟩) hHeld ?_
    rotate_left
    · (intro w hSw; first | (go_simp; done) | (go_simp; with_reducible rfl))
    (try simp only [Act.put, List.getElem_toArray, List.getElem_cons_succ, List.getElem_cons_zero, List.setIfInBounds_toArray, List.set_cons_zero, List.set_cons_succ])
    refine wpAnyH_take (i := 9) (v := ?_) rfl (by kernel_rfl) (by kernel_rfl) (by kernel_rfl) (fun _ _ _ h => h) (Or.inl ⟨by kernel_rfl, ?_⟩) hHeld ?_
    rotate_left
    · (intro w hSw; first | (go_simp; done) | (go_simp; with_reducible rfl))
    (try simp only [Act.put, List.getElem_toArray, List.getElem_cons_succ, List.getElem_cons_zero, List.setIfInBounds_toArray, List.set_cons_zero, List.set_cons_succ])
    refine wpAnyH_take (i := 10) (v := ?_) rfl (by kernel_rfl) (by kernel_rfl) (by kernel_rfl) (fun _ _ _ h => h) (Or.inl ⟨by kernel_rfl, ?_⟩) hHeld ?_
    rotate_left
    · (intro w hSw; first | (go_simp; done) | (go_simp; with_reducible rfl))
    (try simp only [Act.put, List.getElem_toArray, List.getElem_cons_succ, List.getElem_cons_zero, List.setIfInBounds_toArray, List.set_cons_zero, List.set_cons_succ])
    refine wpAnyH_take (i := 11) (v := ?_) rfl (by kernel_rfl) (by kernel_rfl) (by kernel_rfl) (fun _ _ _ h => h) (Or.inl ⟨by kernel_rfl, ?_⟩) hHeld ?_
    rotate_left
    · (intro w hSw; first | (go_simp; done) | (go_simp; with_reducible rfl))
    (try simp only [Act.put, List.getElem_toArray, List.getElem_cons_succ, List.getElem_cons_zero, List.setIfInBounds_toArray, List.set_cons_zero, List.set_cons_succ])
    refine wpAnyH_take (i := 12) (v := ?_) rfl (by kernel_rfl) (by kernel_rfl) (by kernel_rfl) (fun _ _ _ h => h) (Or.inl ⟨by kernel_rfl, ?_⟩) hHeld ?_
    rotate_left
    · (intro w hSw; first | (go_simp; done) | (go_simp; with_reducible rfl))
    (try simp only [Act.put, List.getElem_toArray, List.getElem_cons_succ, List.getElem_cons_zero, List.setIfInBounds_toArray, List.set_cons_zero, List.set_cons_succ])
    refine wpAnyH_take (i := 13) (v := ?_) rfl (by kernel_rfl) (by kernel_rfl) (by kernel_rfl) (fun _ _ _ h => h) (Or.inl ⟨by kernel_rfl, ?_⟩) hHeld ?_
    rotate_left
    · (intro w hSw; first | (go_simp; done) | (go_simp; with_reducible rfl))
    (try simp only [Act.put, List.getElem_toArray, List.getElem_cons_succ, List.getElem_cons_zero, List.setIfInBounds_toArray, List.set_cons_zero, List.set_cons_succ])
    refine wpAnyH_take (i := 14) (v := ?_) rfl (by kernel_rfl) (by kernel_rfl) (by kernel_rfl) (fun _ _ _ h => h) (Or.inl ⟨by kernel_rfl, ?_⟩) hHeld ?_
    rotate_left
    · (intro w hSw; first | (go_simp; done) | (go_simp; with_reducible rfl))
    (try simp only [Act.put, List.getElem_toArray, List.getElem_cons_succ, List.getElem_cons_zero, List.setIfInBounds_toArray, List.set_cons_zero, List.set_cons_succ])
    refine wpAnyH_take (i := 15) (v := ?_) rfl (by kernel_rfl) (by kernel_rfl) (by kernel_rfl) (fun _ _ _ h => h) (Or.inl ⟨by kernel_rfl, ?_⟩) hHeld ?_
    rotate_left
    · (intro w hSw; first | (go_simp; done) | (go_simp; with_reducible rfl))
    (try simp only [Act.put, List.getElem_toArray, List.getElem_cons_succ, List.getElem_cons_zero, List.setIfInBounds_toArray, List.set_cons_zero, List.set_cons_succ])
    refine wpAnyH_take (i := 17) (v := ?_) rfl (by kernel_rfl) (by kernel_rfl) (by kernel_rfl) (fun _ _ _ h => h) (Or.inl ⟨by kernel_rfl, ?_⟩) hHeld ?_
    rotate_left
    · (intro w hSw; first | (go_simp; done) | (go_simp; with_reducible rfl))
    (try simp only [Act.put, List.getElem_toArray, List.getElem_cons_succ, List.getElem_cons_zero, List.setIfInBounds_toArray, List.set_cons_zero, List.set_cons_succ])
    refine wpAnyH_take (i := 18) (v := ?_) rfl (by kernel_rfl) (by kernel_rfl) (by kernel_rfl) (fun _ _ _ h => h) (Or.inl ⟨by kernel_rfl, ?_⟩) hHeld ?_
    rotate_left
    · (intro w hSw; first | (go_simp; done) | (go_simp; with_reducible rfl))
    (try simp only [Act.put, List.getElem_toArray, List.getElem_cons_succ, List.getElem_cons_zero, List.setIfInBounds_toArray, List.set_cons_zero, List.set_cons_succ])
    refine wpAnyH_take (i := 19) (v := ?_) rfl (by kernel_rfl) (by kernel_rfl) (by kernel_rfl) (fun _ _ _ h => h) (Or.inl ⟨by kernel_rfl, ?_⟩) hHeld ?_
    rotate_left
    · (intro w hSw; first | (go_simp; done) | (go_simp; with_reducible rfl))
    (try simp only [Act.put, List.getElem_toArray, List.getElem_cons_succ, List.getElem_cons_zero, List.setIfInBounds_toArray, List.set_cons_zero, List.set_cons_succ])
    refine wpAnyH_take (i := 20) (v := ?_) rfl (by kernel_rfl) (by kernel_rfl) (by kernel_rfl) (fun _ _ _ h => h) (Or.inl ⟨by kernel_rfl, ?_⟩) hHeld ?_
    rotate_left
    · (intro w hSw; first | (go_simp; done) | (go_simp; with_reducible rfl))
    (try simp only [Act.put, List.getElem_toArray, List.getElem_cons_succ, List.getElem_cons_zero, List.setIfInBounds_toArray, List.set_cons_zero, List.set_cons_succ])
    refine wpAnyH_ready (rs := [16]) (by kernel_rfl) (by simp) (AllReadyH.cons rfl (fun K hK => ?_) AllReadyH.nil)
    have hH := hHeld
    (go_simp; go_at_call 183; refine (HCP.out _ hH.2.2.2.2.2).mono ?_; rintro e w2 ⟨p', v', rfl, hn, hb2⟩)
    refine hK.out _ _ (by exact ⟨hb2.cell hH.1 (by simp), hb2.cell hH.2.1 (by simp), hb2.cell hH.2.2.1 (by simp), hb2.cell hH.2.2.2.1 (by simp), hb2.cell hH.2.2.2.2.1 (by simp), hH.2.2.2.2.2.trans hb2⟩) (fun hHq1 => ?_)
    clear hK K hH 
    have HN := Lib.hid hn
    (try simp only [Act.put, List.getElem_toArray, List.getElem_cons_succ, List.getElem_cons_zero, List.setIfInBounds_toArray, List.set_cons_zero, List.set_cons_succ])
    refine wpAnyH_ready (rs := [21]) (by kernel_rfl) (by simp) (AllReadyH.cons rfl (fun K hK => ?_) AllReadyH.nil)
    have hH := hHq1
    (go_simp; go_at_call 184; refine (HMC.out _ hH.2.2.2.2.2).mono ?_; rintro e w3 ⟨b', rfl, hm3, hz3, hb3⟩; have HT : Hid (Two w w3 p' v' b' S.T V) := Lib.hid ⟨⟨HN.out.st.kept hb3, HN.out.lowp, HN.out.lowg⟩, hm3, hz3, HC1.out.trans (hH.2.2.2.2.2.trans hb3)⟩)
    refine hK.out _ _ (by exact ⟨hb3.cell hH.1 (by simp), hb3.cell hH.2.1 (by simp), hb3.cell hH.2.2.1 (by simp), hb3.cell hH.2.2.2.1 (by simp), hb3.cell hH.2.2.2.2.1 (by simp), hH.2.2.2.2.2.trans hb3⟩) (fun hHq2 => ?_)
    clear hK K hH hHq1
    (try simp only [Act.put, List.getElem_toArray, List.getElem_cons_succ, List.getElem_cons_zero, List.setIfInBounds_toArray, List.set_cons_zero, List.set_cons_succ])
    refine wpAnyH_take (i := 22) (v := ?_) rfl (by kernel_rfl) (by kernel_rfl) (by kernel_rfl) (fun _ _ _ h => h) (Or.inl ⟨by kernel_rfl, ?_⟩) hHq2 ?_
    rotate_left
    · (intro w hSw; first | (go_simp; done) | (go_simp; with_reducible rfl))
    (try simp only [Act.put, List.getElem_toArray, List.getElem_cons_succ, List.getElem_cons_zero, List.setIfInBounds_toArray, List.set_cons_zero, List.set_cons_succ])
    refine wpAnyH_ready (rs := [23]) (by kernel_rfl) (by simp) (AllReadyH.cons rfl (fun K hK => ?_) AllReadyH.nil)
    have hH := hHq2
    (go_simp; skip)
    refine hK.out _ _ (by exact ⟨((Chg.refl [] _).alloc _).cell hH.1 (by simp), ((Chg.refl [] _).alloc _).cell hH.2.1 (by simp), ((Chg.refl [] _).alloc _).cell hH.2.2.1 (by simp), ((Chg.refl [] _).alloc _).cell hH.2.2.2.1 (by simp), ((Chg.refl [] _).alloc _).cell hH.2.2.2.2.1 (by simp), hH.2.2.2.2.2.alloc _⟩) (fun hHq3 => ?_)
    clear hK K hH hHq2
    (try simp only [Act.put, List.getElem_toArray, List.getElem_cons_succ, List.getElem_cons_zero, List.setIfInBounds_toArray, List.set_cons_zero, List.set_cons_succ])
    refine wpAnyH_take (i := 24) (v := ?_) rfl (by kernel_rfl) (by kernel_rfl) (by kernel_rfl) (fun _ _ _ h => h) (Or.inl ⟨by kernel_rfl, ?_⟩) hHq3 ?_
    rotate_left
    · (intro w hSw; first | (go_simp; done) | (go_simp; with_reducible rfl))
    (try simp only [Act.put, List.getElem_toArray, List.getElem_cons_succ, List.getElem_cons_zero, List.setIfInBounds_toArray, List.set_cons_zero, List.set_cons_succ])
    refine wpAnyH_done (by kernel_rfl) ?_ _
    have hEnd := hHq3
    (go_wp2_with fail; go_meet; (case rel => exact ⟨_, p', v', b', rfl, Lib.hid ⟨(pwith_fin HH.out HV2.out hep.out hop.out hmr.out HT.out).1, (pwith_fin HH.out HV2.out hep.out hop.out hmr.out HT.out).2.1, (pwith_fin HH.out HV2.out hep.out hop.out hmr.out HT.out).2.2, hEnd.2.2.2.2.2⟩⟩))
  case rest =>
    rename World => wx
    obtain ⟨q', p', v', b', rfl, HX⟩ := hcut
    have hO2 := HO.out.chg HX.out.2.2.2 (by simp)
    have HE := Lib.hid (HEX.out wx q' p' v' b' HX.out.1 HX.out.2.2.1)
    have r0 : wx.cell? ⟨w.heap.size, 0, none⟩ = some (.int .u64 (k : Int)) := by rw [hO2.cell]; rfl
    have r1 : wx.cell? ⟨w.heap.size, 1, none⟩ = some (.int .u64 (n : Int)) := by rw [hO2.cell]; rfl
    have r2 : wx.cell? ⟨w.heap.size, 2, none⟩ = some (.int .u64 (t : Int)) := by rw [hO2.cell]; rfl
    have r3 : wx.cell? ⟨w.heap.size, 3, none⟩ = some (.int .i64 ck) := by rw [hO2.cell]; rfl
    have r4 : wx.cell? ⟨w.heap.size, 4, none⟩ = some (.slice a1 dn c1) := by rw [hO2.cell]; rfl
    have r5 : wx.cell? ⟨w.heap.size, 5, none⟩ = some (.slice a2 bn c2) := by rw [hO2.cell]; rfl
    clear hO2 HEX HCP HMC HS
    go_wp2_with (first
      | (go_at_call 43; refine HE.out.mono ?_; rintro e w4 ⟨rfl, v2, hs4, hc4⟩)
      | fail)
    go_ret
    exact ⟨q', p', v2, b', rfl, hs4, HX.out.2.2.1.then hc4 (fun y hy => .inr (HX.out.2.1 y hy))⟩
end Go.Proofs.YtmpajlpemabniaaGreat
