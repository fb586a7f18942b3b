/-
  A state beside another one: with. No claim of their own.
-/
import Derived.Test.YtmpajlpemabniaaGreatZk33
import Derived.Test.YtmpajlpemabniaaGreatZk32
import Derived.Test.YtmpajlpemabniaaGreatZk23
namespace Go.Proofs.YtmpajlpemabniaaGreat
open Go.RowKit Go.Maps Go.Shelf Go.Deep
set_option linter.unusedVariables false
set_option linter.unusedSimpArgs false

structure Two (w W : World) (p' : Nat) (v' : Value) (b' : Nat) (T : List Rn) (V : Nat → Option Value) : Prop where
  set : New W w.heap.size p' v' T
  map : MapV W b' V
  lowb : w.heap.size ≤ b'
  chg : Chg [] w W
theorem Two.kept {w W W' : World} {p' : Nat} {v' : Value} {b' : Nat} {T : List Rn} {V : Nat → Option Value} (h : Two w W p' v' b' T V) (hc : Chg [] W W') : Two w W' p' v' b' T V :=
  ⟨⟨h.set.st.kept hc, h.set.lowp, h.set.lowg⟩, h.map.kept hc, h.lowb, h.chg.trans hc⟩
theorem New.low {w : World} {B B' p : Nat} {v : Value} {L : List Rn} (h : New w B p v L) (hB : B' ≤ B) : New w B' p v L := ⟨h.st, Nat.le_trans hB h.lowp, fun g hg => Nat.le_trans hB (h.lowg g hg)⟩
theorem Two.sta {w W : World} {q p : Nat} {v : Value} {b : Nat} {C : List Nat} {S : PS} {p' : Nat} {v' : Value} {b' q' : Nat} {V : Nat → Option Value} (x : Two w W p' v' b' S.T V) (h : Sta w q p v b C S) (hV2 : CelV w C S.m V)
    (ho : Own W q' 138 [.int .u64 (S.ep : Int), .int .u64 (S.op : Int), .int .u64 (S.mr : Int), .pointer (some ⟨p', 0, none⟩), .map (some b')]) (hq : w.heap.size ≤ q') : Sta W q' p' v' b' C S := by
  refine ⟨ho, x.set.st, ⟨V, x.map, hV2.chg x.chg (by simp)⟩, h.gd, fun y hy => ⟨Nat.lt_of_lt_of_le (h.ap y hy).1 x.chg.size, fun hx => ?_⟩⟩
  have h1 := (h.ap y hy).1
  have h2 := x.set.lowp
  have h3 := x.lowb
  simp only [List.mem_cons, mem_rowOf] at hx
  rcases hx with e | e | e | e
  · omega
  · omega
  · omega
  · have := x.set.lowg y e; omega
theorem pwith_fin {w W : World} {q p : Nat} {v : Value} {b : Nat} {C : List Nat} {S : PS} {p' : Nat} {v' : Value} {b' : Nat} {V : Nat → Option Value} (h : Sta w q p v b C S) (hV2 : CelV w C S.m V) {ep op mr : Nat} (h1 : S.ep = ep) (h2 : S.op = op) (h3 : S.mr = mr) (x : Two w W p' v' b' S.T V) :
    Sta (W.alloc (.cells #[.int .u64 (ep : Int), .int .u64 (op : Int), .int .u64 (mr : Int), .pointer (some ⟨p', 0, none⟩), .map (some b')] 138)) W.heap.size p' v' b' C S ∧ (∀ y ∈ W.heap.size :: p' :: b' :: rowOf v', w.heap.size ≤ y) ∧ Chg [] w (W.alloc (.cells #[.int .u64 (ep : Int), .int .u64 (op : Int), .int .u64 (mr : Int), .pointer (some ⟨p', 0, none⟩), .map (some b')] 138)) := by
  subst h1 h2 h3
  have hc := (Chg.refl [] W).alloc (.cells #[.int .u64 (S.ep : Int), .int .u64 (S.op : Int), .int .u64 (S.mr : Int), .pointer (some ⟨p', 0, none⟩), .map (some b')] 138)
  refine ⟨(x.kept hc).sta h hV2 (Own.new W _ _) x.chg.size, fun y hy => ?_, x.chg.trans hc⟩
  have h1 := x.chg.size
  have h2 := x.set.lowp
  have h3 := x.lowb
  simp only [List.mem_cons, mem_rowOf] at hy
  rcases hy with e | e | e | e
  · omega
  · omega
  · omega
  · exact x.set.lowg y e
set_option maxHeartbeats 1000000 in
set_option maxRecDepth 100000 in
theorem pwith_any (w : World) {q p : Nat} {v : Value} {b : Nat} {C : List Nat} {S : PS} (h : Sta w q p v b C S) (r : Rc) (A : CeT) (hA : r.k = 2 → A.x = r.c ∧ CellV w C A) (ho : okN r) (ha : allow S r = true) (hl : S.T.length ≤ 999999) :
    Calls Tryz.prog 124 #[.pointer (some ⟨q, 0, none⟩), rcv (r.k : Int) r.n r.t A] w fun e w' => ∃ q' p' v' b', e = .returned (.pointer (some ⟨q', 0, none⟩)) ∧ Sta w' q' p' v' b' C (exec S r) ∧ Chg [] w w' := by
  obtain ⟨V, hV, hV2⟩ := h.map
  obtain ⟨w1, HW1⟩ : ∃ W, Hid (w.alloc (rcb (r.k : Int) r.n r.t A) = W) := ⟨_, Lib.hid rfl⟩
  have hC1 : Chg [] w w1 := by rw [← HW1.out]; exact (Chg.refl [] w).alloc _
  have hob : Own w1 w.heap.size 101 [.int .u64 (r.k : Int), .int .u64 (r.n : Int), .int .u64 (r.t : Int), .int .i64 A.x.k, .slice A.a A.x.d.length A.c, .slice A.a2 A.x.b.length A.c2] := by rw [← HW1.out]; exact Own.new w _ _
  have HCP : Hid (∀ W, Chg [] w1 W → Calls Tryz.prog 183 #[.pointer (some ⟨p, 0, none⟩)] W fun e w' => ∃ p' v', e = .returned (.pointer (some ⟨p', 0, none⟩)) ∧ New w' w.heap.size p' v' S.T ∧ Chg [] W w') := Lib.hid (fun W hW1 => have hW := hC1.trans hW1;
    (Copy_some W p v S.T (h.set.kept hW)).mono fun e w' ⟨p', v', h1, h2, h3⟩ => ⟨p', v', h1, h2.low hW.size, low_chg h3⟩)
  have HMC : Hid (∀ W, Chg [] w1 W → Calls Tryz.prog 184 #[.map (some b)] W fun e w' => ∃ b', e = .returned (.map (some b')) ∧ MapV w' b' V ∧ w.heap.size ≤ b' ∧ Chg [] W w') := Lib.hid (fun W hW1 => by
    have hW := hC1.trans hW1
    obtain ⟨D, hD1, hD2⟩ := (hV.kept hW).own
    exact (AnyW.maps_Clone_owns cloneM 37 idR b 1048576 D W hD1).mono fun e w' ⟨h1, h2, h3, h4⟩ => ⟨_, h1, ⟨⟨D, h2, hD2⟩, hV.dom⟩, hW.size, low_chg h4⟩)
  have HEX : Hid (∀ W q' p' v' b', Sta W q' p' v' b' C S → Chg [] w W → Calls Tryz.prog 43 #[.pointer (some ⟨q', 0, none⟩), rcv (r.k : Int) r.n r.t A] W fun e w' => e = .returned (.tuple #[]) ∧ ∃ v'', Sta w' q' p' v'' b' C (exec S r) ∧ Chg (q' :: p' :: b' :: rowOf v') W w') := Lib.hid (fun W q' p' v' b' hS hW =>
    (exec_any W hS r A (fun e => ⟨(hA e).1, (hA e).2.chg hW (by simp)⟩) ho ha hl).mono fun e w' ⟨h1, v2, h2, h3, _⟩ => ⟨h1, v2, h2, h3⟩)
  obtain ⟨⟨d0, d1, d2, d3, d4⟩, _⟩ := (h.own.chg hC1 (by simp)).five
  have HS := Lib.hid (And.intro d0 (And.intro d1 (And.intro d2 (And.intro d3 (And.intro d4 (Chg.refl [] w1))))))
  have HC1 := Lib.hid hC1
  have HH := Lib.hid h
  have HV2 := Lib.hid hV2
  have HO := Lib.hid hob
  unfold rcb at HW1
  unfold rcv at HEX ⊢
  obtain ⟨ep, hep⟩ : ∃ x, Hid (S.ep = x) := ⟨_, Lib.hid rfl⟩
  obtain ⟨op, hop⟩ : ∃ x, Hid (S.op = x) := ⟨_, Lib.hid rfl⟩
  obtain ⟨mr, hmr⟩ : ∃ x, Hid (S.mr = x) := ⟨_, Lib.hid rfl⟩
  rw [hep.out, hop.out, hmr.out] at HS
  clear h hV hV2 hC1 hob d0 d1 d2 d3 d4 hA ho ha hl
  obtain ⟨⟨ck, cd, cb⟩, a1, c1, a2, c2⟩ := A
  obtain ⟨k, n, t, c⟩ := r
  simp only at HW1 HEX HO ⊢
  obtain ⟨dn, hdn⟩ : ∃ x, Hid (cd.length = x) := ⟨_, Lib.hid rfl⟩
  obtain ⟨bn, hbn⟩ : ∃ x, Hid (cb.length = x) := ⟨_, Lib.hid rfl⟩
  simp only [hdn.out, hbn.out] at HW1 HEX HO ⊢
  go_enter Tryz.func124, Tryz.ntmps124
  go_upto_region 1 with fail
  rw [HW1.out]
  go_cut [5] from 5 to 29 (fun v5 wx => ∃ q' p' v' b', v5 = .pointer (some ⟨q', 0, none⟩) ∧ Hid (Sta wx q' p' v' b' C S ∧ (∀ x ∈ q' :: p' :: b' :: rowOf v', w.heap.size ≤ x) ∧ Chg [] w wx ∧ Chg [] w1 wx))
  case first =>
    refine wp_region_held_drew (S := (fun W : World => W.cell? ⟨q, 0, none⟩ = some (.int .u64 (ep : Int)) ∧ W.cell? ⟨q, 1, none⟩ = some (.int .u64 (op : Int)) ∧ W.cell? ⟨q, 2, none⟩ = some (.int .u64 (mr : Int)) ∧ W.cell? ⟨q, 3, none⟩ = some (.pointer (some ⟨p, 0, none⟩)) ∧ W.cell? ⟨q, 4, none⟩ = some (.map (some b)) ∧ Chg [] w1 W)) (by kernel_rfl) (by have h9 := HS.out; exact ⟨h9.1, h9.2.1, h9.2.2.1, h9.2.2.2.1, h9.2.2.2.2.1, h9.2.2.2.2.2.drew⟩) (fun hHeld => ?_)
    refine wpAnyH_take (i := 0) (v := ?_) rfl (by kernel_rfl) (by kernel_rfl) (by kernel_rfl) (fun _ _ _ h => h) (Or.inl ⟨by kernel_rfl, ?_⟩) hHeld ?_
    rotate_left
    · (intro w hSw; first | (go_simp; done) | (go_simp; with_reducible rfl))
    (try simp only [Act.put, List.getElem_toArray, List.getElem_cons_succ, List.getElem_cons_zero, List.setIfInBounds_toArray, List.set_cons_zero, List.set_cons_succ])
    refine wpAnyH_take (i := 1) (v := ?_) rfl (by kernel_rfl) (by kernel_rfl) (by kernel_rfl) (fun _ _ _ h => h) (Or.inl ⟨by kernel_rfl, ?_⟩) hHeld ?_
    rotate_left
    · (intro w hSw; first | (go_simp; done) | (go_simp; with_reducible rfl))
    (try simp only [Act.put, List.getElem_toArray, List.getElem_cons_succ, List.getElem_cons_zero, List.setIfInBounds_toArray, List.set_cons_zero, List.set_cons_succ])
    refine wpAnyH_take (i := 2) (v := ?_) rfl (by kernel_rfl) (by kernel_rfl) (by kernel_rfl) (fun _ _ _ h => h) (Or.inl ⟨by kernel_rfl, ?_⟩) hHeld ?_
    rotate_left
    · (intro w hSw; first | (go_simp; done) | (go_simp; with_reducible rfl))
    (try simp only [Act.put, List.getElem_toArray, List.getElem_cons_succ, List.getElem_cons_zero, List.setIfInBounds_toArray, List.set_cons_zero, List.set_cons_succ])
    refine wpAnyH_take (i := 3) (v := ?_) rfl (by kernel_rfl) (by kernel_rfl) (by kernel_rfl) (fun _ _ _ h => h) (Or.inl ⟨by kernel_rfl, ?_⟩) hHeld ?_
    rotate_left
    · (intro w hSw; first | (go_simp; done) | (go_simp; with_reducible rfl))
    (try simp only [Act.put, List.getElem_toArray, List.getElem_cons_succ, List.getElem_cons_zero, List.setIfInBounds_toArray, List.set_cons_zero, List.set_cons_succ])
    refine wpAnyH_take (i := 4) (v := ?_) rfl (by kernel_rfl) (by kernel_rfl) (by kernel_rfl) (fun _ _ _ h => h) (Or.inl ⟨by kernel_rfl, ?_⟩) hHeld ?_
    rotate_left
    · (intro w hSw; first | (go_simp; done) | (go_simp; with_reducible rfl))
    (try simp only [Act.put, List.getElem_toArray, List.getElem_cons_succ, List.getElem_cons_zero, List.setIfInBounds_toArray, List.set_cons_zero, List.set_cons_succ])
    refine wpAnyH_take (i := 5) (v := ?_) rfl (by kernel_rfl) (by kernel_rfl) (by kernel_rfl) (fun _ _ _ h => h) (Or.inl ⟨by kernel_rfl, ?_⟩) hHeld ?_
    rotate_left
    · (intro w hSw; first | (go_simp; done) | (go_simp; with_reducible rfl))
    (try simp only [Act.put, List.getElem_toArray, List.getElem_cons_succ, List.getElem_cons_zero, List.setIfInBounds_toArray, List.set_cons_zero, List.set_cons_succ])
    refine wpAnyH_take (i := 6) (v := ?_) rfl (by kernel_rfl) (by kernel_rfl) (by kernel_rfl) (fun _ _ _ h => h) (Or.inl ⟨by kernel_rfl, ?_⟩) hHeld ?_
    rotate_left
    · (intro w hSw; first | (go_simp; done) | (go_simp; with_reducible rfl))
    (try simp only [Act.put, List.getElem_toArray, List.getElem_cons_succ, List.getElem_cons_zero, List.setIfInBounds_toArray, List.set_cons_zero, List.set_cons_succ])
    refine wpAnyH_take (i := 7) (v := ?_) rfl (by kernel_rfl) (by kernel_rfl) (by kernel_rfl) (fun _ _ _ h => h) (Or.inl ⟨by kernel_rfl, ?_⟩) hHeld ?_
    rotate_left
    · (intro w hSw; first | (go_simp; done) | (go_simp; with_reducible rfl))
    (try simp only [Act.put, List.getElem_toArray, List.getElem_cons_succ, List.getElem_cons_zero, List.setIfInBounds_toArray, List.set_cons_zero, List.set_cons_succ])
    refine wpAnyH_take (i := 8) (v := ?_) rfl (by kernel_rfl) (by kernel_rfl) (by kernel_rfl) (fun _ _ _ h => h) (Or.inl ⟨by kernel_rfl, ?_⟩) hHeld ?_
    rotate_left
    · (intro w hSw; first | (go_simp; done) | (go_simp; with_reducible rfl))
    (try simp only [Act.put, List.getElem_toArray, List.getElem_cons_succ, List.getElem_cons_zero, List.setIfInBounds_toArray, List.set_cons_zero, List.set_cons_succ])
    refine wpAnyH_take (i := 9) (v := ?_) rfl (by kernel_rfl) (by kernel_rfl) (by kernel_rfl) (fun _ _ _ h => h) (Or.inl ⟨by kernel_rfl, ?_⟩) hHeld ?_
    rotate_left
    · (intro w hSw; first | (go_simp; done) | (go_simp; with_reducible rfl))
    (try simp only [Act.put, List.getElem_toArray, List.getElem_cons_succ, List.getElem_cons_zero, List.setIfInBounds_toArray, List.set_cons_zero, List.set_cons_succ])
    refine wpAnyH_take (i := 10) (v := ?_) rfl (by kernel_rfl) (by kernel_rfl) (by kernel_rfl) (fun _ _ _ h => h) (Or.inl ⟨by kernel_rfl, ?_⟩) hHeld ?_
    rotate_left
    · (intro w hSw; first | (go_simp; done) | (go_simp; with_reducible rfl))
    (try simp only [Act.put, List.getElem_toArray, List.getElem_cons_succ, List.getElem_cons_zero, List.setIfInBounds_toArray, List.set_cons_zero, List.set_cons_succ])
    refine wpAnyH_take (i := 11) (v := ?_) rfl (by kernel_rfl) (by kernel_rfl) (by kernel_rfl) (fun _ _ _ h => h) (Or.inl ⟨by kernel_rfl, ?_⟩) hHeld ?_
    rotate_left
    · (intro w hSw; first | (go_simp; done) | (go_simp; with_reducible rfl))
    (try simp only [Act.put, List.getElem_toArray, List.getElem_cons_succ, List.getElem_cons_zero, List.setIfInBounds_toArray, List.set_cons_zero, List.set_cons_succ])
    refine wpAnyH_take (i := 12) (v := ?_) rfl (by kernel_rfl) (by kernel_rfl) (by kernel_rfl) (fun _ _ _ h => h) (Or.inl ⟨by kernel_rfl, ?_⟩) hHeld ?_
    rotate_left
    · (intro w hSw; first | (go_simp; done) | (go_simp; with_reducible rfl))
    (try simp only [Act.put, List.getElem_toArray, List.getElem_cons_succ, List.getElem_cons_zero, List.setIfInBounds_toArray, List.set_cons_zero, List.set_cons_succ])
    refine wpAnyH_take (i := 13) (v := ?_) rfl (by kernel_rfl) (by kernel_rfl) (by kernel_rfl) (fun _ _ _ h => h) (Or.inl ⟨by kernel_rfl, ?_⟩) hHeld ?_
    rotate_left
    · (intro w hSw; first | (go_simp; done) | (go_simp; with_reducible rfl))
    (try simp only [Act.put, List.getElem_toArray, List.getElem_cons_succ, List.getElem_cons_zero, List.setIfInBounds_toArray, List.set_cons_zero, List.set_cons_succ])
    refine wpAnyH_take (i := 14) (v := ?_) rfl (by kernel_rfl) (by kernel_rfl) (by kernel_rfl) (fun _ _ _ h => h) (Or.inl ⟨by kernel_rfl, ?_⟩) hHeld ?_
    rotate_left
    · (intro w hSw; first | (go_simp; done) | (go_simp; with_reducible rfl))
    (try simp only [Act.put, List.getElem_toArray, List.getElem_cons_succ, List.getElem_cons_zero, List.setIfInBounds_toArray, List.set_cons_zero, List.set_cons_succ])
    refine wpAnyH_take (i := 15) (v := ?_) rfl (by kernel_rfl) (by kernel_rfl) (by kernel_rfl) (fun _ _ _ h => h) (Or.inl ⟨by kernel_rfl, ?_⟩) hHeld ?_
    rotate_left
    · (intro w hSw; first | (go_simp; done) | (go_simp; with_reducible rfl))
    (try simp only [Act.put, List.getElem_toArray, List.getElem_cons_succ, List.getElem_cons_zero, List.setIfInBounds_toArray, List.set_cons_zero, List.set_cons_succ])
    refine wpAnyH_take (i := 17) (v := ?_) rfl (by kernel_rfl) (by kernel_rfl) (by kernel_rfl) (fun _ _ _ h => h) (Or.inl ⟨by kernel_rfl, ?_⟩) hHeld ?_
    rotate_left
    · (intro w hSw; first | (go_simp; done) | (go_simp; with_reducible rfl))
    (try simp only [Act.put, List.getElem_toArray, List.getElem_cons_succ, List.getElem_cons_zero, List.setIfInBounds_toArray, List.set_cons_zero, List.set_cons_succ])
    refine wpAnyH_take (i := 18) (v := ?_) rfl (by kernel_rfl) (by kernel_rfl) (by kernel_rfl) (fun _ _ _ h => h) (Or.inl ⟨by kernel_rfl, ?_⟩) hHeld ?_
    rotate_left
    · (intro w hSw; first | (go_simp; done) | (go_simp; with_reducible rfl))
    (try simp only [Act.put, List.getElem_toArray, List.getElem_cons_succ, List.getElem_cons_zero, List.setIfInBounds_toArray, List.set_cons_zero, List.set_cons_succ])
    refine wpAnyH_take (i := 19) (v := ?_) rfl (by kernel_rfl) (by kernel_rfl) (by kernel_rfl) (fun _ _ _ h => h) (Or.inl ⟨by kernel_rfl, ?_⟩) hHeld ?_
    rotate_left
    · (intro w hSw; first | (go_simp; done) | (go_simp; with_reducible rfl))
    (try simp only [Act.put, List.getElem_toArray, List.getElem_cons_succ, List.getElem_cons_zero, List.setIfInBounds_toArray, List.set_cons_zero, List.set_cons_succ])
    refine wpAnyH_take (i := 20) (v := ?_) rfl (by kernel_rfl) (by kernel_rfl) (by kernel_rfl) (fun _ _ _ h => h) (Or.inl ⟨by kernel_rfl, ?_⟩) hHeld ?_
    rotate_left
    · (intro w hSw; first | (go_simp; done) | (go_simp; with_reducible rfl))
    (try simp only [Act.put, List.getElem_toArray, List.getElem_cons_succ, List.getElem_cons_zero, List.setIfInBounds_toArray, List.set_cons_zero, List.set_cons_succ])
    refine wpAnyH_ready (rs := [16]) (by kernel_rfl) (by simp) (AllReadyH.cons rfl (fun K hK => ?_) AllReadyH.nil)
    have hH := hHeld
    (go_simp; go_at_call 183; refine (HCP.out _ hH.2.2.2.2.2).mono ?_; rintro e w2 ⟨p', v', rfl, hn, hb2⟩)
    refine hK.out _ _ (by exact ⟨hb2.cell hH.1 (by simp), hb2.cell hH.2.1 (by simp), hb2.cell hH.2.2.1 (by simp), hb2.cell hH.2.2.2.1 (by simp), hb2.cell hH.2.2.2.2.1 (by simp), hH.2.2.2.2.2.trans hb2⟩) (fun hHq1 => ?_)
    clear hK K hH 
    have HN := Lib.hid hn
    (try simp only [Act.put, List.getElem_toArray, List.getElem_cons_succ, List.getElem_cons_zero, List.setIfInBounds_toArray, List.set_cons_zero, List.set_cons_succ])
    refine wpAnyH_ready (rs := [21]) (by kernel_rfl) (by simp) (AllReadyH.cons rfl (fun K hK => ?_) AllReadyH.nil)
    have hH := hHq1
    (go_simp; go_at_call 184; refine (HMC.out _ hH.2.2.2.2.2).mono ?_; rintro e w3 ⟨b', rfl, hm3, hz3, hb3⟩; have HT : Hid (Two w w3 p' v' b' S.T V) := Lib.hid ⟨⟨HN.out.st.kept hb3, HN.out.lowp, HN.out.lowg⟩, hm3, hz3, HC1.out.trans (hH.2.2.2.2.2.trans hb3)⟩)
    refine hK.out _ _ (by exact ⟨hb3.cell hH.1 (by simp), hb3.cell hH.2.1 (by simp), hb3.cell hH.2.2.1 (by simp), hb3.cell hH.2.2.2.1 (by simp), hb3.cell hH.2.2.2.2.1 (by simp), hH.2.2.2.2.2.trans hb3⟩) (fun hHq2 => ?_)
    clear hK K hH hHq1
    (try simp only [Act.put, List.getElem_toArray, List.getElem_cons_succ, List.getElem_cons_zero, List.setIfInBounds_toArray, List.set_cons_zero, List.set_cons_succ])
    refine wpAnyH_take (i := 22) (v := ?_) rfl (by kernel_rfl) (by kernel_rfl) (by kernel_rfl) (fun _ _ _ h => h) (Or.inl ⟨by kernel_rfl, ?_⟩) hHq2 ?_
    rotate_left
    · (intro w hSw; first | (go_simp; done) | (go_simp; with_reducible rfl))
    (try simp only [Act.put, List.getElem_toArray, List.getElem_cons_succ, List.getElem_cons_zero, List.setIfInBounds_toArray, List.set_cons_zero, List.set_cons_succ])
    refine wpAnyH_ready (rs := [23]) (by kernel_rfl) (by simp) (AllReadyH.cons rfl (fun K hK => ?_) AllReadyH.nil)
    have hH := hHq2
    (go_simp; skip)
    refine hK.out _ _ (by exact ⟨((Chg.refl [] _).alloc _).cell hH.1 (by simp), ((Chg.refl [] _).alloc _).cell hH.2.1 (by simp), ((Chg.refl [] _).alloc _).cell hH.2.2.1 (by simp), ((Chg.refl [] _).alloc _).cell hH.2.2.2.1 (by simp), ((Chg.refl [] _).alloc _).cell hH.2.2.2.2.1 (by simp), hH.2.2.2.2.2.alloc _⟩) (fun hHq3 => ?_)
    clear hK K hH hHq2
    (try simp only [Act.put, List.getElem_toArray, List.getElem_cons_succ, List.getElem_cons_zero, List.setIfInBounds_toArray, List.set_cons_zero, List.set_cons_succ])
    refine wpAnyH_take (i := 24) (v := ?_) rfl (by kernel_rfl) (by kernel_rfl) (by kernel_rfl) (fun _ _ _ h => h) (Or.inl ⟨by kernel_rfl, ?_⟩) hHq3 ?_
    rotate_left
    · (intro w hSw; first | (go_simp; done) | (go_simp; with_reducible rfl))
    (try simp only [Act.put, List.getElem_toArray, List.getElem_cons_succ, List.getElem_cons_zero, List.setIfInBounds_toArray, List.set_cons_zero, List.set_cons_succ])
    refine wpAnyH_done (by kernel_rfl) ?_ _
    have hEnd := hHq3
    (go_wp2_with fail; go_meet; (case rel => exact ⟨_, p', v', b', rfl, Lib.hid ⟨(pwith_fin HH.out HV2.out hep.out hop.out hmr.out HT.out).1, (pwith_fin HH.out HV2.out hep.out hop.out hmr.out HT.out).2.1, (pwith_fin HH.out HV2.out hep.out hop.out hmr.out HT.out).2.2, hEnd.2.2.2.2.2⟩⟩))
  case rest =>
    rename World => wx
    obtain ⟨q', p', v', b', rfl, HX⟩ := hcut
    have hO2 := HO.out.chg HX.out.2.2.2 (by simp)
    have HE := Lib.hid (HEX.out wx q' p' v' b' HX.out.1 HX.out.2.2.1)
    have r0 : wx.cell? ⟨w.heap.size, 0, none⟩ = some (.int .u64 (k : Int)) := by rw [hO2.cell]; rfl
    have r1 : wx.cell? ⟨w.heap.size, 1, none⟩ = some (.int .u64 (n : Int)) := by rw [hO2.cell]; rfl
    have r2 : wx.cell? ⟨w.heap.size, 2, none⟩ = some (.int .u64 (t : Int)) := by rw [hO2.cell]; rfl
    have r3 : wx.cell? ⟨w.heap.size, 3, none⟩ = some (.int .i64 ck) := by rw [hO2.cell]; rfl
    have r4 : wx.cell? ⟨w.heap.size, 4, none⟩ = some (.slice a1 dn c1) := by rw [hO2.cell]; rfl
    have r5 : wx.cell? ⟨w.heap.size, 5, none⟩ = some (.slice a2 bn c2) := by rw [hO2.cell]; rfl
    clear hO2 HEX HCP HMC HS
    go_wp2_with (first
      | (go_at_call 43; refine HE.out.mono ?_; rintro e w4 ⟨rfl, v2, hs4, hc4⟩)
      | fail)
    go_ret
    exact ⟨q', p', v2, b', rfl, hs4, HX.out.2.2.1.then hc4 (fun y hy => .inr (HX.out.2.1 y hy))⟩
end Go.Proofs.YtmpajlpemabniaaGreat
namespace Go.Proofs.YtmpajlpemabniaaGreat
open Go.RowKit Go.Maps Go.Shelf Go.Deep
set_option linter.unusedVariables false
set_option linter.unusedSimpArgs false

def stB (sq sp sb : Nat) (v : Value) : List Nat := sq :: sp :: sb :: rowOf v
structure Pgs (w : World) (u : Nat) (l : List Nat) (q p g b n : Nat) (X : TS) (sq sp sb : Nat) (v : Value) (C : List Nat) (S : PS) : Prop where
  own : Own w u 95 [.pointer (some ⟨q, 0, none⟩), .pointer (some ⟨sq, 0, none⟩)]
  td : TD w l q p g b n X
  sta : Sta w sq sp v sb C S
  ul : u ∉ l ++ [g, b]
  us : u ∉ stB sq sp sb v
  sl : ∀ x ∈ stB sq sp sb v, x ∉ l ++ [g, b] ∧ x ≠ p
  cl : ∀ x ∈ C, x ∉ l ++ [g, b]
theorem Own.two {w : World} {u : Nat} {t : TypeId} {a b : Value} (h : Own w u t [a, b]) : w.cell? ⟨u, 0, none⟩ = some a ∧ w.cell? ⟨u, 1, none⟩ = some b := by
  refine ⟨?_, ?_⟩ <;> rw [h.cell] <;> rfl
theorem Sta.lt {w : World} {q p : Nat} {v : Value} {b : Nat} {C : List Nat} {S : PS} (h : Sta w q p v b C S) : ∀ x ∈ stB q p b v, x < w.heap.size := fun x hx => by
  obtain ⟨V, hV, _⟩ := h.map
  unfold stB at hx
  simp only [List.mem_cons] at hx
  rcases hx with rfl | rfl | rfl | hx
  · exact h.own.lt
  · exact h.set.own.lt
  · exact hV.lt
  · exact h.set.rowlt x (by simp [hx])
theorem Pgs.after {w w5 w6 : World} {u : Nat} {l l' : List Nat} {q p g b n : Nat} {X X' : TS} {sq sp sb : Nat} {v v' : Value} {C : List Nat} {S S' : PS} (P : Pgs w u l q p g b n X sq sp sb v C S)
    (ht : TD w5 l' q p g b n X') (hl' : ∀ x ∈ l', x ∈ l ∨ w.heap.size ≤ x) (hc5 : Chg (l ++ [g, b]) w w5) (hs : Sta w6 sq sp v' sb C S') (hc6 : Chg (stB sq sp sb v) w5 w6) (hn : Nb w5 v v') :
    Pgs w6 u l' q p g b n X' sq sp sb v' C S' ∧ Nb w v v' ∧ Chg (l ++ [g, b] ++ stB sq sp sb v) w w6 := by
  have hsz := hc5.size
  have hul := P.ul
  have hult := P.own.lt
  have hsl := P.sta.lt
  have hd := P.td.dlt
  have hd5 := ht.dlt
  have hm : ∀ x, x < w.heap.size → x ∉ l ++ [g, b] → x ∉ l' ++ [g, b] := fun x hx h1 h2 => by
    rcases List.mem_append.1 h2 with h2 | h2
    · rcases hl' x h2 with h3 | h3
      · exact h1 (List.mem_append_left _ h3)
      · omega
    · exact h1 (List.mem_append_right _ h2)
  refine ⟨⟨(P.own.chg hc5 P.ul).chg hc6 P.us, ht.chg hc6 (fun x hx => ?_), hs, hm u hult hul, ?_, ?_, fun x hx => hm x (P.sta.ap x hx).1 (P.cl x hx)⟩, hn.mono hsz, ?_⟩
  · have h1 := P.sl x hx
    have h2 := hm x (hsl x hx) h1.1
    simp only [List.mem_append, List.mem_cons, List.not_mem_nil, or_false, not_or] at h2
    exact ⟨h2.1, h1.2, h2.2.1, h2.2.2⟩
  · intro hx
    unfold stB at hx
    have h1 := P.us
    unfold stB at h1
    simp only [List.mem_cons, mem_rowOf, not_or] at hx h1
    rcases hx with e | e | e | e
    · exact h1.1 e
    · exact h1.2.1 e
    · exact h1.2.2.1 e
    · rcases hn with h3 | h3
      · exact h1.2.2.2 (h3 ▸ e)
      · have := h3 u e; omega
  · intro x hx
    have hold : x ∈ stB sq sp sb v → x ∉ l' ++ [g, b] ∧ x ≠ p := fun h1 => ⟨hm x (hsl x h1) (P.sl x h1).1, (P.sl x h1).2⟩
    unfold stB at hx hold
    simp only [List.mem_cons, mem_rowOf] at hx hold
    rcases hx with e | e | e | e
    · exact hold (.inl e)
    · exact hold (.inr (.inl e))
    · exact hold (.inr (.inr (.inl e)))
    · rcases hn with h3 | h3
      · exact hold (.inr (.inr (.inr (h3 ▸ e))))
      · have h4 := h3 x e
        refine ⟨fun h5 => ?_, by omega⟩
        rcases List.mem_append.1 h5 with h5 | h5
        · have := ht.lt x h5; omega
        · simp at h5; omega
  · exact (hc5.mono (fun x hx => .inl (List.mem_append_left _ hx))).trans (hc6.mono (fun x hx => .inl (List.mem_append_right _ hx)))
def ChS (u q sq g0 : Nat) (k n t : Int) (ck : Int) (a1 : Option Addr) (dn c1 : Nat) (a2 : Option Addr) (bn c2 : Nat) (W : World) : Prop :=
  W.cell? ⟨u, 0, none⟩ = some (.pointer (some ⟨q, 0, none⟩)) ∧ W.cell? ⟨u, 1, none⟩ = some (.pointer (some ⟨sq, 0, none⟩)) ∧
  W.cell? ⟨g0, 0, none⟩ = some (.int .u64 k) ∧ W.cell? ⟨g0, 1, none⟩ = some (.int .u64 n) ∧ W.cell? ⟨g0, 2, none⟩ = some (.int .u64 t) ∧ W.cell? ⟨g0, 3, none⟩ = some (.int .i64 ck) ∧ W.cell? ⟨g0, 4, none⟩ = some (.slice a1 dn c1) ∧ W.cell? ⟨g0, 5, none⟩ = some (.slice a2 bn c2)
theorem ChS.step {u q sq g0 : Nat} {k n t : Int} {ck : Int} {a1 : Option Addr} {dn c1 : Nat} {a2 : Option Addr} {bn c2 : Nat} {m : List Nat} {W W' : World} (h : ChS u q sq g0 k n t ck a1 dn c1 a2 bn c2 W) (hc : Chg m W W') (hu : u ∉ m) (hg : g0 ∉ m) : ChS u q sq g0 k n t ck a1 dn c1 a2 bn c2 W' := by
  obtain ⟨h0, h1, h2, h3, h4, h5, h6, h7⟩ := h
  exact ⟨hc.cell h0 hu, hc.cell h1 hu, hc.cell h2 hg, hc.cell h3 hg, hc.cell h4 hg, hc.cell h5 hg, hc.cell h6 hg, hc.cell h7 hg⟩
theorem app_commit {n : Nat} {F : Nat → Sec} {h : Nat} {L : List Rec} {r : Rec} (ho : okR r) (hfit : (frs L).length + 2 + r.length ≤ hsec n * 64) :
    appE n 0 h h L L r = 0 ∧ commitS n (appS n (calm F (fun _ => none) h L) r) = calm (cmF n F h h L (L ++ [r])) (fun _ => none) h (L ++ [r]) := by
  have e1 : appE n 0 h h L L r = 0 := by
    unfold appE
    rw [if_neg (by simpa using ho), if_neg (by simp), if_neg]
    unfold roomN
    simp
    omega
  refine ⟨e1, ?_⟩
  have e2 : appS n (calm F (fun _ => none) h L) r = ⟨F, fun _ => none, h, h, L, L ++ [r], 0⟩ := by
    unfold appS calm appL
    simp only [e1, if_true]
  rw [e2, commit_k0 (by unfold TS.idle idle; simp) rfl]
  rfl
set_option maxHeartbeats 1000000 in
set_option maxRecDepth 100000 in
theorem change_room (w : World) {u : Nat} {l : List Nat} {q p g b n : Nat} {F : Nat → Sec} {h : Nat} {L : List Rec} {sq sp sb : Nat} {v : Value} {C : List Nat} {S : PS} (P : Pgs w u l q p g b n (calm F (fun _ => none) h L) sq sp sb v C S)
    (r : Rc) (A : CeT) (hA : r.k = 2 → A.x = r.c ∧ CellV w C A) (ho : okN r) (ha : allow S r = true) (hl : S.T.length ≤ 999999) (hfit : (frs L).length + 2 + (encR r).length ≤ hsec n * 64) :
    Calls Tryz.prog 69 #[.pointer (some ⟨u, 0, none⟩), rcv (r.k : Int) r.n r.t A] w fun e w' => e = .returned (.int .i64 0) ∧ ∃ l' v', Hid (Pgs w' u l' q p g b n (calm (cmF n F h h L (L ++ [encR r])) (fun _ => none) h (L ++ [encR r])) sq sp sb v' C (exec S r)) ∧ (∀ x ∈ l', x ∈ l ∨ w.heap.size ≤ x) ∧ Nb w v v' ∧ Chg (l ++ [g, b] ++ stB sq sp sb v) w w' := by
  have hE := app_commit (n := n) (F := F) (h := h) (encR_ok ho) hfit
  obtain ⟨w1, HW1⟩ : ∃ W, Hid (w.alloc (rcb (r.k : Int) r.n r.t A) = W) := ⟨_, Lib.hid rfl⟩
  have hC1 : Chg [] w w1 := by rw [← HW1.out]; exact (Chg.refl [] w).alloc _
  have hob : Own w1 w.heap.size 101 [.int .u64 (r.k : Int), .int .u64 (r.n : Int), .int .u64 (r.t : Int), .int .i64 A.x.k, .slice A.a A.x.d.length A.c, .slice A.a2 A.x.b.length A.c2] := by rw [← HW1.out]; exact Own.new w _ _
  -- the calls
  have HEN : Hid (∀ W, Chg [] w W → Calls Tryz.prog 122 #[rcv (r.k : Int) r.n r.t A] W fun e w' => ∃ a c, e = .returned (.slice a (encR r).length c) ∧ Ro w' w'.heap.size a (u8s (encR r)) ∧ (∀ ad, a = some ad → w.heap.size ≤ ad.block) ∧ Chg [] W w') := Lib.hid (fun W hW =>
    (encoded_any W r A ho (fun e => ⟨(hA e).1, ((hA e).2.chg hW (by simp)).d, ((hA e).2.chg hW (by simp)).b⟩)).mono fun e w' ⟨a, c, h1, h2, h3, h4⟩ => ⟨a, c, h1, h2, fun ad e => Nat.le_trans hW.size (h3 ad e), h4⟩)
  have HAP : Hid (∀ W a c, Chg [] w W → Ro W W.heap.size a (u8s (encR r)) → (∀ ad, a = some ad → w.heap.size ≤ ad.block) → Calls Tryz.prog 58 #[.pointer (some ⟨q, 0, none⟩), .slice a (encR r).length c] W fun e w' => e = .returned (.int .i64 0) ∧ Hid (TDT W l q p g b n (appS n (calm F (fun _ => none) h L) (encR r)) w')) := Lib.hid (fun W a c hW hr hn =>
    (append_TD (P.td.kept hW) a (encR r) c W.heap.size hr (Nat.le_refl _) (fun _ x e hx => by have h1 := hn x e; have h2 := P.td.lt _ hx; omega)).mono fun e w' ⟨h1, h2⟩ => ⟨by rw [h1]; show Ending.returned (.int .i64 ((appE n 0 h h L L (encR r) : Nat) : Int)) = _; rw [hE.1]; rfl, h2⟩)
  have HP := Lib.hid P
  have HE := Lib.hid hE.2
  have HX : Hid (∀ W, Sta W sq sp v sb C S → (r.k = 2 → CellV W C A) → Calls Tryz.prog 43 #[.pointer (some ⟨sq, 0, none⟩), rcv (r.k : Int) r.n r.t A] W fun e w' => e = .returned (.tuple #[]) ∧ ∃ v', Sta w' sq sp v' sb C (exec S r) ∧ Chg (sq :: sp :: sb :: rowOf v) W w' ∧ Nb W v v') := Lib.hid (fun W hS hC =>
    exec_any W hS r A (fun e => ⟨(hA e).1, hC e⟩) ho ha hl)
  obtain ⟨d0, d1⟩ := (P.own.chg hC1 (by simp)).two
  have HS : Hid (ChS u q sq w.heap.size (r.k : Int) (r.n : Int) (r.t : Int) A.x.k A.a A.x.d.length A.c A.a2 A.x.b.length A.c2 w1) := Lib.hid ⟨d0, d1, by rw [hob.cell]; rfl, by rw [hob.cell]; rfl, by rw [hob.cell]; rfl, by rw [hob.cell]; rfl, by rw [hob.cell]; rfl, by rw [hob.cell]; rfl⟩
  have HC1 := Lib.hid hC1
  have HZ : Hid (w.heap.size ∉ l ++ [g, b]) := Lib.hid (fun hx => by
    have h3 := P.td.dlt
    rcases List.mem_append.1 hx with hx | hx
    · exact Nat.lt_irrefl _ (P.td.lt _ hx)
    · simp at hx; omega)
  have HA := Lib.hid hA
  unfold rcb at HW1
  unfold rcv at HEN HX ⊢
  clear P hE hC1 hob d0 d1 hA ho ha hl hfit
  obtain ⟨⟨ck, cd, cb⟩, a1, c1, a2, c2⟩ := A
  obtain ⟨k, nn, t, c⟩ := r
  simp only at HW1 HEN HX HS ⊢
  obtain ⟨dn, hdn⟩ : ∃ x, Hid (cd.length = x) := ⟨_, Lib.hid rfl⟩
  obtain ⟨bn, hbn⟩ : ∃ x, Hid (cb.length = x) := ⟨_, Lib.hid rfl⟩
  simp only [hdn.out, hbn.out] at HW1 HEN HX HS ⊢
  go_enter Tryz.func69, Tryz.ntmps69
  go_upto_region 1 with fail
  rw [HW1.out]
  refine wp_region_held_drew (S := (fun W : World => W.cell? ⟨u, 0, none⟩ = some (.pointer (some ⟨q, 0, none⟩)) ∧ W.cell? ⟨u, 1, none⟩ = some (.pointer (some ⟨sq, 0, none⟩)) ∧ W.cell? ⟨w.heap.size, 0, none⟩ = some (.int .u64 (k : Int)) ∧ W.cell? ⟨w.heap.size, 1, none⟩ = some (.int .u64 (nn : Int)) ∧ W.cell? ⟨w.heap.size, 2, none⟩ = some (.int .u64 (t : Int)) ∧ W.cell? ⟨w.heap.size, 3, none⟩ = some (.int .i64 ck) ∧ W.cell? ⟨w.heap.size, 4, none⟩ = some (.slice a1 dn c1) ∧ W.cell? ⟨w.heap.size, 5, none⟩ = some (.slice a2 bn c2))) (by kernel_rfl) (by have h9 := HS.out.step (m := []) (Chg.refl [] w1).drew (by simp) (by simp); exact h9) (fun hHeld => ?_)
  refine wpAnyH_take (i := 0) (v := ?_) rfl (by kernel_rfl) (by kernel_rfl) (by kernel_rfl) (fun _ _ _ h => h) (Or.inl ⟨by kernel_rfl, ?_⟩) hHeld ?_
  rotate_left
  · (intro w hSw; first | (go_simp; done) | (go_simp; with_reducible rfl))
  (try simp only [Act.put, List.getElem_toArray, List.getElem_cons_succ, List.getElem_cons_zero, List.setIfInBounds_toArray, List.set_cons_zero, List.set_cons_succ])
  refine wpAnyH_take (i := 1) (v := ?_) rfl (by kernel_rfl) (by kernel_rfl) (by kernel_rfl) (fun _ _ _ h => h) (Or.inl ⟨by kernel_rfl, ?_⟩) hHeld ?_
  rotate_left
  · (intro w hSw; first | (go_simp; done) | (go_simp; with_reducible rfl))
  (try simp only [Act.put, List.getElem_toArray, List.getElem_cons_succ, List.getElem_cons_zero, List.setIfInBounds_toArray, List.set_cons_zero, List.set_cons_succ])
  refine wpAnyH_take (i := 2) (v := ?_) rfl (by kernel_rfl) (by kernel_rfl) (by kernel_rfl) (fun _ _ _ h => h) (Or.inl ⟨by kernel_rfl, ?_⟩) hHeld ?_
  rotate_left
  · (intro w hSw; first | (go_simp; done) | (go_simp; with_reducible rfl))
  (try simp only [Act.put, List.getElem_toArray, List.getElem_cons_succ, List.getElem_cons_zero, List.setIfInBounds_toArray, List.set_cons_zero, List.set_cons_succ])
  refine wpAnyH_take (i := 3) (v := ?_) rfl (by kernel_rfl) (by kernel_rfl) (by kernel_rfl) (fun _ _ _ h => h) (Or.inl ⟨by kernel_rfl, ?_⟩) hHeld ?_
  rotate_left
  · (intro w hSw; first | (go_simp; done) | (go_simp; with_reducible rfl))
  (try simp only [Act.put, List.getElem_toArray, List.getElem_cons_succ, List.getElem_cons_zero, List.setIfInBounds_toArray, List.set_cons_zero, List.set_cons_succ])
  refine wpAnyH_take (i := 4) (v := ?_) rfl (by kernel_rfl) (by kernel_rfl) (by kernel_rfl) (fun _ _ _ h => h) (Or.inl ⟨by kernel_rfl, ?_⟩) hHeld ?_
  rotate_left
  · (intro w hSw; first | (go_simp; done) | (go_simp; with_reducible rfl))
  (try simp only [Act.put, List.getElem_toArray, List.getElem_cons_succ, List.getElem_cons_zero, List.setIfInBounds_toArray, List.set_cons_zero, List.set_cons_succ])
  refine wpAnyH_ready (rs := [5]) (by kernel_rfl) (by simp) (AllReadyH.cons rfl (fun K hK => ?_) AllReadyH.nil)
  have hH := hHeld
  (go_simp; go_at_call 122; refine (HEN.out _ HC1.out.drew).mono ?_; rintro e w2 ⟨a2', c2', rfl, hr2, hn2, hc2⟩)
  refine hK.out _ _ (by exact ChS.step hH hc2 (by simp) (by simp)) (fun hHq1 => ?_)
  clear hK K hH 
  have HC2 := Lib.hid (HC1.out.drew.trans hc2); have HR2 := Lib.hid (And.intro hr2 hn2)
  (try simp only [Act.put, List.getElem_toArray, List.getElem_cons_succ, List.getElem_cons_zero, List.setIfInBounds_toArray, List.set_cons_zero, List.set_cons_succ])
  refine wpAnyH_ready (rs := [6]) (by kernel_rfl) (by simp) (AllReadyH.cons rfl (fun K hK => ?_) AllReadyH.nil)
  have hH := hHq1
  (go_simp; go_at_call 58; refine (HAP.out _ _ _ HC2.out HR2.out.1 HR2.out.2).mono ?_; rintro e w3 ⟨rfl, ht3⟩; obtain ⟨l', ht4, hl4, hc4⟩ := ht3.out)
  refine hK.out _ _ (by exact ChS.step hH hc4 (fun hx => HP.out.ul (by simp [hx])) (fun hx => HZ.out (by simp [hx]))) (fun hHq2 => ?_)
  clear hK K hH hHq1
  (try simp only [Act.put, List.getElem_toArray, List.getElem_cons_succ, List.getElem_cons_zero, List.setIfInBounds_toArray, List.set_cons_zero, List.set_cons_succ])
  refine wpAnyH_take (i := 7) (v := ?_) rfl (by kernel_rfl) (by kernel_rfl) (by kernel_rfl) (fun _ _ _ h => h) (Or.inl ⟨by kernel_rfl, ?_⟩) hHq2 ?_
  rotate_left
  · (intro w hSw; first | (go_simp; done) | (go_simp; with_reducible rfl))
  (try simp only [Act.put, List.getElem_toArray, List.getElem_cons_succ, List.getElem_cons_zero, List.setIfInBounds_toArray, List.set_cons_zero, List.set_cons_succ])
  refine wpAnyH_done (by kernel_rfl) ?_ _
  have hEnd := hHq2
  have HZ2 : Hid (∀ x ∈ l', x ∈ l ∨ w.heap.size + 1 ≤ x) := Lib.hid (fun x hx => by
    rcases hl4 x hx with h1 | h1
    · exact .inl h1
    · have h2 := HC2.out.size
      have h3 : w1.heap.size = w.heap.size + 1 := by rw [← HW1.out, World.size_alloc]
      have h4 := hc2.size
      have h5 : w1.drew.heap.size = w1.heap.size := rfl
      exact .inr (by omega))
  have HC3 : Hid (Chg l w w3) := Lib.hid ((HC2.out.mono (by simp)).trans hc4)
  have HCM := Lib.hid (commit_TD ht4)
  have HQ3 : Hid (ChS u q sq w.heap.size (k : Int) (nn : Int) (t : Int) ck a1 dn c1 a2 bn c2 w3) := Lib.hid hEnd
  obtain ⟨u0, u1, _⟩ := hEnd
  clear hHeld hr2 hn2 hc2 ht3 ht4 hl4 hc4
  have HCOM : Hid (∀ w5, Hid (TD w5 l' q p g b n (commitS n (appS n (calm F (fun _ => none) h L) (encR ⟨k, nn, t, c⟩)))) → Chg (l' ++ [g, b]) w3 w5 → ChS u q sq w.heap.size (k : Int) (nn : Int) (t : Int) ck a1 dn c1 a2 bn c2 w5 ∧ Chg (l ++ [g, b]) w w5) := Lib.hid (fun w5 _ h5 => by
    have hult := HP.out.own.lt
    have hd := HP.out.td.dlt
    refine ⟨HQ3.out.step h5 (fun hx => ?_) (fun hx => ?_), (HC3.out.mono (fun x hx => .inl (List.mem_append_left _ hx))).then h5 (fun x hx => ?_)⟩
    · rcases List.mem_append.1 hx with hx | hx
      · rcases HZ2.out _ hx with h1 | h1
        · exact HP.out.ul (List.mem_append_left _ h1)
        · omega
      · exact HP.out.ul (List.mem_append_right _ hx)
    · rcases List.mem_append.1 hx with hx | hx
      · rcases HZ2.out _ hx with h1 | h1
        · exact HZ.out (List.mem_append_left _ h1)
        · omega
      · exact HZ.out (List.mem_append_right _ hx)
    · rcases List.mem_append.1 hx with hx | hx
      · rcases HZ2.out _ hx with h1 | h1
        · exact .inl (List.mem_append_left _ h1)
        · exact .inr (by omega)
      · exact .inl (List.mem_append_right _ hx))
  go_wp2_with (first
    | (go_at_call 59; refine HCM.out.mono ?_; rintro e w5 ⟨rfl, ht5, hc5⟩
       have HC5 := Lib.hid (HCOM.out w5 ht5 hc5); clear hc5)
    | fail)
  have HZ3 : Hid (w.heap.size ∉ stB sq sp sb v) := Lib.hid (fun hx => Nat.lt_irrefl _ (HP.out.sta.lt _ hx))
  have HEX : Hid (Calls Tryz.prog 43 #[.pointer (some ⟨sq, 0, none⟩), .agg #[.int .u64 (k : Int), .int .u64 (nn : Int), .int .u64 (t : Int), .int .i64 ck, .slice a1 dn c1, .slice a2 bn c2]] w5.drew fun e w' => e = .returned (.tuple #[]) ∧ ∃ v', Sta w' sq sp v' sb C (exec S ⟨k, nn, t, c⟩) ∧ Chg (sq :: sp :: sb :: rowOf v) w5.drew w' ∧ Nb w5.drew v v') :=
    Lib.hid (HX.out w5.drew (HP.out.sta.chg (HC5.out.2.drew) (fun x hx => (HP.out.sl x hx).1) HP.out.cl) (fun e => (HA.out e).2.chg HC5.out.2.drew HP.out.cl))
  clear HX HEN HAP HCM HCOM u0 u1
  refine wp_region_held_drew (S := (fun W : World => W.cell? ⟨u, 0, none⟩ = some (.pointer (some ⟨q, 0, none⟩)) ∧ W.cell? ⟨u, 1, none⟩ = some (.pointer (some ⟨sq, 0, none⟩)) ∧ W.cell? ⟨w.heap.size, 0, none⟩ = some (.int .u64 (k : Int)) ∧ W.cell? ⟨w.heap.size, 1, none⟩ = some (.int .u64 (nn : Int)) ∧ W.cell? ⟨w.heap.size, 2, none⟩ = some (.int .u64 (t : Int)) ∧ W.cell? ⟨w.heap.size, 3, none⟩ = some (.int .i64 ck) ∧ W.cell? ⟨w.heap.size, 4, none⟩ = some (.slice a1 dn c1) ∧ W.cell? ⟨w.heap.size, 5, none⟩ = some (.slice a2 bn c2))) (by kernel_rfl) (by have h9 := HC5.out.1.step (m := []) (Chg.refl [] w5).drew (by simp) (by simp); exact h9) (fun hHeld => ?_)
  refine wpAnyH_take (i := 0) (v := ?_) rfl (by kernel_rfl) (by kernel_rfl) (by kernel_rfl) (fun _ _ _ h => h) (Or.inl ⟨by kernel_rfl, ?_⟩) hHeld ?_
  rotate_left
  · (intro w hSw; first | (go_simp; done) | (go_simp; with_reducible rfl))
  (try simp only [Act.put, List.getElem_toArray, List.getElem_cons_succ, List.getElem_cons_zero, List.setIfInBounds_toArray, List.set_cons_zero, List.set_cons_succ])
  refine wpAnyH_take (i := 1) (v := ?_) rfl (by kernel_rfl) (by kernel_rfl) (by kernel_rfl) (fun _ _ _ h => h) (Or.inl ⟨by kernel_rfl, ?_⟩) hHeld ?_
  rotate_left
  · (intro w hSw; first | (go_simp; done) | (go_simp; with_reducible rfl))
  (try simp only [Act.put, List.getElem_toArray, List.getElem_cons_succ, List.getElem_cons_zero, List.setIfInBounds_toArray, List.set_cons_zero, List.set_cons_succ])
  refine wpAnyH_take (i := 2) (v := ?_) rfl (by kernel_rfl) (by kernel_rfl) (by kernel_rfl) (fun _ _ _ h => h) (Or.inl ⟨by kernel_rfl, ?_⟩) hHeld ?_
  rotate_left
  · (intro w hSw; first | (go_simp; done) | (go_simp; with_reducible rfl))
  (try simp only [Act.put, List.getElem_toArray, List.getElem_cons_succ, List.getElem_cons_zero, List.setIfInBounds_toArray, List.set_cons_zero, List.set_cons_succ])
  refine wpAnyH_take (i := 3) (v := ?_) rfl (by kernel_rfl) (by kernel_rfl) (by kernel_rfl) (fun _ _ _ h => h) (Or.inl ⟨by kernel_rfl, ?_⟩) hHeld ?_
  rotate_left
  · (intro w hSw; first | (go_simp; done) | (go_simp; with_reducible rfl))
  (try simp only [Act.put, List.getElem_toArray, List.getElem_cons_succ, List.getElem_cons_zero, List.setIfInBounds_toArray, List.set_cons_zero, List.set_cons_succ])
  refine wpAnyH_take (i := 4) (v := ?_) rfl (by kernel_rfl) (by kernel_rfl) (by kernel_rfl) (fun _ _ _ h => h) (Or.inl ⟨by kernel_rfl, ?_⟩) hHeld ?_
  rotate_left
  · (intro w hSw; first | (go_simp; done) | (go_simp; with_reducible rfl))
  (try simp only [Act.put, List.getElem_toArray, List.getElem_cons_succ, List.getElem_cons_zero, List.setIfInBounds_toArray, List.set_cons_zero, List.set_cons_succ])
  refine wpAnyH_ready (rs := [5]) (by kernel_rfl) (by simp) (AllReadyH.cons rfl (fun K hK => ?_) AllReadyH.nil)
  have hH := hHeld
  (go_simp; go_at_call 43; refine HEX.out.mono ?_; rintro e w6 ⟨rfl, v', hs6, hc6, hn6⟩)
  refine hK.out _ _ (by exact ChS.step hH hc6 HP.out.us HZ3.out) (fun hHq1 => ?_)
  clear hK K hH 
  (try simp only [Act.put, List.getElem_toArray, List.getElem_cons_succ, List.getElem_cons_zero, List.setIfInBounds_toArray, List.set_cons_zero, List.set_cons_succ])
  refine wpAnyH_done (by kernel_rfl) ?_ _
  have hEnd := hHq1
  have hc6' : Chg (stB sq sp sb v) w5 w6 := ((Chg.refl _ w5).drew).trans hc6
  have hte := ht5.out
  rw [HE.out] at hte
  have HFIN := Lib.hid (Pgs.after HP.out hte (fun x hx => (HZ2.out x hx).imp id (fun h1 => by omega)) HC5.out.2 hs6 hc6' (hn6.mono (Nat.le_refl _)))
  clear hEnd hHeld hs6 hc6 hn6 hc6' hte
  go_wp2_with fail
  go_ret
  exact ⟨rfl, l', v', Lib.hid HFIN.out.1, fun x hx => (HZ2.out x hx).imp id (fun h1 => by omega), HFIN.out.2.1, HFIN.out.2.2⟩
end Go.Proofs.YtmpajlpemabniaaGreat
