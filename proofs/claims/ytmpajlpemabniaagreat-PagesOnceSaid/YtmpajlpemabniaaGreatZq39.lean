/-
  Pages seen by the blocks that are theirs; all calls over a state. No claim of their own.
-/
import Derived.Test.YtmpajlpemabniaaGreatZq38
import Derived.Test.YtmpajlpemabniaaGreatZq36
import Derived.Test.YtmpajlpemabniaaGreatZq35
import Derived.Test.YtmpajlpemabniaaGreatZq31
import Derived.Test.YtmpajlpemabniaaGreatZq3
namespace Go.Proofs.YtmpajlpemabniaaGreat
open Go.RowKit Go.Maps Go.Shelf Go.Deep
set_option linter.unusedVariables false
set_option linter.unusedSimpArgs false
theorem Pgs.chg {m : List Nat} {w w' : World} {u : Nat} {l : List Nat} {q p g b n : Nat} {X : TS} {sq sp sb : Nat} {v : Value} {C : List Nat} {S : PS} (P : Pgs w u l q p g b n X sq sp sb v C S) (hc : Chg m w w')
    (hm : ∀ x ∈ u :: p :: (l ++ [g, b] ++ stB sq sp sb v ++ C), x ∉ m) : Pgs w' u l q p g b n X sq sp sb v C S := by
  simp only [List.mem_cons, List.mem_append] at hm
  refine ⟨P.own.chg hc (hm u (.inl rfl)), P.td.chg hc (fun x hx => ⟨fun h => hm x (.inr (.inr (.inl (.inl (.inl h))))) hx, fun e => hm x (.inr (.inl e)) hx, fun e => hm x (.inr (.inr (.inl (.inl (.inr (.inl e)))))) hx, fun e => hm x (.inr (.inr (.inl (.inl (.inr (.inr (.inl e))))))) hx⟩), P.sta.chg hc (fun x hx => hm x (.inr (.inr (.inl (.inr hx))))) (fun x hx => hm x (.inr (.inr (.inr hx)))), P.ul, P.us, P.sl, P.cl⟩
theorem Pgs.lt {w : World} {u : Nat} {l : List Nat} {q p g b n : Nat} {X : TS} {sq sp sb : Nat} {v : Value} {C : List Nat} {S : PS} (P : Pgs w u l q p g b n X sq sp sb v C S) : ∀ x ∈ u :: p :: (l ++ [g, b] ++ stB sq sp sb v ++ C), x < w.heap.size := by
  intro x hx
  have hd := P.td.dlt
  simp only [List.mem_cons, List.mem_append, List.not_mem_nil, or_false] at hx
  rcases hx with rfl | rfl | ((hx | rfl | rfl) | hx) | hx
  · exact P.own.lt
  · omega
  · exact P.td.lt x hx
  · omega
  · omega
  · exact P.sta.lt x hx
  · exact (P.sta.ap x hx).1
structure Pgv (w : World) (B : Nat → Prop) (u p n : Nat) (T : PT) : Prop where
  ex : ∃ l q g b sq sp sb v C, Pgs w u l q p g b n (ptS T) sq sp sb v C T.S ∧ ∀ x ∈ u :: p :: (l ++ [g, b] ++ stB sq sp sb v ++ C), B x
  iv : Iv n T
def Gch (B : Nat → Prop) (w w' : World) : Prop := ∃ m, Chg m w w' ∧ ∀ x ∈ m, B x ∨ w.heap.size ≤ x
def Pgvc (w : World) (B : Nat → Prop) (u p n : Nat) (T : PT) (w' : World) : Prop := Pgv w' (fun x => B x ∨ w.heap.size ≤ x) u p n T ∧ Gch B w w'
theorem Pgv.mono {w : World} {B B' : Nat → Prop} {u p n : Nat} {T : PT} (V : Pgv w B u p n T) (h : ∀ x, B x → B' x) : Pgv w B' u p n T := by
  obtain ⟨l, q, g, b, sq, sp, sb, v, C, P, hB⟩ := V.ex
  exact ⟨⟨l, q, g, b, sq, sp, sb, v, C, P, fun x hx => h x (hB x hx)⟩, V.iv⟩
theorem Pgv.kept {w w' : World} {B : Nat → Prop} {u p n : Nat} {T : PT} (V : Pgv w B u p n T) (hc : Chg [] w w') : Pgv w' B u p n T := by
  obtain ⟨l, q, g, b, sq, sp, sb, v, C, P, hB⟩ := V.ex
  exact ⟨⟨l, q, g, b, sq, sp, sb, v, C, P.kept hc, hB⟩, V.iv⟩
theorem Pgv.apart {w w' : World} {B B2 : Nat → Prop} {u p n : Nat} {T : PT} (V : Pgv w B u p n T) (hc : Gch B2 w w') (ha : ∀ x, x < w.heap.size → B x → B2 x → False) : Pgv w' B u p n T := by
  obtain ⟨l, q, g, b, sq, sp, sb, v, C, P, hB⟩ := V.ex
  obtain ⟨m, hm, hm2⟩ := hc
  refine ⟨⟨l, q, g, b, sq, sp, sb, v, C, P.chg hm (fun x hx h => ?_), hB⟩, V.iv⟩
  have h1 := P.lt x hx
  rcases hm2 x h with h2 | h2
  · exact ha x h1 (hB x hx) h2
  · omega
theorem Pgv.top {w : World} {B : Nat → Prop} {u p n : Nat} {T : PT} (V : Pgv w B u p n T) : 3 ≤ n ∧ n ≤ 1024 := by
  obtain ⟨l, q, g, b, sq, sp, sb, v, C, P, hB⟩ := V.ex
  exact ⟨P.td.three, P.td.dsk.top⟩
theorem Pgv.gd {w : World} {B : Nat → Prop} {u p n : Nat} {T : PT} (V : Pgv w B u p n T) : Gd T.S := V.iv.de.good
theorem Gch.of {w w' : World} {B : Nat → Prop} (h : Chg [] w w') : Gch B w w' := ⟨[], h, fun x hx => by cases hx⟩
theorem Gch.pre {w W w' : World} {B : Nat → Prop} (h : Chg [] w W) (k : Gch (fun x => B x ∨ w.heap.size ≤ x) W w') : Gch B w w' := by
  obtain ⟨m, hm, hm2⟩ := k
  refine ⟨m, (h.mono (by simp)).trans hm, fun x hx => ?_⟩
  rcases hm2 x hx with h1 | h1
  · exact h1
  · exact .inr (Nat.le_trans h.size h1)
theorem Gch.low {w0 w w' : World} {B : Nat → Prop} (h : Chg [] w0 w) (k : Gch B w w') (hB : ∀ x, B x → w0.heap.size ≤ x) : Chg [] w0 w' := by
  obtain ⟨m, hm, hm2⟩ := k
  refine h.then hm fun x hx => .inr ?_
  rcases hm2 x hx with h1 | h1
  · exact hB x h1
  · exact Nat.le_trans h.size h1
theorem Pgv.stay {w w' : World} {B : Nat → Prop} {u p n : Nat} {T : PT} (V : Pgv w B u p n T) (hc : Chg [] w w') : Pgvc w B u p n T w' := ⟨(V.kept hc).mono fun x hx => .inl hx, Gch.of hc⟩
theorem Pgx.pvc {w w' : World} {B : Nat → Prop} {u : Nat} {l : List Nat} {q p g b n sq sp sb : Nat} {v : Value} {C : List Nat} {T : PT} (h : Pgx w u l q p g b n sq sp sb v C T w') (hB : ∀ x ∈ u :: p :: (l ++ [g, b] ++ stB sq sp sb v ++ C), B x) (iv : Iv n T) : Pgvc w B u p n T w' := by
  obtain ⟨l', v', P, hl, hn, hc⟩ := h
  simp only [List.mem_cons, List.mem_append, List.not_mem_nil, or_false] at hB
  refine ⟨⟨⟨l', q, g, b, sq, sp, sb, v', C, P, fun x hx => ?_⟩, iv⟩, ⟨_, hc, fun x hx => .inl ?_⟩⟩
  · simp only [List.mem_cons, List.mem_append, List.not_mem_nil, or_false] at hx
    rcases hx with hx | hx | ((hx | hx) | hx) | hx
    · exact .inl (hB x (.inl hx))
    · exact .inl (hB x (.inr (.inl hx)))
    · rcases hl x hx with h1 | h1
      · exact .inl (hB x (.inr (.inr (.inl (.inl (.inl h1))))))
      · exact .inr h1
    · exact .inl (hB x (.inr (.inr (.inl (.inl (.inr hx))))))
    · have hold : x ∈ stB sq sp sb v → B x := fun h9 => hB x (.inr (.inr (.inl (.inr h9))))
      unfold stB at hx hold
      simp only [List.mem_cons, mem_rowOf] at hx hold
      rcases hx with e | e | e | e
      · exact .inl (hold (.inl e))
      · exact .inl (hold (.inr (.inl e)))
      · exact .inl (hold (.inr (.inr (.inl e))))
      · rcases hn with h3 | h3
        · exact .inl (hold (.inr (.inr (.inr (h3 ▸ e)))))
        · exact .inr (h3 x e)
    · exact .inl (hB x (.inr (.inr (.inr hx))))
  · simp only [List.mem_append, List.mem_cons, List.not_mem_nil, or_false] at hx
    rcases hx with (hx | hx) | hx
    · exact hB x (.inr (.inr (.inl (.inl (.inl hx)))))
    · exact hB x (.inr (.inr (.inl (.inl (.inr hx)))))
    · exact hB x (.inr (.inr (.inl (.inr hx))))
theorem change_v {w W : World} {B : Nat → Prop} {u : Nat} {l : List Nat} {q p g b n sq sp sb : Nat} {v : Value} {C : List Nat} {T : PT} (P : Pgs W u l q p g b n (ptS T) sq sp sb v C T.S) (iv : Iv n T) (hW : Chg [] w W)
    (hB : ∀ x ∈ u :: p :: (l ++ [g, b] ++ stB sq sp sb v ++ C), B x ∨ w.heap.size ≤ x) (r : Rc) (A : CeT) (hA : r.k = 2 → A.x = r.c ∧ CellV W C A) (ho : okN r) (ha : allow T.S r = true) :
    Calls Tryz.prog 69 #[.pointer (some ⟨u, 0, none⟩), rcv (r.k : Int) r.n r.t A] W fun e w' => e = .returned (.int .i64 ((chg n T r).1 : Int)) ∧ Hid (Pgvc w B u p n (chg n T r).2 w') := by
  refine Calls.mono (R' := _) (change_any W P iv r A hA ho ha) ?_
  rintro e w' ⟨h1, h2⟩
  refine ⟨h1, Lib.hid ?_⟩
  have h3 := h2.out.pvc hB (chg_iv iv ho ha)
  refine ⟨h3.1.mono fun x hx => ?_, Gch.pre hW h3.2⟩
  rcases hx with h4 | h4
  · exact h4
  · exact .inr (Nat.le_trans hW.size h4)
section
variable {w : World} {B : Nat → Prop} {u p n : Nat} {T : PT}
theorem Write_v (V : Pgv w B u p n T) (a : Nat) (A : CeT) (ha : a < 18446744073709551616) (h1 : Ro w w.heap.size A.a (u8s A.x.d)) (h2 : Ro w w.heap.size A.a2 (bcs A.x.b)) (hl1 : A.x.d.length ≤ 9223372036854775807) (hl2 : A.x.b.length ≤ 9223372036854775807) :
    Calls Tryz.prog 23 #[.pointer (some ⟨u, 0, none⟩), .int .u64 (a : Int), A.val] w fun e w' => e = .returned (.int .i64 ((pWr n T a A.x).1 : Int)) ∧ Hid (Pgvc w B u p n (pWr n T a A.x).2 w') := by
  obtain ⟨l, q, g, b, sq, sp, sb, v, C, P, hB⟩ := V.ex
  unfold pWr
  by_cases e1 : 1048576 ≤ a ∨ right A.x = false
  · rw [if_pos e1]
    refine Calls.mono (R' := _) (Write_arg w u a A h2 hl1 hl2 e1) ?_
    rintro e w' ⟨x1, x2⟩
    exact ⟨x1, Lib.hid (V.stay x2)⟩
  · rw [if_neg e1]
    have e2 : right A.x = true := by cases hc : right A.x <;> simp_all
    by_cases e3 : T.S.tr a = true
    · rw [if_pos e3]
      refine Calls.mono (R' := _) (Write_tr w P a A (by omega) h1 h2 e2 e3) ?_
      rintro e w' ⟨x1, x2⟩
      exact ⟨x1, Lib.hid (V.stay x2)⟩
    · rw [if_neg e3]
      by_cases e4 : (T.S.m a).isSome = true
      · rw [if_pos e4]
        refine Calls.mono (R' := _) (Write_wr w P a A (by omega) h1 h2 e2 (by simpa using e3) e4) ?_
        rintro e w' ⟨x1, x2⟩
        exact ⟨x1, Lib.hid (V.stay x2)⟩
      · rw [if_neg e4]
        have e3' : T.S.tr a = false := by simpa using e3
        have e4' : T.S.m a = none := by simpa using e4
        refine Write_go w P a A (by omega) h1 h2 e2 e3' e4' _ _ (fun W A' hW hx hN => ?_)
        rw [← hx]
        refine change_v (P.wide hW hN) V.iv hW (fun x hx9 => ?_) ⟨2, a, 0, A'.x⟩ A' (fun _ => ⟨rfl, hN.cellV.mono (fun x hx => List.mem_append_right _ hx)⟩) (ok_cell (by omega) (by rw [hx]; exact e2)) (al_cell e3' e4')
        have hold := hB x
        simp only [List.mem_cons, List.mem_append, List.not_mem_nil, or_false] at hx9 hold
        rcases hx9 with h9 | h9 | h9 | h9 | h9
        · exact .inl (hold (.inl h9))
        · exact .inl (hold (.inr (.inl h9)))
        · exact .inl (hold (.inr (.inr (.inl h9))))
        · exact .inl (hold (.inr (.inr (.inr h9))))
        · exact .inr (hN.new x h9).1
theorem TrimOne_v (V : Pgv w B u p n T) (a : Nat) (ha : a < 18446744073709551616) :
    Calls Tryz.prog 25 #[.pointer (some ⟨u, 0, none⟩), .int .u64 (a : Int)] w fun e w' => e = .returned (.int .i64 ((pTo n T a).1 : Int)) ∧ Hid (Pgvc w B u p n (pTo n T a).2 w') := by
  obtain ⟨l, q, g, b, sq, sp, sb, v, C, P, hB⟩ := V.ex
  unfold pTo
  by_cases e1 : 1048576 ≤ a
  · rw [if_pos e1]
    refine Calls.mono (R' := _) (TrimOne_arg w u a e1) ?_
    rintro e w' ⟨x1, rfl⟩
    exact ⟨x1, Lib.hid (V.stay (Chg.refl [] _))⟩
  · rw [if_neg e1]
    by_cases e3 : T.S.tr a = true
    · rw [if_pos e3]
      refine Calls.mono (R' := _) (TrimOne_tr w P a (by omega) e3) ?_
      rintro e w' ⟨x1, x2⟩
      exact ⟨x1, Lib.hid (V.stay x2)⟩
    · rw [if_neg e3]
      exact TrimOne_go w P a (by omega) (by simpa using e3) _ _ (fun W hW => change_v (P.kept hW) V.iv hW (fun x hx => .inl (hB x hx)) ⟨4, a, a + 1, zCe⟩ zA (fun e => by simp at e) (ok_one (by omega)) (al_one (by omega)))
theorem Trim_v (V : Pgv w B u p n T) (a : Nat) (ha : a < 18446744073709551616) :
    Calls Tryz.prog 24 #[.pointer (some ⟨u, 0, none⟩), .int .u64 (a : Int)] w fun e w' => e = .returned (.int .i64 ((pTm n T a).1 : Int)) ∧ Hid (Pgvc w B u p n (pTm n T a).2 w') := by
  obtain ⟨l, q, g, b, sq, sp, sb, v, C, P, hB⟩ := V.ex
  unfold pTm
  by_cases e1 : 1048576 < a
  · rw [if_pos e1]
    refine Calls.mono (R' := _) (Trim_arg w u a e1) ?_
    rintro e w' ⟨x1, rfl⟩
    exact ⟨x1, Lib.hid (V.stay (Chg.refl [] _))⟩
  · rw [if_neg e1]
    by_cases e3 : a ≤ T.S.mr
    · rw [if_pos e3]
      refine Calls.mono (R' := _) (Trim_no w P a (by omega) e3) ?_
      rintro e w' ⟨x1, rfl⟩
      exact ⟨x1, Lib.hid (V.stay (Chg.refl [] _))⟩
    · rw [if_neg e3]
      exact Trim_go w P a (by omega) (by omega) _ _ (change_v P V.iv (Chg.refl [] w) (fun x hx => .inl (hB x hx)) ⟨3, a, 0, zCe⟩ zA (fun e => by simp at e) (okN_num (by omega) (by omega)) (al_mark (by omega) (by omega)))
theorem Seal_v (V : Pgv w B u p n T) (a : Nat) (ha : a < 18446744073709551616) :
    Calls Tryz.prog 26 #[.pointer (some ⟨u, 0, none⟩), .int .u64 (a : Int)] w fun e w' => e = .returned (.int .i64 ((pSl n T a).1 : Int)) ∧ Hid (Pgvc w B u p n (pSl n T a).2 w') := by
  obtain ⟨l, q, g, b, sq, sp, sb, v, C, P, hB⟩ := V.ex
  unfold pSl
  by_cases e1 : 1048576 < a
  · rw [if_pos e1]
    refine Calls.mono (R' := _) (Seal_arg w u a e1) ?_
    rintro e w' ⟨x1, rfl⟩
    exact ⟨x1, Lib.hid (V.stay (Chg.refl [] _))⟩
  · rw [if_neg e1]
    by_cases e3 : a ≤ T.S.ep
    · rw [if_pos e3]
      refine Calls.mono (R' := _) (Seal_no w P a (by omega) e3) ?_
      rintro e w' ⟨x1, rfl⟩
      exact ⟨x1, Lib.hid (V.stay (Chg.refl [] _))⟩
    · rw [if_neg e3]
      exact Seal_go w P a (by omega) (by omega) _ _ (change_v P V.iv (Chg.refl [] w) (fun x hx => .inl (hB x hx)) ⟨1, a, 0, zCe⟩ zA (fun e => by simp at e) (okN_num (by omega) (by omega)) (al_ep (by omega) (by omega)))
theorem OpenE_v (V : Pgv w B u p n T) (a : Nat) (ha : a < 18446744073709551616) :
    Calls Tryz.prog 27 #[.pointer (some ⟨u, 0, none⟩), .int .u64 (a : Int)] w fun e w' => e = .returned (.int .i64 ((pOp n T a).1 : Int)) ∧ Hid (Pgvc w B u p n (pOp n T a).2 w') := by
  obtain ⟨l, q, g, b, sq, sp, sb, v, C, P, hB⟩ := V.ex
  unfold pOp
  by_cases e1 : 1048576 < a
  · rw [if_pos e1]
    refine Calls.mono (R' := _) (OpenE_arg w u a e1) ?_
    rintro e w' ⟨x1, rfl⟩
    exact ⟨x1, Lib.hid (V.stay (Chg.refl [] _))⟩
  · rw [if_neg e1]
    by_cases e3 : a ≤ T.S.op
    · rw [if_pos e3]
      refine Calls.mono (R' := _) (OpenE_no w P a (by omega) e3) ?_
      rintro e w' ⟨x1, rfl⟩
      exact ⟨x1, Lib.hid (V.stay (Chg.refl [] _))⟩
    · rw [if_neg e3]
      exact OpenE_go w P a (by omega) (by omega) _ _ (change_v P V.iv (Chg.refl [] w) (fun x hx => .inl (hB x hx)) ⟨5, a, 0, zCe⟩ zA (fun e => by simp at e) (okN_num (by omega) (by omega)) (al_op (by omega) (by omega)))
noncomputable def rdE (S : PS) (a : Nat) : Nat := if S.tr a = true then 83 else if (S.m a).isSome = true then 0 else 82
def rdC (S : PS) (a : Nat) : Ce := (S.m a).getD zCe
theorem Read_v (V : Pgv w B u p n T) (a : Nat) (ha : a < 1048576) :
    Calls Tryz.prog 32 #[.pointer (some ⟨u, 0, none⟩), .int .u64 (a : Int)] w fun e w' => ∃ A : CeT, e = .returned (.tuple #[A.val, .int .i64 ((rdE T.S a : Nat) : Int)]) ∧ A.x = rdC T.S a ∧ Hid (NewC w w' A) ∧ Chg [] w w' := by
  obtain ⟨l, q, g, b, sq, sp, sb, v, C, P, hB⟩ := V.ex
  have hz : ∀ w', NewC w w' zA := fun w' => ⟨Ro.nil _ _ _, Ro.nil _ _ _, (fun _ h => nomatch h), (fun _ h => nomatch h)⟩
  have hg := V.gd
  unfold rdE
  by_cases e1 : T.S.tr a = true
  · rw [if_pos e1]
    have e2 : T.S.m a = none := by
      cases hm : T.S.m a with
      | none => rfl
      | some c => have := (hg.cell a c hm).2.2; rw [this] at e1; cases e1
    refine Calls.mono (R' := _) (Read_tr w P a ha e1) ?_
    rintro e w' ⟨x1, x2⟩
    exact ⟨zA, x1, by unfold rdC; rw [e2]; rfl, Lib.hid (hz w'), x2⟩
  · rw [if_neg e1]
    by_cases e2 : (T.S.m a).isSome = true
    · rw [if_pos e2]
      obtain ⟨c, hc⟩ := Option.isSome_iff_exists.1 e2
      refine Calls.mono (R' := _) (Read_ok w P a c hc) ?_
      rintro e w' ⟨A', x1, x2, x3, x4⟩
      exact ⟨A', x1, by unfold rdC; rw [hc]; exact x2, x3, x4⟩
    · rw [if_neg e2]
      have e3 : T.S.m a = none := by simpa using e2
      refine Calls.mono (R' := _) (Read_un w P a ha (by simpa using e1) e3) ?_
      rintro e w' ⟨x1, x2⟩
      exact ⟨zA, x1, by unfold rdC; rw [e3]; rfl, Lib.hid (hz w'), x2⟩
theorem Epoch_v (V : Pgv w B u p n T) : Calls Tryz.prog 28 #[.pointer (some ⟨u, 0, none⟩)] w fun e w' => e = .returned (.int .u64 (T.S.ep : Int)) ∧ w' = w := V.ex.elim fun l h => by
  obtain ⟨q, g, b, sq, sp, sb, v, C, P, _⟩ := h; exact Epoch_any w P
theorem Opened_v (V : Pgv w B u p n T) : Calls Tryz.prog 31 #[.pointer (some ⟨u, 0, none⟩)] w fun e w' => e = .returned (.int .u64 (T.S.op : Int)) ∧ w' = w := V.ex.elim fun l h => by
  obtain ⟨q, g, b, sq, sp, sb, v, C, P, _⟩ := h; exact Opened_any w P
theorem Mark_v (V : Pgv w B u p n T) : Calls Tryz.prog 29 #[.pointer (some ⟨u, 0, none⟩)] w fun e w' => e = .returned (.int .u64 (T.S.mr : Int)) ∧ w' = w := V.ex.elim fun l h => by
  obtain ⟨q, g, b, sq, sp, sb, v, C, P, _⟩ := h; exact Mark_any w P
theorem Tail_v (V : Pgv w B u p n T) : Calls Tryz.prog 30 #[.pointer (some ⟨u, 0, none⟩)] w fun e w' => ∃ t : Nat, e = .returned (.int .u64 (t : Int)) ∧ IsTail T.S t ∧ Chg [] w w' := V.ex.elim fun l h => by
  obtain ⟨q, g, b, sq, sp, sb, v, C, P, _⟩ := h; exact Tail_any w P
theorem Written_v (V : Pgv w B u p n T) : Calls Tryz.prog 34 #[.pointer (some ⟨u, 0, none⟩)] w fun e w' => ∃ v, e = .returned v ∧ Lst w' w.heap.size 37 v (u64s (addrs T.S.m)) ∧ Chg [] w w' := V.ex.elim fun l h => by
  obtain ⟨q, g, b, sq, sp, sb, v, C, P, _⟩ := h; exact Written_any w P
theorem Trimmed_v (V : Pgv w B u p n T) : Calls Tryz.prog 35 #[.pointer (some ⟨u, 0, none⟩)] w fun e w' => ∃ v, e = .returned v ∧ Lr w' w.heap.size 86 v T.S.T ∧ Chg [] w w' := V.ex.elim fun l h => by
  obtain ⟨q, g, b, sq, sp, sb, v, C, P, _⟩ := h; exact Trimmed_any w P
end
structure Pgz (w0 w : World) (u p n : Nat) (T : PT) : Prop where
  v : Pgv w (fun x => w0.heap.size ≤ x) u p n T
  c : Chg [] w0 w
theorem Pgz.kept {w0 w w' : World} {u p n : Nat} {T : PT} (V : Pgz w0 w u p n T) (hc : Chg [] w w') : Pgz w0 w' u p n T := ⟨V.v.kept hc, V.c.trans hc⟩
theorem Pgvc.z {w0 w w' : World} {u p n : Nat} {T T' : PT} (V : Pgz w0 w u p n T) (h : Pgvc w (fun x => w0.heap.size ≤ x) u p n T' w') : Pgz w0 w' u p n T' :=
  ⟨h.1.mono fun x hx => hx.elim id (Nat.le_trans V.c.size), Gch.low V.c h.2 fun _ h => h⟩
def acv (k : Int) (a : Nat) (A : CeT) (b : Option Addr) (n c : Nat) (e : Option Addr) (m d : Nat) : Value := .agg #[.int .i64 k, .int .u64 (a : Int), .int .i64 A.x.k, .slice A.a A.x.d.length A.c, .slice A.a2 A.x.b.length A.c2, .slice b n c, .slice e m d]
theorem afits_any (w : World) (k : Int) (a : Nat) (A : CeT) (b : Option Addr) (n c : Nat) (e : Option Addr) (m d : Nat) :
    Calls Tryz.prog 14 #[acv k a A b n c e m d] w fun e w' => ∃ B, e = .returned (.bool B) ∧ Chg [] w w' := by
  have HF := Lib.hid (fun W => fits_any A.x.k A.a A.x.d.length A.c A.a2 A.x.b.length A.c2 W)
  unfold acv
  obtain ⟨⟨ck, cd, cb⟩, a1, c1, a2, c2⟩ := A
  simp only at HF ⊢
  generalize cd.length = dn at *
  generalize cb.length = bn at *
  have hd : ∀ (x : Nat), decide ((x : Int) ≤ 300) = decide (x ≤ 300) := fun x => by simp; omega
  cases hB : (decide (dn ≤ 400) && decide (bn ≤ 30)) <;> rw [hB] at HF
  · go_enter Tryz.func14, Tryz.ntmps14
    go_wp2_with (first
      | (go_at_call 48; refine (HF.out _).mono ?_; rintro e w2 ⟨rfl, hb2⟩)
      | fail)
    go_ret
    exact ⟨_, rfl, ((Chg.refl [] w).alloc _).trans (low_chg hb2)⟩
  · obtain ⟨w1, HW1⟩ : ∃ W, Hid (w.alloc (.cells #[.int .i64 k, .int .u64 (a : Int), .int .i64 ck, .slice a1 dn c1, .slice a2 bn c2, .slice b n c, .slice e m d] 45) = W) := ⟨_, Lib.hid rfl⟩
    have hC1 : Chg [] w w1 := by rw [← HW1.out]; exact (Chg.refl [] w).alloc _
    have hob : Own w1 w.heap.size 45 [.int .i64 k, .int .u64 (a : Int), .int .i64 ck, .slice a1 dn c1, .slice a2 bn c2, .slice b n c, .slice e m d] := by rw [← HW1.out]; exact Own.new w _ _
    have q2 : w1.cell? ⟨w.heap.size, 2, none⟩ = some (.int .i64 ck) := by rw [hob.cell]; rfl
    have q3 : w1.cell? ⟨w.heap.size, 3, none⟩ = some (.slice a1 dn c1) := by rw [hob.cell]; rfl
    have q4 : w1.cell? ⟨w.heap.size, 4, none⟩ = some (.slice a2 bn c2) := by rw [hob.cell]; rfl
    have q5 : w1.cell? ⟨w.heap.size, 5, none⟩ = some (.slice b n c) := by rw [hob.cell]; rfl
    have H5 := Lib.hid q5
    have HC1 := Lib.hid hC1
    clear hC1 hob q5
    go_enter Tryz.func14, Tryz.ntmps14
    go_upto_region 1 with fail
    rw [HW1.out]
    go_wp2_with (first
      | (go_at_call 48; refine (HF.out _).mono ?_; rintro e w2 ⟨rfl, hb2⟩; have r5 := (low_chg hb2).cell H5.out (by simp))
      | fail)
    go_ret
    exact ⟨_, rfl, HC1.out.trans (low_chg hb2)⟩
theorem Pgz.start {w w1 w2 : World} {u : Nat} {l : List Nat} {q p g b n sq sp sb : Nat} {v : Value} (hc1 : Chg [] w w1) (hp : w.heap.size ≤ p) (hg : w.heap.size ≤ g) (hb : w.heap.size ≤ b)
    (P : Pgs w2 u l q p g b n (calm (fun _ => zsec) (fun _ => none) 0 []) sq sp sb v [] PS.zero) (hl : ∀ x ∈ u :: l ++ stB sq sp sb v, w1.heap.size ≤ x) (hc2 : Chg [] w1 w2) : Pgz w w2 u p n ⟨fun _ => zsec, 0, [], PS.zero⟩ := by
  refine ⟨⟨⟨l, q, g, b, sq, sp, sb, v, [], P, fun x hx => ?_⟩, Iv.start n⟩, hc1.trans hc2⟩
  have h1 := hc1.size
  have h2 := hl x
  simp only [List.mem_cons, List.mem_append, List.not_mem_nil, or_false] at hx h2
  show w.heap.size ≤ x
  rcases hx with hx | hx | (hx | hx | hx) | hx
  · have := h2 (.inl (.inl hx)); omega
  · omega
  · have := h2 (.inl (.inr hx)); omega
  · omega
  · omega
  · have := h2 (.inr hx); omega
theorem act_range {w : World} {b o : Nat} {Z : ActT8} (h : w.rangeAt b o Z.cells) : w.cell? ⟨b, o, none⟩ = some (.int .i64 Z.k) ∧ w.cell? ⟨b, o + 1, none⟩ = some (.int .u64 (Z.n : Int)) ∧ w.cell? ⟨b, o + 2, none⟩ = some (.int .i64 Z.A.x.k) ∧ w.cell? ⟨b, o + 3, none⟩ = some (.slice Z.A.a Z.A.x.d.length Z.A.c) ∧ w.cell? ⟨b, o + 4, none⟩ = some (.slice Z.A.a2 Z.A.x.b.length Z.A.c2) ∧ w.cell? ⟨b, o + 5, none⟩ = some (.slice Z.b Z.bs.length Z.bc) ∧ w.cell? ⟨b, o + 6, none⟩ = some (.slice Z.e Z.ks.length Z.ec) :=
  ⟨h 0 _ rfl, h 1 _ rfl, h 2 _ rfl, h 3 _ rfl, h 4 _ rfl, h 5 _ rfl, h 6 _ rfl⟩
set_option maxHeartbeats 4000000 in
set_option maxRecDepth 100000 in
theorem built_any (w : World) (n : Nat) (a : Option Addr) (len c : Nat) (Z : Nat → ActT8) (h3 : 3 ≤ n) (h200 : n ≤ 200) (hz : IsActs8 w a len Z) :
    Calls Tryz.prog 21 #[.int .i64 (n : Int), .slice a len c] w fun e w' => ∃ p u T, e = .returned (.tuple #[.pointer (some ⟨p, 0, none⟩), .pointer (some ⟨u, 0, none⟩)]) ∧ Hid (Pgz w w' u p n T) := by
  have H0 := Lib.hid (pnew_ex w n (by omega) (by omega))
  have HZ := Lib.hid hz
  have hlen := hz.1
  have HN := Lib.hid h3
  clear hz h200
  go_enter Tryz.func21, Tryz.ntmps21
  go_wp2_with fail
  refine H0.out.mono ?_
  rintro e w1 ⟨p, g, b, rfl, hp, hg, hb, hd1, hc1⟩
  have HO := Lib.hid (POpen_fresh w1 hd1 HN.out (opens_zero n))
  have HC1 := Lib.hid hc1
  have HB := Lib.hid (And.intro hp (And.intro hg hb))
  clear hd1 hc1 hp hg hb H0
  go_wp2_with fail
  refine HO.out.mono ?_
  rintro e w2 ⟨u, l, q, sq, sp, sb, v, rfl, hP2, hl2, hc2⟩
  have HP2 := Lib.hid (Pgz.start HC1.out HB.out.1 HB.out.2.1 HB.out.2.2 hP2.out hl2.out hc2)
  clear HO hP2 hl2 hc2 HC1 HB
  go_wp2_with fail
  go_loopw [10] (fun i wr => ∃ k : Nat, i = .int .i64 k ∧ k ≤ len ∧ k ≤ 50 ∧ ∃ T, Hid (Pgz w wr u p n T)) (fun i _ => 50 - (intOf i).toNat)
  case atStart => exact ⟨0, rfl, Nat.zero_le _, Nat.zero_le _, _, HP2⟩
  case round =>
    obtain ⟨k, rfl, hk, hk50, T, HP⟩ := hrel
    have hk0 : (0 : Int) ≤ (k : Int) := by omega
    have hkb : (k : Int) ≤ 50 := by omega
    by_cases hlt : k < len
    · have d1 : decide ((k : Int) < (len : Int)) = true := by simp; omega
      have d1' : decide (k < len) = true := by simpa using hlt
      by_cases hl5 : k < 50
      · have d2 : decide ((k : Int) < 50) = true := by simp; omega
        have d2' : decide (k < 50) = true := by simpa using hl5
        obtain ⟨bz, off, rfl, hbz, hok, hra⟩ := HZ.out.at_ HP.out.c.low hlt
        obtain ⟨x0, x1, x2, x3, x4, x5, x6⟩ := act_range hra
        have hk1 : (k : Int) < (len : Int) := by omega
        generalize Z k = z at *
        have HF := Lib.hid (fun W => afits_any W z.k z.n z.A z.b z.bs.length z.bc z.e z.ks.length z.ec)
        have HOK := Lib.hid hok
        have HKM : Hid (50 - (k + 1) < 50 - k) := Lib.hid (by omega)
        have HON := Lib.hid (Own.new wr 45 z.cells)
        clear hra hok
        obtain ⟨kd, y, A, zb, zbs, zbc, ze, zks, zec⟩ := z
        unfold acv at HF
        unfold ActT8.cells at HON
        obtain ⟨⟨ck, cd, cb⟩, a1, c1, a2, c2⟩ := A
        simp only at HF HON x0 x1 x2 x3 x4 x5 x6
        obtain ⟨dn, hdn⟩ : ∃ x, Hid (cd.length = x) := ⟨_, Lib.hid rfl⟩
        obtain ⟨bn, hbn⟩ : ∃ x, Hid (cb.length = x) := ⟨_, Lib.hid rfl⟩
        simp only [hdn.out, hbn.out] at HF HON x0 x1 x2 x3 x4 x5 x6
        go_wp2_with fail
        refine (HF.out _).mono ?_
        rintro e w3 ⟨B, rfl, hc3⟩
        have HP3 := Lib.hid (HP.out.kept (((Chg.refl [] wr).alloc _).trans hc3))
        have HO3 := Lib.hid (HON.out.chg hc3 (by simp))
        have q0 := HO3.out.cell 0
        have q1 := HO3.out.cell 1
        have q2 := HO3.out.cell 2
        have q3 := HO3.out.cell 3
        have q4 := HO3.out.cell 4
        simp only [List.getElem?_cons_zero, List.getElem?_cons_succ] at q0 q1 q2 q3 q4
        have HOK3 := HOK.out.keep (((Chg.refl [] wr).alloc _).trans hc3).low
        have hW : Calls Tryz.prog 23 #[.pointer (some ⟨u, 0, none⟩), .int .u64 (y : Int), .agg #[.int .i64 ck, .slice a1 dn c1, .slice a2 bn c2]] w3 fun e w' => e = .returned (.int .i64 ((pWr n T y ⟨ck, cd, cb⟩).1 : Int)) ∧ Hid (Pgvc w3 (fun x => w.heap.size ≤ x) u p n (pWr n T y ⟨ck, cd, cb⟩).2 w') := by
          have h9 := Write_v HP3.out.v y ⟨⟨ck, cd, cb⟩, a1, c1, a2, c2⟩ HOK3.n HOK3.A.d HOK3.A.b HOK3.A.dl HOK3.A.bl
          unfold CeT.val cev at h9
          simp only [hdn.out, hbn.out] at h9
          exact h9
        have HWR := Lib.hid hW
        have HTM := Lib.hid (Trim_v HP3.out.v y HOK3.n)
        have HTO := Lib.hid (TrimOne_v HP3.out.v y HOK3.n)
        have HSL := Lib.hid (Seal_v HP3.out.v y HOK3.n)
        have HOP := Lib.hid (OpenE_v HP3.out.v y HOK3.n)
        clear hW
        clear HOK3
        clear hc3 x0 x1 x2 x3 x4 x5 x6 HF
        cases B
        · go_wp2_with fail
          go_roundw
          case rel => exact ⟨k + 1, by go_num, by omega, by omega, T, HP3⟩
          case measure => have := HKM.out; simp [intOf]; omega
        · skip
          by_cases e1 : kd = 1
          · subst e1
            go_wp2_with (first | (go_at_call 23; refine HWR.out.mono ?_; rintro e w4 ⟨rfl, hp4⟩; have HP4 := Lib.hid (hp4.out.z HP3.out); clear hp4) | fail)
            go_roundw
            case rel => exact ⟨k + 1, by go_num, by omega, by omega, _, HP4⟩
            case measure => have := HKM.out; simp [intOf]; omega
          have f1 : (kd == 1) = false := by simpa using e1
          have g1 : decide (kd = 1) = false := by simpa using e1
          by_cases e3 : kd = 3
          · subst e3
            go_wp2_with (first | (go_at_call 24; refine HTM.out.mono ?_; rintro e w4 ⟨rfl, hp4⟩; have HP4 := Lib.hid (hp4.out.z HP3.out); clear hp4) | fail)
            go_roundw
            case rel => exact ⟨k + 1, by go_num, by omega, by omega, _, HP4⟩
            case measure => have := HKM.out; simp [intOf]; omega
          have f3 : (kd == 3) = false := by simpa using e3
          have g3 : decide (kd = 3) = false := by simpa using e3
          by_cases e4 : kd = 4
          · subst e4
            go_wp2_with (first | (go_at_call 25; refine HTO.out.mono ?_; rintro e w4 ⟨rfl, hp4⟩; have HP4 := Lib.hid (hp4.out.z HP3.out); clear hp4) | fail)
            go_roundw
            case rel => exact ⟨k + 1, by go_num, by omega, by omega, _, HP4⟩
            case measure => have := HKM.out; simp [intOf]; omega
          have f4 : (kd == 4) = false := by simpa using e4
          have g4 : decide (kd = 4) = false := by simpa using e4
          by_cases e5 : kd = 5
          · subst e5
            go_wp2_with (first | (go_at_call 26; refine HSL.out.mono ?_; rintro e w4 ⟨rfl, hp4⟩; have HP4 := Lib.hid (hp4.out.z HP3.out); clear hp4) | fail)
            go_roundw
            case rel => exact ⟨k + 1, by go_num, by omega, by omega, _, HP4⟩
            case measure => have := HKM.out; simp [intOf]; omega
          have f5 : (kd == 5) = false := by simpa using e5
          have g5 : decide (kd = 5) = false := by simpa using e5
          by_cases e8 : kd = 8
          · subst e8
            go_wp2_with (first | (go_at_call 27; refine HOP.out.mono ?_; rintro e w4 ⟨rfl, hp4⟩; have HP4 := Lib.hid (hp4.out.z HP3.out); clear hp4) | fail)
            go_roundw
            case rel => exact ⟨k + 1, by go_num, by omega, by omega, _, HP4⟩
            case measure => have := HKM.out; simp [intOf]; omega
          have f8 : (kd == 8) = false := by simpa using e8
          have g8 : decide (kd = 8) = false := by simpa using e8
          go_wp2_with fail
          go_roundw
          case rel => exact ⟨k + 1, by go_num, by omega, by omega, T, HP3⟩
          case measure => have := HKM.out; simp [intOf]; omega
      · obtain rfl : k = 50 := by omega
        go_wp2_with fail
        go_ret2
        exact ⟨p, u, T, rfl, HP⟩
    · obtain rfl : k = len := by omega
      have d1 : decide ((k : Int) < (k : Int)) = false := by simp
      go_wp2_with fail
      go_ret2
      exact ⟨p, u, T, rfl, HP⟩
structure Pgy (w0 w : World) (N : List Nat) (u p n : Nat) (T : PT) : Prop where
  v : Pgv w (fun x => w0.heap.size ≤ x ∧ x ∉ N) u p n T
  c : Chg [] w0 w
  lt : ∀ x ∈ N, x < w.heap.size
theorem Pgv.low {w : World} {B : Nat → Prop} {u p n : Nat} {T : PT} (V : Pgv w B u p n T) : Pgv w (fun x => B x ∧ x < w.heap.size) u p n T := by
  obtain ⟨l, q, g, b, sq, sp, sb, v, C, P, hB⟩ := V.ex
  exact ⟨⟨l, q, g, b, sq, sp, sb, v, C, P, fun x hx => ⟨hB x hx, P.lt x hx⟩⟩, V.iv⟩
theorem Pgz.fence {w0 w w' : World} {u p n : Nat} {T : PT} (V : Pgz w0 w u p n T) (hc : Chg [] w w') (N : List Nat) (hN : ∀ x ∈ N, w.heap.size ≤ x ∧ x < w'.heap.size) : Pgy w0 w' N u p n T :=
  ⟨(V.v.low.kept hc).mono fun x hx => ⟨hx.1, fun h => by have := (hN x h).1; omega⟩, V.c.trans hc, fun x hx => (hN x hx).2⟩
theorem Pgy.kept {w0 w w' : World} {N : List Nat} {u p n : Nat} {T : PT} (V : Pgy w0 w N u p n T) (hc : Chg [] w w') : Pgy w0 w' N u p n T := ⟨V.v.kept hc, V.c.trans hc, fun x hx => Nat.lt_of_lt_of_le (V.lt x hx) hc.size⟩
theorem Pgy.turn {w0 w w' : World} {N : List Nat} {u p n : Nat} {T : PT} (V : Pgy w0 w N u p n T) (hc : Chg N w w') (h0 : ∀ x ∈ N, w0.heap.size ≤ x) : Pgy w0 w' N u p n T :=
  ⟨V.v.apart (B2 := fun x => x ∈ N) ⟨N, hc, fun x hx => .inl hx⟩ (fun x _ h1 h2 => h1.2 h2), V.c.then hc (fun x hx => .inr (h0 x hx)), fun x hx => Nat.lt_of_lt_of_le (V.lt x hx) hc.size⟩
theorem Pgy.step {w0 w w' : World} {N : List Nat} {u p n : Nat} {T T' : PT} (V : Pgy w0 w N u p n T) (h : Pgvc w (fun x => w0.heap.size ≤ x ∧ x ∉ N) u p n T' w') : Pgy w0 w' N u p n T' ∧ ∀ g ∈ N, ∀ t cs, Own w g t cs → Own w' g t cs := by
  obtain ⟨m, hm, hm2⟩ := h.2
  refine ⟨⟨h.1.mono fun x hx => ?_, Gch.low V.c h.2 fun x hx => hx.1, fun x hx => Nat.lt_of_lt_of_le (V.lt x hx) hm.size⟩, fun g hg t cs ho => ho.chg hm fun hx => ?_⟩
  · rcases hx with h1 | h1
    · exact h1
    · exact ⟨Nat.le_trans V.c.size h1, fun h9 => by have := V.lt x h9; omega⟩
  · have h1 := V.lt g hg
    rcases hm2 g hx with h2 | h2
    · exact h2.2 hg
    · omega
theorem Pgy.z {w0 w : World} {N : List Nat} {u p n : Nat} {T : PT} (V : Pgy w0 w N u p n T) : Pgz w0 w u p n T := ⟨V.v.mono fun x hx => hx.1, V.c⟩
end Go.Proofs.YtmpajlpemabniaaGreat
