/-
  The records of a state, part by part. No claim of their own.
-/
import Derived.Test.YtmpajlpemabniaaGreatZk36
import Derived.Test.YtmpajlpemabniaaGreatZk24
import Derived.Test.YtmpajlpemabniaaGreatZk35
namespace Go.Proofs.YtmpajlpemabniaaGreat
open Go.RowKit Go.Maps Go.Shelf Go.Deep
set_option linter.unusedVariables false
set_option linter.unusedSimpArgs false

def RecP (w0 w : World) (C : List Nat) (rs : List Rc) (e : Ending) (w' : World) : Prop :=
  ∃ v xs, e = .returned v ∧ xs.map (·.r) = rs ∧ Hid (Rl w' w0.heap.size v xs) ∧ Hid (∀ x ∈ xs, x.r.k = 2 → x.A.x = x.r.c ∧ CellV w' C x.A) ∧ Chg [] w w'
theorem unlessZero_any (w : World) (k n : Nat) (C : List Nat) (hk : k ≠ 2) :
    Calls Tryz.prog 227 #[.int .u64 (k : Int), .int .u64 (n : Int)] w (RecP w w C (one0 k n)) := by
  unfold one0
  by_cases h : n = 0
  · subst h
    go_enter Tryz.func227, Tryz.ntmps227
    go_wp2_with fail
    go_ret
    exact ⟨_, [], rfl, rfl, Lib.hid (Rl.nil _ _), Lib.hid (fun x hx => by cases hx), Chg.refl _ _⟩
  · rw [if_neg h]
    have h1 : ((n : Int) == 0) = false := by simp; omega
    have h2 : decide ((n : Int) = 0) = false := by simp; omega
    have h3 : ((n : Int) = 0) = False := by simp; omega
    have h4 : (n = 0) = False := by simp [h]
    go_enter Tryz.func227, Tryz.ntmps227
    go_wp2_with fail
    go_ret
    exact ⟨_, [⟨⟨k, n, 0, zCe⟩, zA⟩], rfl, rfl, Lib.hid (Rl.lit w w.heap.size ⟨⟨k, n, 0, zCe⟩, zA⟩ (Nat.le_refl _)), Lib.hid (fun x hx e => by simp at hx; subst hx; exact absurd e hk), (Chg.refl [] w).alloc _⟩
theorem epochRecords_any (w : World) {q p : Nat} {v : Value} {b : Nat} {C : List Nat} {S : PS} (h : Sta w q p v b C S) :
    Calls Tryz.prog 185 #[.pointer (some ⟨q, 0, none⟩)] w (RecP w w C (one0 1 S.ep)) := by
  obtain ⟨h0, h1, h2, h3, h4⟩ := h.cells
  have HU : Hid (Calls Tryz.prog 227 #[.int .u64 1, .int .u64 (S.ep : Int)] w (RecP w w C (one0 1 S.ep))) := Lib.hid (unlessZero_any w 1 S.ep C (by omega))
  clear h
  go_enter Tryz.func185, Tryz.ntmps185
  go_wp2_with (first
    | (go_at_call 227; refine HU.out.mono ?_; rintro e w2 ⟨v2, xs, rfl, r1, r2, r3, r4⟩)
    | fail)
  go_ret
  exact ⟨v2, xs, rfl, r1, r2, r3, r4⟩
theorem openedRecords_any (w : World) {q p : Nat} {v : Value} {b : Nat} {C : List Nat} {S : PS} (h : Sta w q p v b C S) :
    Calls Tryz.prog 186 #[.pointer (some ⟨q, 0, none⟩)] w (RecP w w C (one0 5 S.op)) := by
  obtain ⟨h0, h1, h2, h3, h4⟩ := h.cells
  have HU : Hid (Calls Tryz.prog 227 #[.int .u64 5, .int .u64 (S.op : Int)] w (RecP w w C (one0 5 S.op))) := Lib.hid (unlessZero_any w 5 S.op C (by omega))
  clear h
  go_enter Tryz.func186, Tryz.ntmps186
  go_wp2_with (first
    | (go_at_call 227; refine HU.out.mono ?_; rintro e w2 ⟨v2, xs, rfl, r1, r2, r3, r4⟩)
    | fail)
  go_ret
  exact ⟨v2, xs, rfl, r1, r2, r3, r4⟩
theorem markRecords_any (w : World) {q p : Nat} {v : Value} {b : Nat} {C : List Nat} {S : PS} (h : Sta w q p v b C S) :
    Calls Tryz.prog 187 #[.pointer (some ⟨q, 0, none⟩)] w (RecP w w C (one0 3 S.mr)) := by
  obtain ⟨h0, h1, h2, h3, h4⟩ := h.cells
  have HU : Hid (Calls Tryz.prog 227 #[.int .u64 3, .int .u64 (S.mr : Int)] w (RecP w w C (one0 3 S.mr))) := Lib.hid (unlessZero_any w 3 S.mr C (by omega))
  clear h
  go_enter Tryz.func187, Tryz.ntmps187
  go_wp2_with (first
    | (go_at_call 227; refine HU.out.mono ?_; rintro e w2 ⟨v2, xs, rfl, r1, r2, r3, r4⟩)
    | fail)
  go_ret
  exact ⟨v2, xs, rfl, r1, r2, r3, r4⟩
def tRT (r : Rn) : RT := ⟨tRc r, zA⟩
set_option maxHeartbeats 1000000 in
set_option maxRecDepth 100000 in
theorem trimmedRecords_any (w : World) {q p : Nat} {v : Value} {b : Nat} {C : List Nat} {S : PS} (h : Sta w q p v b C S) :
    Calls Tryz.prog 188 #[.pointer (some ⟨q, 0, none⟩)] w (RecP w w C (S.T.map tRc)) := by
  obtain ⟨h0, h1, h2, h3, h4⟩ := h.cells
  have HR := Lib.hid (Runs_some w p v S.T h.set)
  obtain ⟨N, hN⟩ : ∃ x, Hid (S.T.length = x) := ⟨_, Lib.hid rfl⟩
  have hNl : N ≤ 1000000 := by rw [← hN.out]; exact h.set.len
  clear h h0 h1 h2 h4
  go_enter Tryz.func188, Tryz.ntmps188
  go_wp2_with (first
    | (go_at_call 75; refine HR.out.mono ?_; rintro e w1 ⟨vr, rfl, hl1, hb1⟩
       have HL1 := Lib.hid hl1; have HC1 := Lib.hid (low_chg hb1); clear hl1 hb1
       obtain ⟨a, c, e9, hro, _⟩ := HL1.out.form
       rw [hN.out] at e9
       subst e9
       have HRO := Lib.hid hro
       clear hro)
    | fail)
  go_loopw [3, 12] (fun v3 i wr => ∃ k : Nat, i = .int .i64 k ∧ k ≤ N ∧ Hid (Rl wr w1.heap.size v3 ((S.T.take k).map tRT)) ∧ Hid (Chg [] w1 wr)) (fun _ i _ => N - (intOf i).toNat)
  case atStart => exact ⟨0, rfl, Nat.zero_le _, Lib.hid (Rl.nil _ _), Lib.hid (Chg.refl [] w1)⟩
  case round =>
    obtain ⟨k, rfl, hk, HL, HC⟩ := hrel
    by_cases hlt : k < N
    · have hkL : k < S.T.length := by rw [hN.out]; exact hlt
      obtain ⟨g, off, rfl, hg, hcl⟩ := HRO.out.rn (by omega)
      obtain ⟨x1, x2⟩ := hcl k hkL
      have y1 := HC.out.cell x1 (by simp)
      have y2 := HC.out.cell x2 (by simp)
      have HT2 := Lib.hid (show (S.T.take (k + 1)).map tRT = (S.T.take k).map tRT ++ [tRT (el S.T k)] from by rw [take_el hkL, List.map_append]; rfl)
      have HLK := Lib.hid (show ((S.T.take k).map tRT).length = k from by rw [List.length_map, List.length_take]; omega)
      generalize el S.T k = x at *
      have hd1 : decide (k < N) = true := by simpa using hlt
      have hk0 : (0 : Int) ≤ (k : Int) := by omega
      have hk1 : (k : Int) < (N : Int) := by omega
      have hkb : (k : Int) ≤ 4000000 := by omega
      have HKM := Lib.hid (show N - (k + 1) < N - k by omega)
      have HSZ := Lib.hid HC.out.size
      clear hcl x1 x2 h3
      go_wp2_with (first
        | (at_builtin; refine wpList_app6 rfl (.tmp 16) (.tmp 22) (by rfl) w1.heap.size _ ((S.T.take k).map tRT) (by rfl) ((HL.out.alloc _).alloc _) _ (tRT x) 101 (Own.new _ _ _) (by first | rfl | (rw [World.size_alloc]; rfl)) (by rw [HLK.out]; omega) (by have := HSZ.out; simp; omega) ?_; intro v4 w4 H4 hg4
           have HC4 := Lib.hid (((HC.out.alloc _).alloc _).grown hg4 (fun k e => Or.inr (HL.out.lt k e).1)))
        | fail)
      go_roundw
      case rel => exact ⟨k + 1, by go_num, by omega, by rw [HT2.out]; exact H4, HC4⟩
      case measure => have := HKM.out; simp [intOf]; omega
    · obtain rfl : k = N := by omega
      have hd1 : decide (k < k) = false := by simp
      have HX := Lib.hid (show (S.T.take k).map tRT = S.T.map tRT from by rw [List.take_of_length_le (by rw [hN.out]; exact Nat.le_refl _)])
      go_wp2_with fail
      go_ret
      refine ⟨_, S.T.map tRT, rfl, by rw [List.map_map]; rfl, Lib.hid ?_, Lib.hid (fun x hx e => ?_), HC1.out.trans HC.out⟩
      · have := HL.out
        rw [HX.out] at this
        exact this.base HC1.out.size
      · rw [List.mem_map] at hx
        obtain ⟨y, _, rfl⟩ := hx
        exact absurd e (by simp [tRT, tRc])
set_option maxHeartbeats 1000000 in
set_option maxRecDepth 100000 in
theorem cellRecords_any (w : World) {q p : Nat} {v : Value} {b : Nat} {C : List Nat} {S : PS} (h : Sta w q p v b C S) :
    Calls Tryz.prog 189 #[.pointer (some ⟨q, 0, none⟩)] w (RecP w w C ((addrs S.m).map (cRc S.m))) := by
  obtain ⟨h0, h1, h2, h3, h4⟩ := h.cells
  obtain ⟨V, hV, hV2⟩ := h.map
  have HWR := Lib.hid (written_any w h)
  have HV := Lib.hid (And.intro hV hV2)
  have HG := Lib.hid h.gd
  obtain ⟨N, hN⟩ : ∃ x, Hid ((addrs S.m).length = x) := ⟨_, Lib.hid rfl⟩
  have hNl : N ≤ 1048576 := by rw [← hN.out]; exact nodup_le (addrs_nodup S.m) (fun x hx => (mem_addrs.1 hx).1)
  have H4 := Lib.hid h4
  clear h h0 h1 h2 h3 h4 hV hV2
  go_enter Tryz.func189, Tryz.ntmps189
  go_wp2_with (first
    | (go_at_call 74; refine HWR.out.mono ?_; rintro e w1 ⟨vr, rfl, hl1, hb1⟩
       have HL1 := Lib.hid hl1; have HC1 := Lib.hid hb1; clear hl1 hb1
       obtain ⟨a, c, e9, hro, _⟩ := HL1.out.form
       rw [u64s_length, hN.out] at e9
       subst e9
       have HRO := Lib.hid hro
       clear hro)
    | fail)
  go_loopw [3, 9] (fun v3 i wr => ∃ (k : Nat) (xs : List RT), i = .int .i64 k ∧ k ≤ N ∧ Hid (xs.map (·.r) = ((addrs S.m).take k).map (cRc S.m)) ∧ Hid (Rl wr w1.heap.size v3 xs) ∧ Hid (∀ x ∈ xs, x.A.x = x.r.c ∧ CellV w C x.A) ∧ Hid (Chg [] w1 wr)) (fun _ i _ => N - (intOf i).toNat)
  case atStart => exact ⟨0, [], rfl, Nat.zero_le _, Lib.hid rfl, Lib.hid (Rl.nil _ _), Lib.hid (fun x hx => by cases hx), Lib.hid (Chg.refl [] w1)⟩
  case round =>
    obtain ⟨k, xs, rfl, hk, HM, HL, HX, HC⟩ := hrel
    by_cases hlt : k < N
    · have hkL : k < (addrs S.m).length := by rw [hN.out]; exact hlt
      obtain ⟨g, off, rfl, hg, hcl⟩ := HRO.out.at_ (by intro e; have e2 := congrArg List.length e; rw [u64s_length] at e2; simp at e2; rw [e2] at hkL; simp at hkL)
      have x1 := hcl k (by rw [u64s_length]; exact hkL)
      have eT : (addrs S.m).take (k + 1) = (addrs S.m).take k ++ [(addrs S.m)[k]] := by rw [List.take_succ_eq_append_getElem hkL]
      have ea : (addrs S.m)[k] ∈ addrs S.m := List.getElem_mem hkL
      have eg : (u64s (addrs S.m)).getD k undef = .int .u64 (((addrs S.m)[k] : Nat) : Int) := by simp [u64s, List.getD, hkL]
      rw [eg] at x1
      have y1 := HC.out.cell x1 (by simp)
      generalize (addrs S.m)[k] = y at *
      obtain ⟨hy, hys⟩ := mem_addrs.1 ea
      obtain ⟨A, hA1, hA2, hA3⟩ : ∃ A : CeT, S.m y = some A.x ∧ V y = some A.val ∧ CellV w C A := by
        rcases HV.out.2 y with ⟨e1, _⟩ | e1
        · rw [e1] at hys; cases hys
        · exact e1
      have HCW := Lib.hid (HC1.out.trans HC.out)
      have q4 := HCW.out.cell H4.out (by simp)
      have hlk : (Instr.lookup 136 (.map (some b)) (.int .u64 (y : Int)) false).run Tryz.prog wr = .ok A.val wr :=
        (HV.out.1.kept HCW.out).look1 (t := 136) (e := 42) Tryz.underlying136 (z := .agg #[.int .i64 0, .slice none 0 0, .slice none 0 0]) (by kernel_rfl) (by omega) hA2
      have HT2 : Hid ((xs ++ [(⟨cRc S.m y, A⟩ : RT)]).map (·.r) = ((addrs S.m).take (k + 1)).map (cRc S.m)) := Lib.hid (by rw [List.map_append, HM.out, eT, List.map_append]; rfl)
      have HLK : Hid (xs.length = k) := Lib.hid (by have := congrArg List.length HM.out; simp only [List.length_map, List.length_take] at this; omega)
      have HX2 : Hid (∀ x ∈ xs ++ [(⟨cRc S.m y, A⟩ : RT)], x.A.x = x.r.c ∧ CellV w C x.A) := Lib.hid (fun x hx => by
        rcases List.mem_append.1 hx with hx | hx
        · exact HX.out x hx
        · simp at hx
          subst hx
          refine ⟨?_, hA3⟩
          show A.x = (S.m y).getD zCe
          rw [hA1]
          rfl)
      have hd1 : decide (k < N) = true := by simpa using hlt
      have hk0 : (0 : Int) ≤ (k : Int) := by omega
      have hk1 : (k : Int) < (N : Int) := by omega
      have hkb : (k : Int) ≤ 4000000 := by omega
      have HKM := Lib.hid (show N - (k + 1) < N - k by omega)
      have HSZ := Lib.hid HC.out.size
      have HY : Hid (cRc S.m y = ⟨2, y, 0, (S.m y).getD zCe⟩) := Lib.hid rfl
      clear hcl x1 eT ea eg hA1 hA2 hA3 hys hy hkL
      obtain ⟨⟨ck, cd, cb⟩, a1, c1, a2, c2⟩ := A
      unfold CeT.val cev at hlk
      simp only at hlk
      go_wp2_with (first
        | (at_builtin; refine wpList_app6 rfl (.tmp 13) (.tmp 22) (by rfl) w1.heap.size _ xs (by rfl) (HL.out.alloc _) _ ⟨cRc S.m y, ⟨⟨ck, cd, cb⟩, a1, c1, a2, c2⟩⟩ 101 (Own.new _ _ _) (by first | rfl | (rw [World.size_alloc]; rfl)) (by rw [HLK.out]; omega) (by have := HSZ.out; simp; omega) ?_; intro v4 w4 H4' hg4
           have HC4 := Lib.hid ((HC.out.alloc _).grown hg4 (fun k e => Or.inr (HL.out.lt k e).1)))
        | fail)
      go_roundw
      case rel => exact ⟨k + 1, _, by go_num, by omega, HT2, H4', HX2, HC4⟩
      case measure => have := HKM.out; simp [intOf]; omega
    · obtain rfl : k = N := by omega
      have hd1 : decide (k < k) = false := by simp
      have HY := Lib.hid (show (addrs S.m).take k = addrs S.m from List.take_of_length_le (by rw [hN.out]; exact Nat.le_refl _))
      go_wp2_with fail
      go_ret
      have hch := HC1.out.trans HC.out
      exact ⟨_, xs, rfl, by rw [HM.out, HY.out], Lib.hid (HL.out.base HC1.out.size), Lib.hid (fun x hx _ => ⟨(HX.out x hx).1, (HX.out x hx).2.chg hch (by simp)⟩), hch⟩
end Go.Proofs.YtmpajlpemabniaaGreat
namespace Go.Proofs.YtmpajlpemabniaaGreat
open Go.RowKit
set_option linter.unusedVariables false
set_option linter.unusedSimpArgs false

theorem cmF_opens {n h h' : Nat} {F : Nat → Sec} {L L' : List Rec} (hF : ∀ i, (F i).length = 64) (o : Opens n F h L) (hp : h = h' → ∃ W, L' = L ++ W) (hh : h' ≤ 1) (ok : okL L') (hr : (frs L').length ≤ hsec n * 64) :
    (∀ i, (cmF n F h h' L L' i).length = 64) ∧ Opens n (cmF n F h h' L L') h' L' := by
  have hR1 : ∀ i, (now F (wfM n h h' L L' fun _ => none) i).length = 64 := fun i => by
    rw [now_wf]
    split
    · exact fillS_len _
    · exact hF i
  have mid := mid_opens hF hR1 o hp hh hr fun x => .inr rfl
  have hhs := mid_has hF o hp
  have e0 : cmF n F h h' L L' 0 = supS h' L'.length (frs L').length := by simp [cmF, now, upd]
  have e1 : ∀ x, x ≠ 0 → cmF n F h h' L L' x = now F (wfM n h h' L L' fun _ => none) x := fun x hx => by
    unfold cmF
    show (upd (fun _ => none) 0 _ x).getD _ = _
    simp [upd, hx]
  have hF' : ∀ i, (cmF n F h h' L L' i).length = 64 := fun i => by
    by_cases hi : i = 0
    · subst hi; rw [e0]; exact supS_len _ _ _
    · rw [e1 i hi]; exact hR1 i
  exact ⟨hF', sup_opens hF' mid hhs hh ok hr e0 e1⟩
structure Iv (n : Nat) (P : PT) : Prop where
  len : ∀ i, (P.F i).length = 64
  op : Opens n P.F P.h P.L
  de : Desc P.L P.S
theorem Iv.start (n : Nat) : Iv n ⟨fun _ => zsec, 0, [], PS.zero⟩ := ⟨fun _ => zsec_len, opens_zero n, Desc.nil⟩
theorem chg_iv {n : Nat} {P : PT} {r : Rc} (v : Iv n P) (ho : okN r) (ha : allow P.S r = true) : Iv n (chg n P r).2 := by
  have hd := chg_desc (n := n) v.de ho ha
  unfold chg at hd ⊢
  split at hd
  · rename_i h1
    rw [if_pos h1]
    split at hd
    · rename_i h2
      rw [if_pos h2]
      exact v
    · rename_i h2
      rw [if_neg h2]
      have h0 := v.op.half
      have := cmF_opens (h' := 1 - P.h) (L' := all (exec P.S r)) v.len v.op (fun e => by omega) (by omega) hd.okL (by omega)
      exact ⟨this.1, this.2, hd⟩
  · rename_i h1
    rw [if_neg h1]
    have := cmF_opens (h' := P.h) (L' := P.L ++ [encR r]) v.len v.op (fun _ => ⟨_, rfl⟩) v.op.half hd.okL (by rw [frs_snoc_len]; omega)
    exact ⟨this.1, this.2, hd⟩
theorem all_len {L : List Rec} {S : PS} (d : Desc L S) : (all S).length ≤ 3 + 2 * L.length := by
  have h1 := d.size
  have h2 : ∀ k n, (one0 k n).length ≤ 1 := fun k n => by unfold one0; split <;> simp
  have h3 := h2 1 S.ep
  have h4 := h2 5 S.op
  have h5 := h2 3 S.mr
  unfold all allR'
  simp only [List.length_append, List.length_map]
  omega
theorem Iv.few {n : Nat} {P : PT} (v : Iv n P) (hn : n ≤ 1024) : P.L.length ≤ 20000 := by
  have h1 := frs_ge v.de.okL
  have h2 := v.op.room
  unfold hsec at h2
  omega
theorem Iv.runs {n : Nat} {P : PT} (v : Iv n P) (hn : n ≤ 1024) : P.S.T.length ≤ 999999 := by
  have h1 := v.few hn
  have h2 := v.de.size.1
  omega
theorem Iv.recs {n : Nat} {P : PT} {r : Rc} (v : Iv n P) (hn : n ≤ 1024) (ho : okN r) (ha : allow P.S r = true) : (all (exec P.S r)).length ≤ 100000 := by
  have h1 := v.few hn
  have h2 := all_len (v.de.snoc ho ha)
  rw [List.length_append, List.length_singleton] at h2
  omega

/-! the calls -/
theorem ok_cell {a : Nat} {c : Ce} (ha : a < 1048576) (hr : right c = true) : okN ⟨2, a, 0, c⟩ := ⟨by simp, by simp, by simpa using ha, by simp, by simp, fun _ => hr, by simp⟩
theorem ok_one {a : Nat} (ha : a < 1048576) : okN ⟨4, a, a + 1, zCe⟩ := ⟨by simp, by simp, by simp; omega, by simp; omega, by simp, by simp, by simp⟩
theorem al_cell {S : PS} {a : Nat} {c : Ce} (ht : S.tr a = false) (hm : S.m a = none) : allow S ⟨2, a, 0, c⟩ = true := by simp [allow, ht, hm]
theorem al_one {S : PS} {a : Nat} (ha : a < 1048576) : allow S ⟨4, a, a + 1, zCe⟩ = true := by simp [allow]; omega
theorem al_mark {S : PS} {a : Nat} (ha : a ≤ 1048576) (h : S.mr < a) : allow S ⟨3, a, 0, zCe⟩ = true := by simp [allow]; omega
theorem al_ep {S : PS} {a : Nat} (ha : a ≤ 1048576) (h : S.ep < a) : allow S ⟨1, a, 0, zCe⟩ = true := by simp [allow]; omega
theorem al_op {S : PS} {a : Nat} (ha : a ≤ 1048576) (h : S.op < a) : allow S ⟨5, a, 0, zCe⟩ = true := by simp [allow]; omega
noncomputable def pWr (n : Nat) (P : PT) (a : Nat) (c : Ce) : Nat × PT :=
  if 1048576 ≤ a ∨ right c = false then (1, P) else if P.S.tr a = true then (83, P) else if (P.S.m a).isSome = true then (81, P) else chg n P ⟨2, a, 0, c⟩
noncomputable def pTm (n : Nat) (P : PT) (a : Nat) : Nat × PT := if 1048576 < a then (1, P) else if a ≤ P.S.mr then (0, P) else chg n P ⟨3, a, 0, zCe⟩
noncomputable def pTo (n : Nat) (P : PT) (a : Nat) : Nat × PT := if 1048576 ≤ a then (1, P) else if P.S.tr a = true then (0, P) else chg n P ⟨4, a, a + 1, zCe⟩
noncomputable def pSl (n : Nat) (P : PT) (a : Nat) : Nat × PT := if 1048576 < a then (1, P) else if a ≤ P.S.ep then (84, P) else chg n P ⟨1, a, 0, zCe⟩
noncomputable def pOp (n : Nat) (P : PT) (a : Nat) : Nat × PT := if 1048576 < a then (1, P) else if a ≤ P.S.op then (0, P) else chg n P ⟨5, a, 0, zCe⟩
def Stp (n : Nat) (P P' : PT) : Prop := P' = P ∨ ∃ r, okN r ∧ allow P.S r = true ∧ P' = (chg n P r).2
theorem pTm_stp (n : Nat) (P : PT) (a : Nat) : Stp n P (pTm n P a).2 := by
  unfold pTm
  by_cases h1 : 1048576 < a
  · rw [if_pos h1]; exact .inl rfl
  · rw [if_neg h1]
    by_cases h2 : a ≤ P.S.mr
    · rw [if_pos h2]; exact .inl rfl
    · rw [if_neg h2]; exact .inr ⟨_, okN_num (by omega) (by omega), al_mark (by omega) (by omega), rfl⟩
theorem pSl_stp (n : Nat) (P : PT) (a : Nat) : Stp n P (pSl n P a).2 := by
  unfold pSl
  by_cases h1 : 1048576 < a
  · rw [if_pos h1]; exact .inl rfl
  · rw [if_neg h1]
    by_cases h2 : a ≤ P.S.ep
    · rw [if_pos h2]; exact .inl rfl
    · rw [if_neg h2]; exact .inr ⟨_, okN_num (by omega) (by omega), al_ep (by omega) (by omega), rfl⟩
theorem Stp.iv {n : Nat} {P P' : PT} (h : Stp n P P') (v : Iv n P) : Iv n P' := by
  rcases h with rfl | ⟨r, h1, h2, rfl⟩
  · exact v
  · exact chg_iv v h1 h2
theorem chg_S (n : Nat) (P : PT) (r : Rc) : (chg n P r).2.S = P.S ∨ (chg n P r).2.S = exec P.S r := by
  unfold chg
  split
  · split
    · exact .inl rfl
    · exact .inr rfl
  · exact .inr rfl
theorem Stp.S {n : Nat} {P P' : PT} (h : Stp n P P') : P'.S = P.S ∨ ∃ r, okN r ∧ allow P.S r = true ∧ P'.S = exec P.S r := by
  rcases h with rfl | ⟨r, h1, h2, rfl⟩
  · exact .inl rfl
  · exact (chg_S n P r).imp id fun h => ⟨r, h1, h2, h⟩
structure Up (S U : PS) : Prop where
  ep : S.ep ≤ U.ep
  op : S.op ≤ U.op
  mr : S.mr ≤ U.mr
  tr : ∀ a, S.tr a = true → U.tr a = true
  m : ∀ a c, S.m a = some c → U.m a = some c ∨ U.tr a = true
theorem Up.refl (S : PS) : Up S S := ⟨Nat.le_refl _, Nat.le_refl _, Nat.le_refl _, fun _ h => h, fun _ _ h => .inl h⟩
theorem exec_up {S : PS} {r : Rc} (g : Gd S) (ho : okN r) (ha : allow S r = true) : Up S (exec S r) := by
  have hk1 := ho.k1
  have hk5 := ho.k5
  unfold allow at ha
  unfold exec
  by_cases k1 : r.k = 1
  · rw [if_pos k1] at ha ⊢
    have := of_decide_eq_true ha
    exact ⟨this.1, Nat.le_refl _, Nat.le_refl _, fun _ h => h, fun _ _ h => .inl h⟩
  · rw [if_neg k1] at ha ⊢
    by_cases k2 : r.k = 2
    · rw [if_pos k2] at ha ⊢
      rw [Bool.and_eq_true] at ha
      refine ⟨Nat.le_refl _, Nat.le_refl _, Nat.le_refl _, fun _ h => h, fun a c h => .inl ?_⟩
      show updC S.m r.n r.c a = _
      unfold updC
      split
      · rename_i e; subst e; rw [h] at ha; simp at ha
      · exact h
    · rw [if_neg k2] at ha ⊢
      by_cases k3 : r.k = 3
      · rw [if_pos k3] at ha ⊢
        have hd := of_decide_eq_true ha
        have htr : ∀ a, S.tr a = true → a < r.n ∨ mem (cutL S.T (0, r.n)) a = true := fun a h => by
          rcases Nat.lt_or_ge a r.n with h1 | h1
          · exact .inl h1
          · right
            rcases tr_true.1 h with h2 | h2
            · omega
            · rw [(cutL_ok g.nf _).2, h2]
              have : inR (0, r.n) a = false := inR_false.2 (by simp only; omega)
              rw [this]; rfl
        refine ⟨Nat.le_refl _, Nat.le_refl _, hd.1, fun a h => tr_true.2 (htr a h), fun a c h => ?_⟩
        show rmC S.m 0 r.n a = _ ∨ _
        unfold rmC
        split
        · rename_i h9; right; exact tr_true.2 (.inl h9.2)
        · exact .inl h
      · rw [if_neg k3] at ha ⊢
        by_cases k4 : r.k = 4
        · rw [if_pos k4] at ha ⊢
          refine ⟨Nat.le_refl _, Nat.le_refl _, Nat.le_refl _, fun a h => ?_, fun a c h => ?_⟩
          · rcases tr_true.1 h with h2 | h2
            · exact tr_true.2 (.inl h2)
            · refine tr_true.2 (.inr ?_)
              show mem (putL S.T (max r.n S.mr, r.t)) a = true
              rw [(putL_ok g.nf _).2, h2]
              rfl
          · show rmC S.m r.n r.t a = _ ∨ _
            unfold rmC
            split
            · rename_i h9
              right
              have hm := (tr_false.1 (g.cell a c h).2.2)
              refine tr_true.2 (.inr ?_)
              show mem (putL S.T (max r.n S.mr, r.t)) a = true
              rw [(putL_ok g.nf _).2]
              have : inR (max r.n S.mr, r.t) a = true := inR_iff.2 ⟨by simp only; omega, h9.2⟩
              rw [this]; simp
            · exact .inl h
        · rw [if_neg k4] at ha ⊢
          have k5 : r.k = 5 := by omega
          rw [if_pos k5] at ha ⊢
          have := of_decide_eq_true ha
          exact ⟨Nat.le_refl _, this.1, Nat.le_refl _, fun _ h => h, fun _ _ h => .inl h⟩
theorem Stp.up {n : Nat} {P P' : PT} (h : Stp n P P') (v : Iv n P) : Up P.S P'.S := by
  rcases h.S with e | ⟨r, h1, h2, e⟩
  · rw [e]; exact Up.refl _
  · rw [e]; exact exec_up v.de.good h1 h2
theorem tail_iff {S : PS} (g : Gd S) {t : Nat} (h : IsTail S t) : (∀ a, (S.tr a = true ∨ (S.m a).isSome = true) → a < t) ∧ (t = 0 ∨ S.tr (t - 1) = true ∨ (S.m (t - 1)).isSome = true) := by
  have hm : ∀ a, (S.m a).isSome = true → a ∈ addrs S.m := fun a ha => by
    obtain ⟨c, hc⟩ := Option.isSome_iff_exists.1 ha
    exact mem_addrs.2 ⟨(g.cell a c hc).1, ha⟩
  refine ⟨fun a ha => ?_, ?_⟩
  · rcases ha with ha | ha
    · rcases tr_true.1 ha with h1 | h1
      · have := h.ge; omega
      · obtain ⟨r, hr, h2, h3⟩ := mem_iff.1 h1
        have := h.run r hr; omega
    · have := h.adr a (hm a ha); omega
  · rcases h.is with h1 | ⟨r, hr, h1⟩ | ⟨a, ha, h1⟩
    · by_cases h0 : t = 0
      · exact .inl h0
      · right; left; exact tr_true.2 (.inl (by omega))
    · have hne := g.nf.nonempty r hr
      right; left
      exact tr_true.2 (.inr (mem_iff.2 ⟨r, hr, by omega, by omega⟩))
    · right; right
      rw [show t - 1 = a by omega]
      exact (mem_addrs.1 ha).2
theorem Up.tail {S U : PS} (h : Up S U) (g : Gd S) (k : Gd U) {t t' : Nat} (ht : IsTail S t) (ht' : IsTail U t') : t ≤ t' := by
  obtain ⟨_, h1⟩ := tail_iff g ht
  obtain ⟨h2, _⟩ := tail_iff k ht'
  rcases h1 with h1 | h1 | h1
  · omega
  · have := h2 (t - 1) (.inl (h.tr _ h1)); omega
  · obtain ⟨c, hc⟩ := Option.isSome_iff_exists.1 h1
    rcases h.m _ c hc with h3 | h3
    · have := h2 (t - 1) (.inr (by rw [h3]; rfl)); omega
    · have := h2 (t - 1) (.inl h3); omega
end Go.Proofs.YtmpajlpemabniaaGreat
namespace Go.Proofs.YtmpajlpemabniaaGreat
open Go.RowKit Go.Maps Go.Shelf Go.Deep
set_option linter.unusedVariables false
set_option linter.unusedSimpArgs false

noncomputable def parts8 (S : PS) : List (List Rc) := [one0 1 S.ep, one0 5 S.op, one0 3 S.mr, S.T.map tRc, (addrs S.m).map (cRc S.m)]
noncomputable def pre8 (S : PS) (k : Nat) : List Rc := ((parts8 S).take k).flatten
noncomputable def part8 (S : PS) (k : Nat) : List Rc := (parts8 S).getD k []
theorem pre8_succ (S : PS) {k : Nat} (hk : k < 5) : pre8 S (k + 1) = pre8 S k ++ part8 S k := by
  have h : k < (parts8 S).length := hk
  unfold pre8 part8
  rw [List.take_succ_eq_append_getElem h, List.flatten_append, List.getD_eq_getElem?_getD, List.getElem?_eq_getElem h]
  simp
theorem pre8_all (S : PS) : pre8 S 5 = allR' S := by
  unfold pre8 parts8 allR'
  simp
theorem part8_mem (S : PS) {k : Nat} {r : Rc} (h : r ∈ part8 S k) : r ∈ allR' S := by
  by_cases hk : k < 5
  · rw [← pre8_all]
    have h1 : part8 S k ∈ parts8 S := by
      unfold part8
      have h2 : k < (parts8 S).length := hk
      rw [List.getD_eq_getElem?_getD, List.getElem?_eq_getElem h2]
      exact List.getElem_mem h2
    unfold pre8
    rw [List.take_of_length_le (by simp [parts8])]
    exact List.mem_flatten.2 ⟨_, h1, h⟩
  · unfold part8 at h
    rw [List.getD_eq_getElem?_getD, List.getElem?_eq_none (by simp [parts8]; omega)] at h
    cases h
theorem okN_all {S : PS} (g : Gd S) : ∀ r ∈ allR' S, okN r := by
  intro r hr
  unfold allR' at hr
  simp only [List.mem_append, List.mem_map] at hr
  rcases hr with (((h | h) | h) | ⟨x, hx, rfl⟩) | ⟨a, ha, rfl⟩
  · unfold one0 at h
    split at h
    · cases h
    · simp at h; subst h; exact okN_num (by omega) g.ep
  · unfold one0 at h
    split at h
    · cases h
    · simp at h; subst h; exact okN_num (by omega) g.op
  · unfold one0 at h
    split at h
    · cases h
    · simp at h; subst h; exact okN_num (by omega) g.mr
  · have h1 := g.hi x hx
    have h2 := g.nf.nonempty x hx
    exact ⟨by simp [tRc], by simp [tRc], by show x.1 < (if (4 : Nat) = 2 then 1048576 else 2097152); rw [if_neg (by omega)]; omega, fun _ => (by show x.2 < 2097152; omega), fun k => absurd rfl k, by simp [tRc], fun _ => rfl⟩
  · obtain ⟨h1, h2⟩ := mem_addrs.1 ha
    obtain ⟨c, hc⟩ := Option.isSome_iff_exists.1 h2
    have h4 := (g.cell a c hc).2.1
    exact ⟨by simp [cRc], by simp [cRc], by simp [cRc]; omega, by simp [cRc], fun _ => rfl, fun _ => by simp only [cRc, hc]; exact h4, fun k => absurd rfl k⟩
def mkN (k : Nat) : Nat := if k = 0 then 185 else if k = 1 then 186 else if k = 2 then 187 else if k = 3 then 188 else 189
theorem callFunc_enter {f : FuncId} {fn : Func} {c : Code} (hf : Tryz.prog.funcs[f]? = some fn) (hname : (fn.name == "runtime.NumGoroutine") = false) (hb : fn.body = some c) (args : Array Value) (w : World) :
    (callFunc f args).run Tryz.prog w = .ok (.enter f args) w := by
  have h1 : fn.name ≠ "runtime.NumGoroutine" := by simpa using hname
  simp [callFunc, hf, h1, hb]
theorem mkN_run {k : Nat} (hk : k < 5) (args : Array Value) (w : World) : (callFunc (mkN k) args).run Tryz.prog w = .ok (.enter (mkN k) args) w := by
  have h5 : k = 0 ∨ k = 1 ∨ k = 2 ∨ k = 3 ∨ k = 4 := by omega
  rcases h5 with rfl | rfl | rfl | rfl | rfl
  · exact callFunc_enter Tryz.func185 (by kernel_rfl) rfl args w
  · exact callFunc_enter Tryz.func186 (by kernel_rfl) rfl args w
  · exact callFunc_enter Tryz.func187 (by kernel_rfl) rfl args w
  · exact callFunc_enter Tryz.func188 (by kernel_rfl) rfl args w
  · exact callFunc_enter Tryz.func189 (by kernel_rfl) rfl args w
theorem part8_any (w : World) {q p : Nat} {v : Value} {b : Nat} {C : List Nat} {S : PS} (h : Sta w q p v b C S) {k : Nat} (hk : k < 5) :
    Calls Tryz.prog (mkN k) #[.pointer (some ⟨q, 0, none⟩)] w (RecP w w C (part8 S k)) := by
  have h5 : k = 0 ∨ k = 1 ∨ k = 2 ∨ k = 3 ∨ k = 4 := by omega
  rcases h5 with rfl | rfl | rfl | rfl | rfl
  · exact epochRecords_any w h
  · exact openedRecords_any w h
  · exact markRecords_any w h
  · exact trimmedRecords_any w h
  · exact cellRecords_any w h
structure SbN (w0 w : World) (v : Value) (y : SB) : Prop where
  ro : Ro w w.heap.size y.a (u8s y.bs)
  len : y.bs.length ≤ 300
  new : ∀ ad, y.a = some ad → w0.heap.size ≤ ad.block
  off : y.bs ≠ [] → ∀ ad, y.a = some ad → ad.block ∉ bl v
theorem SbN.kept {w0 w w' : World} {v : Value} {y : SB} (h : SbN w0 w v y) (hc : Chg [] w w') : SbN w0 w' v y := ⟨h.ro.chg3 hc (fun _ _ _ => by simp), h.len, h.new, h.off⟩
theorem SbN.app {w0 w w' : World} {e : TypeId} {v v' : Value} {xs us : List Value} {y : SB} (h : SbN w0 w v y) (k : AppK w w' e v v' xs us) : SbN w0 w' v' y := by
  refine ⟨h.ro.chg3 k.chg (fun h0 ad e => h.off (fun e0 => h0 (by rw [e0]; rfl)) ad e), h.len, h.new, fun h0 ad e hb => ?_⟩
  rcases k.bl _ hb with h1 | h1
  · exact h.off h0 ad e h1
  · obtain ⟨b, off, e2, hb2, _⟩ := h.ro.at_ (by intro e9; have := congrArg List.length e9; simp at this; exact h0 this)
    rw [e] at e2
    injection e2 with e2
    subst e2
    simp only at h1
    omega
theorem rt_form {wr : World} {a : Option Addr} {L : List RT} {B : Nat} (h : Ro wr B a (rts L)) {i : Nat} (hi : i < L.length) :
    ∃ b off, a = some ⟨b, off, none⟩ ∧ b < B ∧ wr.cell? ⟨b, off + i * 6, none⟩ = some (.int .u64 ((L[i]).r.k : Int)) ∧ wr.cell? ⟨b, off + i * 6 + 1, none⟩ = some (.int .u64 ((L[i]).r.n : Int)) ∧ wr.cell? ⟨b, off + i * 6 + 2, none⟩ = some (.int .u64 ((L[i]).r.t : Int)) ∧ wr.cell? ⟨b, off + i * 6 + 3, none⟩ = some (.int .i64 (L[i]).A.x.k) ∧ wr.cell? ⟨b, off + i * 6 + 4, none⟩ = some (.slice (L[i]).A.a (L[i]).A.x.d.length (L[i]).A.c) ∧ wr.cell? ⟨b, off + i * 6 + 5, none⟩ = some (.slice (L[i]).A.a2 (L[i]).A.x.b.length (L[i]).A.c2) := by
  obtain ⟨b, off, h1, h2, h3⟩ := h.rt hi
  have h4 := h3 i hi
  exact ⟨b, off, h1, h2, h4 0 (by omega), h4 1 (by omega), h4 2 (by omega), h4 3 (by omega), h4 4 (by omega), h4 5 (by omega)⟩
theorem Tryz.info_bys : (Tryz.prog.info? 39).map (fun i => (i.zero, i.size, i.bytes)) = some (some (.slice none 0 0), 1, 24) := by kernel_rfl
set_option maxHeartbeats 2000000 in
set_option maxRecDepth 100000 in
theorem recs8_any (w : World) {q p : Nat} {v : Value} {b : Nat} {C : List Nat} {S : PS} (h : Sta w q p v b C S) (hlr : (all S).length ≤ 100000) :
    Calls Tryz.prog 125 #[.pointer (some ⟨q, 0, none⟩)] w fun e w' => ∃ a xs c, e = .returned (.slice a (xs : List SB).length c) ∧ recs xs = all S ∧ Hid (RoL w' w'.heap.size a xs ∧ (∀ x, a = some x → w.heap.size ≤ x.block) ∧ ∀ y ∈ xs, ∀ x, y.a = some x → w.heap.size ≤ x.block) ∧ Chg [] w w' := by
  have HPA : Hid (∀ W, Chg [] w W → ∀ k, k < 5 → Calls Tryz.prog (mkN k) #[.pointer (some ⟨q, 0, none⟩)] W (RecP W W C (part8 S k))) := Lib.hid (fun W hW k hk => part8_any W (h.kept hW) hk)
  have HOK := Lib.hid (okN_all h.gd)
  have HLR : Hid ((allR' S).length ≤ 100000) := Lib.hid (by unfold all at hlr; rwa [List.length_map] at hlr)
  have HPL : Hid (∀ k, k ≤ 5 → (pre8 S k).length ≤ 100000) := Lib.hid (fun k hk => by
    refine Nat.le_trans ?_ HLR.out
    have h9 : allR' S = pre8 S k ++ ((parts8 S).drop k).flatten := by
      rw [← pre8_all]
      unfold pre8
      rw [← List.flatten_append, List.take_append_drop, List.take_of_length_le (by simp [parts8])]
    rw [h9, List.length_append]
    omega)
  obtain ⟨w1, HW1⟩ : ∃ W, Hid (w.alloc (.cells #[.func (.func 185) #[] #[], .func (.func 186) #[] #[], .func (.func 187) #[] #[], .func (.func 188) #[] #[], .func (.func 189) #[] #[]] 244) = W) := ⟨_, Lib.hid rfl⟩
  have HC1 : Hid (Chg [] w w1) := Lib.hid (by rw [← HW1.out]; exact (Chg.refl [] w).alloc _)
  have HMK : Hid (∀ k, k < 5 → w1.cell? ⟨w.heap.size, k, none⟩ = some (.func (.func (mkN k)) #[] #[])) := Lib.hid (fun k hk => by
    rw [← HW1.out]
    have h9 := Own.new w 244 [.func (.func 185) #[] #[], .func (.func 186) #[] #[], .func (.func 187) #[] #[], .func (.func 188) #[] #[], .func (.func 189) #[] #[]]
    have h5 : k = 0 ∨ k = 1 ∨ k = 2 ∨ k = 3 ∨ k = 4 := by omega
    rcases h5 with rfl | rfl | rfl | rfl | rfl <;> exact (h9.cell _).trans rfl)
  have HAPC := Lib.hid (fun x hx => (h.ap x hx).1)
  clear h hlr
  go_enter Tryz.func125, Tryz.ntmps125
  go_upto_region 2 with fail
  rw [HW1.out]
  go_wp2_with fail
  go_loopw [4, 12] (fun v4 i wr => ∃ (k : Nat) (ys : List SB), i = .int .i64 k ∧ k ≤ 5 ∧ Hid (recs ys = (pre8 S k).map encR) ∧ Hid (Lst wr 0 39 v4 (ys.map SB.val)) ∧ Hid (∀ x ∈ bl v4, w1.heap.size ≤ x) ∧ Hid (∀ y ∈ ys, SbN w1 wr v4 y) ∧ Hid (Chg [] w1 wr)) (fun _ i _ => 5 - (intOf i).toNat)
  case atStart => exact ⟨0, [], rfl, Nat.zero_le _, Lib.hid (by simp [pre8, recs]), Lib.hid (Lst.nil _ _ _), Lib.hid (fun x hx => by simp [bl, Value.ownBlock] at hx), Lib.hid (fun y hy => by cases hy), Lib.hid (Chg.refl [] w1)⟩
  case round =>
    obtain ⟨k, ys, rfl, hk, HM, HL, HB, HX, HC⟩ := hrel
    by_cases hlt : k < 5
    · have hmk := HC.out.cell (HMK.out k hlt) (by simp)
      obtain ⟨m, hm⟩ : ∃ m, Hid (mkN k = m) := ⟨_, Lib.hid rfl⟩
      have HCW := Lib.hid (HC1.out.trans HC.out)
      have HPK := Lib.hid (HPA.out wr HCW.out k hlt)
      have hrn := mkN_run hlt #[.pointer (some ⟨q, 0, none⟩)] wr
      rw [hm.out] at hmk HPK hrn
      have hd1 : decide (k < 5) = true := by simpa using hlt
      have hd2 : decide ((k : Int) < 5) = true := by simp; omega
      have hk0 : (0 : Int) ≤ (k : Int) := by omega
      have hk1 : (k : Int) < 5 := by omega
      have HSUC := Lib.hid (pre8_succ S hlt)
      have HLT := Lib.hid hlt
      rename World => wa
      go_wp2_with fail
      refine HPK.out.mono ?_
      rintro e w3 ⟨v5, xs, rfl, hxm, hxl, hxo, hc3⟩
      obtain ⟨a5, c5, e5, hro5, _⟩ := hxl.out.form
      obtain ⟨bo, hbo⟩ : ∃ x, Hid (bl u4 = x) := ⟨_, Lib.hid rfl⟩
      have HBO : Hid (∀ x ∈ bo, w1.heap.size ≤ x ∧ x < wa.heap.size) := Lib.hid (fun x hx => by rw [← hbo.out] at hx; exact ⟨HB.out x hx, HL.out.bl_lt x hx⟩)
      have HG5 : Hid (∀ x, a5 = some x → wa.heap.size ≤ x.block) := Lib.hid (fun x e => by
        rcases hxl.out.2 with ⟨h1, _⟩ | ⟨g, cap, cur, h1, hb, _⟩
        · rw [e5] at h1; injection h1 with h1; rw [h1] at e; cases e
        · rw [e5] at h1; injection h1 with h1; rw [h1] at e; injection e with e; subst e; exact hb)
      subst e5
      obtain ⟨N, hN⟩ : ∃ x, Hid (xs.length = x) := ⟨_, Lib.hid rfl⟩
      have hpl := HPL.out (k + 1) hlt
      rw [HSUC.out, ← hxm, List.length_append, List.length_map, hN.out] at hpl
      have HYL : Hid (ys.length = (pre8 S k).length) := Lib.hid (by have := congrArg List.length HM.out; rwa [recs_len, List.length_map] at this)
      rw [← HYL.out] at hpl
      have HPL2 := Lib.hid hpl
      have HRO5 := Lib.hid hro5
      have HXM := Lib.hid hxm
      have HC3 := Lib.hid (HC.out.trans hc3)
      have HS3 := Lib.hid hc3.size
      have HL3 := Lib.hid (HL.out.kept0 hc3)
      have HX3 : Hid (∀ y ∈ ys, SbN w1 w3 u4 y) := Lib.hid (fun y hy => (HX.out y hy).kept hc3)
      have HBS : Hid (∀ x ∈ bl u4, x ∈ bo ∨ w3.heap.size ≤ x) := Lib.hid (fun x hx => .inl (by rw [← hbo.out]; exact hx))
      have hNb : N ≤ 100000 := by omega
      rw [hN.out]
      clear hxm hro5 hc3 hmk hpl HC HL HX HB HYL hbo
      go_wp2_with fail
      go_loopw [4, 20] (fun v j wr => ∃ (i : Nat) (zs : List SB), j = .int .i64 i ∧ i ≤ N ∧ Hid (recs zs = (pre8 S k ++ (part8 S k).take i).map encR) ∧ Hid (zs.length = ys.length + i) ∧ Hid (Lst wr 0 39 v (zs.map SB.val)) ∧ Hid (∀ x ∈ bl v, x ∈ bo ∨ w3.heap.size ≤ x) ∧ Hid (∀ y ∈ zs, SbN w1 wr v y) ∧ Hid (Chg bo w3 wr)) (fun _ j _ => N - (intOf j).toNat)
      case atStart => exact ⟨0, ys, rfl, Nat.zero_le _, Lib.hid (by rw [HM.out]; simp), Lib.hid rfl, HL3, HBS, HX3, Lib.hid (Chg.refl bo w3)⟩
      case round =>
        obtain ⟨i, zs, rfl, hi, HMz, HZl, HLz, HBz, HXz, HCz⟩ := hrel
        rename World => wr2
        by_cases hil : i < N
        · have hiL : i < xs.length := by rw [hN.out]; exact hil
          obtain ⟨gx, off, ea, hgx, x0, x1, x2, x3, x4, x5⟩ := rt_form HRO5.out hiL
          subst ea
          have hgo : gx ∉ bo := fun hx => by have h1 := HG5.out _ rfl; have h2 := (HBO.out _ hx).2; simp only at h1; omega
          have y0 := HCz.out.cell x0 hgo
          have y1 := HCz.out.cell x1 hgo
          have y2 := HCz.out.cell x2 hgo
          have y3 := HCz.out.cell x3 hgo
          have y4 := HCz.out.cell x4 hgo
          have y5 := HCz.out.cell x5 hgo
          have hmem : xs[i] ∈ xs := List.getElem_mem hiL
          have hokX : okN (xs[i]).r := HOK.out _ (part8_mem S (k := k) (by rw [← HXM.out]; exact List.mem_map_of_mem hmem))
          have hXO := hxo.out _ hmem
          have HTK : Hid ((part8 S k).take (i + 1) = (part8 S k).take i ++ [(xs[i]).r]) := Lib.hid (by
            rw [← HXM.out, List.take_succ_eq_append_getElem (by simpa using hiL)]
            simp)
          generalize xs[i] = X at *
          have HEN : Hid (∀ W, Chg bo w3 W → Calls Tryz.prog 122 #[rcv (X.r.k : Int) X.r.n X.r.t X.A] W fun e w' => ∃ a c, e = .returned (.slice a (encR X.r).length c) ∧ Ro w' w'.heap.size a (u8s (encR X.r)) ∧ (∀ ad, a = some ad → W.heap.size ≤ ad.block) ∧ Chg [] W w') := Lib.hid (fun W hW =>
            encoded_any W X.r X.A hokX (fun e => by
              have h9 := (hXO e).2.chg hW (fun x hx h9 => by have h1 := HAPC.out x hx; have h2 := (HBO.out x h9).1; have h3 := HC1.out.size; omega)
              exact ⟨(hXO e).1, h9.d, h9.b⟩))
          have HEL := Lib.hid (encR_ok hokX).2
          have hd3 : decide (i < N) = true := by simpa using hil
          have hi0 : (0 : Int) ≤ (i : Int) := by omega
          have hi1 : (i : Int) < (N : Int) := by omega
          have hib : (i : Int) ≤ 4000000 := by omega
          have HKM := Lib.hid (show N - (i + 1) < N - i by omega)
          clear x0 x1 x2 x3 x4 x5 hmem hokX hXO hgo
          obtain ⟨⟨k', n', t', c'⟩, ⟨⟨ck, cd, cb⟩, a1, c1, a2, c2⟩⟩ := X
          unfold rcv at HEN
          simp only at HEN HEL HTK y0 y1 y2 y3 y4 y5
          obtain ⟨en, hen⟩ : ∃ x, Hid (encR ⟨k', n', t', c'⟩ = x) := ⟨_, Lib.hid rfl⟩
          rw [hen.out] at HEN HEL
          generalize cd.length = dn at HEN y4
          generalize cb.length = bn at HEN y5
          go_wp2_with (first
            | (go_at_call 122; refine (HEN.out _ (HCz.out.alloc _)).mono ?_; rintro e w4 ⟨a4, c4, rfl, hr4, hn4, hc4⟩
               have HC4 := Lib.hid ((HCz.out.alloc _).trans (hc4.mono (by simp)))
               have HY4 := Lib.hid (show SbN w1 w4 u4 ⟨a4, en, c4⟩ from ⟨hr4, HEL.out, fun ad e => by have h1 := hn4 ad e; rw [World.size_alloc] at h1; have h2 := HCz.out.size; have h3 := HC3.out.size; omega, fun _ ad e hb => by have h1 := hn4 ad e; rw [World.size_alloc] at h1; have h2 := HLz.out.bl_lt _ hb; omega⟩)
               have HX4 := Lib.hid (fun y hy => ((HXz.out y hy).kept ((Chg.refl [] wr2).alloc _)).kept hc4)
               have HL4 := Lib.hid ((HLz.out.alloc _).kept0 hc4)
               clear hr4 hn4 hc4)
            | (at_builtin; refine wpList_appK1 rfl (.tmp 24) (.tmp 27) 108 rfl 39 (.slice none 0 0) 24 Tryz.underlying108 Tryz.info_bys rfl (.slice a4 en.length c4) rfl _ (zs.map SB.val) rfl HL4.out _ rfl rfl (by rw [List.length_map, HZl.out]; have := HPL2.out; omega) (by rw [List.length_map, HZl.out]; have := HPL2.out; omega) ?_; intro v6 w6 HA6)
            | fail)
          go_roundw
          case rel =>
            refine ⟨i + 1, zs ++ [⟨a4, en, c4⟩], by go_num, by omega, Lib.hid ?_, Lib.hid (by rw [List.length_append, HZl.out]; simp; omega), Lib.hid ?_, Lib.hid (fun x hx => ?_), Lib.hid (fun y hy => ?_), Lib.hid (HC4.out.then HA6.out.chg (fun x hx => HBz.out x hx))⟩
            · rw [recs_snoc, HMz.out, HTK.out, ← hen.out]
              simp
            · have := HA6.out.lst
              rw [List.map_append]
              exact this
            · rcases HA6.out.bl x hx with h1 | h1
              · exact HBz.out x h1
              · exact .inr (Nat.le_trans HC4.out.size h1)
            · rcases List.mem_append.1 hy with hy | hy
              · exact (HX4.out y hy).app HA6.out
              · simp at hy; subst hy; exact HY4.out.app HA6.out
          case measure => have := HKM.out; simp [intOf]; omega
        · obtain rfl : i = N := by omega
          have hd3 : decide (i < i) = false := by simp
          go_wp2_with fail
          go_roundw
          case rel =>
            refine ⟨k + 1, zs, by go_num, by have := HLT.out; omega, Lib.hid ?_, HLz, Lib.hid (fun x hx => ?_), HXz, Lib.hid (HC3.out.then HCz.out (fun x hx => .inr (HBO.out x hx).1))⟩
            · rw [HMz.out, HSUC.out, List.take_of_length_le (by rw [← HXM.out, List.length_map, hN.out]; exact Nat.le_refl _)]
            · rcases HBz.out x hx with h1 | h1
              · exact (HBO.out x h1).1
              · exact Nat.le_trans HC3.out.size h1
          case measure => have := HLT.out; simp [intOf]; omega
    · obtain rfl : k = 5 := by omega
      go_wp2_with fail
      go_ret
      have hl := HL.out
      obtain ⟨a, c, e9, hro, _, _⟩ := hl.form
      subst e9
      have e10 : (ys.map SB.val).length = ys.length := by simp
      rw [e10]
      refine ⟨a, ys, c, rfl, by rw [HM.out, pre8_all]; rfl, Lib.hid ⟨⟨hro, fun x hx => ⟨(HX.out x hx).ro, Nat.le_trans (HX.out x hx).len (by omega)⟩⟩, fun x e => ?_, fun y hy x e => Nat.le_trans HC1.out.size ((HX.out y hy).new x e)⟩, HC1.out.trans HC.out⟩
      rcases hl.2 with ⟨h1, _⟩ | ⟨g, cap, cur, h1, _⟩
      · injection h1 with h1; rw [h1] at e; cases e
      · injection h1 with h1
        rw [h1] at e
        injection e with e
        subst e
        exact Nat.le_trans HC1.out.size (HB.out _ (by simp [bl, Value.ownBlock, h1]))
end Go.Proofs.YtmpajlpemabniaaGreat
