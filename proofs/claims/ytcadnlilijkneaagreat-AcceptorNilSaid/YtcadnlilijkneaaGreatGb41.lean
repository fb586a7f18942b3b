/-
  Open of an acceptor on a tape without records; the live question of the statements of package acceptor. No claim of their own.
-/
import Derived.Test.YtcadnlilijkneaaGreatGb40
namespace Go.Proofs.YtcadnlilijkneaaGreat
open Go.RowKit Go.Maps Go.Shelf Go.Deep
set_option linter.unusedVariables false
set_option linter.unusedSimpArgs false

theorem Acs.fresh {w w2 w4 w5 : World} {B : Nat → Prop} {l : List Nat} {q p g b n : Nat} {X : TS} (hc2 : Chg [] w w2) (ht : TD w2 l q p g b n X) (hl : ∀ x ∈ l, w.heap.size ≤ x) (hpg : p < w.heap.size ∧ g < w.heap.size ∧ b < w.heap.size)
    (h4 : (w2.alloc (.map #[] 0)).alloc (.cells #[.pointer (some ⟨q, 0, none⟩), .map (some w2.heap.size)] 154) = w4) (hc5 : Chg [] w4 w5) :
    Acs w5 B (w2.heap.size + 1) w2.heap.size q l p g b n X (fun _ => none) ∧ (∀ x ∈ (w2.heap.size + 1) :: w2.heap.size :: l, w.heap.size ≤ x) ∧ Chg [] w w5 := by
  have hm := MapV.made w2
  have ha : Chg [] w2 (w2.alloc (.map #[] 0)) := (Chg.refl [] w2).alloc _
  have hs : (w2.alloc (.map #[] 0)).heap.size = w2.heap.size + 1 := by simp
  have hb := (Chg.refl [] (w2.alloc (.map #[] 0))).alloc (.cells #[.pointer (some ⟨q, 0, none⟩), .map (some w2.heap.size)] 154)
  have ho := Own.new (w2.alloc (.map #[] 0)) 154 [.pointer (some ⟨q, 0, none⟩), .map (some w2.heap.size)]
  rw [hs] at ho
  rw [h4] at hb
  replace ho : Own w4 (w2.heap.size + 1) 154 [.pointer (some ⟨q, 0, none⟩), .map (some w2.heap.size)] := by rw [← h4]; exact ho
  have hlt := ht.lt
  have h2 := hc2.size
  refine ⟨⟨ho.chg hc5 (by simp), ht.kept (ha.trans (hb.trans hc5)), ⟨fun _ => none, hm.kept (hb.trans hc5), StV.none _ _⟩, Gd.zero, by omega, fun hx => ?_, fun hx => ?_⟩, fun x hx => ?_, ((hc2.trans ha).trans hb).trans hc5⟩
  · simp only [List.mem_cons] at hx
    rcases hx with hx | hx | hx | hx
    · omega
    · omega
    · omega
    · have := hlt _ hx; omega
  · simp only [List.mem_cons] at hx
    rcases hx with hx | hx | hx | hx
    · omega
    · omega
    · omega
    · have := hlt _ hx; omega
  · simp only [List.mem_cons] at hx
    rcases hx with hx | hx | hx
    · omega
    · omega
    · exact hl x hx
set_option maxHeartbeats 1000000 in
theorem AOpen_fresh (w : World) {B : Nat → Prop} {p g b n : Nat} {F : Nat → Sec} {h : Nat} (hd : Dsk w p g b n F (fun _ => none)) (hn : 3 ≤ n) (o : Opens n F h []) :
    Calls Tryz.prog 38 #[.pointer (some ⟨p, 0, none⟩)] w fun e w' => ∃ u mp l q, e = .returned (.tuple #[.pointer (some ⟨u, 0, none⟩), .int .i64 0]) ∧ Hid (Acs w' B u mp q l p g b n (calm F (fun _ => none) h []) (fun _ => none)) ∧ Hid (∀ x ∈ u :: mp :: l, w.heap.size ≤ x) ∧ Chg [] w w' := by
  have hnn : now F (fun _ => none) = F := rfl
  have HO := Lib.hid (open_at w hd hn (h := h) (L := []) (by rw [hnn]; exact o))
  have HD := Lib.hid hd
  have hmm := @run_makeMap Tryz.prog
  clear hd o hnn
  go_enter Tryz.func38, Tryz.ntmps38
  go_wp2_with (first
    | (go_at_call 74; refine HO.out.mono ?_; rintro e w2 ⟨q, l, rfl, ht, hl, hc2⟩
       have HC2 := Lib.hid hc2; clear hc2
       have HLEN := Lib.hid (len_TD (ht.out.kept (((Chg.refl [] w2).alloc (.map #[] 0)).alloc (.cells #[.pointer (some ⟨q, 0, none⟩), .map (some w2.heap.size)] 154))))
       simp only [calm, List.length_nil] at HLEN)
    | (go_at_call 75; refine HLEN.out.mono ?_; rintro e w5 ⟨rfl, hc5⟩)
    | fail)
  refine wp_loop_rounds 1 ?_
  rw [rounds_succ]
  go_wp2_with fail
  go_ret2
  obtain ⟨r1, r2, r3⟩ := Acs.fresh (B := B) HC2.out ht.out hl.out ⟨HD.out.ltp, HD.out.ltg, HD.out.ltb⟩ rfl hc5
  exact ⟨_, _, l, q, rfl, Lib.hid r1, Lib.hid r2, r3⟩
end Go.Proofs.YtcadnlilijkneaaGreat
namespace Go.Proofs.YtcadnlilijkneaaGreat
open Go.RowKit Go.Maps Go.Shelf Go.Deep
set_option linter.unusedVariables false
set_option linter.unusedSimpArgs false

theorem cmF_opens {n h h' : Nat} {F : Nat → Sec} {L L' : List Rec} (hF : ∀ i, (F i).length = 64) (o : Opens n F h L) (hp : h = h' → ∃ W, L' = L ++ W) (hh : h' ≤ 1) (ok : okL L') (hr : (frs L').length ≤ hsec n * 64) :
    (∀ i, (cmF n F h h' L L' i).length = 64) ∧ Opens n (cmF n F h h' L L') h' L' := by
  have hR1 : ∀ i, (now F (wfM n h h' L L' fun _ => none) i).length = 64 := fun i => by
    rw [now_wf]
    split
    · exact fillS_len _
    · exact hF i
  have mid := mid_opens hF hR1 o hp hh hr fun x => .inr rfl
  have hhs := mid_has hF o hp
  have e0 : cmF n F h h' L L' 0 = supS h' L'.length (frs L').length := by simp [cmF, now, upd]
  have e1 : ∀ x, x ≠ 0 → cmF n F h h' L L' x = now F (wfM n h h' L L' fun _ => none) x := fun x hx => by
    unfold cmF
    show (upd (fun _ => none) 0 _ x).getD _ = _
    simp [upd, hx]
  have hF' : ∀ i, (cmF n F h h' L L' i).length = 64 := fun i => by
    by_cases hi : i = 0
    · subst hi; rw [e0]; exact supS_len _ _ _
    · rw [e1 i hi]; exact hR1 i
  exact ⟨hF', sup_opens hF' mid hhs hh ok hr e0 e1⟩
structure Iv (n : Nat) (T : AT) : Prop where
  len : ∀ i, (T.F i).length = 64
  op : Opens n T.F T.h T.L
  de : Desc T.L T.S
def AT.new : AT := ⟨fun _ => zsec, 0, [], fun _ => none⟩
theorem Iv.start (n : Nat) : Iv n AT.new := ⟨fun _ => zsec_len, opens_zero n, Desc.nil⟩
def appT (n : Nat) (T : AT) (x : Rc) : AT := ⟨cmF n T.F T.h T.h T.L (T.L ++ [encA x]), T.h, T.L ++ [encA x], exec T.S x⟩
theorem Iv.app {n : Nat} {T : AT} {x : Rc} (v : Iv n T) (ho : okA x) (ha : allow T.S x = true) (hf : (frs T.L).length + 2 + (encA x).length ≤ hsec n * 64) : Iv n (appT n T x) := by
  have hd := v.de.snoc ho ha
  have := cmF_opens (h' := T.h) (L' := T.L ++ [encA x]) v.len v.op (fun _ => ⟨_, rfl⟩) v.op.half hd.okL (by rw [frs_snoc_len]; omega)
  exact ⟨this.1, this.2, hd⟩
def Roomy (n : Nat) (T : AT) : Prop := (frs T.L).length + 66 ≤ hsec n * 64
theorem Roomy.fit {n : Nat} {T : AT} (h : Roomy n T) {x : Rc} (ho : okA x) : (frs T.L).length + 2 + (encA x).length ≤ hsec n * 64 := by
  have := (encA_len ho).2
  unfold Roomy at h
  omega
theorem frs_app {n : Nat} {T : AT} {x : Rc} (ho : okA x) : (frs (appT n T x).L).length ≤ (frs T.L).length + 66 := by
  have := (encA_len ho).2
  show (frs (T.L ++ [encA x])).length ≤ _
  rw [frs_snoc_len]
  omega
structure Acv (w : World) (B : Nat → Prop) (u p n : Nat) (T : AT) : Prop where
  ex : ∃ mp q l g b, Acs w B u mp q l p g b n (atS T) T.S ∧ ∀ x ∈ acM u mp p g b l, B x
  lt : ∀ x, B x → x < w.heap.size
  iv : Iv n T
def AcV (w : World) (B : Nat → Prop) (u p n : Nat) (T2 : AT) (Y : LyT) (w' : World) : Prop :=
  ∃ B' : Nat → Prop, (∀ x, B' x → B x ∨ w.heap.size ≤ x) ∧ Acv w' B' u p n T2 ∧ LyP w' (fun x => w.heap.size ≤ x ∧ ¬ B' x) Y ∧ LyS Y ∧ ∃ m, Chg m w w' ∧ ∀ x ∈ m, B x
theorem Acv.kept {w w' : World} {B : Nat → Prop} {u p n : Nat} {T : AT} (V : Acv w B u p n T) (hc : Chg [] w w') : Acv w' B u p n T := by
  obtain ⟨mp, q, l, g, b, A, hA⟩ := V.ex
  exact ⟨⟨mp, q, l, g, b, A.kept hc, hA⟩, fun x hx => Nat.lt_of_lt_of_le (V.lt x hx) hc.size, V.iv⟩
theorem Acv.apart {w w' : World} {B : Nat → Prop} {u p n : Nat} {T : AT} {m : List Nat} (V : Acv w B u p n T) (hc : Chg m w w') (hm : ∀ x ∈ m, ¬ B x) : Acv w' B u p n T := by
  obtain ⟨mp, q, l, g, b, A, hA⟩ := V.ex
  exact ⟨⟨mp, q, l, g, b, A.chg hc (fun x hx h => hm x hx (hA x h)) (fun x hx h => hm x h hx.1), hA⟩, fun x hx => Nat.lt_of_lt_of_le (V.lt x hx) hc.size, V.iv⟩
theorem Acv.top {w : World} {B : Nat → Prop} {u p n : Nat} {T : AT} (V : Acv w B u p n T) : 3 ≤ n ∧ n ≤ 1024 := by
  obtain ⟨mp, q, l, g, b, A, hA⟩ := V.ex
  exact ⟨A.td.three, A.td.dsk.top⟩
theorem ChO.acv {w : World} {B B1 : Nat → Prop} {u mp q : Nat} {l : List Nat} {p g b n : Nat} {T2 : AT} {w' : World} {T' : EsT} {l' : List Nat} {s : Es} (hB : ∀ x, B x → B1 x) (hB1 : ∀ x, B1 x → B x ∨ w.heap.size ≤ x) (hlt : ∀ x, B1 x → x < w'.heap.size) (hA : ∀ x ∈ acM u mp p g b l, B x) (iv : Iv n T2)
    (h : T'.x = s ∧ LyP w' (fun x => w.heap.size ≤ x ∧ x ∉ acM u mp p g b l' ∧ ¬ B1 x) T'.y ∧ LyS T'.y ∧ Acs w' B1 u mp q l' p g b n (atS T2) T2.S ∧ (∀ x ∈ l', x ∈ l ∨ w.heap.size ≤ x) ∧ Chg (mp :: l ++ [g, b]) w w') : AcV w B u p n T2 T'.y w' := by
  obtain ⟨h1, h2, h3, h4, h5, h6⟩ := h
  have hl' : ∀ x ∈ l', B x ∨ w.heap.size ≤ x := fun x hx => (h5 x hx).imp (fun h9 => hA x (by unfold acM; simp [h9])) id
  refine ⟨fun x => B1 x ∨ x ∈ l', fun x hx => ?_, ⟨⟨mp, q, l', g, b, h4.wide (fun x hx => .inl hx), fun x hx => ?_⟩, fun x hx => ?_, iv⟩, h2.mono (fun x _ hx => ⟨hx.1, fun h9 => ?_⟩), h3, _, h6, fun x hx => ?_⟩
  · rcases hx with hx | hx
    · exact hB1 x hx
    · exact hl' x hx
  · unfold acM at hx
    simp only [List.mem_cons] at hx
    have ha := fun y (hy : y ∈ acM u mp p g b l) => hB y (hA y hy)
    unfold acM at ha
    simp only [List.mem_cons] at ha
    rcases hx with hx | hx | hx | hx | hx | hx
    · exact .inl (ha x (.inl hx))
    · exact .inl (ha x (.inr (.inl hx)))
    · exact .inl (ha x (.inr (.inr (.inl hx))))
    · exact .inl (ha x (.inr (.inr (.inr (.inl hx)))))
    · exact .inl (ha x (.inr (.inr (.inr (.inr (.inl hx))))))
    · exact .inr hx
  · rcases hx with hx | hx
    · exact hlt x hx
    · exact h4.td.lt x hx
  · rcases h9 with h9 | h9
    · exact hx.2.2 h9
    · exact hx.2.1 (by unfold acM; simp [h9])
  · exact hA x (by unfold acM; simp only [List.mem_append, List.mem_cons, List.not_mem_nil, or_false] at hx ⊢; rcases hx with (hx | hx) | hx | hx <;> simp [hx])
theorem Acv.stay {w w' : World} {B : Nat → Prop} {u p n : Nat} {T : AT} (V : Acv w B u p n T) (hc : Chg [] w w') {Y : LyT} (hy : LyP w' (fun x => w.heap.size ≤ x) Y) (hs : LyS Y) : AcV w B u p n T Y w' :=
  ⟨B, fun x hx => .inl hx, V.kept hc, hy.mono (fun x _ hx => ⟨hx, fun h9 => by have := V.lt x h9; omega⟩), hs, [], hc, by simp⟩

/-! the calls, where there is room -/
noncomputable def pPr (n : Nat) (T : AT) (e : Nat) (b : Bt) : Int × Es × AT :=
  if ep0 e = false ∨ btOk b = false then (1, Es.zero, T) else if (T.S.at e).p.less b = false then (121, T.S.at e, T) else (0, behind (T.S.at e) ⟨false, e, b, zLy⟩, appT n T ⟨false, e, b, zLy⟩)
noncomputable def pAc (n : Nat) (T : AT) (e : Nat) (b : Bt) (y : Ly) : Int × Es × AT :=
  if ep0 e = false ∨ btOk b = false ∨ (decide (y.e = e) && lright y) = false then (1, Es.zero, T) else if b.less (T.S.at e).p = true then (121, T.S.at e, T) else (0, behind (T.S.at e) ⟨true, e, b, y⟩, appT n T ⟨true, e, b, y⟩)
theorem okA_pr {e : Nat} {b : Bt} (h1 : ep0 e = true) (h2 : btOk b = true) : okA ⟨false, e, b, zLy⟩ := ⟨of_decide_eq_true h1, h2, by simp, fun _ => rfl⟩
theorem okA_ac {e : Nat} {b : Bt} {y : Ly} (h1 : ep0 e = true) (h2 : btOk b = true) (h3 : y.e = e) (h4 : lright y = true) : okA ⟨true, e, b, y⟩ := ⟨of_decide_eq_true h1, h2, fun _ => ⟨h4, h3⟩, by simp⟩
theorem less_asym {a b : Bt} (h : a.less b = true) : b.less a = false := by
  rw [less_false]
  have := less_iff.1 h
  omega
theorem zEs_S : LyS zEs.y := .inl ⟨rfl, rfl, rfl⟩
theorem Prepare_v {w : World} {B : Nat → Prop} {u p n : Nat} {T : AT} (V : Acv w B u p n T) (hR : Roomy n T) (e : Nat) (he : e < 18446744073709551616) (bt : Bt) :
    Calls Tryz.prog 49 #[.pointer (some ⟨u, 0, none⟩), .int .u64 (e : Int), btv bt] w fun r w' => ∃ T' : EsT, r = .returned (.tuple #[T'.val, .int .i64 (pPr n T e bt).1]) ∧ Hid (T'.x = (pPr n T e bt).2.1 ∧ AcV w B u p n (pPr n T e bt).2.2 T'.y w') := by
  unfold pPr
  by_cases h0 : ep0 e = false ∨ btOk bt = false
  · rw [if_pos h0]
    exact (Prepare_arg w _ e he bt (.inr h0)).mono fun r w' ⟨h1, h2⟩ => ⟨zEs, h1, Lib.hid ⟨rfl, V.stay h2 (LyP.nil _ _ rfl) zEs_S⟩⟩
  · rw [if_neg h0]
    have h1 : ep0 e = true := by cases hh : ep0 e with | true => rfl | false => exact absurd (.inl hh) h0
    have h2 : btOk bt = true := by cases hh : btOk bt with | true => rfl | false => exact absurd (.inr hh) h0
    obtain ⟨mp, q, l, g, b, A, hA⟩ := V.ex
    by_cases h3 : (T.S.at e).p.less bt = false
    · rw [if_pos h3]
      refine Calls.mono (R' := _) (Prepare_go w A V.lt e bt h1 h2 121 (T.S.at e) T (fun _ => ⟨rfl, rfl, rfl⟩) (fun h => by rw [h3] at h; cases h)) ?_
      rintro r w' ⟨T', g1, l', g2⟩
      exact ⟨T', g1, Lib.hid ⟨g2.out.1, ChO.acv (fun x hx => hx) (fun x hx => .inl hx) (fun x hx => Nat.lt_of_lt_of_le (V.lt x hx) g2.out.2.2.2.2.2.size) hA V.iv g2.out⟩⟩
    · rw [if_neg h3]
      have h3' : (T.S.at e).p.less bt = true := by simpa using h3
      have ho := okA_pr h1 h2
      have ha : allow T.S ⟨false, e, bt, zLy⟩ = true := by unfold allow; rw [less_asym h3']; rfl
      refine Calls.mono (R' := _) (Prepare_go w A V.lt e bt h1 h2 0 (behind (T.S.at e) ⟨false, e, bt, zLy⟩) (appT n T ⟨false, e, bt, zLy⟩) (fun h => absurd h h3) (fun _ W hW => change_roomO W (A.kept hW) (fun x hx => Nat.lt_of_lt_of_le (V.lt x hx) hW.size) (zRc e bt) ho ha (LyP.nil _ _ rfl) (.inl ⟨rfl, rfl, rfl⟩) (hR.fit ho))) ?_
      rintro r w' ⟨T', g1, l', g2⟩
      exact ⟨T', g1, Lib.hid ⟨g2.out.1, ChO.acv (fun x hx => hx) (fun x hx => .inl hx) (fun x hx => Nat.lt_of_lt_of_le (V.lt x hx) g2.out.2.2.2.2.2.size) hA (V.iv.app ho ha (hR.fit ho)) g2.out⟩⟩
theorem Accept_v {w : World} {B : Nat → Prop} {u p n : Nat} {T : AT} (V : Acv w B u p n T) (hR : Roomy n T) (e : Nat) (he : e < 18446744073709551616) (bt : Bt) (Y : LyT) (hy : LyIn w w.heap.size Y) (hf : SgFit Y.sg) :
    Calls Tryz.prog 50 #[.pointer (some ⟨u, 0, none⟩), .int .u64 (e : Int), btv bt, Y.val] w fun r w' => ∃ T' : EsT, r = .returned (.tuple #[T'.val, .int .i64 (pAc n T e bt Y.x).1]) ∧ Hid (T'.x = (pAc n T e bt Y.x).2.1 ∧ AcV w B u p n (pAc n T e bt Y.x).2.2 T'.y w') := by
  unfold pAc
  by_cases h0 : ep0 e = false ∨ btOk bt = false ∨ (decide (Y.x.e = e) && lright Y.x) = false
  · rw [if_pos h0]
    exact (Accept_arg w _ e he bt Y hy hf (.inr h0)).mono fun r w' ⟨h1, h2⟩ => ⟨zEs, h1, Lib.hid ⟨rfl, V.stay h2 (LyP.nil _ _ rfl) zEs_S⟩⟩
  · rw [if_neg h0]
    have h1 : ep0 e = true := by cases hh : ep0 e with | true => rfl | false => exact absurd (.inl hh) h0
    have h2 : btOk bt = true := by cases hh : btOk bt with | true => rfl | false => exact absurd (.inr (.inl hh)) h0
    have h34 : (decide (Y.x.e = e) && lright Y.x) = true := by cases hh : (decide (Y.x.e = e) && lright Y.x) with | true => rfl | false => exact absurd (.inr (.inr hh)) h0
    rw [Bool.and_eq_true, decide_eq_true_eq] at h34
    obtain ⟨mp, q, l, g, b, A, hA⟩ := V.ex
    by_cases h3 : bt.less (T.S.at e).p = true
    · rw [if_pos h3]
      refine Calls.mono (R' := _) (Accept_go w A V.lt e bt Y h1 h2 h34.1 h34.2 hy 121 (T.S.at e) T (fun _ => ⟨rfl, rfl, rfl⟩) (fun h => by rw [h3] at h; cases h)) ?_
      rintro r w' ⟨B1, k1, k2, k3, T', g1, l', g2⟩
      exact ⟨T', g1, Lib.hid ⟨g2.out.1, ChO.acv k1 k2 k3 hA V.iv g2.out⟩⟩
    · rw [if_neg h3]
      have h3' : bt.less (T.S.at e).p = false := by simpa using h3
      have ho := okA_ac h1 h2 h34.1 h34.2
      have ha : allow T.S ⟨true, e, bt, Y.x⟩ = true := by unfold allow; rw [h3']; rfl
      refine Calls.mono (R' := _) (Accept_go w A V.lt e bt Y h1 h2 h34.1 h34.2 hy 0 (behind (T.S.at e) ⟨true, e, bt, Y.x⟩) (appT n T ⟨true, e, bt, Y.x⟩) (fun h => absurd h h3) (fun _ W B' Y' hW k1 k2 AW hl hs hx => ?_)) ?_
      · have ho' : okA (RcT.x ⟨true, e, bt, Y'⟩) := by unfold RcT.x; rw [hx]; exact ho
        have ha' : allow T.S (RcT.x ⟨true, e, bt, Y'⟩) = true := by unfold RcT.x; rw [hx]; exact ha
        have hh := change_roomO W AW k2 ⟨true, e, bt, Y'⟩ ho' ha' hl hs (hR.fit ho')
        have hxx : RcT.x ⟨true, e, bt, Y'⟩ = ⟨true, e, bt, Y.x⟩ := by unfold RcT.x; rw [hx]
        rw [hxx] at hh
        exact hh
      · rintro r w' ⟨B1, k1, k2, k3, T', g1, l', g2⟩
        exact ⟨T', g1, Lib.hid ⟨g2.out.1, ChO.acv k1 k2 k3 hA (V.iv.app ho ha (hR.fit ho)) g2.out⟩⟩
noncomputable def pLe (T : AT) (e : Nat) : Int × Es := if ep0 e = false then (1, Es.zero) else (0, T.S.at e)
theorem Learn_v {w : World} {B : Nat → Prop} {u p n : Nat} {T : AT} (V : Acv w B u p n T) (e : Nat) (he : e < 18446744073709551616) :
    Calls Tryz.prog 52 #[.pointer (some ⟨u, 0, none⟩), .int .u64 (e : Int)] w fun r w' => ∃ T' : EsT, r = .returned (.tuple #[T'.val, .int .i64 (pLe T e).1]) ∧ Hid (T'.x = (pLe T e).2 ∧ LyP w' (fun x => w.heap.size ≤ x) T'.y ∧ LyS T'.y) ∧ Chg [] w w' := by
  unfold pLe
  by_cases h0 : ep0 e = false
  · rw [if_pos h0]
    exact (Learn_arg w _ e he (.inr h0)).mono fun r w' ⟨h1, h2⟩ => ⟨zEs, h1, Lib.hid ⟨rfl, LyP.nil _ _ rfl, zEs_S⟩, h2⟩
  · rw [if_neg h0]
    obtain ⟨mp, q, l, g, b, A, hA⟩ := V.ex
    exact (Learn_any w A e (by simpa using h0)).mono fun r w' ⟨T', h1, h2, h3⟩ => ⟨T', h1, h2, h3⟩
end Go.Proofs.YtcadnlilijkneaaGreat
namespace Go.Proofs.YtcadnlilijkneaaGreat
open Go.RowKit Go.Maps Go.Shelf Go.Deep
set_option linter.unusedVariables false
set_option linter.unusedSimpArgs false

theorem anew_ex (w : World) (n : Nat) (h1 : 1 ≤ n) (h2 : n ≤ 1024) :
    Calls Tryz.prog 36 #[.int .i64 n] w fun e w' => ∃ p g b, e = .returned (.tuple #[.pointer (some ⟨p, 0, none⟩), .int .i64 0]) ∧ w.heap.size ≤ p ∧ w.heap.size ≤ g ∧ w.heap.size ≤ b ∧ Dsk w' p g b n (fun _ => zsec) (fun _ => none) ∧ Chg [] w w' :=
  (new_ok w n h1 h2).mono fun e w' ⟨he, hd, hc⟩ => ⟨_, _, _, he, by omega, by omega, by omega, hd, hc⟩
theorem aopen_ex (w w1 : World) {p g b n : Nat} (hc : Chg [] w w1) (hd : Dsk w1 p g b n (fun _ => zsec) (fun _ => none)) (hn : 3 ≤ n) (hp : w.heap.size ≤ p) (hg : w.heap.size ≤ g) (hb : w.heap.size ≤ b) :
    Calls Tryz.prog 38 #[.pointer (some ⟨p, 0, none⟩)] w1 fun e w' => ∃ u, e = .returned (.tuple #[.pointer (some ⟨u, 0, none⟩), .int .i64 0]) ∧ Hid (Acv w' (fun x => w.heap.size ≤ x ∧ x < w'.heap.size) u p n AT.new) ∧ Chg [] w1 w' := by
  refine Calls.mono (R' := _) (AOpen_fresh (B := fun _ => False) w1 hd hn (opens_zero n)) ?_
  rintro e w' ⟨u, mp, l, q, h1, h2, h3, h4⟩
  have hs := hc.size
  have hlt := h2.out.mlt
  refine ⟨u, h1, Lib.hid ⟨⟨mp, q, l, g, b, h2.out.wide (fun x hx => hx.elim), fun x hx => ⟨?_, hlt x hx⟩⟩, fun x hx => hx.2, Iv.start n⟩, h4⟩
  have h5 := h3.out
  simp only [List.mem_cons] at h5
  unfold acM at hx
  simp only [List.mem_cons] at hx
  rcases hx with hx | hx | hx | hx | hx | hx
  · have := h5 x (.inl hx); omega
  · have := h5 x (.inr (.inl hx)); omega
  · omega
  · omega
  · omega
  · have := h5 x (.inr (.inr hx)); omega
theorem Own.call {w w' : World} {B : Nat → Prop} {m : List Nat} (hc : Chg m w w') (hm : ∀ x ∈ m, B x) {g : Nat} {t : TypeId} {cs : List Value} (h : Own w g t cs) (hg : ¬ B g) : Own w' g t cs := h.chg hc (fun hx => hg (hm g hx))
theorem LyP.call {w w' : World} {B B' : Nat → Prop} {m : List Nat} (hc : Chg m w w') (hm : ∀ x ∈ m, B x) (hB : ∀ x, B' x → B x ∨ w.heap.size ≤ x) {Y : LyT} (h : LyP w (fun x => ¬ B x) Y) : LyP w' (fun x => ¬ B' x) Y :=
  ((h.mono (P' := fun x => ¬ B x ∧ x < w.heap.size) (fun x hx hp => ⟨hp, hx⟩)).chg hc (fun x hx h9 => hx.1 (hm x h9))).mono (fun x _ hx h9 => by
    rcases hB x h9 with h8 | h8
    · exact hx.1 h8
    · have := hx.2; omega)
def yA : Ly := ⟨3, [(0, [[1]])], 0⟩
def aT1 : AT := appT 9 AT.new ⟨false, 3, (2, 1), zLy⟩
def aT2 : AT := appT 9 aT1 ⟨true, 3, (2, 1), yA⟩
theorem yA_right : lright yA = true := by decide
theorem roomy0 {n : Nat} (h : 3 ≤ n) (h2 : 7 ≤ n) : Roomy n AT.new := by
  unfold Roomy AT.new hsec
  simp [frs]
  omega
theorem roomy1 : Roomy 9 aT1 := by
  have h := frs_app (n := 9) (T := AT.new) (x := ⟨false, 3, (2, 1), zLy⟩) (okA_pr (by decide) (by decide))
  unfold Roomy hsec
  unfold aT1
  have h0 : (frs AT.new.L).length = 0 := by simp [AT.new, frs]
  omega
theorem at1 : aT1.S.at 3 = ⟨(2, 1), (0, 0), zLy⟩ := by
  exact (at_exec_same AT.new.S ⟨false, 3, (2, 1), zLy⟩).trans rfl
theorem pr1 : pPr 9 AT.new 3 (2, 1) = (0, ⟨(2, 1), (0, 0), zLy⟩, aT1) := by
  unfold pPr
  rw [if_neg (by decide), if_neg (by decide)]
  rfl
theorem pr2 : pPr 9 aT1 3 (2, 0) = (121, ⟨(2, 1), (0, 0), zLy⟩, aT1) := by
  unfold pPr
  rw [if_neg (by decide), at1, if_pos (by decide)]
theorem ac1 : pAc 9 aT1 3 (2, 1) yA = (0, ⟨(2, 1), (2, 1), yA⟩, aT2) := by
  unfold pAc
  rw [if_neg (by decide), at1, if_neg (by decide)]
  rfl
theorem eps2 {ys : List Nat} (h1 : ys.Pairwise (· < ·)) (h2 : ∀ x, x ∈ ys ↔ (aT2.S x).isSome = true) : ys.length = 1 := by
  have hS : ∀ x, (aT2.S x).isSome = true ↔ x = 3 := fun x => by
    show ((exec (exec (fun _ => none) _) _) x).isSome = true ↔ _
    unfold exec
    by_cases e : x = 3
    · simp [e]
    · simp [e]
  have h3 : 3 ∈ ys := (h2 3).2 ((hS 3).2 rfl)
  match ys, h1, h2, h3 with
  | [], _, _, h3 => simp at h3
  | [a], _, _, _ => rfl
  | a :: b :: L, h1, h2, _ =>
    have ha := (hS a).1 ((h2 a).1 (by simp))
    have hb := (hS b).1 ((h2 b).1 (by simp))
    have := (List.pairwise_cons.1 h1).1 b (by simp)
    omega
theorem lit_ly (w : World) : ∀ W, ((w.alloc (.cells #[.int .i64 1] 3)).alloc (.cells #[.slice (some ⟨w.heap.size, 0, none⟩) 1 1] 46)).alloc (.cells #[.int .u64 0, .slice (some ⟨w.heap.size + 1, 0, none⟩) 1 1] 84) = W →
    LyIn W W.heap.size ⟨3, some ⟨w.heap.size + 1 + 1, 0, none⟩, 1, [⟨0, some ⟨w.heap.size + 1, 0, none⟩, 1, [⟨some ⟨w.heap.size, 0, none⟩, 1, [1]⟩]⟩], 0⟩ ∧ Chg [] w W := by
  intro W hW
  have o1 : Own W w.heap.size 3 [.int .i64 1] := by rw [← hW]; exact ((Own.new w _ _).alloc _).alloc _
  have o2 : Own W (w.heap.size + 1) 46 [.slice (some ⟨w.heap.size, 0, none⟩) 1 1] := by
    rw [← hW]
    have := (Own.new (w.alloc (.cells #[.int .i64 1] 3)) 46 [.slice (some ⟨w.heap.size, 0, none⟩) 1 1]).alloc (.cells #[.int .u64 0, .slice (some ⟨w.heap.size + 1, 0, none⟩) 1 1] 84)
    simpa using this
  have o3 : Own W (w.heap.size + 1 + 1) 84 [.int .u64 0, .slice (some ⟨w.heap.size + 1, 0, none⟩) 1 1] := by
    rw [← hW]
    have := Own.new ((w.alloc (.cells #[.int .i64 1] 3)).alloc (.cells #[.slice (some ⟨w.heap.size, 0, none⟩) 1 1] 46)) 84 [.int .u64 0, .slice (some ⟨w.heap.size + 1, 0, none⟩) 1 1]
    simpa using this
  refine ⟨⟨o3.ro _ o3.lt, fun s hs => ?_⟩, by rw [← hW]; exact (((Chg.refl [] w).alloc _).alloc _).alloc _⟩
  simp only [List.mem_singleton] at hs
  subst hs
  refine ⟨o2.ro _ o2.lt, fun c hc => ?_⟩
  simp only [List.mem_singleton] at hc
  subst hc
  exact o1.ro _ o1.lt
set_option maxHeartbeats 4000000 in
theorem alive12_any (w : World) : Calls Tryz.prog 35 #[] w fun e w' => e = .returned (.bool true) ∧ Chg [] w w' := by
  have HN := Lib.hid (anew_ex w 9 (by omega) (by omega))
  go_enter Tryz.func35, Tryz.ntmps35
  go_wp2_with fail
  refine HN.out.mono ?_
  rintro e w1 ⟨p, g, b, rfl, hp, hg, hb, hd, hc1⟩
  have HO := Lib.hid (aopen_ex w w1 hc1 hd (by omega) hp hg hb)
  have HC1 := Lib.hid hc1
  clear hp hg hb hd hc1
  go_wp2_with fail
  refine HO.out.mono ?_
  rintro e w2 ⟨u, rfl, HV2, hc2⟩
  have HC2 := Lib.hid (HC1.out.trans hc2)
  obtain ⟨B2, hB2⟩ : ∃ B : Nat → Prop, Hid ((fun x => w.heap.size ≤ x ∧ x < w2.heap.size) = B) := ⟨_, Lib.hid rfl⟩
  rw [hB2.out] at HV2
  have HB2 : Hid (∀ x, B2 x → w.heap.size ≤ x) := Lib.hid (fun x hx => by rw [← hB2.out] at hx; exact hx.1)
  have hP := Prepare_v HV2.out (roomy0 (by omega) (by omega)) 3 (by omega) (2, 1)
  rw [pr1] at hP
  have HP : Hid (Calls Tryz.prog 49 #[.pointer (some ⟨u, 0, none⟩), .int .u64 3, .agg #[.int .i64 2, .int .i64 1]] w2 fun r w' => ∃ T' : EsT, r = .returned (.tuple #[T'.val, .int .i64 0]) ∧ Hid (T'.x = ⟨(2, 1), (0, 0), zLy⟩ ∧ AcV w2 B2 u p 9 aT1 T'.y w')) := Lib.hid hP
  clear hc2 hP hB2
  go_upto_region 5 with fail
  go_wp2_with fail
  refine HP.out.mono ?_
  rintro e w3 ⟨⟨⟨p1, p2⟩, ⟨a1, a2⟩, ⟨ye, ya, yc, ys, yq⟩⟩, rfl, HX⟩
  obtain ⟨hx, B3, hB3, hV3, hy3, hs3, m3, hm3, hmB3⟩ := HX.out
  obtain ⟨yn, hyn⟩ : ∃ n, Hid (ys.length = n) := ⟨_, Lib.hid rfl⟩
  simp only [EsT.val, hyn.out]
  have HC3 : Hid (Chg [] w w3) := Lib.hid (HC2.out.then hm3 (fun x hx => .inr (HB2.out x (hmB3 x hx))))
  have HB3 : Hid (∀ x, B3 x → w.heap.size ≤ x) := Lib.hid (fun x hx => (hB3 x hx).elim (HB2.out x) (fun h9 => Nat.le_trans HC2.out.size h9))
  have hpp : p1 = 2 := by have := congrArg (fun s : Es => s.p.1) hx; exact this
  subst hpp
  have HV3 := Lib.hid hV3
  clear hx hB3 hV3 hy3 hs3 hm3 hmB3 HX HV2 HP
  go_upto_region 6 with fail
  have hA := Own.new w3 116 [.int .i64 2, .int .i64 p2, .int .i64 a1, .int .i64 a2, .int .u64 (ye : Int), .slice ya yn yc, .int .i64 yq]
  have hCA := (Chg.refl [] w3).alloc (.cells #[.int .i64 2, .int .i64 p2, .int .i64 a1, .int .i64 a2, .int .u64 (ye : Int), .slice ya yn yc, .int .i64 yq] 116)
  generalize w3.alloc (.cells #[.int .i64 2, .int .i64 p2, .int .i64 a1, .int .i64 a2, .int .u64 (ye : Int), .slice ya yn yc, .int .i64 yq] 116) = w4 at hA hCA ⊢
  obtain ⟨ga, hga⟩ : ∃ x, Hid (w3.heap.size = x) := ⟨_, Lib.hid rfl⟩
  rw [hga.out] at hA ⊢
  have hnA : ¬ B3 ga := fun h => by have := HV3.out.lt ga h; have := hga.out; omega
  have HA4 := Lib.hid (And.intro hA hnA)
  have HV4 := Lib.hid (HV3.out.kept hCA)
  have HC4 := Lib.hid (HC3.out.trans hCA)
  have hP := Prepare_v HV4.out roomy1 3 (by omega) (2, 0)
  rw [pr2] at hP
  have HP : Hid (Calls Tryz.prog 49 #[.pointer (some ⟨u, 0, none⟩), .int .u64 3, .agg #[.int .i64 2, .int .i64 0]] w4 fun r w' => ∃ T' : EsT, r = .returned (.tuple #[T'.val, .int .i64 121]) ∧ Hid (T'.x = ⟨(2, 1), (0, 0), zLy⟩ ∧ AcV w4 B3 u p 9 aT1 T'.y w')) := Lib.hid hP
  clear hP hA hCA hnA
  go_wp2_with fail
  refine HP.out.mono ?_
  rintro e w5 ⟨⟨⟨q1, q2⟩, ⟨c1, c2⟩, ⟨ze, za, zc, zs, zq⟩⟩, rfl, HX⟩
  obtain ⟨hx, B5, hB5, hV5, hy5, hs5, m5, hm5, hmB5⟩ := HX.out
  obtain ⟨zn, hzn⟩ : ∃ n, Hid (zs.length = n) := ⟨_, Lib.hid rfl⟩
  simp only [EsT.val, hzn.out]
  have HC5 : Hid (Chg [] w w5) := Lib.hid (HC4.out.then hm5 (fun x hx => .inr (HB3.out x (hmB5 x hx))))
  have HB5 : Hid (∀ x, B5 x → w.heap.size ≤ x) := Lib.hid (fun x hx => (hB5 x hx).elim (HB3.out x) (fun h9 => Nat.le_trans HC4.out.size h9))
  have HA5 : Hid (Own w5 ga 116 [.int .i64 2, .int .i64 p2, .int .i64 a1, .int .i64 a2, .int .u64 (ye : Int), .slice ya yn yc, .int .i64 yq] ∧ ¬ B5 ga) := Lib.hid ⟨HA4.out.1.call hm5 hmB5 HA4.out.2, fun h9 => (hB5 ga h9).elim HA4.out.2 (fun h8 => by have := HA4.out.1.lt; omega)⟩
  have HV5 := Lib.hid hV5
  clear hx hB5 hV5 hy5 hs5 hm5 hmB5 HX HP
  go_upto_region 7 with fail
  have hCB := (Chg.refl [] w5).alloc (.cells #[.int .i64 q1, .int .i64 q2, .int .i64 c1, .int .i64 c2, .int .u64 (ze : Int), .slice za zn zc, .int .i64 zq] 116)
  generalize w5.alloc (.cells #[.int .i64 q1, .int .i64 q2, .int .i64 c1, .int .i64 c2, .int .u64 (ze : Int), .slice za zn zc, .int .i64 zq] 116) = w6 at hCB ⊢
  have HCB := Lib.hid hCB
  clear hCB
  go_upto_region 8 with fail
  obtain ⟨w7, hW7⟩ : ∃ W, ((w6.alloc (.cells #[.int .i64 1] 3)).alloc (.cells #[.slice (some ⟨w6.heap.size, 0, none⟩) 1 1] 46)).alloc (.cells #[.int .u64 0, .slice (some ⟨w6.heap.size + 1, 0, none⟩) 1 1] 84) = W := ⟨_, rfl⟩
  have hL := lit_ly w6 w7 hW7
  rw [hW7]
  have hs7 : w6.heap.size + 1 + 1 + 1 = w7.heap.size := by rw [← hW7]; simp
  rw [hs7]
  have hLO := Own.new w7 26 [.int .u64 3, .slice (some ⟨w6.heap.size + 1 + 1, 0, none⟩) 1 1, .int .i64 0]
  have hCL := (Chg.refl [] w7).alloc (.cells #[.int .u64 3, .slice (some ⟨w6.heap.size + 1 + 1, 0, none⟩) 1 1, .int .i64 0] 26)
  clear hW7 hs7
  generalize w7.alloc (.cells #[.int .u64 3, .slice (some ⟨w6.heap.size + 1 + 1, 0, none⟩) 1 1, .int .i64 0] 26) = w8 at hLO hCL ⊢
  have HC58 := Lib.hid (HCB.out.trans (hL.2.trans hCL))
  have HC8 := Lib.hid (HC5.out.trans HC58.out)
  have HV8 := Lib.hid (HV5.out.kept HC58.out)
  have HA8 := Lib.hid (And.intro (HA5.out.1.chg HC58.out (by simp)) HA5.out.2)
  have l0 := hLO.cell 0
  have l1 := hLO.cell 1
  have l2 := hLO.cell 2
  simp at l0 l1 l2
  have hP := Accept_v HV8.out roomy1 3 (by omega) (2, 1) ⟨3, some ⟨w6.heap.size + 1 + 1, 0, none⟩, 1, [⟨0, some ⟨w6.heap.size + 1, 0, none⟩, 1, [⟨some ⟨w6.heap.size, 0, none⟩, 1, [1]⟩]⟩], 0⟩ ((hL.1.below hCL.low (Nat.le_refl _)).mono hCL.size) (LySm.of (A := ⟨3, some ⟨w6.heap.size + 1 + 1, 0, none⟩, 1, [⟨0, some ⟨w6.heap.size + 1, 0, none⟩, 1, [⟨some ⟨w6.heap.size, 0, none⟩, 1, [1]⟩]⟩], 0⟩) (show lright yA = true from yA_right)).fit
  have hyx : LyT.x ⟨3, some ⟨w6.heap.size + 1 + 1, 0, none⟩, 1, [⟨0, some ⟨w6.heap.size + 1, 0, none⟩, 1, [⟨some ⟨w6.heap.size, 0, none⟩, 1, [1]⟩]⟩], 0⟩ = yA := rfl
  rw [hyx, ac1] at hP
  have HP : Hid (Calls Tryz.prog 50 #[.pointer (some ⟨u, 0, none⟩), .int .u64 3, .agg #[.int .i64 2, .int .i64 1], .agg #[.int .u64 3, .slice (some ⟨w6.heap.size + 1 + 1, 0, none⟩) 1 1, .int .i64 0]] w8 fun r w' => ∃ T' : EsT, r = .returned (.tuple #[T'.val, .int .i64 0]) ∧ Hid (T'.x = ⟨(2, 1), (2, 1), yA⟩ ∧ AcV w8 B5 u p 9 aT2 T'.y w')) := Lib.hid hP
  clear hP hyx hL hLO hCL
  go_wp2_with fail
  refine HP.out.mono ?_
  rintro e w9 ⟨⟨⟨r1, r2⟩, ⟨e1, e2⟩, ⟨xe, xa, xc, xs, xq⟩⟩, rfl, HX⟩
  obtain ⟨hx, B9, hB9, hV9, hy9, hs9, m9, hm9, hmB9⟩ := HX.out
  have hee : e1 = 2 := by have := congrArg (fun s : Es => s.a.1) hx; exact this
  have hxn : xs.length = 1 := by
    have := congrArg (fun s : Es => s.y.s.length) hx
    simpa [EsT.x, LyT.x, yA] using this
  simp only [EsT.val, hxn]
  subst hee
  have HC9 : Hid (Chg [] w w9) := Lib.hid (HC8.out.then hm9 (fun x hx => .inr (HB5.out x (hmB9 x hx))))
  have HA9 := Lib.hid (HA8.out.1.call hm9 hmB9 HA8.out.2)
  have HV9 := Lib.hid hV9
  clear hx hB9 hV9 hy9 hs9 hm9 hmB9 HX HP l0 l1 l2
  go_upto_region 9 with fail
  have hR := Own.new w9 116 [.int .i64 r1, .int .i64 r2, .int .i64 2, .int .i64 e2, .int .u64 (xe : Int), .slice xa 1 xc, .int .i64 xq]
  have hCR := (Chg.refl [] w9).alloc (.cells #[.int .i64 r1, .int .i64 r2, .int .i64 2, .int .i64 e2, .int .u64 (xe : Int), .slice xa 1 xc, .int .i64 xq] 116)
  generalize w9.alloc (.cells #[.int .i64 r1, .int .i64 r2, .int .i64 2, .int .i64 e2, .int .u64 (xe : Int), .slice xa 1 xc, .int .i64 xq] 116) = w10 at hR hCR ⊢
  obtain ⟨gr, hgr⟩ : ∃ x, Hid (w9.heap.size = x) := ⟨_, Lib.hid rfl⟩
  rw [hgr.out] at hR ⊢
  have k0 := (HA9.out.chg hCR (by simp)).cell 0
  have k2 := hR.cell 2
  have k5 := hR.cell 5
  simp at k0 k2 k5
  obtain ⟨mp, q, l, g', b', A9, _⟩ := HV9.out.ex
  have HEP := Lib.hid (Epochs_any w10 (A9.kept hCR))
  have HC10 := Lib.hid (HC9.out.trans hCR)
  clear A9 hR hCR
  go_wp2_with (first
    | (go_at_call 55; refine HEP.out.mono ?_; rintro r w11 ⟨av, ys, cv, rfl, H11, hc11⟩; have hyl : ys.length = 1 := eps2 H11.out.1 H11.out.2.1; rw [hyl]; have HC11 := Lib.hid (HC10.out.trans hc11); clear hc11)
    | fail)
  go_ret
  exact ⟨rfl, HC11.out⟩
end Go.Proofs.YtcadnlilijkneaaGreat
