/-
  A tape with its disk as a state; contracts of package tape's Step and Commit over it. No claim of their own.
-/
import Derived.Test.YtmpajlpemabniaaGreatZq22
import Derived.Test.YtmpajlpemabniaaGreatZq3
import Derived.Lib.SlBytesConst
namespace Go.Proofs.YtmpajlpemabniaaGreat
open Go.RowKit Go.Shelf Go.Deep Go.Maps
set_option linter.unusedVariables false
set_option linter.unusedSimpArgs false
structure TS where
  F : Nat → Sec
  m : Nat → Option Sec
  h : Nat
  h' : Nat
  L : List Rec
  L' : List Rec
  k : Nat
def TS.idle (S : TS) : Prop := Proofs.YtmpajlpemabniaaGreat.idle S.h S.h' S.L S.L'
instance (S : TS) : Decidable S.idle := by unfold TS.idle; infer_instance
def stepS (n : Nat) (S : TS) : TS :=
  if S.idle then S else
    if S.k = 0 then { S with m := wfM n S.h S.h' S.L S.L' S.m, k := 1 }
    else if S.k = 1 then { S with F := now S.F S.m, m := fun _ => none, k := 2 }
    else if S.k = 2 then { S with m := upd S.m 0 (supS S.h' S.L'.length (frs S.L').length), k := 3 }
    else { S with F := now S.F S.m, m := fun _ => none, h := S.h', L := S.L', k := 0 }
def doneS (S : TS) : Bool := decide (S.idle) || decide (S.k = 3)
def commitS (n : Nat) (S : TS) : TS :=
  if S.idle then S else
    if S.k = 0 then stepS n (stepS n (stepS n (stepS n S)))
    else if S.k = 1 then stepS n (stepS n (stepS n S))
    else if S.k = 2 then stepS n (stepS n S)
    else stepS n S
theorem step_idleS {n : Nat} {S : TS} (h : S.idle) : stepS n S = S := by unfold stepS; rw [if_pos h]
theorem step_keep {n : Nat} {S : TS} (h : ¬ S.idle) (hk : S.k < 3) : ¬ (stepS n S).idle ∧ (stepS n S).k = S.k + 1 := by
  unfold stepS
  rw [if_neg h]
  by_cases h0 : S.k = 0
  · rw [if_pos h0]; exact ⟨h, by show 1 = _; omega⟩
  · rw [if_neg h0]
    by_cases h1 : S.k = 1
    · rw [if_pos h1]; exact ⟨h, by show 2 = _; omega⟩
    · rw [if_neg h1, if_pos (by omega)]; exact ⟨h, by show 3 = _; omega⟩
theorem commit_done {n : Nat} {S : TS} (hd : doneS S = true) : stepS n S = commitS n S := by
  unfold commitS
  by_cases hi : S.idle
  · rw [if_pos hi, step_idleS hi]
  · have hk : S.k = 3 := by
      unfold doneS at hd
      rw [decide_eq_false hi] at hd
      simpa using hd
    rw [if_neg hi, if_neg (by omega), if_neg (by omega), if_neg (by omega)]
theorem commit_more {n : Nat} {S : TS} (hd : doneS S = false) (hk : S.k ≤ 3) : commitS n (stepS n S) = commitS n S ∧ (stepS n S).k = S.k + 1 := by
  unfold doneS at hd
  have hi : ¬ S.idle := by
    intro h
    rw [decide_eq_true h] at hd
    simp at hd
  have h3 : S.k ≠ 3 := by
    intro h
    rw [decide_eq_true h] at hd
    simp at hd
  obtain ⟨h1, h2⟩ := step_keep (n := n) hi (by omega)
  refine ⟨?_, h2⟩
  conv => lhs; unfold commitS
  conv => rhs; unfold commitS
  rw [if_neg h1, if_neg hi, h2]
  by_cases e0 : S.k = 0
  · rw [if_neg (by omega), if_pos (by omega), if_pos e0]
  · by_cases e1 : S.k = 1
    · rw [if_neg (by omega), if_neg (by omega), if_pos (by omega), if_neg e0, if_pos e1]
    · rw [if_neg (by omega), if_neg (by omega), if_neg (by omega), if_neg e0, if_neg e1, if_pos (by omega)]
structure TD (w : World) (l : List Nat) (q p g b n : Nat) (S : TS) : Prop where
  tp : Tp w l q p n S.h S.h' S.L S.L' S.k
  dsk : Dsk w p g b n S.F S.m
  np : p ∉ l
  ng : g ∉ l
  nb : b ∉ l
  three : 3 ≤ n
  lt : ∀ x ∈ l, x < w.heap.size
theorem TpV.norm {w : World} {l : List Nat} {q p n h h' : Nat} {L L' : List Rec} {k : Nat} {vF vE vF' vE' : Value} (t : TpV w l q p n h h' L L' k vF vE vF' vE') : TpV w (q :: (bl vF ++ bl vE ++ bl vF' ++ bl vE')) q p n h h' L L' k vF vE vF' vE' ∧ (∀ x ∈ q :: (bl vF ++ bl vE ++ bl vF' ++ bl vE'), x ∈ l ∧ x < w.heap.size) := by
  refine ⟨⟨t.own, t.fr, t.en, t.fr', t.en', t.alF, t.alE, by simp, ?_, t.half, t.half', t.step, t.ok, t.ok', t.room, t.room', t.pre, t.busy⟩, fun x hx => ?_⟩
  · rintro x (hx | hx | hx | hx) <;> simp [hx]
  · simp only [List.mem_cons, List.mem_append] at hx
    rcases hx with rfl | ((hx | hx) | hx) | hx
    · exact ⟨t.memq, t.own.lt⟩
    · exact ⟨t.memv x (.inl hx), t.fr.bl_lt x hx⟩
    · exact ⟨t.memv x (.inr (.inl hx)), t.en.bl_lt x hx⟩
    · exact ⟨t.memv x (.inr (.inr (.inl hx))), t.fr'.bl_lt x hx⟩
    · exact ⟨t.memv x (.inr (.inr (.inr hx))), t.en'.bl_lt x hx⟩
theorem TD.kept {w w' : World} {l : List Nat} {q p g b n : Nat} {S : TS} (t : TD w l q p g b n S) (hc : Chg [] w w') : TD w' l q p g b n S := ⟨t.tp.kept hc, t.dsk.kept hc, t.np, t.ng, t.nb, t.three, fun x hx => Nat.lt_of_lt_of_le (t.lt x hx) hc.size⟩
theorem TD.chg {w w' : World} {l m : List Nat} {q p g b n : Nat} {S : TS} (t : TD w l q p g b n S) (hc : Chg m w w') (hm : ∀ x ∈ m, x ∉ l ∧ x ≠ p ∧ x ≠ g ∧ x ≠ b) : TD w' l q p g b n S :=
  ⟨t.tp.chg hc (fun x hx => (hm x hx).1), t.dsk.keep hc (fun hx => (hm _ hx).2.1 rfl) (fun hx => (hm _ hx).2.2.1 rfl) (fun hx => (hm _ hx).2.2.2 rfl), t.np, t.ng, t.nb, t.three, fun x hx => Nat.lt_of_lt_of_le (t.lt x hx) hc.size⟩
theorem TD.le3 {w : World} {l : List Nat} {q p g b n : Nat} {S : TS} (t : TD w l q p g b n S) : S.k ≤ 3 := by
  obtain ⟨_, _, _, _, h⟩ := t.tp
  exact h.step
theorem step_TD {w : World} {l : List Nat} {q p g b n : Nat} {S : TS} (t : TD w l q p g b n S) :
    Calls Tryz.prog 116 #[.pointer (some ⟨q, 0, none⟩)] w fun e w' => e = .returned (.tuple #[.bool (doneS S), .int .i64 0]) ∧ Hid (TD w' l q p g b n (stepS n S)) ∧ Chg (l ++ [g, b]) w w' := by
  obtain ⟨F, m, h, h', L, L', k⟩ := S
  obtain ⟨⟨vF, vE, vF', vE', tv⟩, hd, np, ng, nb, h3, hlt⟩ := t
  dsimp only at tv hd
  by_cases hi : idle h h' L L'
  · have e1 : doneS ⟨F, m, h, h', L, L', k⟩ = true := by unfold doneS; rw [decide_eq_true (show TS.idle ⟨F, m, h, h', L, L', k⟩ from hi)]; rfl
    have e2 : stepS n ⟨F, m, h, h', L, L', k⟩ = ⟨F, m, h, h', L, L', k⟩ := step_idleS hi
    rw [e1, e2]
    exact (step_idle tv hd.top hi).mono fun e w' ⟨he, hc⟩ => ⟨he, Lib.hid ⟨⟨_, _, _, _, tv.kept hc⟩, hd.kept hc, np, ng, nb, h3, fun x hx => Nat.lt_of_lt_of_le (hlt x hx) hc.size⟩, hc.mono (by simp)⟩
  · have hni : ¬ TS.idle ⟨F, m, h, h', L, L', k⟩ := hi
    have hk := tv.step
    have e0 : doneS ⟨F, m, h, h', L, L', k⟩ = decide (k = 3) := by unfold doneS; rw [decide_eq_false hni]; rfl
    rw [e0]
    unfold stepS
    rw [if_neg hni]
    dsimp only
    by_cases k0 : k = 0
    · subst k0
      rw [if_pos rfl]
      exact (step_0 tv hd nb ng hi).mono fun e w' ⟨he, hx, hc⟩ => ⟨he, Lib.hid ⟨⟨_, _, _, _, hx.out.2⟩, hx.out.1, np, ng, nb, h3, fun x hx => Nat.lt_of_lt_of_le (hlt x hx) hc.size⟩, hc⟩
    · rw [if_neg k0]
      by_cases k1 : k = 1
      · subst k1
        rw [if_pos rfl]
        exact (step_1 tv hd nb ng hi).mono fun e w' ⟨he, hx, hc⟩ => ⟨he, Lib.hid ⟨⟨_, _, _, _, hx.out.2⟩, hx.out.1, np, ng, nb, h3, fun x hx => Nat.lt_of_lt_of_le (hlt x hx) hc.size⟩, hc⟩
      · rw [if_neg k1]
        by_cases k2 : k = 2
        · subst k2
          rw [if_pos rfl]
          exact (step_2 tv hd nb ng hi).mono fun e w' ⟨he, hx, hc⟩ => ⟨he, Lib.hid ⟨⟨_, _, _, _, hx.out.2⟩, hx.out.1, np, ng, nb, h3, fun x hx => Nat.lt_of_lt_of_le (hlt x hx) hc.size⟩, hc⟩
        · rw [if_neg k2]
          have k3 : k = 3 := by omega
          subst k3
          exact (step_3 tv hd nb ng hi).mono fun e w' ⟨he, hx, hc⟩ => ⟨he, Lib.hid ⟨⟨_, _, _, _, hx.out.2⟩, hx.out.1, np, ng, nb, h3, fun x hx => Nat.lt_of_lt_of_le (hlt x hx) hc.size⟩, hc⟩
def leftN (q : Nat) (w : World) : Nat := match w.cell? ⟨q, 7, none⟩ with
  | some (.int _ z) => 4 - z.toNat
  | _ => 0
theorem left_TD {w : World} {l : List Nat} {q p g b n : Nat} {S : TS} (t : TD w l q p g b n S) : leftN q w = 4 - S.k := by
  obtain ⟨_, _, _, _, tv⟩ := t.tp
  have h := tv.own.cell 7
  unfold leftN
  simp at h
  rw [h]
  simp
theorem commit_TD {w : World} {l : List Nat} {q p g b n : Nat} {S : TS} (t : TD w l q p g b n S) :
    Calls Tryz.prog 59 #[.pointer (some ⟨q, 0, none⟩)] w fun e w' => e = .returned (.int .i64 0) ∧ Hid (TD w' l q p g b n (commitS n S)) ∧ Chg (l ++ [g, b]) w w' := by
  have HT := Lib.hid t
  clear t
  go_enter Tryz.func59, Tryz.ntmps59
  go_wp2_with fail
  go_loopw [3] (fun _ wr => ∃ S', Hid (TD wr l q p g b n S' ∧ commitS n S' = commitS n S) ∧ Chg (l ++ [g, b]) w wr) (fun _ wr => leftN q wr)
  case atStart => exact ⟨S, Lib.hid ⟨HT.out, rfl⟩, Chg.refl _ _⟩
  case round =>
    obtain ⟨S', HS, hc⟩ := hrel
    have HC := Lib.hid hc
    have hst := step_TD HS.out.1
    have HL := Lib.hid (left_TD HS.out.1)
    clear hc
    cases hb : doneS S' with
    | true =>
      rw [hb] at hst
      have HST := Lib.hid hst
      have HE := Lib.hid ((commit_done (n := n) hb).trans HS.out.2)
      clear hst hb
      go_wp2_with (first | (go_at_call 116; refine HST.out.mono ?_; rintro e w2 ⟨rfl, ht2, hc2⟩) | fail)
      go_ret
      rw [HE.out] at ht2
      exact ⟨rfl, ht2, HC.out.trans hc2⟩
    | false =>
      rw [hb] at hst
      have HST := Lib.hid hst
      have HE := Lib.hid (commit_more (n := n) hb HS.out.1.le3)
      have h3 := HS.out.1.le3
      clear hst hb
      go_wp2_with (first | (go_at_call 116; refine HST.out.mono ?_; rintro e w2 ⟨rfl, ht2, hc2⟩; have HC2 := Lib.hid hc2; clear hc2) | fail)
      go_roundw
      case rel => exact ⟨_, Lib.hid ⟨ht2.out, HE.out.1.trans HS.out.2⟩, HC.out.trans HC2.out⟩
      case measure =>
        have h1 := HL.out
        have h2 := left_TD ht2.out
        rw [HE.out.2] at h2
        rw [h1, h2]
        omega
end Go.Proofs.YtmpajlpemabniaaGreat
namespace Go.Proofs.YtmpajlpemabniaaGreat
open Go.RowKit Go.Maps Go.Shelf
set_option linter.unusedVariables false
set_option linter.unusedSimpArgs false
structure CrAt (w wr : World) (g gd n : Nat) (F : Nat → Sec) (m : Nat → Option Sec) (ks : List Bool) (k : Nat) : Prop where
  chg : Chg [] w wr
  rng : ∀ i, i < n → wr.rangeAt g (i * 64) (u8s (crashK n F m ks k i))
  the : wr.there g 0 (n * 64)
  low : w.heap.size ≤ g
  lis : ∀ j, j < (dirtyL n m).length → wr.cell? ⟨gd, j, none⟩ = some (.int .i64 (((dirtyL n m).getD j 0 : Nat) : Int))
  gd : g ≠ gd
theorem crashK_len {w : World} {p g b n : Nat} {F : Nat → Sec} {m : Nat → Option Sec} (hd : Dsk w p g b n F m) (ks : List Bool) (k i : Nat) : (crashK n F m ks k i).length = 64 := by
  unfold crashK crashF
  split
  · split
    · exact hd.lenN i
    · exact hd.lenF i
  · exact hd.lenF i
theorem crashF_len {w : World} {p g b n : Nat} {F : Nat → Sec} {m : Nat → Option Sec} (hd : Dsk w p g b n F m) (ks : List Bool) (i : Nat) : (crashF F m ks i).length = 64 := by
  unfold crashF
  split
  · exact hd.lenN i
  · exact hd.lenF i
theorem i64s_dirty (n : Nat) (m : Nat → Option Sec) (j : Nat) (hj : j < (dirtyL n m).length) : (i64s (dirtyZ n m))[j]? = some (.int .i64 (((dirtyL n m).getD j 0 : Nat) : Int)) := by
  simp [i64s, dirtyZ, List.getD, hj]
theorem crAt_keep {w wr : World} {g gd n : Nat} {F : Nat → Sec} {m : Nat → Option Sec} {ks : List Bool} {k : Nat} (h : CrAt w wr g gd n F m ks k) (hk : k < (dirtyL n m).length) (hn : ks.getD k false = false) : CrAt w wr g gd n F m ks (k + 1) := by
  refine ⟨h.chg, fun i hi => ?_, h.the, h.low, h.lis, h.gd⟩
  rw [crashK_succ F m ks hk i]
  by_cases e : i = (dirtyL n m)[k]
  · rw [if_pos e, if_neg (by rw [hn]; simp), ← (show crashK n F m ks k i = F i by rw [e]; exact crashK_at F m ks hk)]
    exact h.rng i hi
  · rw [if_neg e]
    exact h.rng i hi
theorem crAt_set {w wr w0 : World} {p gg b g gd n : Nat} {F : Nat → Sec} {m : Nat → Option Sec} {ks : List Bool} {k : Nat} (hd : Dsk w0 p gg b n F m) (h : CrAt w wr g gd n F m ks k) (hk : k < (dirtyL n m).length) (hn : ks.getD k false = true) (x : Nat) (hx : x = (dirtyL n m).getD k 0) :
    CrAt w (wr.setCells g (x * 64) (u8s (now F m x))) g gd n F m ks (k + 1) := by
  have hx2 : x = (dirtyL n m)[k] := by rw [hx]; simp [List.getD, hk]
  have hxn : x < n := by rw [hx2]; exact (mem_dirtyL.1 (List.getElem_mem hk)).1
  have hth : wr.there g (x * 64) (u8s (now F m x)).length := fun j hj => by
    rw [u8s_length, hd.lenN] at hj
    have := h.the (x * 64 + j) (by omega)
    simpa using this
  have hC : Chg [g] wr (wr.setCells g (x * 64) (u8s (now F m x))) := (Chg.refl [g] wr).setCells (by simp) _ _
  have hgd := h.gd
  refine ⟨h.chg.then hC (by simp; exact h.low), fun i hi => ?_, World.there_setCells h.the _ _ _, h.low, fun j hj => hC.cell (h.lis j hj) (by simp; exact fun e => hgd e.symm), h.gd⟩
  rw [crashK_succ F m ks hk i]
  by_cases e : i = (dirtyL n m)[k]
  · have ei : i = x := by rw [hx2]; exact e
    rw [if_pos e, if_pos hn, ei]
    exact World.rangeAt_setCells_same _ _ _ _ hth
  · have ei : i ≠ x := by rw [hx2]; exact e
    rw [if_neg e]
    refine World.rangeAt_setCells_apart (h.rng i hi) _ _ _ (.inr ?_)
    rw [u8s_length, u8s_length, crashK_len hd, hd.lenN]
    omega
theorem dirty_some (w : World) {p g b n : Nat} {F : Nat → Sec} {m : Nat → Option Sec} (hd : Dsk w p g b n F m) (hL : 0 < (dirtyL n m).length) :
    Calls Tryz.prog 57 #[.pointer (some ⟨p, 0, none⟩)] w fun e w' => ∃ gd c, e = .returned (.slice (some ⟨gd, 0, none⟩) (dirtyL n m).length c) ∧ w.heap.size ≤ gd ∧ gd < w'.heap.size ∧ (∀ j, j < (dirtyL n m).length → w'.cell? ⟨gd, j, none⟩ = some (.int .i64 (((dirtyL n m).getD j 0 : Nat) : Int))) ∧ Below w.heap.size w w' := by
  refine (dirty_ok w hd).mono fun e w' ⟨v, he, hrow, hb⟩ => ?_
  obtain ⟨a, c, rfl, ha⟩ := open_row1 hrow
  obtain ⟨gd, rfl, h1, h2, h3⟩ := ha hL
  exact ⟨gd, c, he, h1, h2, fun j hj => by rw [h3 j hj, i64s_dirty n m j hj], hb⟩
theorem dirty_none (w : World) {p g b n : Nat} {F : Nat → Sec} {m : Nat → Option Sec} (hd : Dsk w p g b n F m) (hL : (dirtyL n m).length = 0) :
    Calls Tryz.prog 57 #[.pointer (some ⟨p, 0, none⟩)] w fun e w' => ∃ a c, e = .returned (.slice a 0 c) ∧ Below w.heap.size w w' := by
  refine (dirty_ok w hd).mono fun e w' ⟨v, he, hrow, hb⟩ => ?_
  obtain ⟨a, c, rfl, ha⟩ := open_row1 hrow
  rw [hL] at he
  exact ⟨a, c, he, hb⟩
theorem crash_new {w w2 : World} {gl n cl : Nat} {F : Nat → Sec} (h1 : 1 ≤ n) (h2 : n ≤ 1024) (hF : ∀ i, (F i).length = 64) (hC : Chg [] w w2) (hr : ∀ i, i < n → w2.rangeAt gl (i * 64) (u8s (F i))) (ht : w2.there gl 0 (n * 64)) (hgl : w.heap.size ≤ gl) :
    Calls Tryz.prog 36 #[.slice (some ⟨gl, 0, none⟩) n cl] w2 fun e w' => ∃ p', e = .returned (.pointer (some ⟨p', 0, none⟩)) ∧ Hid (∃ g' b', w.heap.size ≤ p' ∧ w.heap.size ≤ g' ∧ w.heap.size ≤ b' ∧ Dsk w' p' g' b' n F (fun _ => none) ∧ Chg [] w w') := by
  refine (clean_any w2 _ n cl).mono fun e w' ⟨he, hw⟩ => ?_
  have hD := clean_dsk (c := cl) h1 h2 hF hr ht
  have := hC.size
  subst hw
  exact ⟨_, he, Lib.hid ⟨gl, w2.heap.size, by omega, hgl, by omega, hD.1, hC.trans hD.2⟩⟩
theorem crash_post {w w' : World} {n p' : Nat} {F : Nat → Sec} {e : Ending} (he : e = .returned (.pointer (some ⟨p', 0, none⟩))) (h : Hid (∃ g' b', w.heap.size ≤ p' ∧ w.heap.size ≤ g' ∧ w.heap.size ≤ b' ∧ Dsk w' p' g' b' n F (fun _ => none) ∧ Chg [] w w')) :
    ∃ p' g' b', e = .returned (.pointer (some ⟨p', 0, none⟩)) ∧ w.heap.size ≤ p' ∧ w.heap.size ≤ g' ∧ w.heap.size ≤ b' ∧ Dsk w' p' g' b' n F (fun _ => none) ∧ Chg [] w w' := by
  obtain ⟨g', b', h1, h2, h3, h4, h5⟩ := h.out
  exact ⟨p', g', b', he, h1, h2, h3, h4, h5⟩
set_option maxRecDepth 100000 in
theorem crash_ok (w : World) {p g b n : Nat} {F : Nat → Sec} {m : Nat → Option Sec} (hd : Dsk w p g b n F m) (a : Option Addr) (ks : List Bool) (c B : Nat) (hro : Ro w B a (bls ks)) (hB : B ≤ w.heap.size) (hks : ks.length ≤ 9223372036854775807) :
    Calls Tryz.prog 16 #[.pointer (some ⟨p, 0, none⟩), .slice a ks.length c] w fun e w' => ∃ p' g' b', e = .returned (.pointer (some ⟨p', 0, none⟩)) ∧ w.heap.size ≤ p' ∧ w.heap.size ≤ g' ∧ w.heap.size ≤ b' ∧ Dsk w' p' g' b' n (crashF F m ks) (fun _ => none) ∧ Chg [] w w' := by
  obtain ⟨c0, hflu⟩ := hd.flu
  have hdir := hd.dir
  have ht := hd.top
  have HD := Lib.hid hd
  have hro2 := hro.mono hB
  have HR := Lib.hid hro2
  have HC := Lib.hid (clone_rows w g n c0 F hd.lenF ht hd.rng)
  have hLn := dirtyL_le n m
  clear hd hro hro2
  by_cases hL : (dirtyL n m).length = 0
  · have HL := Lib.hid hL
    clear hL
    go_enter Tryz.func16, Tryz.ntmps16
    go_wp2_with (first
      | (go_at_call 56; refine HC.out.mono ?_; rintro e w1 ⟨gl, cl, rfl, hgl, hgl2, hrl, htl, hb1⟩)
      | fail)
    have hC1 : Chg [] w w1 := (Chg.refl [] w).of_below hb1
    have HC2 := Lib.hid (dirty_none w1 (HD.out.kept hC1) HL.out)
    go_wp2_with (first
      | (go_at_call 57; refine HC2.out.mono ?_; rintro e w2 ⟨ad, cd, rfl, hb2⟩)
      | fail)
    have hC12 : Chg [] w1 w2 := (Chg.refl [] w1).of_below hb2
    have HN := Lib.hid (crash_new (cl := cl) (F := crashF F m ks) HD.out.one ht (fun i => crashF_len HD.out ks i) (hC1.trans hC12) (fun i hi => by
      have := hC12.range (hrl i hi) (by simp)
      rw [← crashK_end n F m ks i hi, HL.out, crashK_zero]; exact this) (hC12.there htl (by simp)) hgl)
    clear hrl htl hb1 hb2 hC1 hC12
    refine wp_loop_rounds 1 ?_
    rw [rounds_succ]
    go_wp2_with (first
      | (go_at_call 36; refine HN.out.mono ?_; rintro e w3 ⟨p3, rfl, H3⟩)
      | fail)
    go_ret
    exact crash_post rfl H3
  · have hL0 : 0 < (dirtyL n m).length := by omega
    clear hL
    go_enter Tryz.func16, Tryz.ntmps16
    go_wp2_with (first
      | (go_at_call 56; refine HC.out.mono ?_; rintro e w1 ⟨gl, cl, rfl, hgl, hgl2, hrl, htl, hb1⟩)
      | fail)
    have hC1 : Chg [] w w1 := (Chg.refl [] w).of_below hb1
    have HC2 := Lib.hid (dirty_some w1 (HD.out.kept hC1) hL0)
    obtain ⟨L, HLn⟩ : ∃ L, Hid ((dirtyL n m).length = L) := ⟨_, Lib.hid rfl⟩
    have HC3 := HC2
    rw [HLn.out] at HC3 hL0 hLn
    clear HC2
    go_wp2_with (first
      | (go_at_call 57; refine HC3.out.mono ?_; rintro e w2 ⟨gd, cd, rfl, hgd, hgd2, hlis, hb2⟩)
      | fail)
    have hC12 : Chg [] w1 w2 := (Chg.refl [] w1).of_below hb2
    have HS := Lib.hid (show CrAt w w2 gl gd n F m ks 0 from ⟨hC1.trans hC12, fun i hi => by rw [crashK_zero]; exact hC12.range (hrl i hi) (by simp), hC12.there htl (by simp), hgl, fun j hj => hlis j (by rw [← HLn.out]; exact hj), by omega⟩)
    clear hrl htl hb1 hb2 hC1 hC12 hlis hgl2 hgd2 HC3
    go_loopw [18] (fun i wr => ∃ k : Nat, k ≤ L ∧ i = .int .i64 k ∧ CrAt w wr gl gd n F m ks k) (fun i _ => L - (intOf i).toNat)
    case atStart => exact ⟨0, Nat.zero_le _, rfl, HS.out⟩
    case round =>
      obtain ⟨k, hk, rfl, hR⟩ := hrel
      by_cases hlt : k < L
      · have hkL : k < (dirtyL n m).length := by rw [HLn.out]; exact hlt
        have hdt : decide (k < L) = true := by simpa using hlt
        have hcell := hR.lis k hkL
        obtain ⟨x, HX⟩ : ∃ x, Hid (x = (dirtyL n m).getD k 0) := ⟨_, Lib.hid rfl⟩
        rw [← HX.out] at hcell
        have hxm : x ∈ dirtyL n m := by rw [HX.out]; simp [List.getD, hkL]
        have hxn : x < n := (mem_dirtyL.1 hxm).1
        have hms : (m x).isSome = true := (mem_dirtyL.1 hxm).2
        have hk0 : (0 : Int) ≤ (k : Int) := by omega
        have hk1 : (k : Int) < (L : Int) := by omega
        have hx0 : (0 : Int) ≤ (x : Int) := by omega
        have hx1 : (x : Int) < (n : Int) := by omega
        have HR2 := Lib.hid hR
        have hmeas : L - (k + 1) < L - k := by omega
        by_cases hkk : k < ks.length
        · obtain ⟨bk, off, rfl, hbk, hkc⟩ := HR.out.bl (by omega)
          have hkc2 := hR.chg.cell (hkc k hkk) (by simp)
          have hdk : decide (k < ks.length) = true := by simpa using hkk
          have hkk1 : (k : Int) < (ks.length : Int) := by omega
          cases hv : ks.getD k false with
          | false =>
            rw [hv] at hkc2
            have HK := Lib.hid (crAt_keep hR hkL hv)
            clear hR hkc hms hv hxm
            go_wp2
            go_roundw
            case rel => exact ⟨k + 1, by omega, by go_num, HK.out⟩
            case measure => simp [intOf]; omega
          | true =>
            rw [hv] at hkc2
            have HK := Lib.hid (crAt_set HD.out hR hkL hv x HX.out)
            have hdW := HD.out.kept hR.chg
            have hdirW := hdW.dir
            have hlook : (Instr.lookup 119 (.map (some b)) (.int .i64 (x : Int)) false).run Tryz.prog wr = .ok (sv (now F m x)) wr := by
              rw [(look_run hdW x hxn).2]
              obtain ⟨S, hS⟩ := Option.isSome_iff_exists.1 hms
              simp [now, hS]
            have hlen := HD.out.lenN x
            have hth : wr.there gl (x * 64) 64 := fun j hj => by
              have := hR.the (x * 64 + j) (by omega)
              simpa using this
            obtain ⟨S, HS2⟩ : ∃ S, Hid (now F m x = S) := ⟨_, Lib.hid rfl⟩
            rw [HS2.out] at hlook hlen HK
            clear hR hkc hms hv hxm hdW
            go_wp2_with (first
              | (refine wpList_store37 rfl _ _ rfl gl (x * 64) S rfl rfl hth hlen ?_)
              | fail)
            go_roundw
            case rel => exact ⟨k + 1, by omega, by go_num, HK.out⟩
            case measure => simp [intOf]; omega
        · have hdk : decide (k < ks.length) = false := by simpa using hkk
          have HK := Lib.hid (crAt_keep hR hkL (by rw [List.getD_eq_getElem?_getD, List.getElem?_eq_none (by omega)]; rfl))
          clear hR hms hxm
          go_wp2
          go_roundw
          case rel => exact ⟨k + 1, by omega, by go_num, HK.out⟩
          case measure => simp [intOf]; omega
      · have hkL : k = L := by omega
        have HN := Lib.hid (crash_new (cl := cl) (F := crashF F m ks) HD.out.one ht (fun i => crashF_len HD.out ks i) hR.chg (fun i hi => by
          have := hR.rng i hi
          rw [hkL, ← HLn.out, crashK_end n F m ks i hi] at this; exact this) hR.the hgl)
        have hnl : decide (k < L) = false := by simpa using hlt
        clear hR hkL
        go_wp2_with (first
          | (go_at_call 36; refine HN.out.mono ?_; rintro e w3 ⟨p3, rfl, H3⟩)
          | fail)
        go_ret
        exact crash_post rfl H3
end Go.Proofs.YtmpajlpemabniaaGreat
namespace Go.Proofs.YtmpajlpemabniaaGreat
open Go.RowKit
set_option linter.unusedVariables false
set_option linter.unusedSimpArgs false
theorem cat_get {R : Nat → Sec} (hR : ∀ i, (R i).length = 64) (f : Nat) : ∀ n i, i < n * 64 → (cat R f n)[i]? = (R (f + i / 64))[i % 64]?
  | 0, i, h => by omega
  | n + 1, i, h => by
    rw [cat]
    by_cases hi : i < n * 64
    · rw [List.getElem?_append_left (by rw [cat_len hR]; exact hi)]
      exact cat_get hR f n i hi
    · rw [List.getElem?_append_right (by rw [cat_len hR]; omega), cat_len hR, show i / 64 = n from by omega, show i - n * 64 = i % 64 from by omega]
def Has (n : Nat) (R : Nat → Sec) (h : Nat) (B : List UInt8) : Prop := ∀ i, i < B.length → (R (1 + h * hsec n + i / 64))[i % 64]? = B[i]?
theorem has_iff {n : Nat} {R : Nat → Sec} (hR : ∀ i, (R i).length = 64) {h : Nat} {B : List UInt8} (hB : B.length ≤ hsec n * 64) : (halfB n R h).take B.length = B ↔ Has n R h B := by
  unfold halfB
  constructor
  · intro e i hi
    rw [← cat_get hR _ (hsec n) i (by omega)]
    have := congrArg (fun l : List UInt8 => l[i]?) e
    simpa [List.getElem?_take, hi] using this
  · intro e
    refine List.ext_getElem? fun i => ?_
    rw [List.getElem?_take]
    by_cases hi : i < B.length
    · rw [if_pos hi, cat_get hR _ _ i (by omega)]
      exact e i hi
    · rw [if_neg hi, List.getElem?_eq_none (by omega)]
theorem fillS_at (B : List UInt8) (i : Nat) (hi : i < B.length) : (fillS (B.drop (i / 64 * 64)))[i % 64]? = B[i]? := by
  rw [fillS_get _ _ (by omega)]
  have e : i / 64 * 64 + i % 64 = i := by omega
  simp [List.getD, e, hi]
theorem wfM_at (n h h' : Nat) (L L' : List Rec) (m : Nat → Option Sec) (x : Nat) : wfM n h h' L L' m x =
    if 1 + h' * hsec n + fromN h h' L / 64 ≤ x ∧ x < 1 + h' * hsec n + (fromN h h' L / 64 + secN (fromN h h' L) (frs L').length) then some (fillS ((frs L').drop ((x - (1 + h' * hsec n)) * 64))) else m x := by
  unfold wfM
  rw [wrP_range]
  rfl
section
variable {n h h' : Nat} {L L' : List Rec} {F : Nat → Sec}
theorem Opens.mk' {R : Nat → Sec} (hR : ∀ i, (R i).length = 64) (h1 : h ≤ 1) (h2 : okL L) (h3 : (frs L).length ≤ hsec n * 64) (h4 : R 0 = supS h L.length (frs L).length) (h5 : Has n R h (frs L)) : Opens n R h L :=
  ⟨h1, h2, h3, h4, (has_iff hR h3).2 h5⟩
theorem Opens.has {R : Nat → Sec} (hR : ∀ i, (R i).length = 64) (o : Opens n R h L) : Has n R h (frs L) := (has_iff hR o.room).1 o.bytes
theorem now_wf (n h h' : Nat) (L L' : List Rec) (F : Nat → Sec) (x : Nat) : now F (wfM n h h' L L' fun _ => none) x =
    if 1 + h' * hsec n + fromN h h' L / 64 ≤ x ∧ x < 1 + h' * hsec n + (fromN h h' L / 64 + secN (fromN h h' L) (frs L').length) then fillS ((frs L').drop ((x - (1 + h' * hsec n)) * 64)) else F x := by
  unfold now
  rw [wfM_at]
  split <;> rfl
theorem pre_at (hp : h = h' → ∃ W, L' = L ++ W) (e : h = h') {i : Nat} (hi : i < (frs L).length) : (frs L')[i]? = (frs L)[i]? ∧ i < (frs L').length := by
  obtain ⟨W, rfl⟩ := hp e
  rw [frs_append]
  exact ⟨List.getElem?_append_left hi, by rw [List.length_append]; omega⟩
theorem mid_opens {R : Nat → Sec} (hF : ∀ i, (F i).length = 64) (hR : ∀ i, (R i).length = 64) (o : Opens n F h L) (hp : h = h' → ∃ W, L' = L ++ W) (hh : h' ≤ 1) (hr : (frs L').length ≤ hsec n * 64) (hx : ∀ x, R x = F x ∨ R x = now F (wfM n h h' L L' fun _ => none) x) : Opens n R h L := by
  have h0 := o.half
  refine Opens.mk' hR o.half o.ok o.room ?_ fun i hi => ?_
  · rw [← o.sup]
    rcases hx 0 with e | e
    · exact e
    · rw [e, now_wf, if_neg (by omega)]
  · have hF2 := o.has hF i hi
    rcases hx (1 + h * hsec n + i / 64) with e | e
    · rw [e]; exact hF2
    · rw [e, now_wf]
      split
      · rename_i hw
        by_cases hhh : h = h'
        · obtain ⟨p1, p2⟩ := pre_at hp hhh hi
          rw [← hhh, Nat.add_sub_cancel_left, fillS_at _ _ p2, p1]
        · exfalso
          have h3 := o.room
          have hf : fromN h h' L = 0 := by unfold fromN; rw [if_neg hhh]
          rw [hf] at hw
          unfold secN at hw
          have h4 : h = 0 ∧ h' = 1 ∨ h = 1 ∧ h' = 0 := by omega
          rcases h4 with ⟨rfl, rfl⟩ | ⟨rfl, rfl⟩ <;> omega
      · exact hF2
theorem mid_has (hF : ∀ i, (F i).length = 64) (o : Opens n F h L) (hp : h = h' → ∃ W, L' = L ++ W) : Has n (now F (wfM n h h' L L' fun _ => none)) h' (frs L') := by
  intro i hi
  rw [now_wf]
  split
  · rw [Nat.add_sub_cancel_left, fillS_at _ _ hi]
  · rename_i hw
    by_cases hhh : h = h'
    · have hf : fromN h h' L = (frs L).length := by unfold fromN; rw [if_pos hhh]
      rw [hf] at hw
      unfold secN at hw
      have hi2 : i < (frs L).length := by omega
      obtain ⟨p1, _⟩ := pre_at hp hhh hi2
      rw [p1, ← hhh]
      exact o.has hF i hi2
    · have hf : fromN h h' L = 0 := by unfold fromN; rw [if_neg hhh]
      rw [hf] at hw
      unfold secN at hw
      omega
theorem sup_opens {R : Nat → Sec} (hR : ∀ i, (R i).length = 64) (o : Opens n F h L) (hh : Has n F h' (frs L')) (h1 : h' ≤ 1) (h2 : okL L') (h3 : (frs L').length ≤ hsec n * 64) (h4 : R 0 = supS h' L'.length (frs L').length) (h5 : ∀ x, x ≠ 0 → R x = F x) : Opens n R h' L' :=
  Opens.mk' hR h1 h2 h3 h4 fun i hi => by rw [h5 _ (by omega)]; exact hh i hi
end
theorem opens_zero (n : Nat) : Opens n (fun _ => zsec) 0 [] := by
  have hz : zsec = supS 0 0 0 := by decide
  exact ⟨by omega, okL_nil, by simp [frs], hz, by simp [frs]⟩
end Go.Proofs.YtmpajlpemabniaaGreat
namespace Go.Proofs.YtmpajlpemabniaaGreat
open Go.RowKit Go.Deep Go.Shelf
set_option linter.unusedVariables false
set_option linter.unusedSimpArgs false
def calm (F : Nat → Sec) (m : Nat → Option Sec) (h : Nat) (L : List Rec) : TS := ⟨F, m, h, h, L, L, 0⟩
def TDT (w : World) (l : List Nat) (q p g b n : Nat) (S : TS) (w' : World) : Prop := ∃ l', TD w' l' q p g b n S ∧ (∀ x ∈ l', x ∈ l ∨ w.heap.size ≤ x) ∧ Chg l w w'
theorem TpT.td {w w' : World} {l : List Nat} {q p g b n : Nat} {S : TS} {h h' : Nat} {L L' : List Rec} {k : Nat} (t : TD w l q p g b n S) (u : TpT w l q p n h h' L L' k w') : TDT w l q p g b n ⟨S.F, S.m, h, h', L, L', k⟩ w' := by
  obtain ⟨l1, ⟨vF, vE, vF', vE', h1⟩, h21, h3⟩ := u
  obtain ⟨h1, hn⟩ := h1.norm
  have h2 : ∀ x ∈ q :: (bl vF ++ bl vE ++ bl vF' ++ bl vE'), x ∈ l ∨ w.heap.size ≤ x := fun x hx => h21 x (hn x hx).1
  generalize (q :: (bl vF ++ bl vE ++ bl vF' ++ bl vE')) = l' at h1 hn h2
  have np : p ∉ l' := fun hx => by
    rcases h2 p hx with h4 | h4
    · exact t.np h4
    · have := t.dsk.ltp; omega
  have ng : g ∉ l' := fun hx => by
    rcases h2 g hx with h4 | h4
    · exact t.ng h4
    · have := t.dsk.ltg; omega
  have nb : b ∉ l' := fun hx => by
    rcases h2 b hx with h4 | h4
    · exact t.nb h4
    · have := t.dsk.ltb; omega
  exact ⟨l', ⟨⟨_, _, _, _, h1⟩, t.dsk.keep h3 t.np t.ng t.nb, np, ng, nb, t.three, fun x hx => (hn x hx).2⟩, h2, h3⟩
theorem open_at (w : World) {p g b n : Nat} {F : Nat → Sec} {m : Nat → Option Sec} {h : Nat} {L : List Rec} (hd : Dsk w p g b n F m) (hn : 3 ≤ n) (o : Opens n (now F m) h L) :
    Calls Tryz.prog 37 #[.pointer (some ⟨p, 0, none⟩)] w fun e w' => ∃ q l, e = .returned (.tuple #[.pointer (some ⟨q, 0, none⟩), .int .i64 0]) ∧ Hid (TD w' l q p g b n (calm F m h L)) ∧ Hid (∀ x ∈ l, w.heap.size ≤ x) ∧ Chg [] w w' := by
  refine (open_ok w hd hn).mono fun e w' h => ?_
  rcases h with ⟨h2, L2, q, l, o2, he, ht, hl, hc⟩ | ⟨hno, _, _⟩
  · obtain ⟨rfl, rfl⟩ := o2.uniq hd.top o
    obtain ⟨vF, vE, vF', vE', h1⟩ := ht
    obtain ⟨h1, hnn⟩ := h1.norm
    have hl1 : ∀ x ∈ q :: (bl vF ++ bl vE ++ bl vF' ++ bl vE'), w.heap.size ≤ x := fun x hx => hl x (hnn x hx).1
    clear hl
    generalize (q :: (bl vF ++ bl vE ++ bl vF' ++ bl vE')) = l at h1 hnn hl1
    have hl := hl1
    exact ⟨q, l, he, Lib.hid ⟨⟨_, _, _, _, h1⟩, hd.kept hc, fun hx => by have := hl _ hx; have := hd.ltp; omega, fun hx => by have := hl _ hx; have := hd.ltg; omega, fun hx => by have := hl _ hx; have := hd.ltb; omega, hn, fun x hx => (hnn x hx).2⟩, Lib.hid hl, hc⟩
  · exact absurd o (hno _ _)
section
variable {w : World} {l : List Nat} {q p g b n : Nat} {S : TS}
def appS (n : Nat) (S : TS) (r : Rec) : TS := { S with L' := appL n S.k S.h S.h' S.L S.L' r }
theorem append_TD (t : TD w l q p g b n S) (a : Option Addr) (r : Rec) (c B : Nat) (hro : Ro w B a (u8s r)) (hB : B ≤ w.heap.size) (hsep : okR r → ∀ x, a = some x → x.block ∉ l) :
    Calls Tryz.prog 58 #[.pointer (some ⟨q, 0, none⟩), .slice a r.length c] w fun e w' => e = .returned (.int .i64 ((appE n S.k S.h S.h' S.L S.L' r : Nat) : Int)) ∧ Hid (TDT w l q p g b n (appS n S r) w') := by
  obtain ⟨_, _, _, _, tv⟩ := t.tp
  exact (append_tape tv t.dsk a r c B hro hB hsep).mono fun e w' h => ⟨h.1, Lib.hid (TpT.td t h.2)⟩
def replS (n : Nat) (S : TS) (xs : List SB) : TS := { S with h' := replH n S.k S.h S.h' xs, L' := replL n S.k S.L' xs }
theorem replace_TD (t : TD w l q p g b n S) (a : Option Addr) (xs : List SB) (c B : Nat) (hr : RoL w B a xs) (hB : B ≤ w.heap.size) (hs : Sep l a xs) (hl : xs.length ≤ 1000000) :
    Calls Tryz.prog 123 #[.pointer (some ⟨q, 0, none⟩), .slice a xs.length c] w fun e w' => e = .returned (.int .i64 ((replE n S.k xs : Nat) : Int)) ∧ Hid (TDT w l q p g b n (replS n S xs) w') := by
  obtain ⟨_, _, _, _, tv⟩ := t.tp
  exact (replace_tape tv t.dsk a xs c B hr hB hs hl).mono fun e w' h => ⟨h.1, Lib.hid (TpT.td t h.2)⟩
theorem len_TD (t : TD w l q p g b n S) : Calls Tryz.prog 39 #[.pointer (some ⟨q, 0, none⟩)] w fun e w' => e = .returned (.int .i64 ((S.L.length : Nat) : Int)) ∧ Chg [] w w' := by
  obtain ⟨_, _, _, _, tv⟩ := t.tp
  exact len_tape tv
theorem read_TD (t : TD w l q p g b n S) (i : Nat) (hi : i < S.L.length) : Calls Tryz.prog 40 #[.pointer (some ⟨q, 0, none⟩), .int .i64 (i : Int)] w fun e w' => ∃ v, e = .returned (.tuple #[v, .int .i64 0]) ∧ Hid (Lst w' w.heap.size 5 v (u8s S.L[i])) ∧ Chg [] w w' := by
  obtain ⟨_, _, _, _, tv⟩ := t.tp
  exact read_recT tv t.dsk.top i hi
theorem TD.dlt (t : TD w l q p g b n S) : p < w.heap.size ∧ g < w.heap.size ∧ b < w.heap.size := ⟨t.dsk.ltp, t.dsk.ltg, t.dsk.ltb⟩
end
theorem commit_k0 {n : Nat} {S : TS} (hi : ¬ S.idle) (hk : S.k = 0) : commitS n S = ⟨now (now S.F (wfM n S.h S.h' S.L S.L' S.m)) (upd (fun _ => none) 0 (supS S.h' S.L'.length (frs S.L').length)), fun _ => none, S.h', S.h', S.L', S.L', 0⟩ := by
  unfold commitS
  rw [if_neg hi, if_pos hk]
  have e1 : stepS n S = ⟨S.F, wfM n S.h S.h' S.L S.L' S.m, S.h, S.h', S.L, S.L', 1⟩ := by unfold stepS; rw [if_neg hi, if_pos hk]
  have e2 : stepS n ⟨S.F, wfM n S.h S.h' S.L S.L' S.m, S.h, S.h', S.L, S.L', 1⟩ = ⟨now S.F (wfM n S.h S.h' S.L S.L' S.m), fun _ => none, S.h, S.h', S.L, S.L', 2⟩ := by
    unfold stepS; rw [if_neg (show ¬ TS.idle ⟨S.F, wfM n S.h S.h' S.L S.L' S.m, S.h, S.h', S.L, S.L', 1⟩ from hi), if_neg (by simp), if_pos rfl]
  have e3 : stepS n ⟨now S.F (wfM n S.h S.h' S.L S.L' S.m), fun _ => none, S.h, S.h', S.L, S.L', 2⟩ = ⟨now S.F (wfM n S.h S.h' S.L S.L' S.m), upd (fun _ => none) 0 (supS S.h' S.L'.length (frs S.L').length), S.h, S.h', S.L, S.L', 3⟩ := by
    unfold stepS; rw [if_neg (show ¬ TS.idle ⟨now S.F (wfM n S.h S.h' S.L S.L' S.m), fun _ => none, S.h, S.h', S.L, S.L', 2⟩ from hi), if_neg (by simp), if_neg (by simp), if_pos rfl]
  have e4 : stepS n ⟨now S.F (wfM n S.h S.h' S.L S.L' S.m), upd (fun _ => none) 0 (supS S.h' S.L'.length (frs S.L').length), S.h, S.h', S.L, S.L', 3⟩ = ⟨now (now S.F (wfM n S.h S.h' S.L S.L' S.m)) (upd (fun _ => none) 0 (supS S.h' S.L'.length (frs S.L').length)), fun _ => none, S.h', S.h', S.L', S.L', 0⟩ := by
    unfold stepS; rw [if_neg (show ¬ TS.idle ⟨now S.F (wfM n S.h S.h' S.L S.L' S.m), upd (fun _ => none) 0 (supS S.h' S.L'.length (frs S.L').length), S.h, S.h', S.L, S.L', 3⟩ from hi), if_neg (by simp), if_neg (by simp), if_neg (by simp)]
  rw [e1, e2, e3, e4]
end Go.Proofs.YtmpajlpemabniaaGreat
