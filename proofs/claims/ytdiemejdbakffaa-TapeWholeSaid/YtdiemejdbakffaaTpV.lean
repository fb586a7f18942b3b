/-
  Plain mathematics of a tape on its disk: what each step, and a crash behind it, leaves. No claim of their own.
-/
import Derived.Test.YtdiemejdbakffaaTpU
import Derived.Test.YtdiemejdbakffaaDkX
namespace Go.Proofs.Ytdiemejdbakffaa
open Go.RowKit
set_option linter.unusedVariables false
set_option linter.unusedSimpArgs false

theorem cat_get {R : Nat → Sec} (hR : ∀ i, (R i).length = 64) (f : Nat) : ∀ n i, i < n * 64 → (cat R f n)[i]? = (R (f + i / 64))[i % 64]?
  | 0, i, h => by omega
  | n + 1, i, h => by
    rw [cat]
    by_cases hi : i < n * 64
    · rw [List.getElem?_append_left (by rw [cat_len hR]; exact hi)]
      exact cat_get hR f n i hi
    · rw [List.getElem?_append_right (by rw [cat_len hR]; omega), cat_len hR, show i / 64 = n from by omega, show i - n * 64 = i % 64 from by omega]
/-- the sectors from one on hold bytes -/
def Has (n : Nat) (R : Nat → Sec) (h : Nat) (B : List UInt8) : Prop := ∀ i, i < B.length → (R (1 + h * hsec n + i / 64))[i % 64]? = B[i]?
theorem has_iff {n : Nat} {R : Nat → Sec} (hR : ∀ i, (R i).length = 64) {h : Nat} {B : List UInt8} (hB : B.length ≤ hsec n * 64) : (halfB n R h).take B.length = B ↔ Has n R h B := by
  unfold halfB
  constructor
  · intro e i hi
    rw [← cat_get hR _ (hsec n) i (by omega)]
    have := congrArg (fun l : List UInt8 => l[i]?) e
    simpa [List.getElem?_take, hi] using this
  · intro e
    refine List.ext_getElem? fun i => ?_
    rw [List.getElem?_take]
    by_cases hi : i < B.length
    · rw [if_pos hi, cat_get hR _ _ i (by omega)]
      exact e i hi
    · rw [if_neg hi, List.getElem?_eq_none (by omega)]
theorem fillS_at (B : List UInt8) (i : Nat) (hi : i < B.length) : (fillS (B.drop (i / 64 * 64)))[i % 64]? = B[i]? := by
  rw [fillS_get _ _ (by omega)]
  have e : i / 64 * 64 + i % 64 = i := by omega
  simp [List.getD, e, hi]
/-- where writeFrames writes -/
theorem wfM_at (n h h' : Nat) (L L' : List Rec) (m : Nat → Option Sec) (x : Nat) : wfM n h h' L L' m x =
    if 1 + h' * hsec n + fromN h h' L / 64 ≤ x ∧ x < 1 + h' * hsec n + (fromN h h' L / 64 + secN (fromN h h' L) (frs L').length) then some (fillS ((frs L').drop ((x - (1 + h' * hsec n)) * 64))) else m x := by
  unfold wfM
  rw [wrP_range]
  rfl
section
variable {n h h' : Nat} {L L' : List Rec} {F : Nat → Sec}
theorem Opens.mk' {R : Nat → Sec} (hR : ∀ i, (R i).length = 64) (h1 : h ≤ 1) (h2 : okL L) (h3 : (frs L).length ≤ hsec n * 64) (h4 : R 0 = supS h L.length (frs L).length) (h5 : Has n R h (frs L)) : Opens n R h L :=
  ⟨h1, h2, h3, h4, (has_iff hR h3).2 h5⟩
theorem Opens.has {R : Nat → Sec} (hR : ∀ i, (R i).length = 64) (o : Opens n R h L) : Has n R h (frs L) := (has_iff hR o.room).1 o.bytes
theorem now_wf (n h h' : Nat) (L L' : List Rec) (F : Nat → Sec) (x : Nat) : now F (wfM n h h' L L' fun _ => none) x =
    if 1 + h' * hsec n + fromN h h' L / 64 ≤ x ∧ x < 1 + h' * hsec n + (fromN h h' L / 64 + secN (fromN h h' L) (frs L').length) then fillS ((frs L').drop ((x - (1 + h' * hsec n)) * 64)) else F x := by
  unfold now
  rw [wfM_at]
  split <;> rfl
theorem pre_at (hp : h = h' → ∃ W, L' = L ++ W) (e : h = h') {i : Nat} (hi : i < (frs L).length) : (frs L')[i]? = (frs L)[i]? ∧ i < (frs L').length := by
  obtain ⟨W, rfl⟩ := hp e
  rw [frs_append]
  exact ⟨List.getElem?_append_left hi, by rw [List.length_append]; omega⟩
/-- a crash behind the first step -/
theorem mid_opens {R : Nat → Sec} (hF : ∀ i, (F i).length = 64) (hR : ∀ i, (R i).length = 64) (o : Opens n F h L) (hp : h = h' → ∃ W, L' = L ++ W) (hh : h' ≤ 1) (hr : (frs L').length ≤ hsec n * 64) (hx : ∀ x, R x = F x ∨ R x = now F (wfM n h h' L L' fun _ => none) x) : Opens n R h L := by
  have h0 := o.half
  refine Opens.mk' hR o.half o.ok o.room ?_ fun i hi => ?_
  · rw [← o.sup]
    rcases hx 0 with e | e
    · exact e
    · rw [e, now_wf, if_neg (by omega)]
  · have hF2 := o.has hF i hi
    rcases hx (1 + h * hsec n + i / 64) with e | e
    · rw [e]; exact hF2
    · rw [e, now_wf]
      split
      · rename_i hw
        by_cases hhh : h = h'
        · obtain ⟨p1, p2⟩ := pre_at hp hhh hi
          rw [← hhh, Nat.add_sub_cancel_left, fillS_at _ _ p2, p1]
        · exfalso
          have h3 := o.room
          have hf : fromN h h' L = 0 := by unfold fromN; rw [if_neg hhh]
          rw [hf] at hw
          unfold secN at hw
          have h4 : h = 0 ∧ h' = 1 ∨ h = 1 ∧ h' = 0 := by omega
          rcases h4 with ⟨rfl, rfl⟩ | ⟨rfl, rfl⟩ <;> omega
      · exact hF2
/-- all that the first step writes -/
theorem mid_has (hF : ∀ i, (F i).length = 64) (o : Opens n F h L) (hp : h = h' → ∃ W, L' = L ++ W) : Has n (now F (wfM n h h' L L' fun _ => none)) h' (frs L') := by
  intro i hi
  rw [now_wf]
  split
  · rw [Nat.add_sub_cancel_left, fillS_at _ _ hi]
  · rename_i hw
    by_cases hhh : h = h'
    · have hf : fromN h h' L = (frs L).length := by unfold fromN; rw [if_pos hhh]
      rw [hf] at hw
      unfold secN at hw
      have hi2 : i < (frs L).length := by omega
      obtain ⟨p1, _⟩ := pre_at hp hhh hi2
      rw [p1, ← hhh]
      exact o.has hF i hi2
    · have hf : fromN h h' L = 0 := by unfold fromN; rw [if_neg hhh]
      rw [hf] at hw
      unfold secN at hw
      omega
/-- the superblock's step -/
theorem sup_opens {R : Nat → Sec} (hR : ∀ i, (R i).length = 64) (o : Opens n F h L) (hh : Has n F h' (frs L')) (h1 : h' ≤ 1) (h2 : okL L') (h3 : (frs L').length ≤ hsec n * 64) (h4 : R 0 = supS h' L'.length (frs L').length) (h5 : ∀ x, x ≠ 0 → R x = F x) : Opens n R h' L' :=
  Opens.mk' hR h1 h2 h3 h4 fun i hi => by rw [h5 _ (by omega)]; exact hh i hi
end
/-- a state's disk -/
structure DInv (n : Nat) (S : TS) : Prop where
  k0 : S.k = 0 → (S.m = fun _ => none) ∧ Opens n S.F S.h S.L
  k1 : S.k = 1 → S.m = wfM n S.h S.h' S.L S.L' (fun _ => none) ∧ Opens n S.F S.h S.L
  k2 : S.k = 2 → (S.m = fun _ => none) ∧ Opens n S.F S.h S.L ∧ Has n S.F S.h' (frs S.L')
  k3 : S.k = 3 → S.m = upd (fun _ => none) 0 (supS S.h' S.L'.length (frs S.L').length) ∧ Opens n S.F S.h S.L ∧ Has n S.F S.h' (frs S.L')
/-- what a state's numbers keep -/
structure SInv (n : Nat) (S : TS) : Prop where
  lenF : ∀ i, (S.F i).length = 64
  lenN : ∀ i, (now S.F S.m i).length = 64
  le3 : S.k ≤ 3
  half' : S.h' ≤ 1
  ok' : okL S.L'
  room' : (frs S.L').length ≤ hsec n * 64
  pre : S.h = S.h' → ∃ W, S.L' = S.L ++ W
theorem TD.inv {w : World} {l : List Nat} {q p g b n : Nat} {S : TS} (t : TD w l q p g b n S) : SInv n S := by
  obtain ⟨_, _, _, _, tv⟩ := t.tp
  exact ⟨t.dsk.lenF, t.dsk.lenN, tv.step, tv.half', tv.ok', tv.room', tv.pre⟩
theorem step_inv {n : Nat} {S : TS} (s : SInv n S) (d : DInv n S) : DInv n (stepS n S) := by
  unfold stepS
  by_cases hi : S.idle
  · rw [if_pos hi]; exact d
  · rw [if_neg hi]
    by_cases e0 : S.k = 0
    · obtain ⟨hm, ho⟩ := d.k0 e0
      rw [if_pos e0]
      exact ⟨fun h => by simp at h, fun _ => ⟨by rw [hm], ho⟩, fun h => by simp at h, fun h => by simp at h⟩
    · rw [if_neg e0]
      by_cases e1 : S.k = 1
      · obtain ⟨hm, ho⟩ := d.k1 e1
        have hl := s.lenN
        rw [hm] at hl
        rw [if_pos e1]
        refine ⟨fun h => by simp at h, fun h => by simp at h, fun _ => ⟨rfl, ?_, ?_⟩, fun h => by simp at h⟩
        · show Opens n (now S.F S.m) S.h S.L
          rw [hm]
          exact mid_opens s.lenF hl ho s.pre s.half' s.room' fun x => .inr rfl
        · show Has n (now S.F S.m) S.h' (frs S.L')
          rw [hm]
          exact mid_has s.lenF ho s.pre
      · rw [if_neg e1]
        by_cases e2 : S.k = 2
        · obtain ⟨hm, ho, hh⟩ := d.k2 e2
          rw [if_pos e2]
          exact ⟨fun h => by simp at h, fun h => by simp at h, fun h => by simp at h, fun _ => ⟨by rw [hm], ho, hh⟩⟩
        · have e3 : S.k = 3 := by have := s.le3; omega
          obtain ⟨hm, ho, hh⟩ := d.k3 e3
          rw [if_neg e2]
          refine ⟨fun _ => ⟨rfl, ?_⟩, fun h => by simp at h, fun h => by simp at h, fun h => by simp at h⟩
          exact sup_opens s.lenN ho hh s.half' s.ok' s.room' (by rw [hm]; simp [now, upd]) (fun x hx => by rw [hm]; simp [now, upd, hx])
/-- what a crash leaves -/
theorem crash_opens {n : Nat} {S : TS} (s : SInv n S) (d : DInv n S) (ks : List Bool) (hl : ∀ i, (crashF S.F S.m ks i).length = 64) :
    (S.k ≤ 2 → Opens n (crashF S.F S.m ks) S.h S.L) ∧ (Opens n (crashF S.F S.m ks) S.h S.L ∨ Opens n (crashF S.F S.m ks) S.h' S.L') := by
  have hx : ∀ x, crashF S.F S.m ks x = S.F x ∨ crashF S.F S.m ks x = now S.F S.m x := fun x => by
    unfold crashF
    split
    · exact .inr rfl
    · exact .inl rfl
  have hnone : (S.m = fun _ => none) → crashF S.F S.m ks = S.F := fun hm => by
    funext x
    rcases hx x with e | e
    · exact e
    · rw [e, hm]; rfl
  by_cases e0 : S.k = 0
  · obtain ⟨hm, ho⟩ := d.k0 e0
    rw [hnone hm]
    exact ⟨fun _ => ho, .inl ho⟩
  · by_cases e1 : S.k = 1
    · obtain ⟨hm, ho⟩ := d.k1 e1
      have h1 : Opens n (crashF S.F S.m ks) S.h S.L := mid_opens s.lenF hl ho s.pre s.half' s.room' fun x => by
        have := hx x
        rw [hm] at this ⊢
        exact this
      exact ⟨fun _ => h1, .inl h1⟩
    · by_cases e2 : S.k = 2
      · obtain ⟨hm, ho, _⟩ := d.k2 e2
        rw [hnone hm]
        exact ⟨fun _ => ho, .inl ho⟩
      · have e3 : S.k = 3 := by have := s.le3; omega
        obtain ⟨hm, ho, hh⟩ := d.k3 e3
        refine ⟨fun h => by omega, ?_⟩
        have hne : ∀ x, x ≠ 0 → crashF S.F S.m ks x = S.F x := fun x h0 => by
          rcases hx x with e | e
          · exact e
          · rw [e, hm]; simp [now, upd, h0]
        rcases hx 0 with e | e
        · left
          have : crashF S.F S.m ks = S.F := by
            funext x
            by_cases h0 : x = 0
            · rw [h0]; exact e
            · exact hne x h0
          rw [this]
          exact ho
        · right
          exact sup_opens hl ho hh s.half' s.ok' s.room' (by rw [e, hm]; simp [now, upd]) hne
/-- a disk that is new -/
theorem opens_zero (n : Nat) : Opens n (fun _ => zsec) 0 [] := by
  have hz : zsec = supS 0 0 0 := by decide
  exact ⟨by omega, okL_nil, by simp [frs], hz, by simp [frs]⟩
end Go.Proofs.Ytdiemejdbakffaa
