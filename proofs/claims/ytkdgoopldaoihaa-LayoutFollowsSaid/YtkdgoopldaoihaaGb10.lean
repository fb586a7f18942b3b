/-
  Encode of package message, by its contracts. No claim of its own.
-/
import Derived.Test.YtkdgoopldaoihaaGb9
import Derived.Deep.MidRow
import Derived.Test.YtkdgoopldaoihaaGb2
import Derived.Test.YtkdgoopldaoihaaGb8
import Derived.Laws.Rows
import Derived.Test.YtkdgoopldaoihaaGb7
import Derived.Test.YtkdgoopldaoihaaGb6
import Derived.Test.YtkdgoopldaoihaaGb3
import Derived.Test.YtkdgoopldaoihaaGb4
namespace Go.Proofs.Ytkdgoopldaoihaa
open Go.RowKit Go.Deep Go.Shelf
set_option linter.unusedVariables false
set_option linter.unusedSimpArgs false

theorem Own.roq {w : World} {g b n : Nat} {T : TypeId} {vs cs : List Value} (h : Own w b 5 vs) (hg : Own w g T cs) (hT : T ≠ 5) : RoQ w g (some ⟨b, 0, none⟩) vs := by
  refine .inr ⟨b, 0, rfl, h.lt, fun e => ?_, h.quiT (by decide) (by decide), fun i hi => ?_⟩
  · subst e
    unfold Own at h hg
    rw [h] at hg
    injection hg with hg
    injection hg with _ hg _
    exact hT hg.symm
  · rw [Nat.zero_add, h.cell i]
    simp [List.getD, hi]
theorem Lst.roq {w : World} {base g n c : Nat} {a : Option Addr} {T : TypeId} {vs cs : List Value} (h : Lst w base 5 (.slice a n c) vs) (hg : Own w g T cs) (hT : T ≠ 5) : RoQ w g a vs := by
  obtain ⟨a', c', he, hr, _⟩ := h.form
  injection he with h1 _ _
  subst h1
  rcases hr with hr | ⟨b, off, h1, h2, h3⟩
  · exact .inl hr
  · rcases h.2 with ⟨hv, _⟩ | ⟨k, cap, cur, hv, _, hh, _⟩
    · injection hv with hv _ _
      rw [hv] at h1; cases h1
    · injection hv with hv _ _
      rw [hv] at h1
      injection h1 with h1
      injection h1 with h1 h1' _
      subst h1
      refine .inr ⟨k, off, by rw [hv, h1'], h2, fun e => ?_, fun cur' => ⟨fun e => ?_, fun e => ?_⟩, h3⟩
      · subst e
        unfold Own at hg
        rw [hh] at hg
        injection hg with hg
        injection hg with _ hg _
        exact hT hg.symm
      · rw [hh] at e
        injection e with e
        injection e with _ e _
        exact absurd e (by decide)
      · rw [hh] at e
        injection e with e
        injection e with _ e _
        exact absurd e (by decide)
theorem lenc_b (A : LyT) (B : Nat) (w : World) (h : LyIn w B A) (hB : B ≤ w.heap.size) (hf : SgFit A.sg) :
    Calls Try.prog 7 #[A.val] w fun e w' => ∃ bs a' c' g, e = .returned (.tuple #[.slice a' bs.length c', .int .i64 g]) ∧ LB A.x bs ∧ (∀ g T cs, Own w' g T cs → T ≠ 5 → RoQ w' g a' (u8s bs)) ∧ Below w.heap.size w w' := by
  cases hr : lright A.x with
  | false =>
    refine (lenc_no A B w h hB hf hr).mono ?_
    rintro e w' ⟨rfl, hb⟩
    exact ⟨[], none, 0, 91, rfl, .inr ⟨hr, rfl⟩, fun _ _ _ _ _ => .inl rfl, hb⟩
  | true =>
    refine (lenc_yes A B w h hB hf hr).mono ?_
    rintro e w' ⟨g, cs, rfl, _, he, ho, hb⟩
    exact ⟨cs, _, _, 0, rfl, .inl ⟨hr, he⟩, fun g' T cs' hg hT => ho.roq (n := 0) hg hT, hb⟩

theorem Own.range {w : World} {b : Nat} {t : TypeId} {cs : List Value} (h : Own w b t cs) : w.rangeAt b 0 cs := fun j v hv => by
  rw [Nat.zero_add, h.cell j]; exact hv
end Go.Proofs.Ytkdgoopldaoihaa
namespace Go.Proofs.Ytkdgoopldaoihaa
open Go.RowKit Go.Deep Go.Shelf
set_option linter.unusedVariables false
set_option linter.unusedSimpArgs false

theorem own_setCells {g : Nat} {t : TypeId} : ∀ (vs pre old : List Value) (w : World), Own w g t (pre ++ old) → old.length = vs.length → Own (w.setCells g pre.length vs) g t (pre ++ vs)
  | [], pre, old, w, h, hl => by
    have : old = [] := List.eq_nil_of_length_eq_zero (by simpa using hl)
    subst this
    exact h
  | v :: vs, pre, [], w, h, hl => by simp at hl
  | v :: vs, pre, o :: old, w, h, hl => by
    rw [World.setCells]
    have h1 := h.set pre.length v
    have e : (pre ++ o :: old).set pre.length v = (pre ++ [v]) ++ old := by simp [List.set_append]
    rw [e] at h1
    have := own_setCells vs (pre ++ [v]) old _ h1 (by simpa using hl)
    simpa using this
theorem MgT.one (A : MgT) : ∀ v ∈ A.cs, v.oneCell' = true := by
  intro v hv
  simp only [MgT.cs, List.mem_cons, List.not_mem_nil, or_false] at hv
  rcases hv with rfl | rfl | rfl | rfl | rfl | rfl | rfl | rfl | rfl | rfl | rfl | rfl | rfl | rfl | rfl | rfl | rfl | rfl | rfl | rfl | rfl | rfl <;> rfl
/-- the answer to a message -/
def ansT (A : MgT) (e : Int) : MgT := ⟨14, A.to, A.fr, A.id, A.k, A.ep, A.ad, e, noC, none, 0, none, 0, [], none, 0, [], none, 0, (0, 0), (0, 0), ⟨0, none, 0, [], 0⟩⟩
def zmT : MgT := ⟨0, (0, 0), (0, 0), 0, 0, 0, 0, 0, noC, none, 0, none, 0, [], none, 0, [], none, 0, (0, 0), (0, 0), ⟨0, none, 0, [], 0⟩⟩
theorem ansT_in (w : World) (B : Nat) (A : MgT) (e : Int) : MgIn w B (ansT A e) := ⟨Ro.nil _ _ _, Ro.nil _ _ _, Ro.nil _ _ _, Ro.nil _ _ _, Ro.nil _ _ _, fun s hs => by cases hs⟩
theorem ansT_fit (A : MgT) (e : Int) : MgFit (ansT A e) := ⟨by simp [ansT, noC], by simp [ansT, noC], by simp [ansT], by simp [ansT], ⟨by simp [ansT], (fun s hs => by cases hs)⟩, (fun s hs => by cases hs), (fun s hs => by cases hs)⟩
/-- some Bool is answered -/
def RB (e : Ending) : Prop := ∃ t, e = .returned (.bool t)
end Go.Proofs.Ytkdgoopldaoihaa
namespace Go.Proofs.Ytkdgoopldaoihaa
open Go.RowKit Go.Deep
set_option linter.unusedVariables false
set_option linter.unusedSimpArgs false

theorem i64_small (v : Nat) (h : v < 9223372036854775808) : IntKind.i64.wrap (v : Int) = (v : Int) := by rw [IntKind.wrap_i64]; omega
theorem pS_at (bs : List UInt8) (n k : Nat) : (rep (pS bs) n k).2 = k + 4 * n := by
  induction n with
  | zero => rfl
  | succ n ih => simp only [rep, ih, pS]; omega
theorem pY_at (bs : List UInt8) (n k : Nat) : (rep (pY bs) n k).2 = k + 8 * n := by
  induction n with
  | zero => rfl
  | succ n ih => simp only [rep, ih, pY]; omega
theorem pB_at (bs : List UInt8) (n k : Nat) : (rep (pB bs) n k).2 = k + 46 * n := by
  induction n with
  | zero => rfl
  | succ n ih => simp only [rep, ih, pB]; omega
end Go.Proofs.Ytkdgoopldaoihaa
namespace Go.Proofs.Ytkdgoopldaoihaa
open Go.RowKit Go.Deep
set_option linter.unusedVariables false
set_option linter.unusedSimpArgs false

theorem refGetN_any (bs : List UInt8) (len : Nat) (a : Option Addr) (c B k m : Nat) (w : World) (hlen : bs.length = len) (h : Ro w B a (u8s bs)) (hl : len ≤ 1000000) (hk : k ≤ 10000000) (hm : m ≤ 64) :
    Calls Try.prog 56 #[.slice a len c, .int .i64 (k : Int), .int .i64 (m : Int)] w fun e w' => e = .returned (.tuple #[.int .u64 (tkN bs k m : Nat), .bool (decide (k + m ≤ 8 * bs.length))]) ∧ w = w' := by
  subst hlen
  by_cases hh : k + m ≤ 8 * bs.length
  · refine (refGet_yes bs a c B (k : Int) (m : Int) w h hl (by omega) (by omega) (by omega) (by omega)).mono ?_
    rintro e w' ⟨rfl, rfl⟩
    refine ⟨?_, rfl⟩
    rw [decide_eq_true hh]
    unfold tkN
    rw [if_pos hh, Int.toNat_natCast, Int.toNat_natCast]
  · refine (refGet_no a bs.length c (k : Int) (m : Int) w hl (by omega) (by omega) (by omega) (by omega) (by omega)).mono ?_
    rintro e w' ⟨rfl, rfl⟩
    refine ⟨?_, rfl⟩
    rw [decide_eq_false hh]
    unfold tkN
    rw [if_neg hh]
    rfl
/-- a cursor of the document: its bytes, where it stands, whether all was there -/
def Cur (w : World) (T : TypeId) (B s : Nat) (bs : List UInt8) (k : Nat) (ok : Bool) : Prop :=
  (∃ a c, Own w s T [.slice a bs.length c, .int .i64 (k : Int), .bool ok] ∧ Ro w B a (u8s bs)) ∧ B ≤ s ∧ bs.length ≤ 1000000
theorem Cur.lt {w : World} {T : TypeId} {B s : Nat} {bs : List UInt8} {k : Nat} {ok : Bool} (h : Cur w T B s bs k ok) : s < w.heap.size := by
  obtain ⟨⟨a, c, h1, h2⟩, h3⟩ := h
  exact h1.lt
theorem Cur.chg {w w' : World} {T : TypeId} {B s : Nat} {bs : List UInt8} {k : Nat} {ok : Bool} {l : List Nat} (h : Cur w T B s bs k ok) (hc : Chg l w w') (hs : s ∉ l) (hl : ∀ x ∈ l, B ≤ x) : Cur w' T B s bs k ok := by
  obtain ⟨⟨a, c, h1, h2⟩, h3, h4⟩ := h
  exact ⟨⟨a, c, h1.chg hc hs, h2.below (hc.below (by have := h1.lt; omega) hl) (Nat.le_refl _)⟩, h3, h4⟩
end Go.Proofs.Ytkdgoopldaoihaa
namespace Go.Proofs.Ytkdgoopldaoihaa
open Go.RowKit Go.Deep
set_option linter.unusedVariables false
set_option linter.unusedSimpArgs false

theorem okstep (ok : Bool) (q X : Nat) (d : Nat) : ((ok && decide (q ≤ X)) && decide (q + d ≤ X)) = (ok && decide (q + d ≤ X)) := by
  by_cases h : q + d ≤ X
  · have h1 : q ≤ X := by omega
    simp [h, h1]
  · simp [h]
/-- a row of another type than a cursor's -/
theorem Cur.notT {w : World} {T t : TypeId} {B s : Nat} {bs : List UInt8} {k : Nat} {ok : Bool} (h : Cur w T B s bs k ok) (ht : t ≠ T) : ∀ x ∈ [s], ∀ cur, w.heap[x]? ≠ some (.cells cur t (0, 0)) := by
  obtain ⟨⟨a, c, h1, h2⟩, h3⟩ := h
  exact h1.notT' ht
end Go.Proofs.Ytkdgoopldaoihaa
namespace Go.Proofs.Ytkdgoopldaoihaa
open Go.RowKit Go.Deep
set_option linter.unusedVariables false
set_option linter.unusedSimpArgs false

set_option maxHeartbeats 4000000 in
set_option maxRecDepth 100000 in
theorem rnum9_any (bs : List UInt8) (B s k m : Nat) (ok : Bool) (w : World) (h : Cur w 64 B s bs k ok) (hk : k ≤ 1000000) (hm : m ≤ 62) :
    Calls Try.prog 34 #[.pointer (some ⟨s, 0, none⟩), .int .i64 (m : Int)] w fun e w' => e = .returned (.int .i64 (tkN bs k m : Nat)) ∧ Cur w' 64 B s bs (k + m) (ok && decide (k + m ≤ 8 * bs.length)) ∧ Chg [s] w w' := by
  obtain ⟨⟨a, c, h1, h2⟩, h3, h4⟩ := h
  have HG := Lib.hid (fun W (hW : Below w.heap.size w W) => refGetN_any bs bs.length a c B k m W rfl (h2.below hW (by have := h1.lt; omega)) h4 (by omega) (by omega))
  have hv0 : tkN bs k m < 4611686018427387904 := Nat.lt_of_lt_of_le (tkN_lt bs k m) (Nat.le_trans (Nat.pow_le_pow_right (by omega) hm) (by decide))
  obtain ⟨v, hv⟩ : ∃ v, tkN bs k m = v := ⟨_, rfl⟩
  rw [hv] at hv0
  have e5 : IntKind.i64.wrap (v : Int) = (v : Int) := i64_small v (by omega)
  obtain ⟨p, hp⟩ : ∃ p, decide (k + m ≤ 8 * bs.length) = p := ⟨_, rfl⟩
  rw [hv, hp]
  rw [hv, hp] at HG
  have c0 := h1.cell 0
  have c1 := h1.cell 1
  have c2 := h1.cell 2
  have f2 := h1.frozen 2
  have f1 := h1.frozen 1
  have hz := h1.lt
  simp at c0 c1 c2
  have HO := Lib.hid h1
  have HR := Lib.hid (And.intro h2 (And.intro h3 h4))
  obtain ⟨n, hn⟩ : ∃ n, bs.length = n := ⟨_, rfl⟩
  rw [hn] at HO HG c0
  have HN := Lib.hid hn
  have e1 : wrap64 ((k : Int) + (m : Int)) = ((k + m : Nat) : Int) := by unfold wrap64; omega
  have HSS : Hid (Below w.heap.size w w.drew ∧ w.drew.cell? ⟨s, 0, none⟩ = some (.slice a n c) ∧ w.drew.cell? ⟨s, 1, none⟩ = some (.int .i64 (k : Int))) := Lib.hid ⟨(Below.refl _ _).drew, c0, c1⟩
  have HZ := Lib.hid hz
  clear h1 h2 h3 h4 hn hv hp hv0
  go_enter Try.func34, Try.ntmps34
  go_wp2_with fail
  clear c0 c1 c2 hz
  refine wp_region_held_drew (S := (fun W => Below w.heap.size w W ∧ W.cell? ⟨s, 0, none⟩ = some (.slice a n c) ∧ W.cell? ⟨s, 1, none⟩ = some (.int .i64 (k : Int)))) (by kernel_rfl) HSS.out (fun hHeld => ?_)
  refine wpAnyH_take (i := 0) (v := ?_) rfl (by kernel_rfl) (by kernel_rfl) (by kernel_rfl) (fun _ _ _ h => h) (Or.inl ⟨by kernel_rfl, ?_⟩) hHeld ?_
  rotate_left
  · (intro w hSw; first | (go_simp; done) | (go_simp; with_reducible rfl))
  (try simp only [Act.put, List.getElem_toArray, List.getElem_cons_succ, List.getElem_cons_zero, List.setIfInBounds_toArray, List.set_cons_zero, List.set_cons_succ])
  refine wpAnyH_take (i := 1) (v := ?_) rfl (by kernel_rfl) (by kernel_rfl) (by kernel_rfl) (fun _ _ _ h => h) (Or.inl ⟨by kernel_rfl, ?_⟩) hHeld ?_
  rotate_left
  · (intro w hSw; first | (go_simp; done) | (go_simp; with_reducible rfl))
  (try simp only [Act.put, List.getElem_toArray, List.getElem_cons_succ, List.getElem_cons_zero, List.setIfInBounds_toArray, List.set_cons_zero, List.set_cons_succ])
  refine wpAnyH_take (i := 2) (v := ?_) rfl (by kernel_rfl) (by kernel_rfl) (by kernel_rfl) (fun _ _ _ h => h) (Or.inl ⟨by kernel_rfl, ?_⟩) hHeld ?_
  rotate_left
  · (intro w hSw; first | (go_simp; done) | (go_simp; with_reducible rfl))
  (try simp only [Act.put, List.getElem_toArray, List.getElem_cons_succ, List.getElem_cons_zero, List.setIfInBounds_toArray, List.set_cons_zero, List.set_cons_succ])
  refine wpAnyH_take (i := 3) (v := ?_) rfl (by kernel_rfl) (by kernel_rfl) (by kernel_rfl) (fun _ _ _ h => h) (Or.inl ⟨by kernel_rfl, ?_⟩) hHeld ?_
  rotate_left
  · (intro w hSw; first | (go_simp; done) | (go_simp; with_reducible rfl))
  (try simp only [Act.put, List.getElem_toArray, List.getElem_cons_succ, List.getElem_cons_zero, List.setIfInBounds_toArray, List.set_cons_zero, List.set_cons_succ])
  refine wpAnyH_take (i := 4) (v := ?_) rfl (by kernel_rfl) (by kernel_rfl) (by kernel_rfl) (fun _ _ _ h => h) (Or.inl ⟨by kernel_rfl, ?_⟩) hHeld ?_
  rotate_left
  · (intro w hSw; first | (go_simp; done) | (go_simp; with_reducible rfl))
  (try simp only [Act.put, List.getElem_toArray, List.getElem_cons_succ, List.getElem_cons_zero, List.setIfInBounds_toArray, List.set_cons_zero, List.set_cons_succ])
  refine wpAnyH_take (i := 5) (v := ?_) rfl (by kernel_rfl) (by kernel_rfl) (by kernel_rfl) (fun _ _ _ h => h) (Or.inl ⟨by kernel_rfl, ?_⟩) hHeld ?_
  rotate_left
  · (intro w hSw; first | (go_simp; done) | (go_simp; with_reducible rfl))
  (try simp only [Act.put, List.getElem_toArray, List.getElem_cons_succ, List.getElem_cons_zero, List.setIfInBounds_toArray, List.set_cons_zero, List.set_cons_succ])
  refine wpAnyH_take (i := 6) (v := ?_) rfl (by kernel_rfl) (by kernel_rfl) (by kernel_rfl) (fun _ _ _ h => h) (Or.inl ⟨by kernel_rfl, ?_⟩) hHeld ?_
  rotate_left
  · (intro w hSw; first | (go_simp; done) | (go_simp; with_reducible rfl))
  (try simp only [Act.put, List.getElem_toArray, List.getElem_cons_succ, List.getElem_cons_zero, List.setIfInBounds_toArray, List.set_cons_zero, List.set_cons_succ])
  refine wpAnyH_take (i := 7) (v := ?_) rfl (by kernel_rfl) (by kernel_rfl) (by kernel_rfl) (fun _ _ _ h => h) (Or.inl ⟨by kernel_rfl, ?_⟩) hHeld ?_
  rotate_left
  · (intro w hSw; first | (go_simp; done) | (go_simp; with_reducible rfl))
  (try simp only [Act.put, List.getElem_toArray, List.getElem_cons_succ, List.getElem_cons_zero, List.setIfInBounds_toArray, List.set_cons_zero, List.set_cons_succ])
  refine wpAnyH_take (i := 8) (v := ?_) rfl (by kernel_rfl) (by kernel_rfl) (by kernel_rfl) (fun _ _ _ h => h) (Or.inl ⟨by kernel_rfl, ?_⟩) hHeld ?_
  rotate_left
  · (intro w hSw; first | (go_simp; done) | (go_simp; with_reducible rfl))
  (try simp only [Act.put, List.getElem_toArray, List.getElem_cons_succ, List.getElem_cons_zero, List.setIfInBounds_toArray, List.set_cons_zero, List.set_cons_succ])
  refine wpAnyH_ready (rs := [9]) (by kernel_rfl) (by simp) (AllReadyH.cons rfl (fun K hK => ?_) AllReadyH.nil)
  have hH := hHeld
  (go_simp; go_at_call 56; refine (HG.out _ hH.1).mono ?_; rintro e w6 ⟨rfl, rfl⟩)
  refine hK.out _ _ (by exact hH) (fun hHq1 => ?_)
  clear hK K hH 
  (try simp only [Act.put, List.getElem_toArray, List.getElem_cons_succ, List.getElem_cons_zero, List.setIfInBounds_toArray, List.set_cons_zero, List.set_cons_succ])
  refine wpAnyH_take (i := 10) (v := ?_) rfl (by kernel_rfl) (by kernel_rfl) (by kernel_rfl) (fun _ _ _ h => h) (Or.inl ⟨by kernel_rfl, ?_⟩) hHq1 ?_
  rotate_left
  · (intro w hSw; first | (go_simp; done) | (go_simp; with_reducible rfl))
  (try simp only [Act.put, List.getElem_toArray, List.getElem_cons_succ, List.getElem_cons_zero, List.setIfInBounds_toArray, List.set_cons_zero, List.set_cons_succ])
  refine wpAnyH_take (i := 11) (v := ?_) rfl (by kernel_rfl) (by kernel_rfl) (by kernel_rfl) (fun _ _ _ h => h) (Or.inl ⟨by kernel_rfl, ?_⟩) hHq1 ?_
  rotate_left
  · (intro w hSw; first | (go_simp; done) | (go_simp; with_reducible rfl))
  (try simp only [Act.put, List.getElem_toArray, List.getElem_cons_succ, List.getElem_cons_zero, List.setIfInBounds_toArray, List.set_cons_zero, List.set_cons_succ])
  refine wpAnyH_take (i := 12) (v := ?_) rfl (by kernel_rfl) (by kernel_rfl) (by kernel_rfl) (fun _ _ _ h => h) (Or.inl ⟨by kernel_rfl, ?_⟩) hHq1 ?_
  rotate_left
  · (intro w hSw; first | (go_simp; done) | (go_simp; with_reducible rfl))
  (try simp only [Act.put, List.getElem_toArray, List.getElem_cons_succ, List.getElem_cons_zero, List.setIfInBounds_toArray, List.set_cons_zero, List.set_cons_succ])
  refine wpAnyH_take (i := 13) (v := ?_) rfl (by kernel_rfl) (by kernel_rfl) (by kernel_rfl) (fun _ _ _ h => h) (Or.inl ⟨by kernel_rfl, ?_⟩) hHq1 ?_
  rotate_left
  · (intro w hSw; first | (go_simp; done) | (go_simp; with_reducible rfl))
  (try simp only [Act.put, List.getElem_toArray, List.getElem_cons_succ, List.getElem_cons_zero, List.setIfInBounds_toArray, List.set_cons_zero, List.set_cons_succ])
  refine wpAnyH_take (i := 14) (v := ?_) rfl (by kernel_rfl) (by kernel_rfl) (by kernel_rfl) (fun _ _ _ h => h) (Or.inl ⟨by kernel_rfl, ?_⟩) hHq1 ?_
  rotate_left
  · (intro w hSw; first | (go_simp; done) | (go_simp; with_reducible rfl))
  (try simp only [Act.put, List.getElem_toArray, List.getElem_cons_succ, List.getElem_cons_zero, List.setIfInBounds_toArray, List.set_cons_zero, List.set_cons_succ])
  refine wpAnyH_done (by kernel_rfl) ?_ _
  have hEnd := hHq1
  have hb := hEnd.1
  have HB := Lib.hid hb
  have HO2 := Lib.hid (HO.out.below hb HZ.out)
  have q1 := HO2.out.cell 1
  have q2 := HO2.out.cell 2
  have f1 := HO2.out.frozen 1
  have f2 := HO2.out.frozen 2
  have hz2 := HO2.out.lt
  simp at q1 q2
  clear hHeld hEnd hb
  cases ok <;> cases p
  all_goals
    go_wp2_with fail
    go_ret
    refine ⟨rfl, ⟨⟨a, c, ?_, ((HR.out.1.below HB.out (by have := HZ.out; have := HR.out.2.1; omega)).below ((Below.refl B _).setCell (by exact HR.out.2.1) _) (Nat.le_refl _)).below ((Below.refl B _).setCell (by exact HR.out.2.1) _) (Nat.le_refl _)⟩, HR.out.2.1, HR.out.2.2⟩, ?_⟩
    · rw [HN.out]
      exact (HO2.out.set 2 _).set 1 _
    · exact (((Chg.refl [s] w).of_below HB.out).setCell (by simp) _).setCell (by simp) _
end Go.Proofs.Ytkdgoopldaoihaa
