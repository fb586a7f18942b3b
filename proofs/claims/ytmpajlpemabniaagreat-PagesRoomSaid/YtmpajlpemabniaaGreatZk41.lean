/-
  Pages as plain mathematics: pages that are filled with like cells, then trimmed. No claim of its own.
-/
import Derived.Test.YtmpajlpemabniaaGreatZk37
import Derived.Test.YtmpajlpemabniaaGreatZk36
import Derived.Test.YtmpajlpemabniaaGreatZk40
namespace Go.Proofs.YtmpajlpemabniaaGreat
open Go.RowKit
set_option linter.unusedVariables false
set_option linter.unusedSimpArgs false

theorem frs_map_len {α : Type} {f : α → Rec} {e : Nat} : ∀ (l : List α), (∀ x ∈ l, (f x).length = e) → (frs (l.map f)).length = l.length * (e + 2)
  | [], _ => by simp [frs]
  | x :: l, h => by
    rw [List.map_cons, frs, List.length_append, frame_len, frs_map_len l (fun y hy => h y (by simp [hy])), h x (by simp), List.length_cons, Nat.succ_mul]
    omega
theorem chg_fits {n : Nat} {P : PT} {r : Rc} (h : (frs (all (exec P.S r))).length ≤ hsec n * 64) : (chg n P r).1 = 0 ∧ (chg n P r).2.S = exec P.S r := by
  unfold chg
  split
  · rw [if_neg (by omega)]; exact ⟨rfl, rfl⟩
  · exact ⟨rfl, rfl⟩
theorem chg_full {n : Nat} {P : PT} {r : Rc} (h1 : hsec n * 64 < (frs P.L).length + 2 + (encR r).length) (h2 : hsec n * 64 < (frs (all (exec P.S r))).length) : chg n P r = (61, P) := by
  unfold chg
  rw [if_pos h1, if_pos h2]
theorem chg_room {n : Nat} {P : PT} {r : Rc} (h1 : ¬ hsec n * 64 < (frs P.L).length + 2 + (encR r).length) : (chg n P r).1 = 0 ∧ (chg n P r).2.S = exec P.S r ∧ (chg n P r).2.L = P.L ++ [encR r] := by
  unfold chg
  rw [if_neg h1]
  exact ⟨rfl, rfl, rfl⟩
theorem addrs_eq {m : Nat → Option Ce} {l : List Nat} (hs : l.Pairwise (· < ·)) (h : ∀ a, a ∈ l ↔ a < 1048576 ∧ (m a).isSome = true) : addrs m = l := by
  have hn : l.Nodup := hs.imp (fun h => Nat.ne_of_lt h)
  refine sorted_eq ((List.perm_ext_iff_of_nodup (addrs_nodup m) hn).2 fun a => ?_) ((addrs_sorted m).imp (fun h => Nat.le_of_lt h)) (hs.imp (fun h => Nat.le_of_lt h))
  rw [mem_addrs, h a]
def rS (k : Nat) (c : Ce) : PS := ⟨0, 0, 0, [], fun x => if x < k then some c else none⟩
def rL (k : Nat) (c : Ce) : List Rec := (List.range k).map fun a => encR ⟨2, a, 0, c⟩
def ceN (c : Ce) : Nat := 5 + (encC c).length
theorem enc_len2 (a : Nat) (c : Ce) : (encR ⟨2, a, 0, c⟩).length + 2 = ceN c := by
  rw [encR_len]
  unfold ceN
  rw [if_neg (by simp), if_pos rfl]
  show 3 + (encC c).length + 2 = _
  omega
theorem rL_len (k : Nat) (c : Ce) : (frs (rL k c)).length = k * ceN c := by
  unfold rL
  have h := frs_map_len (f := fun a => encR ⟨2, a, 0, c⟩) (e := 3 + (encC c).length) (List.range k) (fun a _ => by have := enc_len2 a c; unfold ceN at this; omega)
  rw [h, List.length_range]
  unfold ceN
  rw [show 3 + (encC c).length + 2 = 5 + (encC c).length by omega]
theorem rS_addrs {k : Nat} {c : Ce} (hk : k ≤ 1048576) : addrs (rS k c).m = List.range k := by
  refine addrs_eq List.pairwise_lt_range fun a => ?_
  rw [List.mem_range]
  show _ ↔ _ ∧ (if a < k then some c else none).isSome = true
  by_cases h : a < k
  · rw [if_pos h]; simp; omega
  · rw [if_neg h]; simp; omega
theorem all_cells {S : PS} (he : S.ep = 0) (ho : S.op = 0) (hm : S.mr = 0) (hT : S.T = []) : all S = (addrs S.m).map fun a => encR (cRc S.m a) := by
  unfold all allR'
  rw [he, ho, hm, hT]
  simp [one0]
theorem rS_all {k : Nat} {c : Ce} (hk : k ≤ 1048576) : all (rS k c) = rL k c := by
  rw [all_cells rfl rfl rfl rfl, rS_addrs hk]
  unfold rL
  refine List.map_congr_left fun a ha => ?_
  rw [List.mem_range] at ha
  unfold cRc
  show encR ⟨2, a, 0, (if a < k then some c else none).getD zCe⟩ = _
  rw [if_pos ha]
  rfl
theorem rS_step (k : Nat) (c : Ce) : exec (rS k c) ⟨2, k, 0, c⟩ = rS (k + 1) c := by
  unfold exec rS
  rw [if_neg (by simp), if_pos rfl]
  refine PS.ext' rfl rfl rfl rfl ?_
  funext x
  show (if x = k then some c else if x < k then some c else none) = if x < k + 1 then some c else none
  by_cases h : x = k
  · subst h; simp
  · rw [if_neg h]
    by_cases h2 : x < k
    · rw [if_pos h2, if_pos (by omega)]
    · rw [if_neg h2, if_neg (by omega)]
theorem rS_tr (k a : Nat) (c : Ce) : (rS k c).tr a = false := by simp [PS.tr, rS, mem]
structure RmI (n : Nat) (c : Ce) (k : Nat) (P : PT) : Prop where
  S : P.S = rS k c
  L : P.L = rL k c
theorem RmI.start (n : Nat) (c : Ce) : RmI n c 0 ⟨fun _ => zsec, 0, [], PS.zero⟩ := ⟨by simp [rS, PS.zero], by simp [rL]⟩
theorem RmI.bound {n k : Nat} {c : Ce} {P : PT} (h : RmI n c k P) (v : Iv n P) (hn : n ≤ 200) : k ≤ 1400 := by
  have h1 := v.op.room
  rw [h.L, rL_len] at h1
  unfold hsec at h1
  have h2 : k * 5 ≤ k * ceN c := Nat.mul_le_mul_left _ (by unfold ceN; omega)
  omega
theorem wr_free {n : Nat} {P : PT} {a : Nat} {c : Ce} (ha : a < 1048576) (hr : right c = true) (ht : P.S.tr a = false) (hm : P.S.m a = none) : pWr n P a c = chg n P ⟨2, a, 0, c⟩ := by
  unfold pWr
  rw [if_neg (by rw [hr]; simp; omega), if_neg (by rw [ht]; simp), if_neg (by rw [hm]; simp)]
theorem rm_write {n k : Nat} {c : Ce} {P : PT} (h : RmI n c k P) (hk : k < 1048576) (hr : right c = true) :
    (pWr n P k c = (61, P) ∧ hsec n * 64 < (k + 1) * ceN c) ∨ ((pWr n P k c).1 = 0 ∧ RmI n c (k + 1) (pWr n P k c).2) := by
  have hm : P.S.m k = none := by rw [h.S]; simp [rS]
  rw [wr_free hk hr (by rw [h.S]; exact rS_tr _ _ _) hm]
  have hl := enc_len2 k c
  by_cases h1 : hsec n * 64 < (frs P.L).length + 2 + (encR ⟨2, k, 0, c⟩).length
  · have h2 : hsec n * 64 < (k + 1) * ceN c := by rw [h.L, rL_len] at h1; rw [Nat.succ_mul]; omega
    exact .inl ⟨chg_full h1 (by rw [h.S, rS_step, rS_all (by omega), rL_len]; exact h2), h2⟩
  · obtain ⟨x1, x2, x3⟩ := chg_room h1
    refine .inr ⟨x1, ⟨by rw [x2, h.S, rS_step], ?_⟩⟩
    rw [x3, h.L]
    unfold rL
    rw [List.range_succ, List.map_append]
    rfl
theorem rm_other {n k : Nat} {c : Ce} {P : PT} (h : RmI n c k P) (hk : k + 1 < 1048576) (hr : right c = true) (hf : hsec n * 64 < (k + 1) * ceN c) : pWr n P (k + 1) c = (61, P) := by
  have hm : P.S.m (k + 1) = none := by rw [h.S]; simp [rS]
  rw [wr_free hk hr (by rw [h.S]; exact rS_tr _ _ _) hm]
  have hl := enc_len2 (k + 1) c
  refine chg_full (by rw [h.L, rL_len]; rw [Nat.succ_mul] at hf; omega) ?_
  rw [h.S, all_cells rfl rfl rfl rfl]
  have hx : (exec (rS k c) ⟨2, k + 1, 0, c⟩).m = updC (rS k c).m (k + 1) c := rfl
  have ha : addrs (exec (rS k c) ⟨2, k + 1, 0, c⟩).m = List.range k ++ [k + 1] := by
    rw [hx]
    refine addrs_eq ?_ fun a => ?_
    · refine List.pairwise_append.2 ⟨List.pairwise_lt_range, by simp, fun a ha b hb => ?_⟩
      rw [List.mem_range] at ha
      simp at hb
      omega
    · unfold updC rS
      simp only [List.mem_append, List.mem_range, List.mem_singleton]
      by_cases e : a = k + 1
      · subst e; simp; omega
      · rw [if_neg e]
        by_cases e2 : a < k
        · rw [if_pos e2]; simp [e2]; omega
        · rw [if_neg e2]; simp [e2, e]
  have hall : ∀ a ∈ List.range k ++ [k + 1], (encR (cRc (exec (rS k c) ⟨2, k + 1, 0, c⟩).m a)).length = 3 + (encC c).length := fun a ha => by
    have h2 := enc_len2 a c
    have h3 : (exec (rS k c) ⟨2, k + 1, 0, c⟩).m a = some c := by
      rw [hx]
      unfold updC rS
      simp only [List.mem_append, List.mem_range, List.mem_singleton] at ha
      by_cases e : a = k + 1
      · rw [if_pos e]
      · rw [if_neg e]
        simp only
        rw [if_pos (by omega)]
    unfold cRc
    rw [h3]
    show (encR ⟨2, a, 0, c⟩).length = _
    unfold ceN at h2
    omega
  rw [ha, frs_map_len _ hall, List.length_append, List.length_range, List.length_singleton]
  unfold ceN at hf
  rw [show 3 + (encC c).length + 2 = 5 + (encC c).length by omega]
  exact hf
structure Sm (S : PS) (a0 : Nat) : Prop where
  T : S.T = []
  op : S.op = 0
  m : ∀ a c, S.m a = some c → a = a0 ∧ c = jC
theorem jenc (a : Nat) : (encR ⟨2, a, 0, jC⟩).length = 4 := by
  rw [encR_len]
  simp [encC, jC]
theorem num_len (k n : Nat) (hk : k ≠ 2 ∧ k ≠ 4) : (encR ⟨k, n, 0, zCe⟩).length = 3 := by
  rw [encR_len]
  simp [hk.1, hk.2]
theorem one0_frs (k n : Nat) (hk : k ≠ 2 ∧ k ≠ 4) : (frs ((one0 k n).map encR)).length ≤ 5 := by
  unfold one0
  split
  · simp [frs]
  · rw [List.map_cons, List.map_nil, frs_one8, num_len k n hk]; omega
theorem sm_size {S : PS} {a0 : Nat} (h : Sm S a0) : (frs (all S)).length ≤ 21 := by
  have h1 := one0_frs 1 S.ep (by omega)
  have h2 := one0_frs 3 S.mr (by omega)
  have hsub : addrs S.m = [] ∨ addrs S.m = [a0] := by
    by_cases hs : a0 < 1048576 ∧ (S.m a0).isSome = true
    · right
      refine addrs_eq (by simp) fun a => ?_
      rw [List.mem_singleton]
      constructor
      · rintro rfl; exact hs
      · intro h9
        obtain ⟨c, hc⟩ := Option.isSome_iff_exists.1 h9.2
        exact (h.m a c hc).1
    · left
      refine addrs_eq (by simp) fun a => ?_
      constructor
      · intro h9; cases h9
      · intro h9
        obtain ⟨c, hc⟩ := Option.isSome_iff_exists.1 h9.2
        have := (h.m a c hc).1
        subst this
        exact absurd h9 hs
  have h3 : (frs ((addrs S.m).map fun a => encR (cRc S.m a))).length ≤ 6 := by
    rcases hsub with e | e
    · rw [e]; simp [frs]
    · have h9 : a0 ∈ addrs S.m := by rw [e]; simp
      obtain ⟨c, hc⟩ := Option.isSome_iff_exists.1 (mem_addrs.1 h9).2
      have hcj := (h.m a0 c hc).2
      subst hcj
      rw [e, List.map_cons, List.map_nil, frs_one8]
      unfold cRc
      rw [hc]
      show (encR ⟨2, a0, 0, jC⟩).length + 2 ≤ 6
      rw [jenc]
      omega
  unfold all allR'
  rw [h.T, h.op]
  simp only [List.map_append, frs_append, List.length_append, List.map_nil, List.map_map]
  have e0 : (frs ((one0 5 0).map encR)).length = 0 := by simp [one0, frs]
  have e1 : (frs []).length = 0 := rfl
  have e2 : (addrs S.m).map (encR ∘ cRc S.m) = (addrs S.m).map fun a => encR (cRc S.m a) := rfl
  rw [e0, e1, e2]
  omega
theorem rm_trim {n k : Nat} {c : Ce} {P : PT} (h : RmI n c k P) (hk : k + 1 ≤ 1048576) (hn : 5 ≤ n) : (pTm n P (k + 1)).1 = 0 ∧ (pTm n P (k + 1)).2.S = ⟨0, 0, k + 1, [], fun _ => none⟩ := by
  have e : exec P.S ⟨3, k + 1, 0, zCe⟩ = ⟨0, 0, k + 1, [], fun _ => none⟩ := by
    rw [h.S]
    unfold exec rS
    simp only [show ¬ (3 = 1) by omega, show ¬ (3 = 2) by omega, if_false, if_true]
    refine PS.ext' rfl rfl rfl (show cutL [] (0, k + 1) = [] from cutL_nil _) ?_
    funext x
    show (if 0 ≤ x ∧ x < k + 1 then none else if x < k then some c else none) = none
    by_cases h9 : x < k + 1
    · rw [if_pos ⟨Nat.zero_le _, h9⟩]
    · rw [if_neg (by omega), if_neg (by omega)]
  unfold pTm
  have hmr : P.S.mr = 0 := by rw [h.S]; rfl
  rw [if_neg (by omega), if_neg (by rw [hmr]; omega)]
  have hs : Sm (⟨0, 0, k + 1, [], fun _ => none⟩ : PS) 0 := ⟨rfl, rfl, fun a c h => by cases h⟩
  have := sm_size hs
  have h2 := chg_fits (n := n) (P := P) (r := ⟨3, k + 1, 0, zCe⟩) (by rw [e]; unfold hsec; omega)
  rw [e] at h2
  exact h2
theorem rm_junk {n a : Nat} {P : PT} (h : P.S = ⟨0, 0, a, [], fun _ => none⟩) (ha : a < 1048576) (hn : 5 ≤ n) :
    (pWr n P a jC).1 = 0 ∧ Sm (pWr n P a jC).2.S a ∧ (pWr n P a jC).2.S.mr = a ∧ (pWr n P a jC).2.S.ep = 0 ∧ ((pWr n P a jC).2.S.m a).isSome = true := by
  have hm : P.S.m a = none := by rw [h]
  rw [wr_free ha jright (by rw [h]; simp [PS.tr, mem]) hm]
  have e : exec P.S ⟨2, a, 0, jC⟩ = ⟨0, 0, a, [], updC (fun _ => none) a jC⟩ := by rw [h]; rfl
  have hs : Sm (⟨0, 0, a, [], updC (fun _ => none) a jC⟩ : PS) a := ⟨rfl, rfl, fun x c hx => by
    simp only [updC] at hx
    split at hx
    · rename_i e; cases hx; exact ⟨e, rfl⟩
    · cases hx⟩
  have := sm_size hs
  have h2 := chg_fits (n := n) (P := P) (r := ⟨2, a, 0, jC⟩) (by rw [e]; unfold hsec; omega)
  rw [e] at h2
  obtain ⟨x1, x2⟩ := h2
  rw [x2]
  exact ⟨x1, hs, rfl, rfl, by simp [updC]⟩
theorem rm_mark {n a0 i : Nat} {P : PT} (h : Sm P.S a0) (hm : P.S.mr = a0 + i) (he : P.S.ep = i) (hb : a0 + 1 + i ≤ 1048576) (hn : 5 ≤ n) :
    (pTm n P (a0 + 1 + i)).1 = 0 ∧ Sm (pTm n P (a0 + 1 + i)).2.S a0 ∧ (pTm n P (a0 + 1 + i)).2.S.mr = a0 + (i + 1) ∧ (pTm n P (a0 + 1 + i)).2.S.ep = i := by
  unfold pTm
  rw [if_neg (by omega), if_neg (by omega)]
  have e : exec P.S ⟨3, a0 + 1 + i, 0, zCe⟩ = { P.S with mr := a0 + 1 + i, T := cutL P.S.T (0, a0 + 1 + i), m := rmC P.S.m 0 (a0 + 1 + i) } := rfl
  have hs : Sm (exec P.S ⟨3, a0 + 1 + i, 0, zCe⟩) a0 := by
    rw [e]
    refine ⟨?_, h.op, fun a c hc => h.m a c (rmC_some hc).1⟩
    show cutL P.S.T _ = []
    rw [h.T, cutL_nil]
  have := sm_size hs
  have h2 := chg_fits (n := n) (P := P) (r := ⟨3, a0 + 1 + i, 0, zCe⟩) (by unfold hsec; omega)
  obtain ⟨x1, x2⟩ := h2
  rw [x2]
  exact ⟨x1, hs, by rw [e]; show a0 + 1 + i = _; omega, by rw [e]; exact he⟩
theorem rm_seal {n a0 i : Nat} {P : PT} (h : Sm P.S a0) (hm : P.S.mr = a0 + (i + 1)) (he : P.S.ep = i) (hb : i + 1 ≤ 1048576) (hn : 5 ≤ n) :
    (pSl n P (i + 1)).1 = 0 ∧ Sm (pSl n P (i + 1)).2.S a0 ∧ (pSl n P (i + 1)).2.S.mr = a0 + (i + 1) ∧ (pSl n P (i + 1)).2.S.ep = i + 1 := by
  unfold pSl
  rw [if_neg (by omega), if_neg (by omega)]
  have e : exec P.S ⟨1, i + 1, 0, zCe⟩ = { P.S with ep := i + 1 } := rfl
  have hs : Sm (exec P.S ⟨1, i + 1, 0, zCe⟩) a0 := by rw [e]; exact ⟨h.T, h.op, h.m⟩
  have := sm_size hs
  have h2 := chg_fits (n := n) (P := P) (r := ⟨1, i + 1, 0, zCe⟩) (by unfold hsec; omega)
  obtain ⟨x1, x2⟩ := h2
  rw [x2]
  exact ⟨x1, hs, by rw [e]; exact hm, by rw [e]⟩
end Go.Proofs.YtmpajlpemabniaaGreat
namespace Go.Proofs.YtmpajlpemabniaaGreat
open Go.RowKit Go.Maps Go.Shelf Go.Deep
set_option linter.unusedVariables false
set_option linter.unusedSimpArgs false

def zCell (n : Nat) : Ce := ⟨1, List.replicate n 0, []⟩
theorem zCell_right {n : Nat} (hn : n ≤ 100) : right (zCell n) = true := by
  unfold right zCell
  rw [if_neg (by simp), if_pos rfl, decide_eq_true (by simp; exact hn)]
  show (true && backsOk []) = true
  decide
theorem Up.touched {S U : PS} (h : Up S U) {a : Nat} (k : S.tr a = true ∨ (S.m a).isSome = true) : U.tr a = true ∨ (U.m a).isSome = true := by
  rcases k with k | k
  · exact .inl (h.tr a k)
  · obtain ⟨c, hc⟩ := Option.isSome_iff_exists.1 k
    rcases h.m a c hc with h1 | h1
    · right; rw [h1]; rfl
    · exact .inl h1
theorem make_by (w : World) (n : Nat) (hn : n ≤ 1024) : (Instr.makeSlice 39 (.int .i64 n) (.int .i64 n)).run Tryz.prog w = .ok (.slice (some ⟨w.heap.size, 0, none⟩) n n) (w.alloc (.cells (madeCells #[.int .u8 0] n) 5)) := by
  obtain ⟨i, hi, hz⟩ := Option.map_eq_some_iff.1 (show (Tryz.prog.info? 5).map (fun i => (i.zero, i.size, i.bytes)) = some (some (.int .u8 0), 1, 1) by kernel_rfl)
  simp only [Prod.mk.injEq] at hz
  have h := run_make (P := Tryz.prog) w 39 5 i (.int .u8 0) Tryz.underlying39 hi hz.1 .i64 .i64 n n (by omega) (by omega) (by rw [hz.2.2]; omega) (by omega)
  rw [h, hz.2.1]
  simp [Value.cells]
theorem made_list (n : Nat) : (madeCells #[.int .u8 0] n).toList = u8s (List.replicate n 0) := by
  refine List.ext_getElem (by simp [madeCells]) fun i h1 h2 => ?_
  simp [madeCells, u8s, Nat.mod_one]
set_option maxHeartbeats 4000000 in
set_option maxRecDepth 100000 in
theorem pagesRoom_walk (w : World) (z s t : Int) (hz : -9223372036854775808 ≤ z ∧ z ≤ 9223372036854775807) (hs : -9223372036854775808 ≤ s ∧ s ≤ 9223372036854775807) (ht : -9223372036854775808 ≤ t ∧ t ≤ 9223372036854775807) :
    Calls Tryz.prog 6 #[.int .i64 z, .int .i64 s, .int .i64 t] w fun e w' => e = .returned (.bool true) ∧ Chg [] w w' := by
  by_cases z5 : z < 5
  · have d1 : decide (z < 5) = true := by simpa using z5
    clear hz hs ht z5
    go_enter Tryz.func6, Tryz.ntmps6
    go_wp2_with (first | (go_at_call 9; refine (alive8_any _).mono ?_; rintro e w2 ⟨rfl, hc2⟩) | fail)
    go_ret
    exact ⟨rfl, hc2⟩
  have d1 : decide (z < 5) = false := by simpa using z5
  by_cases z200 : 200 < z
  · have d2 : decide (200 < z) = true := by simpa using z200
    clear hz hs ht z5 z200
    go_enter Tryz.func6, Tryz.ntmps6
    go_wp2_with (first | (go_at_call 9; refine (alive8_any _).mono ?_; rintro e w2 ⟨rfl, hc2⟩) | fail)
    go_ret
    exact ⟨rfl, hc2⟩
  have d2 : decide (200 < z) = false := by simpa using z200
  by_cases s0 : s < 0
  · have d3 : decide (s < 0) = true := by simpa using s0
    clear hz hs ht z5 z200 s0
    go_enter Tryz.func6, Tryz.ntmps6
    go_wp2_with (first | (go_at_call 9; refine (alive8_any _).mono ?_; rintro e w2 ⟨rfl, hc2⟩) | fail)
    go_ret
    exact ⟨rfl, hc2⟩
  have d3 : decide (s < 0) = false := by simpa using s0
  by_cases s100 : 100 < s
  · have d4 : decide (100 < s) = true := by simpa using s100
    clear hz hs ht z5 z200 s0 s100
    go_enter Tryz.func6, Tryz.ntmps6
    go_wp2_with (first | (go_at_call 9; refine (alive8_any _).mono ?_; rintro e w2 ⟨rfl, hc2⟩) | fail)
    go_ret
    exact ⟨rfl, hc2⟩
  have d4 : decide (100 < s) = false := by simpa using s100
  obtain ⟨n, rfl⟩ : ∃ n : Nat, z = (n : Int) := ⟨z.toNat, by omega⟩
  obtain ⟨sz, rfl⟩ : ∃ n : Nat, s = (n : Int) := ⟨s.toNat, by omega⟩
  obtain ⟨M, hMi⟩ : ∃ M : Nat, max t 0 = (M : Int) := ⟨(max t 0).toNat, by omega⟩
  have hM : (M : Int) ≤ 9223372036854775807 := by omega
  have d1' : decide (n < 5) = false := by simp; omega
  have d2' : decide (200 < n) = false := by simp; omega
  have d4' : decide (100 < sz) = false := by simp; omega
  have HN : Hid (5 ≤ n ∧ n ≤ 200) := Lib.hid (by omega)
  have HSZ : Hid (sz ≤ 100) := Lib.hid (by omega)
  have H0 := Lib.hid (pnew_ex w n (by omega) (by omega))
  have hmk := fun W => make_by W sz (by omega)
  have HMI := Lib.hid hMi
  have HML := Lib.hid hM
  clear hz hs ht z5 z200 s0 s100 hMi hM
  go_enter Tryz.func6, Tryz.ntmps6
  go_wp2_with fail
  refine H0.out.mono ?_
  rintro e w1 ⟨p, g, b, rfl, hp, hg, hb, hd1, hc1⟩
  have HO := Lib.hid (POpen_fresh w1 hd1 (by have := HN.out; omega) (opens_zero n))
  have HC1 := Lib.hid hc1
  have HB := Lib.hid (And.intro hp (And.intro hg hb))
  clear hd1 hc1 hp hg hb H0
  go_wp2_with fail
  refine HO.out.mono ?_
  rintro e w2 ⟨u, l, q, sq, sp, sb, v, rfl, hP2, hl2, hc2⟩
  have HP2 := Lib.hid (Pgz.start HC1.out HB.out.1 HB.out.2.1 HB.out.2.2 hP2.out hl2.out hc2)
  clear HO hP2 hl2 hc2 HC1 HB
  go_upto_region 8 with fail
  have hch : Chg [] w2 ((w2.alloc (.cells (madeCells #[.int .u8 0] sz) 5)).alloc (.cells #[.int .i64 1, .slice (some ⟨w2.heap.size, 0, none⟩) sz sz, .slice none 0 0] 42)) := ((Chg.refl [] w2).alloc _).alloc _
  have hr3 : Own ((w2.alloc (.cells (madeCells #[.int .u8 0] sz) 5)).alloc (.cells #[.int .i64 1, .slice (some ⟨w2.heap.size, 0, none⟩) sz sz, .slice none 0 0] 42)) w2.heap.size 5 (u8s (List.replicate sz 0)) := by
    have h9 := (Own.new w2 5 (u8s (List.replicate sz 0))).alloc (.cells #[.int .i64 1, .slice (some ⟨w2.heap.size, 0, none⟩) sz sz, .slice none 0 0] 42)
    rw [← made_list] at h9
    rw [← made_list]
    exact h9
  have hb3 := Own.new (w2.alloc (.cells (madeCells #[.int .u8 0] sz) 5)) 42 [.int .i64 1, .slice (some ⟨w2.heap.size, 0, none⟩) sz sz, .slice none 0 0]
  rw [World.size_alloc] at hb3
  have hp3 := HP2.out.fence hch [w2.heap.size, w2.heap.size + 1] (fun x hx => by simp at hx; simp; omega)
  obtain ⟨w3, HW3⟩ : ∃ W, Hid (((w2.alloc (.cells (madeCells #[.int .u8 0] sz) 5)).alloc (.cells #[.int .i64 1, .slice (some ⟨w2.heap.size, 0, none⟩) sz sz, .slice none 0 0] 42)) = W) := ⟨_, Lib.hid rfl⟩
  rw [HW3.out]
  rw [HW3.out] at hr3 hp3
  have HB3 : Hid (Own w3 (w2.heap.size + 1) 42 [.int .i64 1, .slice (some ⟨w2.heap.size, 0, none⟩) sz sz, .slice none 0 0]) := Lib.hid (by rw [← HW3.out]; exact hb3)
  have HR3 := Lib.hid hr3
  have HP3 := Lib.hid hp3
  have HWR : Hid (∀ W T (k : Nat), Pgy w W [w2.heap.size, w2.heap.size + 1] u p n T → Own W w2.heap.size 5 (u8s (List.replicate sz 0)) → k < 18446744073709551616 → Calls Tryz.prog 23 #[.pointer (some ⟨u, 0, none⟩), .int .u64 (k : Int), .agg #[.int .i64 1, .slice (some ⟨w2.heap.size, 0, none⟩) sz sz, .slice none 0 0]] W fun e w' => e = .returned (.int .i64 ((pWr n T k (zCell sz)).1 : Int)) ∧ Hid (Pgy w w' [w2.heap.size, w2.heap.size + 1] u p n (pWr n T k (zCell sz)).2 ∧ ∀ g ∈ [w2.heap.size, w2.heap.size + 1], ∀ t cs, Own W g t cs → Own w' g t cs)) := Lib.hid (fun W T k hV hO hk => by
    have hl : sz ≤ 100 := HSZ.out
    have h9 := Write_v hV.v k ⟨zCell sz, some ⟨w2.heap.size, 0, none⟩, sz, none, 0⟩ hk (hO.ro _ hO.lt) (Ro.nil _ _ _) (by simp [zCell]; omega) (by simp [zCell])
    unfold CeT.val cev at h9
    simp only [zCell, List.length_replicate, List.length_nil] at h9
    refine Calls.mono (R' := _) h9 ?_
    rintro e w' ⟨x1, x2⟩
    exact ⟨x1, Lib.hid (hV.step x2.out)⟩)
  clear hch hr3 hb3 hp3 HP2 hmk
  go_wp2_with fail
  go_loopw [12, 13] (fun va vf wr => ∃ (k a f : Nat) (T : PT), va = .int .u64 (a : Int) ∧ vf = .int .i64 (f : Int) ∧ ((f = 0 ∧ a = k) ∨ (f = 61 ∧ a = k + 1 ∧ hsec n * 64 < (k + 1) * ceN (zCell sz))) ∧ Hid (RmI n (zCell sz) k T) ∧ Hid (Pgy w wr [w2.heap.size, w2.heap.size + 1] u p n T) ∧ Hid (Own wr w2.heap.size 5 (u8s (List.replicate sz 0))) ∧ Hid (Own wr (w2.heap.size + 1) 42 [.int .i64 1, .slice (some ⟨w2.heap.size, 0, none⟩) sz sz, .slice none 0 0])) (fun va _ _ => 3001 - (intOf va).toNat)
  case atStart => exact ⟨0, 0, 0, _, rfl, rfl, .inl ⟨rfl, rfl⟩, Lib.hid (RmI.start n _), HP3, HR3, HB3⟩
  case round =>
    obtain ⟨k, a, f, T, rfl, rfl, hcase, HI, HP, HR, HBx⟩ := hrel
    rename World => wr
    have hkb : k ≤ 1400 := HI.out.bound HP.out.v.iv HN.out.2
    have c0 := HBx.out.cell 0
    have c1 := HBx.out.cell 1
    have c2 := HBx.out.cell 2
    simp only [List.getElem?_cons_zero, List.getElem?_cons_succ] at c0 c1 c2
    rcases hcase with ⟨rfl, rfl⟩ | ⟨rfl, hak, hfull⟩
    · have e1 : decide ((a : Int) < 3000) = true := by simp; omega
      have e1' : decide (a < 3000) = true := by simp; omega
      have hk0 : (0 : Int) ≤ (a : Int) := by omega
      have hk1 : (a : Int) < 3000 := by omega
      have HKM : Hid (3001 - (a + 1) < 3001 - a) := Lib.hid (by omega)
      have HK := Lib.hid hkb
      have HW := Lib.hid (HWR.out wr T a HP.out HR.out (by omega))
      rcases rm_write HI.out (by omega) (zCell_right HSZ.out) with ⟨h1, h2⟩ | ⟨h1, h2⟩
      · rw [h1] at HW
        have H2 := Lib.hid h2
        clear h1 h2 hkb
        go_wp2_with fail
        refine HW.out.mono ?_
        rintro e w4 ⟨rfl, hp4⟩
        have HP4 := Lib.hid hp4.out.1
        have HR4 := Lib.hid (hp4.out.2 _ (by simp) _ _ HR.out)
        have HB4 := Lib.hid (hp4.out.2 _ (by simp) _ _ HBx.out)
        clear hp4 c0 c1 c2
        go_wp2_with fail
        go_roundw
        case rel => exact ⟨a, a + 1, 61, T, by go_num, rfl, .inr ⟨rfl, rfl, H2.out⟩, HI, HP4, HR4, HB4⟩
        case measure => have := HKM.out; simp [intOf]; omega
      · rw [h1] at HW
        have H2 := Lib.hid h2
        clear h1 h2 hkb
        go_wp2_with fail
        refine HW.out.mono ?_
        rintro e w4 ⟨rfl, hp4⟩
        have HP4 := Lib.hid hp4.out.1
        have HR4 := Lib.hid (hp4.out.2 _ (by simp) _ _ HR.out)
        have HB4 := Lib.hid (hp4.out.2 _ (by simp) _ _ HBx.out)
        clear hp4 c0 c1 c2
        go_wp2_with fail
        go_roundw
        case rel => exact ⟨a + 1, a + 1, 0, _, by go_num, rfl, .inl ⟨rfl, rfl⟩, H2, HP4, HR4, HB4⟩
        case measure => have := HKM.out; simp [intOf]; omega
    · have HAK := Lib.hid hak
      have hlen : (u64s (addrs T.S.m)).length = k := by rw [u64s_length, HI.out.S, rS_addrs (by omega), List.length_range]
      have hsub : (a : Int) - 1 = (k : Int) := by omega
      have ha0 : (0 : Int) ≤ (a : Int) := by omega
      have ha1 : (a : Int) ≤ 1401 := by omega
      have HFU := Lib.hid (rm_other HI.out (by omega) (zCell_right HSZ.out) hfull)
      have HTR := Lib.hid (rm_trim HI.out (by omega) HN.out.1)
      rw [← HAK.out] at HFU HTR
      have HWT := Lib.hid (Written_v HP.out.v)
      have HAL : Hid (a < 1048576) := Lib.hid (by omega)
      clear hak hfull hkb
      go_wp2_with fail
      refine HWT.out.mono ?_
      rintro e w4 ⟨v4, rfl, hl4, hc4⟩
      obtain ⟨a4, c4, e4, _, _, _⟩ := hl4.form
      rw [hlen] at e4
      subst e4
      have HP4 := Lib.hid (HP.out.kept hc4)
      have HR4 := Lib.hid (HR.out.chg hc4 (by simp))
      have HB4 := Lib.hid (HBx.out.chg hc4 (by simp))
      have q0 := HB4.out.cell 0
      have q1 := HB4.out.cell 1
      have q2 := HB4.out.cell 2
      simp only [List.getElem?_cons_zero, List.getElem?_cons_succ] at q0 q1 q2
      have HW4 := Lib.hid (HWR.out w4 T a HP4.out HR4.out (by have := HAL.out; omega))
      rw [HFU.out] at HW4
      clear hl4 hc4 hlen c0 c1 c2 HWT
      go_wp2_with fail
      refine HW4.out.mono ?_
      rintro e w5 ⟨rfl, hp5⟩
      have HP5 := Lib.hid hp5.out.1
      have HT5 := Lib.hid (Trim_v HP5.out.v a (by have := HAL.out; omega))
      rw [HTR.out.1] at HT5
      clear hp5 q0 q1 q2 HW4
      go_wp2_with fail
      refine HT5.out.mono ?_
      rintro e w6 ⟨rfl, hp6⟩
      have HP6 := Lib.hid (HP5.out.step hp6.out).1
      have HJ := Lib.hid (rm_junk HTR.out.2 HAL.out HN.out.1)
      have hw6 : Calls Tryz.prog 23 #[.pointer (some ⟨u, 0, none⟩), .int .u64 (a : Int), .agg #[.int .i64 2, .slice none 0 0, .slice none 0 0]] w6 fun e w' => e = .returned (.int .i64 (((pWr n (pTm n T a).2 a jC).1 : Nat) : Int)) ∧ Hid (Pgvc w6 _ u p n (pWr n (pTm n T a).2 a jC).2 w') :=
        Write_v HP6.out.v a jA (by have := HAL.out; omega) (Ro.nil _ _ _) (Ro.nil _ _ _) (by simp [jA, jC]) (by simp [jA, jC])
      rw [HJ.out.1] at hw6
      have HW6 := Lib.hid hw6
      clear hp6 HT5 hw6
      go_wp2_with fail
      refine HW6.out.mono ?_
      rintro e w7 ⟨rfl, hp7⟩
      have HP7 := Lib.hid (HP6.out.step hp7.out).1.z
      have HJ7 : Hid (Sm (pWr n (pTm n T a).2 a jC).2.S a ∧ (pWr n (pTm n T a).2 a jC).2.S.mr = a + 0 ∧ (pWr n (pTm n T a).2 a jC).2.S.ep = 0 ∧ ((pWr n (pTm n T a).2 a jC).2.S.tr a = true ∨ ((pWr n (pTm n T a).2 a jC).2.S.m a).isSome = true)) := Lib.hid ⟨HJ.out.2.1, HJ.out.2.2.1, HJ.out.2.2.2.1, .inr HJ.out.2.2.2.2⟩
      clear hp7 HW6 hsub
      generalize (pWr n (pTm n T a).2 a jC).2 = T7 at HP7 HJ7
      go_wp2_with fail
      go_loopw [14] (fun vi wr => ∃ (i : Nat) (T : PT), vi = .int .u64 (i : Int) ∧ i ≤ 60 ∧ Hid (Sm T.S a ∧ T.S.mr = a + i ∧ T.S.ep = i ∧ (T.S.tr a = true ∨ (T.S.m a).isSome = true)) ∧ Hid (Pgz w wr u p n T)) (fun vi _ => 60 - (intOf vi).toNat)
      case atStart => exact ⟨0, T7, rfl, Nat.zero_le _, HJ7, HP7⟩
      case round =>
        obtain ⟨i, T8, rfl, hi, HI8, HP8⟩ := hrel
        rename World => wx
        have hi0 : (0 : Int) ≤ (i : Int) := by omega
        have hi1 : (i : Int) ≤ 60 := by omega
        have hMi := HMI.out
        have hM0 : (0 : Int) ≤ (M : Int) := by omega
        have hM1 := HML.out
        by_cases hiM : i < 60 ∧ i < M
        · have x1 : decide ((i : Int) < 60) = true := by simp; omega
          have x1' : decide (i < 60) = true := by simp; omega
          have x2 : decide ((i : Int) < (M : Int)) = true := by simp; omega
          have x2' : decide (i < M) = true := by simp; omega
          have HKM : Hid (60 - (i + 1) < 60 - i) := Lib.hid (by omega)
          have HLT : Hid (i + 1 ≤ 60) := Lib.hid (by omega)
          have HMA := Lib.hid (rm_mark (n := n) (i := i) HI8.out.1 HI8.out.2.1 HI8.out.2.2.1 (by omega) HN.out.1)
          have hT8 := Trim_v HP8.out.v (a + 1 + i) (by omega)
          rw [HMA.out.1, show ((a + 1 + i : Nat) : Int) = (a : Int) + 1 + (i : Int) by omega] at hT8
          have HT8 := Lib.hid hT8
          have HTO := Lib.hid ((pTm_stp n T8 (a + 1 + i)).up HP8.out.v.iv |>.touched HI8.out.2.2.2)
          have HSE := Lib.hid (rm_seal (n := n) (i := i) HMA.out.2.1 HMA.out.2.2.1 HMA.out.2.2.2 (by omega) HN.out.1)
          clear hT8 hiM
          go_wp2_with fail
          refine HT8.out.mono ?_
          rintro e w9 ⟨rfl, hp9⟩
          have HP9 := Lib.hid (hp9.out.z HP8.out)
          have hS9 := Seal_v HP9.out.v (i + 1) (by omega)
          rw [HSE.out.1, show ((i + 1 : Nat) : Int) = (i : Int) + 1 by omega] at hS9
          have HS9 := Lib.hid hS9
          have HTO2 := Lib.hid ((pSl_stp n _ (i + 1)).up HP9.out.v.iv |>.touched HTO.out)
          clear hp9 hS9 HT8
          go_wp2_with fail
          refine HS9.out.mono ?_
          rintro e wa ⟨rfl, hpa⟩
          have HPa := Lib.hid (hpa.out.z HP9.out)
          clear hpa HS9
          go_wp2_with fail
          go_roundw
          case rel => exact ⟨i + 1, _, by go_num, HLT.out, Lib.hid ⟨HSE.out.2.1, HSE.out.2.2.1, HSE.out.2.2.2, HTO2.out⟩, HPa⟩
          case measure => have := HKM.out; simp [intOf]; omega
        · have HAV := Lib.hid (alive8_any wx)
          by_cases h60 : i < 60
          · have x1 : decide ((i : Int) < 60) = true := by simp; omega
            have x1' : decide (i < 60) = true := by simp; omega
            have x2 : decide ((i : Int) < (M : Int)) = false := by simp; omega
            have x2' : decide (i < M) = false := by simp; omega
            clear hiM
            go_wp2_with fail
            refine HAV.out.mono ?_
            rintro e w9 ⟨rfl, hc9⟩
            have HP9 := Lib.hid (HP8.out.kept hc9)
            have HT9 := Lib.hid (Tail_v HP9.out.v)
            clear hc9 HAV
            go_wp2_with fail
            refine HT9.out.mono ?_
            rintro e wa ⟨tt, rfl, htl, hca⟩
            have h9 := (tail_iff HP9.out.v.gd htl).1 a HI8.out.2.2.2
            have y1 : decide ((a : Int) + 1 ≤ (tt : Int)) = true := by simp; omega
            have HFIN := Lib.hid ((HP9.out.kept hca).c)
            clear htl hca h9 HT9
            go_wp2_with fail
            go_ret
            exact ⟨rfl, HFIN.out⟩
          · have x1 : decide ((i : Int) < 60) = false := by simp; omega
            have x1' : decide (i < 60) = false := by simp; omega
            clear hiM
            go_wp2_with fail
            refine HAV.out.mono ?_
            rintro e w9 ⟨rfl, hc9⟩
            have HP9 := Lib.hid (HP8.out.kept hc9)
            have HT9 := Lib.hid (Tail_v HP9.out.v)
            clear hc9 HAV
            go_wp2_with fail
            refine HT9.out.mono ?_
            rintro e wa ⟨tt, rfl, htl, hca⟩
            have h9 := (tail_iff HP9.out.v.gd htl).1 a HI8.out.2.2.2
            have y1 : decide ((a : Int) + 1 ≤ (tt : Int)) = true := by simp; omega
            have HFIN := Lib.hid ((HP9.out.kept hca).c)
            clear htl hca h9 HT9
            go_wp2_with fail
            go_ret
            exact ⟨rfl, HFIN.out⟩
theorem pagesRoom_row (w : World) {z s t : Int} (hz : (Lit.int .i64 z).wf = true) (hs : (Lit.int .i64 s).wf = true) (ht : (Lit.int .i64 t).wf = true) :
    Calls Tryz.prog 6 #[.int .i64 z, .int .i64 s, .int .i64 t] w fun e w' => e = .returned (.bool true) ∧ Below w.heap.size w w' :=
  (pagesRoom_walk w z s t (bounds_i64 hz) (bounds_i64 hs) (bounds_i64 ht)).mono fun e w' h => ⟨h.1, h.2.low⟩
end Go.Proofs.YtmpajlpemabniaaGreat
