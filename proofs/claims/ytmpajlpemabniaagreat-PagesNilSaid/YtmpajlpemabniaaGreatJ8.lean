/-
  Contract of from (package runs), and of those that lean on it: Has, Next, Gap, Count. No claim of its own.
-/
import Derived.Test.YtmpajlpemabniaaGreatJ7
namespace Go.Proofs.YtmpajlpemabniaaGreat
open Go.RowKit Go.Shelf Go.Deep
set_option linter.unusedVariables false
set_option linter.unusedSimpArgs false
attribute [local go_sem] Oper.semAt_some

/-- the first part at n or above -/
def frm (L : List Rn) (n : Nat) : Rn × Bool := match parts L (n, top64) with | [] => ((0, 0), false) | r :: _ => (r, true)
theorem frm_nil {L : List Rn} {n : Nat} (h : parts L (n, top64) = []) : frm L n = ((0, 0), false) := by unfold frm; rw [h]
theorem frm_cons {L : List Rn} {n : Nat} {r : Rn} {M : List Rn} (h : parts L (n, top64) = r :: M) : frm L n = (r, true) := by unfold frm; rw [h]

set_option maxRecDepth 100000 in
set_option maxHeartbeats 2000000 in
theorem from_any (sp : Option Addr) (L : List Rn) (n : Nat) (w : World) (FS : List Nat) (hs : SetV w (.pointer sp) FS L) (hFS : ∀ k ∈ FS, k < w.heap.size) (hn : n < 18446744073709551616) :
    Calls Tryz.prog 178 #[.pointer sp, .int .u64 n] w fun e w' => e = .returned (.tuple #[rv (frm L n).1, .bool (frm L n).2]) ∧ Below w.heap.size w w' := by
  have hr : Fit (n, top64) := ⟨hn, by simp [top64]⟩
  have hwi := fun W => within_any sp (n, top64) W
  refine (callsIn_wide (n := 5)).1 ?_
  refine callsIn_of_wp_marks Tryz.func178 rfl trivial ?_ rfl
  simp only [Tryz.ntmps178, List.size_toArray, List.length_cons, List.length_nil, Nat.reduceAdd, Nat.reduceSub, Array.replicate_succ, Array.replicate_zero, List.push_toArray, List.append_toArray, List.nil_append, List.cons_append]
  gi_wp2_with fail
  refine ⟨trivial, ?_⟩
  refine (callsIn_wide.2 (hwi _)).mono ?_
  rintro e w1 ⟨rfl, rfl⟩
  gi_wp2_with fail
  obtain ⟨W0, hW0⟩ : ∃ W0, ((((w.alloc (rb (0, 0) 86)).alloc (.cells #[.bool false] 4)).alloc (.cells #[.pointer sp] 135)).alloc (rb (n, top64) 86)) = W0 := ⟨_, rfl⟩
  have hs0 : W0.heap.size = w.heap.size + 4 := by rw [← hW0]; simp
  have hB0 : Below w.heap.size w W0 := by rw [← hW0]; exact lay4 _ _ _ _ _
  have hoR : Own W0 w.heap.size 86 [.int .u64 0, .int .u64 0] := by
    rw [← hW0]
    exact (((Own.new w 86 [.int .u64 0, .int .u64 0]).alloc (.cells #[.bool false] 4)).alloc (.cells #[.pointer sp] 135)).alloc (rb (n, top64) 86)
  have hoB : Own W0 (w.heap.size + 1) 4 [.bool false] := by
    rw [← hW0]
    have := ((Own.new (w.alloc (rb (0, 0) 86)) 4 [.bool false]).alloc (.cells #[.pointer sp] 135)).alloc (rb (n, top64) 86)
    rwa [World.size_alloc] at this
  have hobs : Own W0 (w.heap.size + 1 + 1) 135 [.pointer sp] := by
    rw [← hW0]
    have := (Own.new ((w.alloc (rb (0, 0) 86)).alloc (.cells #[.bool false] 4)) 135 [.pointer sp]).alloc (rb (n, top64) 86)
    rwa [World.size_alloc, World.size_alloc] at this
  have hobr : Own W0 (w.heap.size + 1 + 1 + 1) 86 [.int .u64 (n : Int), .int .u64 (top64 : Int)] := by
    rw [← hW0]
    have := Own.new (((w.alloc (rb (0, 0) 86)).alloc (.cells #[.bool false] 4)).alloc (.cells #[.pointer sp] 135)) 86 [.int .u64 (n : Int), .int .u64 (top64 : Int)]
    rwa [World.size_alloc, World.size_alloc, World.size_alloc] at this
  have hW0' : ((((w.alloc (.cells #[.int .u64 0, .int .u64 0] 86)).alloc (.cells #[.bool false] 4)).alloc (.cells #[.pointer sp] 135)).alloc (rb (n, top64) 86)) = W0 := hW0
  rw [hW0']
  clear hW0 hW0'
  have HS0 := Lib.hid hs0
  have hFB : ∀ k ∈ (w.heap.size + 1 + 1) :: (w.heap.size + 1 + 1 + 1) :: FS, k < W0.heap.size := by
    intro k hk
    simp only [List.mem_cons] at hk
    rcases hk with rfl | rfl | hk
    · omega
    · omega
    · have := hFS k hk; omega
  have hseq := within_stops 4 sp L (n, top64) (w.heap.size + 1 + 1) (w.heap.size + 1 + 1 + 1) W0 FS (hs.kept (low_chg hB0)) hobs hobr (fun k hk => hFB k (by simp [hk])) hr (Same ((w.heap.size + 1 + 1) :: (w.heap.size + 1 + 1 + 1) :: FS)) (fun _ _ h => h)
  have HSEQ := Lib.hid hseq
  have HFB := Lib.hid hFB
  clear hseq hs hFS hs0 hFB hwi
  refine wpIn_rangeFunc_ownH rfl (by omega) (gf := 232) (lb := #[.pointer (some ⟨w.heap.size + 1 + 1, 0, none⟩), .pointer (some ⟨w.heap.size + 1 + 1 + 1, 0, none⟩)]) rfl trivial (enters_of Tryz.func232 (by kernel_rfl) rfl) HSEQ.out
    (fun h k => h.trans k) (same_put HFB.out) (Below.refl _ _) (fun _ => rfl)
    (fun xs W => xs = [] ∧ Own W w.heap.size 86 [.int .u64 0, .int .u64 0] ∧ Own W (w.heap.size + 1) 4 [.bool false] ∧ Below w.heap.size w W ∧ W0.heap.size ≤ W.heap.size)
    (fun c xs W => c = .ret ∧ ∃ x : GR, xs = [x] ∧ Own W w.heap.size 86 [.int .u64 (x.1.1 : Int), .int .u64 (x.1.2 : Int)] ∧ Own W (w.heap.size + 1) 4 [.bool true] ∧ Below w.heap.size w W) ?hI ?hIx ?h0
    (fun x a' W => ∃ B2, a' = { tmps := #[.pointer sp, .int .u64 n, undef, undef, .pointer (some ⟨w.heap.size, 0, none⟩), .pointer (some ⟨w.heap.size + 1, 0, none⟩), .pointer (some ⟨B2, 0, none⟩), .pointer sp, .int .u64 n, .agg #[.int .u64 n, .int .u64 18446744073709551615], .func (.func 232) #[] #[.pointer (some ⟨w.heap.size + 1 + 1, 0, none⟩), .pointer (some ⟨w.heap.size + 1 + 1 + 1, 0, none⟩)], rv x.1, undef, undef], defers := [] } ∧ w.heap.size + 1 < B2 ∧ Own W B2 86 [.int .u64 (x.1.1 : Int), .int .u64 (x.1.2 : Int)]) ?hAx ?assign ?body ?done ?stop
  case hI =>
    rintro xs X Y row ⟨h0, h1, h1b, h2, h4⟩ hg hr
    exact ⟨h0, own_kept h1 hg (fun r e => (hr r e).2), own_kept h1b hg (fun r e => (hr r e).2), below_row h2 hg hr (by have := HS0.out; omega) (Nat.le_refl _), Nat.le_trans h4 hg.size⟩
  case hIx =>
    rintro c xs X Y row ⟨h0, x, hx, h1, h1b, h2⟩ hg hr
    exact ⟨h0, x, hx, own_kept h1 hg (fun r e => (hr r e).2), own_kept h1b hg (fun r e => (hr r e).2), below_row h2 hg hr (by have := HS0.out; omega) (Nat.le_refl _)⟩
  case h0 => exact ⟨rfl, hoR, hoB, hB0, Nat.le_refl _⟩
  case hAx =>
    rintro x a' _ X Y row ⟨B2, h1, h2, h3⟩ hg hr
    exact ⟨B2, h1, h2, own_kept h3 hg (fun r e => (hr r e).2)⟩
  case assign =>
    rintro l pre x W K ⟨h0, h1, h1b, h2, h4⟩ hK
    unfold encG
    obtain ⟨⟨x1, x2⟩, hx⟩ := x
    have HK := Lib.hid hK
    clear hK
    gi_wp2_with fail
    have hlt := h1b.lt
    exact HK.out _ _ ((KeepsOthers.alloc _ _).from _) (Same.low ((Below.refl _ W).alloc (Nat.le_refl _) _) (fun k hk => Nat.lt_of_lt_of_le (HFB.out k hk) h4)) ⟨h0, h1.alloc _, h1b.alloc _, h2.alloc h2.size _, by simp; omega⟩ ⟨_, rfl, by have := HS0.out; omega, Own.new W _ [.int .u64 (x1 : Int), .int .u64 (x2 : Int)]⟩
  case body =>
    rintro l pre x a' W hl hlr ⟨h0, h1, h1b, h2, h4⟩ ⟨B2, rfl, hB2, h3⟩ hlt
    have hx1 := h3.cell 0
    have hx2 := h3.cell 1
    have hr1 := h1.cell 0
    have hr2 := h1.cell 1
    have hrb := h1b.cell 0
    have hf1 := h1.frozen 0
    have hf2 := h1.frozen 1
    have hf3 := h1b.frozen 0
    simp at hx1 hx2 hr1 hr2 hrb
    subst h0
    have HG : Hid (∃ y : GR, y = x) := Lib.hid ⟨x, rfl⟩
    obtain ⟨⟨x1, x2⟩, hx⟩ := x
    dsimp only at hx1 hx2 h3
    gi_wp2_with fail
    refine ⟨((KeepsOthers.setCell _ _ _).from _).trans (((KeepsOthers.setCell _ _ _).from _).trans ((KeepsOthers.setCell _ _ _).from _)), rfl, ⟨(x1, x2), hx⟩, rfl, ?_, ?_, ?_⟩
    · exact ((h1.set 0 (.int .u64 (x1 : Int))).set 1 (.int .u64 (x2 : Int))).far (p := ⟨w.heap.size + 1, 0, none⟩) (by simp) _
    · exact ((h1b.far (p := ⟨w.heap.size, 0, none⟩) (by simp) _).far (p := ⟨w.heap.size, 1, none⟩) (by simp) _).set 0 (.bool true)
    · exact ((h2.setCell (p := ⟨w.heap.size, 0, none⟩) (Nat.le_refl _) _).setCell (p := ⟨w.heap.size, 1, none⟩) (Nat.le_refl _) _).setCell (p := ⟨w.heap.size + 1, 0, none⟩) (by simp) _
  case done =>
    rintro D xs W hD hS ⟨h0, h1, h1b, h2, h4⟩ hK
    subst h0
    have HFR := Lib.hid (frm_nil hS.symm)
    have hr1 := h1.cell 0
    have hr2 := h1.cell 1
    have hrb := h1b.cell 0
    have hf1 := h1.frozen 0
    have hf2 := h1.frozen 1
    have hf3 := h1b.frozen 0
    simp at hr1 hr2 hrb
    dsimp only
    gi_wp2_with fail
    have hW1 : Own (((W.setCell ⟨w.heap.size, 0, none⟩ (.int .u64 0)).setCell ⟨w.heap.size, 1, none⟩ (.int .u64 0)).setCell ⟨w.heap.size + 1, 0, none⟩ (.bool false)) w.heap.size 86 [.int .u64 0, .int .u64 0] := ((h1.set 0 (.int .u64 0)).set 1 (.int .u64 0)).far (p := ⟨w.heap.size + 1, 0, none⟩) (by simp) _
    have hW2 : Own (((W.setCell ⟨w.heap.size, 0, none⟩ (.int .u64 0)).setCell ⟨w.heap.size, 1, none⟩ (.int .u64 0)).setCell ⟨w.heap.size + 1, 0, none⟩ (.bool false)) (w.heap.size + 1) 4 [.bool false] := ((h1b.far (p := ⟨w.heap.size, 0, none⟩) (by simp) _).far (p := ⟨w.heap.size, 1, none⟩) (by simp) _).set 0 (.bool false)
    have hb2 := ((h2.setCell (p := ⟨w.heap.size, 0, none⟩) (Nat.le_refl _) (.int .u64 0)).setCell (p := ⟨w.heap.size, 1, none⟩) (Nat.le_refl _) (.int .u64 0)).setCell (p := ⟨w.heap.size + 1, 0, none⟩) (by simp) (.bool false)
    have hK2 := (((KeepsOthers.setCell W ⟨w.heap.size, 0, none⟩ (.int .u64 0)).trans (KeepsOthers.setCell _ ⟨w.heap.size, 1, none⟩ (.int .u64 0))).trans (KeepsOthers.setCell _ ⟨w.heap.size + 1, 0, none⟩ (.bool false))).same D _ hK rfl
    generalize ((W.setCell ⟨w.heap.size, 0, none⟩ (.int .u64 0)).setCell ⟨w.heap.size, 1, none⟩ (.int .u64 0)).setCell ⟨w.heap.size + 1, 0, none⟩ (.bool false) = W2 at *
    have c1 := (own_kept hW1 (grownBy_putObj' W2 D (.deferred none)) (fun r e => by cases e; exact ⟨_, hK2, rfl⟩)).cell 0
    have c2 := (own_kept hW1 (grownBy_putObj' W2 D (.deferred none)) (fun r e => by cases e; exact ⟨_, hK2, rfl⟩)).cell 1
    have c3 := (own_kept hW2 (grownBy_putObj' W2 D (.deferred none)) (fun r e => by cases e; exact ⟨_, hK2, rfl⟩)).cell 0
    simp at c1 c2 c3
    refine ⟨by simp, .inl ⟨_, _, rfl, run_takeDeferred hK2, ?_⟩⟩
    exact ⟨.tuple #[rv (0, 0), .bool false], by simp [results, Tryz.f178, go_sem, c1, c2, c3], by rw [HFR.out], hb2.grown (grownBy_putObj' W2 D (.deferred none)) hb2.size (fun k e => by cases e; have := HS0.out; omega)⟩
  case stop =>
    rintro D c pre W hD hS ⟨rfl, x, rfl, h1, h1b, h2⟩ hK
    obtain ⟨t, ht⟩ := hS
    have HFR := Lib.hid (frm_cons (L := L) (n := n) (r := x.1) (M := t) ht.symm)
    have c1 := (own_kept h1 (grownBy_putObj' W D (.deferred none)) (fun r e => by cases e; exact ⟨_, hK, rfl⟩)).cell 0
    have c2 := (own_kept h1 (grownBy_putObj' W D (.deferred none)) (fun r e => by cases e; exact ⟨_, hK, rfl⟩)).cell 1
    have c3 := (own_kept h1b (grownBy_putObj' W D (.deferred none)) (fun r e => by cases e; exact ⟨_, hK, rfl⟩)).cell 0
    simp at c1 c2 c3
    clear ht
    dsimp only
    gi_wp2_with fail
    refine ⟨by simp, .inl ⟨_, _, rfl, run_takeDeferred hK, ?_⟩⟩
    exact ⟨.tuple #[rv x.1, .bool true], by simp [results, Tryz.f178, go_sem, c1, c2, c3], by rw [HFR.out], h2.grown (grownBy_putObj' W D (.deferred none)) h2.size (fun k e => by cases e; have := HS0.out; omega)⟩
end Go.Proofs.YtmpajlpemabniaaGreat
namespace Go.Proofs.YtmpajlpemabniaaGreat
open Go.RowKit Go.Shelf Go.Deep
set_option linter.unusedVariables false
set_option linter.unusedSimpArgs false

theorem frm_mem {L : List Rn} (hN : NF L) {n : Nat} (hb : ∀ r ∈ L, r.2 ≤ top64) : mem L n = ((frm L n).2 && decide ((frm L n).1.1 = n)) := by
  rw [mem_head hN hb]
  unfold frm
  cases parts L (n, top64) <;> simp
section
variable (sp : Option Addr) (L : List Rn) (n : Nat) (w : World) (FS : List Nat)
theorem Has_any (hs : SetV w (.pointer sp) FS L) (hFS : ∀ k ∈ FS, k < w.heap.size) (hn : n < 18446744073709551616) (hN : NF L) (hb : ∀ r ∈ L, r.2 ≤ top64) :
    Calls Tryz.prog 121 #[.pointer sp, .int .u64 n] w fun e w' => e = .returned (.bool (mem L n)) ∧ Below w.heap.size w w' := by
  have hF := from_any sp L n w FS hs hFS hn
  rw [frm_mem hN hb]
  obtain ⟨y, b, hy⟩ : ∃ y b, frm L n = (y, b) := ⟨_, _, rfl⟩
  rw [hy] at hF ⊢
  have HF := Lib.hid hF
  clear hF hs hy hN hb hFS
  dsimp only at HF ⊢
  cases b with
  | false =>
    go_enter Tryz.func121, Tryz.ntmps121
    go_wp2_with (go_at_call 178; refine HF.out.mono ?_; rintro e w1 ⟨rfl, hb1⟩)
    go_ret
    exact ⟨rfl, hb1.alloc hb1.size _⟩
  | true =>
    by_cases h : y.1 = n
    · have h1 : ((y.1 : Int) == (n : Int)) = true := by simp; omega
      have h2 : decide (y.1 = n) = true := by simpa using h
      rw [h2]
      clear h h2
      go_enter Tryz.func121, Tryz.ntmps121
      go_wp2_with (go_at_call 178; refine HF.out.mono ?_; rintro e w1 ⟨rfl, hb1⟩)
      go_ret
      exact ⟨rfl, hb1.alloc hb1.size _⟩
    · have h1 : ((y.1 : Int) == (n : Int)) = false := by simp; omega
      have h2 : decide (y.1 = n) = false := by simpa using h
      rw [h2]
      clear h h2
      go_enter Tryz.func121, Tryz.ntmps121
      go_wp2_with (go_at_call 178; refine HF.out.mono ?_; rintro e w1 ⟨rfl, hb1⟩)
      go_ret
      exact ⟨rfl, hb1.alloc hb1.size _⟩
end
theorem rclone_empty (w : World) (a : Addr) (c : Nat) :
    Calls Tryz.prog 130 #[.slice (some a) 0 c] w fun e w' => ∃ v, e = .returned v ∧ Lr w' w.heap.size 86 v [] ∧ Below w.heap.size w w' := by
  have q22 : ∀ (w : World) (a : Option Addr) (n c n' c' : Nat), (binOp .eql 82 (.slice a n c) (.slice none n' c')).run Tryz.prog w = .ok (.bool a.isNone) w := fun w a n c n' c' => Lib.run_eql_slice_nil w _ _ a n c n' c' Tryz.underlying82
  have hrun : ∀ (ty : TypeId) (W : World), (Builtin.append_ #[82, 82] ty #[.slice (some ⟨W.heap.size, 0, none⟩) 0 0, .slice (some a) 0 c]).run Tryz.prog (W.alloc (.cells #[] 86)) = .ok (.slice (some ⟨W.heap.size, 0, none⟩) 0 0) (W.alloc (.cells #[] 86)) := by
    intro ty W
    obtain ⟨i0, hi0, hzz⟩ := Option.map_eq_some_iff.1 Tryz.infoR
    have hl : ∀ (x : Addr) W, (loadCells x 0).run Tryz.prog W = .ok #[] W := fun x W => by simpa using run_loadCells_list (P := Tryz.prog) W x [] (by simp)
    simp [Builtin.append_, run_underlying Tryz.underlying82, sizeOf, typeInfo, hi0, Builtin.lenOf, Builtin.firstCells, storeCells, hl]
  go_enter Tryz.func130, Tryz.ntmps130
  go_wp2_with (at_builtin; refine Lib.wpList_append_run _ rfl _ _ _ _ rfl _ _ rfl rfl _ _ (hrun _ _) ?_)
  go_ret
  exact ⟨_, rfl, Lr.lit w w.heap.size 86 [] (Nat.le_refl _) (by simp), (Below.refl _ _).alloc (Nat.le_refl _) _⟩
/-- slices.Clone of a row that reads as L -/
theorem rclone_any (w : World) (a : Option Addr) (c B : Nat) (L : List Rn) (hro : Ro w B a (rcs L)) (hl : L.length ≤ 4000000) :
    Calls Tryz.prog 130 #[.slice a L.length c] w fun e w' => ∃ v, e = .returned v ∧ Lr w' w.heap.size 86 v L ∧ Below w.heap.size w w' := by
  rcases a with _ | ⟨b, off, spot⟩
  · have h0 : L.length = 0 := by
      rcases hro with h | ⟨b, off, h, _⟩
      · have := congrArg List.length h; simp at this; omega
      · cases h
    obtain rfl : L = [] := List.eq_nil_of_length_eq_zero h0
    refine (AnyE.slices_Clone_nil cloneR 0 c w).mono fun e w' ⟨he, hw⟩ => ⟨_, he, Lr.nil _ _ _, by rw [hw]; exact Below.refl _ _⟩
  · obtain ⟨i0, hi0, hzz⟩ := Option.map_eq_some_iff.1 Tryz.infoR
    simp only [Prod.mk.injEq] at hzz
    obtain ⟨hz0, hzs, hzb⟩ := hzz
    rcases Nat.eq_zero_or_pos L.length with h0 | h0
    · obtain rfl : L = [] := List.eq_nil_of_length_eq_zero h0
      exact rclone_empty w _ c
    · obtain ⟨b', off', e, hb, hc⟩ := hro.at_ (by intro e; have e2 := congrArg List.length e; simp at e2; omega)
      cases e
      have := AnyE.slices_Clone cloneR i0 zR 2 16 hi0 hz0 hzs hzb rfl (by omega) sizeOfR b off L.length c (rcs L) w (by simp) (by unfold maxLen; omega) (by omega) (fun j u hu => by
        have hj := (List.getElem?_eq_some_iff.1 hu).1
        rw [hc j hj]
        simp [List.getD, hu]) (rcs_one L)
      refine Calls.mono (R' := _) this fun e w' ⟨v, he, hr, _, hb⟩ => ⟨v, he, hr, hb⟩
theorem Runs_nil (w : World) : Calls Tryz.prog 75 #[.pointer none] w fun e w' => e = .returned (.slice none 0 0) ∧ w = w' := by
  go_enter Tryz.func75, Tryz.ntmps75
  go_wp2
  go_ret
  exact ⟨rfl, rfl⟩
theorem Runs_some (w : World) (p : Nat) (v : Value) (L : List Rn) (hs : St w p v L) : Calls Tryz.prog 75 #[.pointer (some ⟨p, 0, none⟩)] w fun e w' => ∃ v, e = .returned v ∧ Lr w' w.heap.size 86 v L ∧ Below w.heap.size w w' := by
  obtain ⟨a, c, rfl, hro, _⟩ := hs.row.form
  have HC := Lib.hid (rclone_any w a c _ L hro (by have := hs.len; omega))
  have hc := hs.cell
  clear hs hro
  go_enter Tryz.func75, Tryz.ntmps75
  go_wp2_with (go_at_call 130; refine HC.out.mono ?_; rintro e w1 ⟨v, rfl, hr, hb⟩)
  go_ret
  exact ⟨v, rfl, hr, hb⟩
theorem Runs_any (w : World) (sp : Option Addr) (FS : List Nat) (L : List Rn) (hs : SetV w (.pointer sp) FS L) : Calls Tryz.prog 75 #[.pointer sp] w fun e w' => ∃ v, e = .returned v ∧ Lr w' w.heap.size 86 v L ∧ Below w.heap.size w w' := by
  rcases hs with ⟨h, rfl⟩ | ⟨p, v, h, hst, _, _⟩
  · injection h with h
    subst h
    exact (Runs_nil w).mono fun e w' ⟨he, hw⟩ => ⟨_, he, Lr.nil _ _ _, by rw [hw]; exact Below.refl _ _⟩
  · injection h with h
    subst h
    exact Runs_some w p v L hst
/-- a set of the call's own: struct and row in blocks from B on -/
structure New (w : World) (B p : Nat) (v : Value) (L : List Rn) : Prop where
  st : St w p v L
  lowp : B ≤ p
  lowg : ∀ g, v.ownBlock = some g → B ≤ g
theorem New_any (w : World) : Calls Tryz.prog 82 #[] w fun e w' => e = .returned (.pointer (some ⟨w.heap.size, 0, none⟩)) ∧ w' = w.alloc (.cells #[.slice none 0 0] 199) := by
  go_enter Tryz.func82, Tryz.ntmps82
  go_wp2
  go_ret
  exact ⟨rfl, rfl⟩
theorem new_st (w : World) : New (w.alloc (.cells #[.slice none 0 0] 199)) w.heap.size w.heap.size (.slice none 0 0) [] :=
  ⟨⟨Own.new w _ _, Lr.nil _ _ _, trivial, by simp, by simp⟩, Nat.le_refl _, fun g h => by cases h⟩
theorem Copy_nil (w : World) : Calls Tryz.prog 183 #[.pointer none] w fun e w' => e = .returned (.pointer none) ∧ w = w' := by
  go_enter Tryz.func183, Tryz.ntmps183
  go_wp2
  go_ret
  exact ⟨rfl, rfl⟩
theorem boxed_new {w w1 : World} {v : Value} {L : List Rn} (hr : Lr w1 w.heap.size 86 v L) (hb : Below w.heap.size w w1) (hN : NF L) (hf : ∀ r ∈ L, r.2 ≤ top64) (hl : L.length ≤ 1000000) :
    New (w1.alloc (.cells #[v] 199)) w.heap.size w1.heap.size v L :=
  ⟨⟨Own.new w1 _ _, (hr.alloc _).base (Nat.zero_le _), hN, hf, hl⟩, hb.size, fun g h => (hr.lt g h).1⟩
theorem Copy_some (w : World) (p : Nat) (v : Value) (L : List Rn) (hs : St w p v L) : Calls Tryz.prog 183 #[.pointer (some ⟨p, 0, none⟩)] w fun e w' => ∃ p' v', e = .returned (.pointer (some ⟨p', 0, none⟩)) ∧ New w' w.heap.size p' v' L ∧ Below w.heap.size w w' := by
  obtain ⟨a, c, rfl, hro, _⟩ := hs.row.form
  have HC := Lib.hid (rclone_any w a c _ L hro (by have := hs.len; omega))
  have hc := hs.cell
  have HS := Lib.hid hs
  clear hs hro
  go_enter Tryz.func183, Tryz.ntmps183
  go_wp2_with (go_at_call 130; refine HC.out.mono ?_; rintro e w1 ⟨v, rfl, hr, hb⟩; obtain ⟨a1, c1, rfl⟩ := hr.shape)
  go_ret
  exact ⟨_, _, rfl, boxed_new hr hb HS.out.nf HS.out.fit HS.out.len, hb.alloc hb.size _⟩
end Go.Proofs.YtmpajlpemabniaaGreat
