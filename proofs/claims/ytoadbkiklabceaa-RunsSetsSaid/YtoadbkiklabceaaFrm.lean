/-
  Contract of from (package runs), and of those that lean on it: Has, Next, Gap, Count. No claim of its own.
-/
import Derived.Test.YtoadbkiklabceaaCnt
namespace Go.Proofs.Ytoadbkiklabceaa
open Go.RowKit Go.Shelf Go.Deep
set_option linter.unusedVariables false
set_option linter.unusedSimpArgs false
attribute [local go_sem] Oper.semAt_some

/-- the first part at n or above -/
def frm (L : List Rn) (n : Nat) : Rn × Bool := match parts L (n, top64) with | [] => ((0, 0), false) | r :: _ => (r, true)
theorem frm_nil {L : List Rn} {n : Nat} (h : parts L (n, top64) = []) : frm L n = ((0, 0), false) := by unfold frm; rw [h]
theorem frm_cons {L : List Rn} {n : Nat} {r : Rn} {M : List Rn} (h : parts L (n, top64) = r :: M) : frm L n = (r, true) := by unfold frm; rw [h]

set_option maxRecDepth 100000 in
set_option maxHeartbeats 2000000 in
theorem from_any (sp : Option Addr) (L : List Rn) (n : Nat) (w : World) (FS : List Nat) (hs : SetV w (.pointer sp) FS L) (hFS : ∀ k ∈ FS, k < w.heap.size) (hn : n < 18446744073709551616) :
    Calls Try.prog 46 #[.pointer sp, .int .u64 n] w fun e w' => e = .returned (.tuple #[rv (frm L n).1, .bool (frm L n).2]) ∧ Below w.heap.size w w' := by
  have hr : Fit (n, top64) := ⟨hn, by simp [top64]⟩
  have hwi := fun W => within_any sp (n, top64) W
  refine (callsIn_wide (n := 5)).1 ?_
  refine callsIn_of_wp_marks Try.func46 rfl trivial ?_ rfl
  simp only [Try.ntmps46, List.size_toArray, List.length_cons, List.length_nil, Nat.reduceAdd, Nat.reduceSub, Array.replicate_succ, Array.replicate_zero, List.push_toArray, List.append_toArray, List.nil_append, List.cons_append]
  gi_wp2_with fail
  refine ⟨trivial, ?_⟩
  refine (callsIn_wide.2 (hwi _)).mono ?_
  rintro e w1 ⟨rfl, rfl⟩
  gi_wp2_with fail
  obtain ⟨W0, hW0⟩ : ∃ W0, ((((w.alloc (rb (0, 0) 28)).alloc (.cells #[.bool false] 4)).alloc (.cells #[.pointer sp] 24)).alloc (rb (n, top64) 28)) = W0 := ⟨_, rfl⟩
  have hs0 : W0.heap.size = w.heap.size + 4 := by rw [← hW0]; simp
  have hB0 : Below w.heap.size w W0 := by rw [← hW0]; exact lay4 _ _ _ _ _
  have hoR : Own W0 w.heap.size 28 [.int .u64 0, .int .u64 0] := by
    rw [← hW0]
    exact (((Own.new w 28 [.int .u64 0, .int .u64 0]).alloc (.cells #[.bool false] 4)).alloc (.cells #[.pointer sp] 24)).alloc (rb (n, top64) 28)
  have hoB : Own W0 (w.heap.size + 1) 4 [.bool false] := by
    rw [← hW0]
    have := ((Own.new (w.alloc (rb (0, 0) 28)) 4 [.bool false]).alloc (.cells #[.pointer sp] 24)).alloc (rb (n, top64) 28)
    rwa [World.size_alloc] at this
  have hobs : Own W0 (w.heap.size + 1 + 1) 24 [.pointer sp] := by
    rw [← hW0]
    have := (Own.new ((w.alloc (rb (0, 0) 28)).alloc (.cells #[.bool false] 4)) 24 [.pointer sp]).alloc (rb (n, top64) 28)
    rwa [World.size_alloc, World.size_alloc] at this
  have hobr : Own W0 (w.heap.size + 1 + 1 + 1) 28 [.int .u64 (n : Int), .int .u64 (top64 : Int)] := by
    rw [← hW0]
    have := Own.new (((w.alloc (rb (0, 0) 28)).alloc (.cells #[.bool false] 4)).alloc (.cells #[.pointer sp] 24)) 28 [.int .u64 (n : Int), .int .u64 (top64 : Int)]
    rwa [World.size_alloc, World.size_alloc, World.size_alloc] at this
  have hW0' : ((((w.alloc (.cells #[.int .u64 0, .int .u64 0] 28)).alloc (.cells #[.bool false] 4)).alloc (.cells #[.pointer sp] 24)).alloc (rb (n, top64) 28)) = W0 := hW0
  rw [hW0']
  clear hW0 hW0'
  have HS0 := Lib.hid hs0
  have hFB : ∀ k ∈ (w.heap.size + 1 + 1) :: (w.heap.size + 1 + 1 + 1) :: FS, k < W0.heap.size := by
    intro k hk
    simp only [List.mem_cons] at hk
    rcases hk with rfl | rfl | hk
    · omega
    · omega
    · have := hFS k hk; omega
  have hseq := within_stops 4 sp L (n, top64) (w.heap.size + 1 + 1) (w.heap.size + 1 + 1 + 1) W0 FS (hs.kept (low_chg hB0)) hobs hobr (fun k hk => hFB k (by simp [hk])) hr (Same ((w.heap.size + 1 + 1) :: (w.heap.size + 1 + 1 + 1) :: FS)) (fun _ _ h => h)
  have HSEQ := Lib.hid hseq
  have HFB := Lib.hid hFB
  clear hseq hs hFS hs0 hFB hwi
  refine wpIn_rangeFunc_ownH rfl (by omega) (gf := 58) (lb := #[.pointer (some ⟨w.heap.size + 1 + 1, 0, none⟩), .pointer (some ⟨w.heap.size + 1 + 1 + 1, 0, none⟩)]) rfl trivial (enters_of Try.func58 (by kernel_rfl) rfl) HSEQ.out
    (fun h k => h.trans k) (same_put HFB.out) (Below.refl _ _) (fun _ => rfl)
    (fun xs W => xs = [] ∧ Own W w.heap.size 28 [.int .u64 0, .int .u64 0] ∧ Own W (w.heap.size + 1) 4 [.bool false] ∧ Below w.heap.size w W ∧ W0.heap.size ≤ W.heap.size)
    (fun c xs W => c = .ret ∧ ∃ x : GR, xs = [x] ∧ Own W w.heap.size 28 [.int .u64 (x.1.1 : Int), .int .u64 (x.1.2 : Int)] ∧ Own W (w.heap.size + 1) 4 [.bool true] ∧ Below w.heap.size w W) ?hI ?hIx ?h0
    (fun x a' W => ∃ B2, a' = { tmps := #[.pointer sp, .int .u64 n, undef, undef, .pointer (some ⟨w.heap.size, 0, none⟩), .pointer (some ⟨w.heap.size + 1, 0, none⟩), .pointer (some ⟨B2, 0, none⟩), .pointer sp, .int .u64 n, .agg #[.int .u64 n, .int .u64 18446744073709551615], .func (.func 58) #[] #[.pointer (some ⟨w.heap.size + 1 + 1, 0, none⟩), .pointer (some ⟨w.heap.size + 1 + 1 + 1, 0, none⟩)], rv x.1, undef, undef], defers := [] } ∧ w.heap.size + 1 < B2 ∧ Own W B2 28 [.int .u64 (x.1.1 : Int), .int .u64 (x.1.2 : Int)]) ?hAx ?assign ?body ?done ?stop
  case hI =>
    rintro xs X Y row ⟨h0, h1, h1b, h2, h4⟩ hg hr
    exact ⟨h0, own_kept h1 hg (fun r e => (hr r e).2), own_kept h1b hg (fun r e => (hr r e).2), below_row h2 hg hr (by have := HS0.out; omega) (Nat.le_refl _), Nat.le_trans h4 hg.size⟩
  case hIx =>
    rintro c xs X Y row ⟨h0, x, hx, h1, h1b, h2⟩ hg hr
    exact ⟨h0, x, hx, own_kept h1 hg (fun r e => (hr r e).2), own_kept h1b hg (fun r e => (hr r e).2), below_row h2 hg hr (by have := HS0.out; omega) (Nat.le_refl _)⟩
  case h0 => exact ⟨rfl, hoR, hoB, hB0, Nat.le_refl _⟩
  case hAx =>
    rintro x a' _ X Y row ⟨B2, h1, h2, h3⟩ hg hr
    exact ⟨B2, h1, h2, own_kept h3 hg (fun r e => (hr r e).2)⟩
  case assign =>
    rintro l pre x W K ⟨h0, h1, h1b, h2, h4⟩ hK
    unfold encG
    obtain ⟨⟨x1, x2⟩, hx⟩ := x
    have HK := Lib.hid hK
    clear hK
    gi_wp2_with fail
    have hlt := h1b.lt
    exact HK.out _ _ ((KeepsOthers.alloc _ _).from _) (Same.low ((Below.refl _ W).alloc (Nat.le_refl _) _) (fun k hk => Nat.lt_of_lt_of_le (HFB.out k hk) h4)) ⟨h0, h1.alloc _, h1b.alloc _, h2.alloc h2.size _, by simp; omega⟩ ⟨_, rfl, by have := HS0.out; omega, Own.new W _ [.int .u64 (x1 : Int), .int .u64 (x2 : Int)]⟩
  case body =>
    rintro l pre x a' W hl hlr ⟨h0, h1, h1b, h2, h4⟩ ⟨B2, rfl, hB2, h3⟩ hlt
    have hx1 := h3.cell 0
    have hx2 := h3.cell 1
    have hr1 := h1.cell 0
    have hr2 := h1.cell 1
    have hrb := h1b.cell 0
    have hf1 := h1.frozen 0
    have hf2 := h1.frozen 1
    have hf3 := h1b.frozen 0
    simp at hx1 hx2 hr1 hr2 hrb
    subst h0
    have HG : Hid (∃ y : GR, y = x) := Lib.hid ⟨x, rfl⟩
    obtain ⟨⟨x1, x2⟩, hx⟩ := x
    dsimp only at hx1 hx2 h3
    gi_wp2_with fail
    refine ⟨((KeepsOthers.setCell _ _ _).from _).trans (((KeepsOthers.setCell _ _ _).from _).trans ((KeepsOthers.setCell _ _ _).from _)), rfl, ⟨(x1, x2), hx⟩, rfl, ?_, ?_, ?_⟩
    · exact ((h1.set 0 (.int .u64 (x1 : Int))).set 1 (.int .u64 (x2 : Int))).far (p := ⟨w.heap.size + 1, 0, none⟩) (by simp) _
    · exact ((h1b.far (p := ⟨w.heap.size, 0, none⟩) (by simp) _).far (p := ⟨w.heap.size, 1, none⟩) (by simp) _).set 0 (.bool true)
    · exact ((h2.setCell (p := ⟨w.heap.size, 0, none⟩) (Nat.le_refl _) _).setCell (p := ⟨w.heap.size, 1, none⟩) (Nat.le_refl _) _).setCell (p := ⟨w.heap.size + 1, 0, none⟩) (by simp) _
  case done =>
    rintro D xs W hD hS ⟨h0, h1, h1b, h2, h4⟩ hK
    subst h0
    have HFR := Lib.hid (frm_nil hS.symm)
    have hr1 := h1.cell 0
    have hr2 := h1.cell 1
    have hrb := h1b.cell 0
    have hf1 := h1.frozen 0
    have hf2 := h1.frozen 1
    have hf3 := h1b.frozen 0
    simp at hr1 hr2 hrb
    dsimp only
    gi_wp2_with fail
    have hW1 : Own (((W.setCell ⟨w.heap.size, 0, none⟩ (.int .u64 0)).setCell ⟨w.heap.size, 1, none⟩ (.int .u64 0)).setCell ⟨w.heap.size + 1, 0, none⟩ (.bool false)) w.heap.size 28 [.int .u64 0, .int .u64 0] := ((h1.set 0 (.int .u64 0)).set 1 (.int .u64 0)).far (p := ⟨w.heap.size + 1, 0, none⟩) (by simp) _
    have hW2 : Own (((W.setCell ⟨w.heap.size, 0, none⟩ (.int .u64 0)).setCell ⟨w.heap.size, 1, none⟩ (.int .u64 0)).setCell ⟨w.heap.size + 1, 0, none⟩ (.bool false)) (w.heap.size + 1) 4 [.bool false] := ((h1b.far (p := ⟨w.heap.size, 0, none⟩) (by simp) _).far (p := ⟨w.heap.size, 1, none⟩) (by simp) _).set 0 (.bool false)
    have hb2 := ((h2.setCell (p := ⟨w.heap.size, 0, none⟩) (Nat.le_refl _) (.int .u64 0)).setCell (p := ⟨w.heap.size, 1, none⟩) (Nat.le_refl _) (.int .u64 0)).setCell (p := ⟨w.heap.size + 1, 0, none⟩) (by simp) (.bool false)
    have hK2 := (((KeepsOthers.setCell W ⟨w.heap.size, 0, none⟩ (.int .u64 0)).trans (KeepsOthers.setCell _ ⟨w.heap.size, 1, none⟩ (.int .u64 0))).trans (KeepsOthers.setCell _ ⟨w.heap.size + 1, 0, none⟩ (.bool false))).same D _ hK rfl
    generalize ((W.setCell ⟨w.heap.size, 0, none⟩ (.int .u64 0)).setCell ⟨w.heap.size, 1, none⟩ (.int .u64 0)).setCell ⟨w.heap.size + 1, 0, none⟩ (.bool false) = W2 at *
    have c1 := (own_kept hW1 (grownBy_putObj' W2 D (.deferred none)) (fun r e => by cases e; exact ⟨_, hK2, rfl⟩)).cell 0
    have c2 := (own_kept hW1 (grownBy_putObj' W2 D (.deferred none)) (fun r e => by cases e; exact ⟨_, hK2, rfl⟩)).cell 1
    have c3 := (own_kept hW2 (grownBy_putObj' W2 D (.deferred none)) (fun r e => by cases e; exact ⟨_, hK2, rfl⟩)).cell 0
    simp at c1 c2 c3
    refine ⟨by simp, .inl ⟨_, _, rfl, run_takeDeferred hK2, ?_⟩⟩
    exact ⟨.tuple #[rv (0, 0), .bool false], by simp [results, Try.f46, go_sem, c1, c2, c3], by rw [HFR.out], hb2.grown (grownBy_putObj' W2 D (.deferred none)) hb2.size (fun k e => by cases e; have := HS0.out; omega)⟩
  case stop =>
    rintro D c pre W hD hS ⟨rfl, x, rfl, h1, h1b, h2⟩ hK
    obtain ⟨t, ht⟩ := hS
    have HFR := Lib.hid (frm_cons (L := L) (n := n) (r := x.1) (M := t) ht.symm)
    have c1 := (own_kept h1 (grownBy_putObj' W D (.deferred none)) (fun r e => by cases e; exact ⟨_, hK, rfl⟩)).cell 0
    have c2 := (own_kept h1 (grownBy_putObj' W D (.deferred none)) (fun r e => by cases e; exact ⟨_, hK, rfl⟩)).cell 1
    have c3 := (own_kept h1b (grownBy_putObj' W D (.deferred none)) (fun r e => by cases e; exact ⟨_, hK, rfl⟩)).cell 0
    simp at c1 c2 c3
    clear ht
    dsimp only
    gi_wp2_with fail
    refine ⟨by simp, .inl ⟨_, _, rfl, run_takeDeferred hK, ?_⟩⟩
    exact ⟨.tuple #[rv x.1, .bool true], by simp [results, Try.f46, go_sem, c1, c2, c3], by rw [HFR.out], h2.grown (grownBy_putObj' W D (.deferred none)) h2.size (fun k e => by cases e; have := HS0.out; omega)⟩
/-- Count -/
theorem Count_any (sp : Option Addr) (L : List Rn) (w : World) (FS : List Nat) (hs : SetV w (.pointer sp) FS L) (hFS : ∀ k ∈ FS, k < w.heap.size) (hN : NF L) (hb : ∀ r ∈ L, r.2 ≤ top64) :
    Calls Try.prog 22 #[.pointer sp] w fun e w' => e = .returned (.int .u64 ((cnt L : Nat) : Int)) ∧ Below w.heap.size w w' := by
  have hp : parts L (0, top64) = L := parts_whole hN hb
  have hle : cnt L ≤ top64 := cnt_le hN hb
  have hC : ∀ W, Below w.heap.size w W → Calls Try.prog 36 #[.pointer sp, rv (0, top64)] W fun e w' => e = .returned (.int .u64 ((cnt L : Nat) : Int)) ∧ Below W.heap.size W w' := fun W h => by
    have := count_any sp L (0, top64) W FS (hs.kept (low_chg h)) (fun k hk => Nat.lt_of_lt_of_le (hFS k hk) h.size) ⟨by simp, by simp [top64]⟩ (by rw [hp]; unfold top64 at hle; omega)
    rwa [hp] at this
  have HC := Lib.hid hC
  clear hC hp hle hs hN hb hFS
  generalize cnt L = m at *
  go_enter Try.func22, Try.ntmps22
  go_wp2_with (first
    | (go_at_call 47; refine (whole_any _).mono ?_; rintro e w1 ⟨rfl, hb1⟩)
    | (go_at_call 36; refine (HC.out _ hb1).mono ?_; rintro e w2 ⟨rfl, hb2⟩))
  go_ret
  exact ⟨rfl, hb1.trans (hb2.mono hb1.size)⟩
end Go.Proofs.Ytoadbkiklabceaa
