/-
  Contracts of count and from (package runs): ranges over the iterator within. No claim of its own.
-/
import Derived.Test.YtoadbkiklabceaaIt
namespace Go.Proofs.Ytoadbkiklabceaa
open Go.RowKit Go.Shelf Go.Deep
set_option linter.unusedVariables false
set_option linter.unusedSimpArgs false
attribute [local go_sem] Oper.semAt_some

theorem own_kept {A B : World} {row : Option Nat} {g : Nat} {t : TypeId} {cs : List Value} (h : Own A g t cs) (hg : A.grownBy B row) (hr : ∀ r, row = some r → ∃ o : Obj, A.heap[r]? = some o ∧ o.isCells = false) : Own B g t cs :=
  h.grown hg fun e => by
    obtain ⟨o, ho, hc⟩ := hr g e.symm
    rw [show A.heap[g]? = _ from h] at ho
    cases ho
    cases hc
theorem below_row {B n₀ : Nat} {w X Y : World} {row : Option Nat} (hb : Below n₀ w X) (hg : X.grownBy Y row) (hr : ∀ r, row = some r → B ≤ r ∧ ∃ o : Obj, X.heap[r]? = some o ∧ o.isCells = false) (hn : n₀ ≤ B) (hX : n₀ ≤ w.heap.size) : Below n₀ w Y :=
  hb.grown hg (Nat.le_trans hX hb.size) fun k e => Nat.le_trans hn (hr k e).1
theorem same_put {FS : List Nat} {B : Nat} (hF : ∀ k ∈ FS, k < B) : ∀ (W : World) (l : Nat) (o o' : Obj), B ≤ l → W.heap[l]? = some o → o.isCells = false → o.isWalk = false → Same FS W (W.putObj l o') :=
  fun W l o o' hl _ _ _ => ⟨by simp, fun k hk => World.putObj_heap_other (by have := hF k hk; omega)⟩
theorem same_keeps {FS : List Nat} {a b : World} (h : Below a.heap.size a b) (hF : ∀ k ∈ FS, k < a.heap.size) : Same FS a b := Same.low h hF
theorem same_set {FS : List Nat} {b : Nat} (hb : b ∉ FS) (w : World) (u : Value) : Same FS w (w.setCell ⟨b, 0, none⟩ u) :=
  ⟨by rw [set_size]; exact Nat.le_refl _, fun k hk => Below.heap_setCell w ⟨b, 0, none⟩ u k (fun e => hb (by rw [show b = k from e.symm]; exact hk))⟩
theorem keepsFrom_below {B : Nat} {W W' : World} (h : Below W.heap.size W W') : KeepsFrom B W W' := ⟨h.size, fun k o _ hk _ => (h.block k (Array.getElem?_eq_some_iff.1 hk).1).trans hk⟩
/-- the cell in which a count runs, wrapped -/
def cntW (xs : List GR) : Int := ((cnt (vals xs) % 18446744073709551616 : Nat) : Int)
theorem cnt_append (A B : List Rn) : cnt (A ++ B) = cnt A + cnt B := by
  induction A with
  | nil => simp [cnt]
  | cons r A ih => simp [cnt, ih]; omega
theorem cntW_snoc (xs : List GR) (x : GR) : IntKind.u64.wrap (cntW xs + ((x.1.2 - x.1.1 : Nat) : Int)) = cntW (xs ++ [x]) := by
  have e : vals (xs ++ [x]) = vals xs ++ [x.1] := by simp [vals]
  unfold cntW
  rw [e, cnt_append, IntKind.wrap_u64]
  simp only [cnt]
  omega
theorem lay4 (w : World) (a b c d : Obj) : Below w.heap.size w ((((w.alloc a).alloc b).alloc c).alloc d) := (below3 w a b c).alloc (by simp; omega) _
theorem SetV.kept {w w' : World} {sp : Value} {FS : List Nat} {L : List Rn} (h : SetV w sp FS L) (hb : Chg [] w w') : SetV w' sp FS L := by
  rcases h with h | ⟨p, v, h1, h2, h3, h4⟩
  · exact .inl h
  · exact .inr ⟨p, v, h1, h2.kept hb, h3, h4⟩

set_option maxRecDepth 100000 in
set_option maxHeartbeats 2000000 in
theorem count_any (sp : Option Addr) (L : List Rn) (r : Rn) (w : World) (FS : List Nat) (hs : SetV w (.pointer sp) FS L) (hFS : ∀ k ∈ FS, k < w.heap.size) (hr : Fit r) (hc : cnt (parts L r) < 18446744073709551616) :
    Calls Try.prog 36 #[.pointer sp, rv r] w fun e w' => e = .returned (.int .u64 ((cnt (parts L r) : Nat) : Int)) ∧ Below w.heap.size w w' := by
  refine (callsIn_wide (n := 5)).1 ?_
  refine callsIn_of_wp_marks Try.func36 rfl trivial ?_ rfl
  simp only [Try.ntmps36, List.size_toArray, List.length_cons, List.length_nil, Nat.reduceAdd, Nat.reduceSub, Array.replicate_succ, Array.replicate_zero, List.push_toArray, List.append_toArray, List.nil_append, List.cons_append]
  gi_wp2_with fail
  refine ⟨trivial, ?_⟩
  refine (callsIn_wide.2 (within_any sp r _)).mono ?_
  rintro e w1 ⟨rfl, rfl⟩
  gi_wp2_with fail
  obtain ⟨W0, hW0⟩ : ∃ W0, ((((w.alloc (rb r 28)).alloc (.cells #[.int .u64 0] 23)).alloc (.cells #[.pointer sp] 24)).alloc (rb r 28)) = W0 := ⟨_, rfl⟩
  have hs0 : W0.heap.size = w.heap.size + 4 := by rw [← hW0]; simp
  have hB0 : Below w.heap.size w W0 := by rw [← hW0]; exact lay4 _ _ _ _ _
  have hoN : Own W0 (w.heap.size + 1) 23 [.int .u64 0] := by
    rw [← hW0]
    have := ((Own.new (w.alloc (rb r 28)) 23 [.int .u64 0]).alloc (.cells #[.pointer sp] 24)).alloc (rb r 28)
    rwa [World.size_alloc] at this
  have hobs : Own W0 (w.heap.size + 1 + 1) 24 [.pointer sp] := by
    rw [← hW0]
    have := (Own.new ((w.alloc (rb r 28)).alloc (.cells #[.int .u64 0] 23)) 24 [.pointer sp]).alloc (rb r 28)
    rwa [World.size_alloc, World.size_alloc] at this
  have hobr : Own W0 (w.heap.size + 1 + 1 + 1) 28 [.int .u64 (r.1 : Int), .int .u64 (r.2 : Int)] := by
    rw [← hW0]
    have := Own.new (((w.alloc (rb r 28)).alloc (.cells #[.int .u64 0] 23)).alloc (.cells #[.pointer sp] 24)) 28 [.int .u64 (r.1 : Int), .int .u64 (r.2 : Int)]
    rwa [World.size_alloc, World.size_alloc, World.size_alloc] at this
  have hW0' : ((((w.alloc (.cells #[.int .u64 (r.1 : Int), .int .u64 (r.2 : Int)] 28)).alloc (.cells #[.int .u64 0] 23)).alloc (.cells #[.pointer sp] 24)).alloc (.cells #[.int .u64 (r.1 : Int), .int .u64 (r.2 : Int)] 28)) = W0 := hW0
  rw [hW0']
  clear hW0 hW0'
  have HS0 := Lib.hid hs0
  have hFB : ∀ k ∈ (w.heap.size + 1 + 1) :: (w.heap.size + 1 + 1 + 1) :: FS, k < W0.heap.size := by
    intro k hk
    simp only [List.mem_cons] at hk
    rcases hk with rfl | rfl | hk
    · omega
    · omega
    · have := hFS k hk; omega
  have hnm : w.heap.size + 1 ∉ (w.heap.size + 1 + 1) :: (w.heap.size + 1 + 1 + 1) :: FS := by
    intro hk
    simp only [List.mem_cons] at hk
    rcases hk with hk | hk | hk
    · omega
    · omega
    · have := hFS _ hk; omega
  have hseq := within_stops 4 sp L r (w.heap.size + 1 + 1) (w.heap.size + 1 + 1 + 1) W0 FS (hs.kept (low_chg hB0)) hobs hobr (fun k hk => hFB k (by simp [hk])) hr (Same ((w.heap.size + 1 + 1) :: (w.heap.size + 1 + 1 + 1) :: FS)) (fun _ _ h => h)
  have HSEQ := Lib.hid hseq
  have HFB := Lib.hid hFB
  clear hseq hs hFS hs0 hFB
  refine wpIn_rangeFunc_ownH rfl (by omega) (gf := 58) (lb := #[.pointer (some ⟨w.heap.size + 1 + 1, 0, none⟩), .pointer (some ⟨w.heap.size + 1 + 1 + 1, 0, none⟩)]) rfl trivial (enters_of Try.func58 (by kernel_rfl) rfl) HSEQ.out
    (fun h k => h.trans k) (same_put HFB.out) (Below.refl _ _) (fun _ => rfl)
    (fun xs W => Own W (w.heap.size + 1) 23 [.int .u64 (cntW xs)] ∧ Below w.heap.size w W ∧ W0.heap.size ≤ W.heap.size) (fun _ _ _ => False) ?hI ?hIx ?h0
    (fun x a' W => ∃ B2, a' = { tmps := #[.pointer sp, rv r, undef, .pointer (some ⟨w.heap.size, 0, none⟩), .int .u64 0, .pointer (some ⟨w.heap.size + 1, 0, none⟩), .pointer (some ⟨B2, 0, none⟩), .pointer sp, rv r, .func (.func 58) #[] #[.pointer (some ⟨w.heap.size + 1 + 1, 0, none⟩), .pointer (some ⟨w.heap.size + 1 + 1 + 1, 0, none⟩)], rv x.1, undef, undef, undef, undef, undef], defers := [] } ∧ w.heap.size + 1 < B2 ∧ Own W B2 28 [.int .u64 (x.1.1 : Int), .int .u64 (x.1.2 : Int)]) ?hAx ?assign ?body ?done ?stop
  case hI =>
    rintro xs X Y row ⟨h1, h2, h4⟩ hg hr
    exact ⟨own_kept h1 hg (fun r e => (hr r e).2), below_row h2 hg hr (by have := HS0.out; omega) (Nat.le_refl _), Nat.le_trans h4 hg.size⟩
  case hIx => exact fun _ _ _ _ _ h _ _ => h.elim
  case h0 => exact ⟨hoN, hB0, Nat.le_refl _⟩
  case hAx =>
    rintro x a' _ X Y row ⟨B2, h1, h2, h3⟩ hg hr
    exact ⟨B2, h1, h2, own_kept h3 hg (fun r e => (hr r e).2)⟩
  case assign =>
    rintro l pre x W K ⟨h1, h2, h4⟩ hK
    unfold encG
    obtain ⟨⟨x1, x2⟩, hx⟩ := x
    have HK := Lib.hid hK
    clear hK
    gi_wp2_with fail
    have hlt := h1.lt
    exact HK.out _ _ ((KeepsOthers.alloc _ _).from _) (Same.low ((Below.refl _ W).alloc (Nat.le_refl _) _) (fun k hk => Nat.lt_of_lt_of_le (HFB.out k hk) h4)) ⟨h1.alloc _, h2.alloc h2.size _, by simp; omega⟩ ⟨_, rfl, by have := HS0.out; omega, Own.new W _ [.int .u64 (x1 : Int), .int .u64 (x2 : Int)]⟩
  case body =>
    rintro l pre x a' W hl hlr ⟨h1, h2, h4⟩ ⟨B2, rfl, hB2, h3⟩ hlt
    have HLN := Lib.hid (fun W => length_any x.1 x.2.2 (Nat.le_of_lt x.2.1) W)
    have HSN := Lib.hid (cntW_snoc pre x)
    have hx1 := h3.cell 0
    have hx2 := h3.cell 1
    have hn1 := h1.cell 0
    have hf1 := h1.frozen 0
    simp at hx1 hx2 hn1
    obtain ⟨⟨x1, x2⟩, hx⟩ := x
    dsimp only at hx1 hx2 HLN HSN h3
    obtain ⟨d, HD⟩ : ∃ d, Hid (x2 - x1 = d) := ⟨_, Lib.hid rfl⟩
    rw [HD.out] at HLN HSN
    obtain ⟨s0, HS1⟩ : ∃ s0, Hid (cntW pre = s0) := ⟨_, Lib.hid rfl⟩
    rw [HS1.out] at hn1 HSN
    have hN := h1.lt
    have hmx : Try.prog.follows .mixedOrders = true := by kernel_rfl
    gi_wp2_with fail
    gi_region_with_o (refine ⟨trivial, ?_⟩; gi_at_call 42; refine (CallsIn.inRound l (callsIn_wide.2 (HLN.out _))).mono ?_; rintro e w7 ⟨rfl, hb7⟩; have hn7 := (hb7.cell (p := ⟨w.heap.size + 1, 0, none⟩) hN).trans hn1; have hf7 := (hb7.frozen (p := ⟨w.heap.size + 1, 0, none⟩) hN).trans hf1)
    all_goals
      have hb : Below W.heap.size W w7 := (Below.refl _ W).drew.trans hb7
      refine ⟨(keepsFrom_below hb).trans ((KeepsOthers.setCell _ _ _).from _), (Same.low hb (fun k hk => Nat.lt_of_lt_of_le (HFB.out k hk) h4)).trans (same_set hnm _ _), ?_, (h2.trans (hb.mono h2.size)).setCell (p := ⟨w.heap.size + 1, 0, none⟩) (by simp) _, by rw [set_size]; exact Nat.le_trans h4 hb.size⟩
      rw [HSN.out]
      exact (h1.below hb hN).set 0 _
  case done =>
    rintro D xs W hD hS ⟨h1, h2, h4⟩ hK
    have hn1 := h1.cell 0
    simp at hn1
    have hx : cntW xs = ((cnt (parts L r) : Nat) : Int) := by unfold cntW; rw [hS]; omega
    rw [hx] at hn1
    have HX := Lib.hid hx
    clear hx
    gi_wp2_with fail
    refine ⟨by simp, .inl ⟨_, _, rfl, run_takeDeferred hK, ?_⟩⟩
    exact ⟨_, results_tmp rfl _ _ _, rfl, h2.grown (grownBy_putObj' W D (.deferred none)) h2.size (fun k e => by cases e; have := HS0.out; omega)⟩
  case stop => exact fun D c pre W _ _ h _ => h.elim
end Go.Proofs.Ytoadbkiklabceaa
