/-
  Contract of runs.Meet: a range over an iterator within a range over an iterator. No claim of its own.
-/
import Derived.Test.YtoadbkiklabceaaFrm
import Derived.Test.YtoadbkiklabceaaBlt
import Derived.OrdersIn
import Derived.OrdersHeld
namespace Go.Proofs.Ytoadbkiklabceaa
open Go.RowKit Go.Shelf Go.Deep
set_option linter.unusedVariables false
set_option linter.unusedSimpArgs false
attribute [local go_sem] Oper.semAt_some

section
variable {P : Program}
/-- one operation of a region in a round that draws its order: by the walk outside of rounds, where nothing in it is deferred and the caller's word lets nothing out -/
theorem roundOp {l n : Nat} {ops : Array Oper} {Q : Exit → Act → World → Prop} {K K' : Act → World → Prop} {i : Nat} {a : Act} {w : World} (hout : ¬ LetsOut Q) (hd : ∀ (i : Nat) (o : Oper), ops[i]? = some o → ∀ c, o.op ≠ .defer c)
    (hK : ∀ a w, K a w → K' a w) (h : wpOp P ops Q i K a w) : wpOpIn (Fence.wide.inRound l) n P ops Q i K' a w := by
  unfold wpOp at h
  unfold wpOpIn
  cases ho : ops[i]? with
  | none => simp only [ho] at h; exact hK _ _ h
  | some o =>
    simp only [ho] at h
    dsimp only
    split
    · rename_i hw
      simp only [hw, if_true] at h
      have h := h.resolve_right (fun x => hout x.2)
      refine ⟨fun _ _ => trivial, ?_⟩
      rw [Oper.semAt_eq _ _ _ (hd i o ho)]
      unfold Oper.wp at h
      generalize (execOp a.eval o).run P w = r at *
      cases r with
      | ok x w' =>
        cases x <;> simp only [Oper.upon] at h <;> simp only [Oper.uponIn]
        case value => exact hK _ _ h
        case skip => exact hK _ _ h
        case defer => exact hK _ _ h
        case enter f args =>
          refine ⟨(fun e => by cases e), CallsIn.inRound l (callsIn_wide.2 (h.mono fun e w'' he => ?_))⟩
          cases e <;> first | exact hK _ _ he | exact he
        case row row args =>
          refine ⟨(fun e => by cases e), fun c cs _ => ?_⟩
          obtain ⟨v, w'', hv, hs⟩ := h c cs
          exact ⟨v, w'', hK _ _ hv, stepsIn_wide.2 hs⟩
      | halt x w' => cases x <;> simp only [Oper.upon] at h <;> first | exact h | exact h.elim
    · rename_i hw
      simp only [hw, if_false, Bool.false_eq_true] at h
      exact ⟨fun _ _ => trivial, hK _ _ h⟩
theorem roundAny {l n : Nat} {ops : Array Oper} {Q : Exit → Act → World → Prop} {md : Region.Mode} (hout : ¬ LetsOut Q) (hd : ∀ (i : Nat) (o : Oper), ops[i]? = some o → ∀ c, o.op ≠ .defer c) :
    ∀ (fuel : Nat) (listed : Array Bool) (a : Act) (w : World), wpAny P md ops Q fuel listed a w → wpAnyIn (Fence.wide.inRound l) n P md ops Q fuel listed a w
  | 0, _, _, _, h => h
  | fuel + 1, _, _, _, h => ⟨h.1, fun i hi => roundOp hout hd (fun a w => roundAny hout hd fuel _ a w) (h.2 i hi)⟩
/-- no operation is deferred -/
def noDefer (ops : Array Oper) : Bool := ops.all fun o => match o.op with | .defer _ => false | _ => true
theorem noDefer_spec {ops : Array Oper} (h : noDefer ops = true) : ∀ (i : Nat) (o : Oper), ops[i]? = some o → ∀ c, o.op ≠ .defer c := by
  intro i o ho c e
  unfold noDefer at h
  rw [Array.all_eq_true] at h
  obtain ⟨hi, he⟩ := Array.getElem?_eq_some_iff.1 ho
  have := h i hi
  rw [he, e] at this
  simp at this
/-- a region that draws, in a round: by the walk that holds S -/
theorem round_region {l n id : Nat} {ops : Array Oper} {Q : Exit → Act → World → Prop} {a : Act} {w : World} (S : World → Prop) (hm : P.follows .mixedOrders = true) (hout : ¬ LetsOut Q) (hd : noDefer ops = true)
    (h : wpAnyH P .any ops Q S ops.size (Array.replicate ops.size false) a w.drew) : (Code.region id ops true).wpIn (Fence.wide.inRound l) n P Q a w :=
  wpIn_region_any hm (roundAny hout (noDefer_spec hd) _ _ _ _ (wpAny_of_held _ _ _ _ h))
end
theorem gen_w2 {M : Act → World → Prop} {A : Act} {X : World} (P : World → Prop) (hP : P X) (h : ∀ W, P W → M A W) : M A X := h X hP
theorem Same.grown {FS : List Nat} {A B : World} {row : Option Nat} (hg : A.grownBy B row) (hF : ∀ k ∈ FS, k < A.heap.size) (hr : ∀ k ∈ FS, some k ≠ row) : Same FS A B := ⟨hg.size, fun k hk => hg.block k (hF k hk) (hr k hk)⟩
theorem Lr.own_at2 {w : World} {B : Nat} {e : TypeId} {u : Value} {M : List Rn} (h : Lr w B e u M) {b : Nat} (hb : u.ownBlock = some b) : ∃ cs, Own w b e cs := by
  rcases h.2 with ⟨hn, _⟩ | ⟨g, cap, cur, rfl, _, hgg, _⟩
  · subst hn; cases hb
  · have e2 : g = b := by simpa [Value.ownBlock] using hb
    subst e2
    exact ⟨cur.toList, by unfold Own; simpa using hgg⟩
theorem Lr.kept2 {A B : World} {base : Nat} {e : TypeId} {u : Value} {M : List Rn} {row : Option Nat} (h : Lr A base e u M) (hg : A.grownBy B row) (hr : ∀ r, row = some r → ∃ o : Obj, A.heap[r]? = some o ∧ o.isCells = false) : Lr B base e u M := by
  refine h.kept hg ?_
  cases hu : u.ownBlock with
  | none => exact .inl rfl
  | some b =>
    refine .inr fun e1 => ?_
    obtain ⟨cs, ho⟩ := h.own_at2 hu
    obtain ⟨o, h1, h2⟩ := hr b e1.symm
    rw [show A.heap[b]? = _ from ho] at h1
    cases h1
    cases h2
theorem keepsFrom_grown {B : Nat} {W W' : World} {row : Option Nat} (h : W.grownBy W' row) (hr : ∀ r, row = some r → ∃ t cs, Own W r t cs) : KeepsFrom B W W' :=
  ⟨h.size, fun k o _ hk ho => (h.block k (Array.getElem?_eq_some_iff.1 hk).1 (fun e => by
    obtain ⟨t, cs, h1⟩ := hr k e.symm
    rw [show W.heap[k]? = _ from h1] at hk
    cases hk
    cases ho)).trans hk⟩
/-- where the meeting of two sets stands -/
structure MtI (N Q0 : Nat) (sb : Option Addr) (w : World) (v : Value) (Z : List Rn) (W : World) : Prop where
  b : Own W N 24 [.pointer sb]
  s : Own W (N + 1 + 1) 24 [.pointer (some ⟨N + 1, 0, none⟩)]
  p : Own W (N + 1) 61 [v]
  r : Lr W Q0 28 v Z
  low : Below N w W
  le : Q0 ≤ W.heap.size
theorem MtI.keep {N Q0 : Nat} {sb : Option Addr} {w W W' : World} {v : Value} {Z : List Rn} (h : MtI N Q0 sb w v Z W) (hb : Below W.heap.size W W') : MtI N Q0 sb w v Z W' :=
  ⟨h.b.below hb h.b.lt, h.s.below hb h.s.lt, h.p.below hb h.p.lt, h.r.below hb (Nat.le_refl _), h.low.trans (hb.mono (Nat.le_of_lt h.b.lt)), Nat.le_trans h.le hb.size⟩
theorem MtI.own {N Q0 B : Nat} {sb : Option Addr} {w X Y : World} {v : Value} {Z : List Rn} {row : Option Nat} (h : MtI N Q0 sb w v Z X) (hg : X.grownBy Y row) (hr : ∀ r, row = some r → B ≤ r ∧ ∃ o : Obj, X.heap[r]? = some o ∧ o.isCells = false) (hB : N ≤ B) : MtI N Q0 sb w v Z Y := by
  have h2 := fun r e => (hr r e).2
  exact ⟨own_kept h.b hg h2, own_kept h.s hg h2, own_kept h.p hg h2, h.r.kept2 hg h2, h.low.grown hg (Nat.le_of_lt h.b.lt) (fun k e => Nat.le_trans hB (hr k e).1), Nat.le_trans h.le hg.size⟩
theorem meetL_snoc (a : List Rn) (x : Rn) (b : List Rn) : meetL (a ++ [x]) b = meetL a b ++ parts b x := by simp [meetL]
set_option maxRecDepth 100000 in
set_option maxHeartbeats 4000000 in
theorem Meet_any (w : World) (sa sb : Option Addr) (FSa FSb : List Nat) (A B : List Rn) (hsa : SetV w (.pointer sa) FSa A) (hsb : SetV w (.pointer sb) FSb B) (hFa : ∀ k ∈ FSa, k < w.heap.size) (hFb : ∀ k ∈ FSb, k < w.heap.size) (hA : NF A) (hB : NF B) (hfa : ∀ r ∈ A, r.2 ≤ top64) (hfb : ∀ r ∈ B, r.2 ≤ top64) (hla : A.length ≤ 1000) (hlb : B.length ≤ 1000) :
    Calls Try.prog 30 #[.pointer sa, .pointer sb] w fun e w' => ∃ p v, e = .returned (.pointer (some ⟨p, 0, none⟩)) ∧ New w' w.heap.size p v (meetL A B) ∧ Below w.heap.size w w' := by
  obtain ⟨N, HN⟩ : ∃ N, Hid (w.heap.size = N) := ⟨_, Lib.hid rfl⟩
  refine (callsIn_wide (n := 5)).1 ?_
  refine callsIn_of_wp_marks Try.func30 rfl trivial ?_ rfl
  simp only [Try.ntmps30, List.size_toArray, List.length_cons, List.length_nil, Nat.reduceAdd, Nat.reduceSub, Array.replicate_succ, Array.replicate_zero, List.push_toArray, List.append_toArray, List.nil_append, List.cons_append]
  gi_wp2_with fail
  refine ⟨trivial, ?_⟩
  refine (callsIn_wide.2 (New_any _)).mono ?_
  rintro e w1 ⟨rfl, rfl⟩
  gi_wp2_with fail
  refine ⟨trivial, ?_⟩
  refine (callsIn_wide.2 (whole_any _)).mono ?_
  rintro e w2 ⟨rfl, hb2⟩
  gi_wp2_with fail
  refine ⟨trivial, ?_⟩
  refine (callsIn_wide.2 (within_any sa (0, top64) _)).mono ?_
  rintro e w3 ⟨rfl, rfl⟩
  gi_wp2_with fail
  obtain ⟨Q, HQ⟩ : ∃ Q, Hid (w2.heap.size = Q) := ⟨_, Lib.hid rfl⟩
  obtain ⟨W0, HW0⟩ : ∃ W0, Hid ((w2.alloc (.cells #[.pointer sa] 24)).alloc (rb (0, top64) 28) = W0) := ⟨_, Lib.hid rfl⟩
  have hbw : Below N (((w.alloc (.cells #[.pointer sb] 24)).alloc (.cells #[.slice none 0 0] 61)).alloc (.cells #[.pointer (some ⟨w.heap.size + 1, 0, none⟩)] 24)) w2 ∧ N + 3 ≤ Q := by
    have h1 := hb2.size
    simp at h1
    have h2 := HN.out
    have h3 := HQ.out
    exact ⟨hb2.mono (by simp; omega), by omega⟩
  have hb0 : Below N w W0 := by
    rw [← HW0.out]
    have h1 : Below N w w2 := by
      rw [← HN.out]
      exact (below3 w _ _ _).trans (by rw [HN.out]; exact hbw.1)
    exact (h1.alloc (by have := hbw.2; have := HQ.out; omega) _).alloc (by simp; have := hbw.2; have := HQ.out; omega) _
  have hQ0 : W0.heap.size = Q + 1 + 1 := by rw [← HW0.out, ← HQ.out]; simp
  have h3s : (((w.alloc (.cells #[.pointer sb] 24)).alloc (.cells #[.slice none 0 0] 61)).alloc (.cells #[.pointer (some ⟨w.heap.size + 1, 0, none⟩)] 24)).heap.size = N + 3 := by have := HN.out; simp; omega
  have hobB : Own W0 N 24 [.pointer sb] := by
    have h1 := ((Own.new w 24 [.pointer sb]).alloc (.cells #[.slice none 0 0] 61)).alloc (.cells #[.pointer (some ⟨w.heap.size + 1, 0, none⟩)] 24)
    rw [HN.out] at h1
    rw [← HW0.out]
    exact ((h1.below (by rw [HN.out] at hb2; exact hb2) h1.lt).alloc _).alloc _
  have hobP : Own W0 (N + 1) 61 [.slice none 0 0] := by
    have h1 := (Own.new (w.alloc (.cells #[.pointer sb] 24)) 61 [.slice none 0 0]).alloc (.cells #[.pointer (some ⟨w.heap.size + 1, 0, none⟩)] 24)
    rw [World.size_alloc, HN.out] at h1
    rw [← HW0.out]
    exact ((h1.below (by rw [HN.out] at hb2; exact hb2) h1.lt).alloc _).alloc _
  have hobS : Own W0 (N + 1 + 1) 24 [.pointer (some ⟨N + 1, 0, none⟩)] := by
    have h1 := Own.new ((w.alloc (.cells #[.pointer sb] 24)).alloc (.cells #[.slice none 0 0] 61)) 24 [.pointer (some ⟨w.heap.size + 1, 0, none⟩)]
    rw [World.size_alloc, World.size_alloc, HN.out] at h1
    rw [← HW0.out]
    exact ((h1.below (by rw [HN.out] at hb2; exact hb2) h1.lt).alloc _).alloc _
  have hobs : Own W0 Q 24 [.pointer sa] := by rw [← HW0.out, ← HQ.out]; exact (Own.new w2 _ _).alloc _
  have hobr : Own W0 (Q + 1) 28 [.int .u64 0, .int .u64 (top64 : Int)] := by
    have h1 := Own.new (w2.alloc (.cells #[.pointer sa] 24)) 28 [.int .u64 ((0 : Nat) : Int), .int .u64 (top64 : Int)]
    rw [World.size_alloc, HQ.out] at h1
    rw [← HW0.out]; exact h1
  have hI0 : MtI N (Q + 1 + 1) sb w (.slice none 0 0) [] W0 := ⟨hobB, hobS, hobP, Lr.nil _ _ _, hb0, by omega⟩
  have hNQ := hbw.2
  rw [HW0.out, HQ.out, HN.out]
  rw [HN.out] at hFa hFb
  have hFB : ∀ k ∈ Q :: (Q + 1) :: FSa, k < W0.heap.size := by
    intro k hk
    simp only [List.mem_cons] at hk
    rcases hk with rfl | rfl | hk
    · omega
    · omega
    · have := hFa k hk; omega
  have hseq := within_stops 4 sa A (0, top64) Q (Q + 1) W0 FSa (hsa.kept (low_chg (by rw [HN.out]; exact hb0))) hobs hobr (fun k hk => hFB k (by simp [hk])) ⟨by decide, by decide⟩ (Same (Q :: (Q + 1) :: FSa)) (fun _ _ h => h)
  have HSEQ := Lib.hid hseq
  have HFB := Lib.hid hFB
  have HSB := Lib.hid (show ∀ W, Below N w W → SetV W (.pointer sb) FSb B from fun W hW => hsb.kept (low_chg (by rw [HN.out]; exact hW)))
  have HI0 := Lib.hid hI0
  have HX := Lib.hid (And.intro hA (And.intro hB (And.intro hfa hfb)))
  have HFb := Lib.hid hFb
  have HFa := Lib.hid hFa
  have HQ0 := Lib.hid hQ0
  have HW := Lib.hid (parts_whole hA hfa)
  clear hseq hFB hsa hsb hI0 hA hB hfa hfb hFb hFa hQ0 hobB hobP hobS hobs hobr hb0 h3s hbw hb2
  refine wpIn_rangeFunc_ownH rfl (by omega) (gf := 58) (lb := #[.pointer (some ⟨Q, 0, none⟩), .pointer (some ⟨Q + 1, 0, none⟩)]) rfl trivial (enters_of Try.func58 (by kernel_rfl) rfl) HSEQ.out
    (fun h k => h.trans k) (same_put HFB.out) (Below.refl _ _) (fun _ => rfl)
    (fun xs W => ∃ v, MtI N (Q + 1 + 1) sb w v (meetL (vals xs) B) W) (fun _ _ _ => False) ?hI ?hIx ?h0
    (fun x a' W => ∃ B2, a' = { tmps := #[.pointer sa, .pointer sb, undef, .pointer (some ⟨N, 0, none⟩), .pointer none, .pointer (some ⟨N + 1 + 1, 0, none⟩), .pointer (some ⟨B2, 0, none⟩), undef, .pointer (some ⟨N + 1, 0, none⟩), .pointer sa, .agg #[.int .u64 0, .int .u64 18446744073709551615], .func (.func 58) #[] #[.pointer (some ⟨Q, 0, none⟩), .pointer (some ⟨Q + 1, 0, none⟩)], rv x.1, undef, undef, undef, undef, undef, undef, undef, undef, undef, undef, undef, undef, undef, undef, undef], defers := [] } ∧ Q + 1 < B2 ∧ Own W B2 28 [.int .u64 (x.1.1 : Int), .int .u64 (x.1.2 : Int)]) ?hAx ?assign ?body ?done ?stop
  case hI =>
    rintro xs X Y row ⟨v, h⟩ hg hr
    exact ⟨v, h.own hg hr (by have := HQ0.out; omega)⟩
  case hIx => exact fun _ _ _ _ _ h _ _ => h.elim
  case h0 => exact ⟨_, HI0.out⟩
  case hAx =>
    rintro x a' _ X Y row ⟨B2, h1, h2, h3⟩ hg hr
    exact ⟨B2, h1, h2, own_kept h3 hg (fun r e => (hr r e).2)⟩
  case assign =>
    rintro l pre x W K ⟨v, h⟩ hK
    unfold encG
    obtain ⟨⟨x1, x2⟩, hx⟩ := x
    have HK := Lib.hid hK
    clear hK
    gi_wp2_with fail
    have hle := h.le
    exact HK.out _ _ ((KeepsOthers.alloc _ _).from _) (Same.low ((Below.refl _ W).alloc (Nat.le_refl _) _) (fun k hk => Nat.lt_of_lt_of_le (HFB.out k hk) (by rw [HQ0.out]; exact hle))) ⟨v, h.keep ((Below.refl _ W).alloc (Nat.le_refl _) _)⟩ ⟨_, rfl, by omega, Own.new W _ [.int .u64 (x1 : Int), .int .u64 (x2 : Int)]⟩
  case body =>
    rintro l pre x a' W hl hlr ⟨v, h⟩ ⟨B2, rfl, hB2, h3⟩ hlt
    obtain ⟨r0, hr0⟩ := hlr
    obtain ⟨⟨x1, x2⟩, hx⟩ := x
    have hx1 := h3.cell 0
    have hx2 := h3.cell 1
    have hb1 := h.b.cell 0
    simp at hx1 hx2 hb1
    gi_wp2_with fail
    refine ⟨trivial, ?_⟩
    refine (CallsIn.inRound l (callsIn_wide.2 (within_any sb (x1, x2) _))).mono ?_
    rintro e w3 ⟨rfl, rfl⟩
    gi_wp2_with fail
    obtain ⟨M, HM⟩ : ∃ M, Hid (W.heap.size = M) := ⟨_, Lib.hid rfl⟩
    obtain ⟨W1, HW1⟩ : ∃ W1, Hid ((W.alloc (.cells #[.pointer sb] 24)).alloc (rb (x1, x2) 28) = W1) := ⟨_, Lib.hid rfl⟩
    have hobs : Own W1 M 24 [.pointer sb] := by rw [← HW1.out, ← HM.out]; exact (Own.new W _ _).alloc _
    have hobr : Own W1 (M + 1) 28 [.int .u64 (x1 : Int), .int .u64 (x2 : Int)] := by
      have h1 := Own.new (W.alloc (.cells #[.pointer sb] 24)) 28 [.int .u64 (x1 : Int), .int .u64 (x2 : Int)]
      rw [World.size_alloc, HM.out] at h1
      rw [← HW1.out]; exact h1
    have hM1 : W1.heap.size = M + 1 + 1 := by rw [← HW1.out, ← HM.out]; simp
    have hbW : Below W.heap.size W W1 := by rw [← HW1.out]; exact ((Below.refl _ W).alloc (Nat.le_refl _) _).alloc (by simp) _
    have hl1 : W1.heap[l]? = some (.loop r0) := (hbW.block l (Array.getElem?_eq_some_iff.1 hr0).1).trans hr0
    have hQM : Q + 1 + 1 ≤ M := by have := h.le; have := HM.out; omega
    have hFB2 : ∀ k ∈ M :: (M + 1) :: FSb, k < W1.heap.size := by
      intro k hk
      simp only [List.mem_cons] at hk
      rcases hk with rfl | rfl | hk
      · omega
      · omega
      · have := HFb.out k hk; omega
    have h1 := h.keep hbW
    have hseq2 := within_stops 2 sb B (x1, x2) M (M + 1) W1 FSb (HSB.out W1 h1.low) hobs hobr (fun k hk => hFB2 k (by simp [hk])) hx.2 (Same (M :: (M + 1) :: FSb)) (fun _ _ h => h)
    have HSEQ2 := Lib.hid (hseq2.inRound l)
    have HFB2 := Lib.hid hFB2
    have HM1 := Lib.hid hM1
    have HI1 := Lib.hid h1
    have HKF := Lib.hid (show KeepsFrom W0.heap.size W W1 from keepsFrom_below hbW)
    have HSA := Lib.hid (show Same (Q :: (Q + 1) :: FSa) W W1 from Same.low hbW (fun k hk => Nat.lt_of_lt_of_le (HFB.out k hk) (by rw [HQ0.out]; exact h.le)))
    have HVB := Lib.hid (show ∀ g, v.ownBlock = some g → g < M ∨ M + 1 + 1 ≤ g from fun g hg => .inl (by rw [← HM.out]; exact (h.r.lt g hg).2))
    have HPL := Lib.hid hlt
    rw [HW1.out, HM.out]
    clear hseq2 hFB2 hM1 h1 hbW hobs hobr h hx1 hx2 hb1 hr0 hlt
    refine wpIn_rangeFunc_ownN (l₀ := l) (r₀ := r0) rfl hl1 (by omega) (gf := 58) (lb := #[.pointer (some ⟨M, 0, none⟩), .pointer (some ⟨M + 1, 0, none⟩)]) rfl trivial (enters_of Try.func58 (by kernel_rfl) rfl) HSEQ2.out
      (fun h k => h.trans k) (same_put HFB2.out) (Below.refl _ _) (fun _ => rfl)
      (fun ys Wi => ∃ v', MtI N (Q + 1 + 1) sb w v' (meetL (vals pre) B ++ vals ys) Wi ∧ KeepsFrom W0.heap.size W Wi ∧ Same (Q :: (Q + 1) :: FSa) W Wi ∧ (∀ g, v'.ownBlock = some g → g < M ∨ M + 1 + 1 ≤ g) ∧ M + 1 + 1 ≤ Wi.heap.size) (fun _ _ _ => False) ?ihI ?ihIx ?ih0
      (fun y a' Wi => ∃ B3, a' = { tmps := #[.pointer sa, .pointer sb, undef, .pointer (some ⟨N, 0, none⟩), .pointer none, .pointer (some ⟨N + 1 + 1, 0, none⟩), .pointer (some ⟨B2, 0, none⟩), .pointer (some ⟨B3, 0, none⟩), .pointer (some ⟨N + 1, 0, none⟩), .pointer sa, .agg #[.int .u64 0, .int .u64 18446744073709551615], .func (.func 58) #[] #[.pointer (some ⟨Q, 0, none⟩), .pointer (some ⟨Q + 1, 0, none⟩)], rv (x1, x2), .pointer sb, .agg #[.int .u64 (x1 : Int), .int .u64 (x2 : Int)], .func (.func 58) #[] #[.pointer (some ⟨M, 0, none⟩), .pointer (some ⟨M + 1, 0, none⟩)], rv y.1, undef, undef, undef, undef, undef, undef, undef, undef, undef, undef, undef], defers := [] } ∧ M + 1 < B3 ∧ Own Wi B3 28 [.int .u64 (y.1.1 : Int), .int .u64 (y.1.2 : Int)] ∧ ∀ u, Wi.cell? ⟨N + 1, 0, none⟩ = some u → u.ownBlock ≠ some B3) ?ihAx ?iassign ?ibody ?idone ?istop
    case ihI =>
      rintro xs X Y row ⟨v', h, k1, k2, k3, k4⟩ hg hr
      refine ⟨v', h.own hg hr (by have := HM1.out; omega), ownFrom_keepsFrom (β := Unit) (B' := W1.heap.size) (by have := HM1.out; have := HM.out; omega) () X Y row k1 hg hr, k2.trans ⟨hg.size, fun k hk => hg.block k ?_ ?_⟩, k3, Nat.le_trans k4 hg.size⟩
      · have := HFB.out k hk; have := HQ0.out; omega
      · intro e; have := (hr k e.symm).1; have := HFB.out k hk; have := HQ0.out; have := HM1.out; omega
    case ihIx => exact fun _ _ _ _ _ h _ _ => h.elim
    case ih0 => exact ⟨v, by simpa [vals] using HI1.out, HKF.out, HSA.out, HVB.out, by rw [HM1.out]; exact Nat.le_refl _⟩
    case ihAx =>
      rintro y a' _ X Y row ⟨B3, h1, h2, h3, h5⟩ hg hr
      refine ⟨B3, h1, h2, own_kept h3 hg (fun r e => (hr r e).2), fun u hu => h5 u ?_⟩
      have h3l := h3.lt
      rw [← hu]
      exact (World.cell?_of_block (w := X) (a := ⟨N + 1, 0, none⟩) (hg.block (N + 1) (by omega) (fun e => by have := (hr _ e.symm).1; have := HM1.out; omega))).symm
    case iassign =>
      rintro l2 ys y Wi K ⟨v', h, k1, k2, k3, k4⟩ hK
      unfold encG
      obtain ⟨⟨y1, y2⟩, hy⟩ := y
      have HK := Lib.hid hK
      clear hK
      gi_wp2_with fail
      have hba : Below Wi.heap.size Wi (Wi.alloc (rb (y1, y2) 28)) := (Below.refl _ Wi).alloc (Nat.le_refl _) _
      exact HK.out _ _ ((KeepsOthers.alloc _ _).from _) (Same.low hba (fun k hk => Nat.lt_of_lt_of_le (HFB2.out k hk) (by rw [HM1.out]; exact k4))) ⟨v', h.keep hba, k1.trans ((KeepsOthers.alloc _ _).from _), k2.trans (Same.low hba (fun k hk => Nat.lt_of_lt_of_le (HFB.out k hk) (by rw [HQ0.out]; exact h.le))), k3, Nat.le_trans k4 hba.size⟩ ⟨_, rfl, by omega, Own.new Wi _ [.int .u64 (y1 : Int), .int .u64 (y2 : Int)], fun u hu e => by
        have e1 : (Wi.alloc (rb (y1, y2) 28)).cell? ⟨N + 1, 0, none⟩ = some v' := (World.cell?_alloc_lt _ _ _ h.p.lt).trans (by have := h.p.cell 0; simpa using this)
        rw [e1] at hu
        injection hu with hu
        subst hu
        have := (h.r.lt _ e).2
        omega⟩
    case ibody =>
      rintro l2 ys y a' Wi hl2 hlr2 ⟨v', h, k1, k2, k3, k4⟩ ⟨B3, rfl, hB3, h4, h5⟩ hlt2
      obtain ⟨⟨y1, y2⟩, hy⟩ := y
      have hy1 := h4.cell 0
      have hy2 := h4.cell 1
      have hs1 := h.s.cell 0
      have hp1 := h.p.cell 0
      have hpf := h.p.frozen 0
      simp at hy1 hy2 hs1 hp1
      have hp2 : Wi.drew.cell? ⟨N + 1, 0, none⟩ = some v' := hp1
      have hne := h5 v' hp1
      have hmx : Try.prog.follows .mixedOrders = true := by kernel_rfl
      have hlen : (meetL (vals pre) B ++ vals ys).length ≤ 2000000 := by
        have h1 := meetL_len (vals pre) B
        have h2 := HPL.out
        have h3 := parts_len A (0, top64)
        have h6 := parts_len B (x1, x2)
        have h7 : (vals pre).length ≤ 1000 := by simp only [vals, List.length_map]; omega
        have h8 : (vals pre).length * B.length ≤ 1000 * 1000 := Nat.mul_le_mul h7 hlb
        have h9 : (vals ys).length ≤ 1000 := by simp only [vals, List.length_map]; omega
        rw [List.length_append]; omega
      refine wpIn_block ?_
      refine round_region (l := l2) (fun W' => W'.cell? ⟨N + 1 + 1, 0, none⟩ = some (.pointer (some ⟨N + 1, 0, none⟩)) ∧ W'.cell? ⟨B3, 0, none⟩ = some (.int .u64 (y1 : Int)) ∧ W'.cell? ⟨B3, 1, none⟩ = some (.int .u64 (y2 : Int))) hmx ?_ (by kernel_rfl) ?_
      · rintro ⟨_, _, hh⟩; exact hh
      have hHeld : Wi.drew.cell? ⟨N + 1 + 1, 0, none⟩ = some (.pointer (some ⟨N + 1, 0, none⟩)) ∧ Wi.drew.cell? ⟨B3, 0, none⟩ = some (.int .u64 (y1 : Int)) ∧ Wi.drew.cell? ⟨B3, 1, none⟩ = some (.int .u64 (y2 : Int)) := ⟨hs1, hy1, hy2⟩
      refine wpAnyH_take (i := 0) (v := ?_) rfl (by kernel_rfl) (by kernel_rfl) (by kernel_rfl) (fun _ _ _ h => h) (Or.inl ⟨by kernel_rfl, ?_⟩) hHeld ?_
      rotate_left
      · (intro w hSw; first | (go_simp; done) | (go_simp; with_reducible rfl))
      (try simp only [Act.put, List.getElem_toArray, List.getElem_cons_succ, List.getElem_cons_zero, List.setIfInBounds_toArray, List.set_cons_zero, List.set_cons_succ])
      refine wpAnyH_take (i := 1) (v := ?_) rfl (by kernel_rfl) (by kernel_rfl) (by kernel_rfl) (fun _ _ _ h => h) (Or.inl ⟨by kernel_rfl, ?_⟩) hHeld ?_
      rotate_left
      · (intro w hSw; first | (go_simp; done) | (go_simp; with_reducible rfl))
      (try simp only [Act.put, List.getElem_toArray, List.getElem_cons_succ, List.getElem_cons_zero, List.setIfInBounds_toArray, List.set_cons_zero, List.set_cons_succ])
      refine wpAnyH_take (i := 2) (v := ?_) rfl (by kernel_rfl) (by kernel_rfl) (by kernel_rfl) (fun _ _ _ h => h) (Or.inl ⟨by kernel_rfl, ?_⟩) hHeld ?_
      rotate_left
      · (intro w hSw; first | (go_simp; done) | (go_simp; with_reducible rfl))
      (try simp only [Act.put, List.getElem_toArray, List.getElem_cons_succ, List.getElem_cons_zero, List.setIfInBounds_toArray, List.set_cons_zero, List.set_cons_succ])
      refine wpAnyH_take (i := 3) (v := ?_) rfl (by kernel_rfl) (by kernel_rfl) (by kernel_rfl) (fun _ _ _ h => h) (Or.inl ⟨by kernel_rfl, ?_⟩) hHeld ?_
      rotate_left
      · (intro w hSw; first | (go_simp; done) | (go_simp; with_reducible rfl))
      (try simp only [Act.put, List.getElem_toArray, List.getElem_cons_succ, List.getElem_cons_zero, List.setIfInBounds_toArray, List.set_cons_zero, List.set_cons_succ])
      refine wpAnyH_take (i := 5) (v := ?_) rfl (by kernel_rfl) (by kernel_rfl) (by kernel_rfl) (fun _ _ _ h => h) (Or.inl ⟨by kernel_rfl, ?_⟩) hHeld ?_
      rotate_left
      · (intro w hSw; first | (go_simp; done) | (go_simp; with_reducible rfl))
      (try simp only [Act.put, List.getElem_toArray, List.getElem_cons_succ, List.getElem_cons_zero, List.setIfInBounds_toArray, List.set_cons_zero, List.set_cons_succ])
      refine wpAnyH_ready (rs := [4, 6]) (by kernel_rfl) (by simp) (AllReadyH.cons rfl (fun K hK => ?_) (AllReadyH.cons rfl (fun K hK => ?_) AllReadyH.nil))
      · go_simp
        refine hK.out _ _ hHeld (fun hq1 => ?_)
        clear hK K
        (try simp only [Act.put, List.getElem_toArray, List.getElem_cons_succ, List.getElem_cons_zero, List.setIfInBounds_toArray, List.set_cons_zero, List.set_cons_succ])
        refine wpAnyH_ready (rs := [6]) (by kernel_rfl) (by simp) (AllReadyH.cons rfl (fun K hK => ?_) AllReadyH.nil)
        go_simp
        refine gen_w2 (fun W => Below Wi.heap.size Wi W ∧ Own W Wi.heap.size 28 [.int .u64 (y1 : Int), .int .u64 (y2 : Int)]) ⟨((Below.refl _ Wi).drew.alloc (Nat.le_refl _) _), Own.new Wi.drew _ [.int .u64 (y1 : Int), .int .u64 (y2 : Int)]⟩ (fun W6 h6 => ?_)
        have h46 := h4.below h6.1 h4.lt
        have hs46 := h.s.below h6.1 h.s.lt
        refine hK.out _ _ ⟨(h6.1.cell (p := ⟨N + 1 + 1, 0, none⟩) h.s.lt).trans hs1, (h6.1.cell (p := ⟨B3, 0, none⟩) h4.lt).trans hy1, (h6.1.cell (p := ⟨B3, 1, none⟩) h4.lt).trans hy2⟩ (fun hq2 => ?_)
        clear hK K
        (try simp only [Act.put, List.getElem_toArray, List.getElem_cons_succ, List.getElem_cons_zero, List.setIfInBounds_toArray, List.set_cons_zero, List.set_cons_succ])
        refine wpAnyH_ready (rs := [7]) (by kernel_rfl) (by simp) (AllReadyH.cons rfl (fun K hK => ?_) AllReadyH.nil)
        have h26 := h.keep h6.1
        refine step_appS (by rfl) (.tmp 21) (.tmp 23) 40 (by rfl) (Q + 1 + 1) 28 zR 16 Try.underlying40 Try.infoR rfl _ (meetL (vals pre) B ++ vals ys) (by rfl) h26.r (some ⟨Wi.heap.size, 0, none⟩) W6.heap.size 1 1 [(y1, y2)] (by rfl) rfl (h6.2.ro _ h6.2.lt) (by omega) (by omega) h26.le ?_
        intro v4 w4 H4 hg4 hn4
        obtain ⟨n4, HN4⟩ : ∃ n4, Hid ((meetL (vals pre) B ++ vals ys ++ [(y1, y2)]).length = n4) := ⟨_, Lib.hid rfl⟩
        obtain ⟨a4, c4, rfl, -, -, -, -, -⟩ := H4.out.form
        rw [HN4.out] at H4 hn4 ⊢
        have hrow : ∀ g, v'.ownBlock = some g → Q + 1 + 1 ≤ g := fun g hg => (h.r.lt g hg).1
        have b4 := h26.b.grown hg4 (fun e => by have := hrow _ e.symm; omega)
        have s4 := h26.s.grown hg4 (fun e => by have := hrow _ e.symm; omega)
        have p4 := h26.p.grown hg4 (fun e => by have := hrow _ e.symm; omega)
        have y4 := h46.grown hg4 (fun e => hne e.symm)
        have hq4 : w4.cell? ⟨N + 1 + 1, 0, none⟩ = some (.pointer (some ⟨N + 1, 0, none⟩)) ∧ w4.cell? ⟨B3, 0, none⟩ = some (.int .u64 (y1 : Int)) ∧ w4.cell? ⟨B3, 1, none⟩ = some (.int .u64 (y2 : Int)) := ⟨by rw [s4.cell]; rfl, by rw [y4.cell]; rfl, by rw [y4.cell]; rfl⟩
        refine hK.out _ _ hq4 (fun hq3 => ?_)
        clear hK K
        (try simp only [Act.put, List.getElem_toArray, List.getElem_cons_succ, List.getElem_cons_zero, List.setIfInBounds_toArray, List.set_cons_zero, List.set_cons_succ])
        refine wpAnyH_take (i := 8) (v := ?_) rfl (by kernel_rfl) (by kernel_rfl) (by kernel_rfl) (fun _ _ _ h => h) (Or.inl ⟨by kernel_rfl, ?_⟩) hq3 ?_
        rotate_left
        · (intro w hSw; first | (go_simp; done) | (go_simp; with_reducible rfl))
        (try simp only [Act.put, List.getElem_toArray, List.getElem_cons_succ, List.getElem_cons_zero, List.setIfInBounds_toArray, List.set_cons_zero, List.set_cons_succ])
        refine wpAnyH_take (i := 9) (v := ?_) rfl (by kernel_rfl) (by kernel_rfl) (by kernel_rfl) (fun _ _ _ h => h) (Or.inl ⟨by kernel_rfl, ?_⟩) hq3 ?_
        rotate_left
        · (intro w hSw; first | (go_simp; done) | (go_simp; with_reducible rfl))
        (try simp only [Act.put, List.getElem_toArray, List.getElem_cons_succ, List.getElem_cons_zero, List.setIfInBounds_toArray, List.set_cons_zero, List.set_cons_succ])
        refine wpAnyH_ready (rs := [10]) (by kernel_rfl) (by simp) (AllReadyH.cons rfl (fun K hK => ?_) AllReadyH.nil)
        have hpc : w4.cell? ⟨N + 1, 0, none⟩ = some v' := by rw [p4.cell]; rfl
        have hpz : w4.frozen? ⟨N + 1, 0, none⟩ = false := p4.frozen 0
        go_simp
        have hB3N : B3 ≠ N + 1 := by omega
        have hgs := only_set (World.grownBy.refl w4 (some (N + 1))) 0 (Value.slice a4 n4 c4)
        have s5 := s4.far (p := ⟨N + 1, 0, none⟩) (by simp) (Value.slice a4 n4 c4)
        have y5 := y4.far (p := ⟨N + 1, 0, none⟩) hB3N (Value.slice a4 n4 c4)
        refine hK.out _ _ ⟨by rw [s5.cell]; rfl, by rw [y5.cell]; rfl, by rw [y5.cell]; rfl⟩ (fun hq5 => ?_)
        clear hK K
        (try simp only [Act.put, List.getElem_toArray, List.getElem_cons_succ, List.getElem_cons_zero, List.setIfInBounds_toArray, List.set_cons_zero, List.set_cons_succ])
        refine wpAnyH_done (by kernel_rfl) ?_ _
        have hv4 : ∀ g, (Value.slice a4 n4 c4).ownBlock = some g → g < M ∨ M + 1 + 1 ≤ g := fun g hg => by
          rcases hn4 with hn | hn
          · exact k3 g (by rw [← hn]; exact hg)
          · have := hn g hg; have := h6.1.size; exact .inr (by omega)
        have hk46 : KeepsFrom W1.heap.size Wi (w4.setCell ⟨N + 1, 0, none⟩ (Value.slice a4 n4 c4)) := (keepsFrom_below h6.1).trans ((keepsFrom_grown hg4 (fun g hg => by obtain ⟨cs, ho⟩ := h26.r.own_at2 hg; exact ⟨_, cs, ho⟩)).trans ((KeepsOthers.setCell _ _ _).from _))
        have hk06 : KeepsFrom W0.heap.size Wi (w4.setCell ⟨N + 1, 0, none⟩ (Value.slice a4 n4 c4)) := (keepsFrom_below h6.1).trans ((keepsFrom_grown hg4 (fun g hg => by obtain ⟨cs, ho⟩ := h26.r.own_at2 hg; exact ⟨_, cs, ho⟩)).trans ((KeepsOthers.setCell _ _ _).from _))
        have hQ2 := HQ0.out
        have hM2 := HM1.out
        have hle := h.le
        have hsame : ∀ FS : List Nat, (∀ k ∈ FS, k < Wi.heap.size) → (∀ k ∈ FS, k ≠ N + 1 ∧ ∀ g, v'.ownBlock = some g → k ≠ g) → Same FS Wi (w4.setCell ⟨N + 1, 0, none⟩ (Value.slice a4 n4 c4)) := fun FS h1 h2 =>
          (Same.low h6.1 h1).trans ((Same.grown hg4 (fun k hk => Nat.lt_of_lt_of_le (h1 k hk) h6.1.size) (fun k hk e => (h2 k hk).2 k e.symm rfl)).trans (Same.grown hgs (fun k hk => Nat.lt_of_lt_of_le (Nat.lt_of_lt_of_le (h1 k hk) h6.1.size) hg4.size) (fun k hk e => by injection e with e; exact (h2 k hk).1 e)))
        have hS2 : Same (M :: (M + 1) :: FSb) Wi (w4.setCell ⟨N + 1, 0, none⟩ (Value.slice a4 n4 c4)) := hsame _ (fun k hk => by have := HFB2.out k hk; omega) (fun k hk => by
          simp only [List.mem_cons] at hk
          rcases hk with rfl | rfl | hk
          · exact ⟨by omega, fun g hg e => by have := k3 g hg; omega⟩
          · exact ⟨by omega, fun g hg e => by have := k3 g hg; omega⟩
          · have := HFb.out k hk; exact ⟨by omega, fun g hg e => by have := hrow g hg; omega⟩)
        have hS0 : Same (Q :: (Q + 1) :: FSa) Wi (w4.setCell ⟨N + 1, 0, none⟩ (Value.slice a4 n4 c4)) := hsame _ (fun k hk => by have := HFB.out k hk; omega) (fun k hk => by
          simp only [List.mem_cons] at hk
          rcases hk with rfl | rfl | hk
          · exact ⟨by omega, fun g hg e => by have := hrow g hg; omega⟩
          · exact ⟨by omega, fun g hg e => by have := hrow g hg; omega⟩
          · have := HFa.out k hk; exact ⟨by omega, fun g hg e => by have := hrow g hg; omega⟩)
        have ev : vals (ys ++ [(⟨(y1, y2), hy⟩ : GR)]) = vals ys ++ [(y1, y2)] := by simp [vals]
        have h4r := H4.out
        have hv4b : ∀ g, (Value.slice a4 n4 c4).ownBlock = some g → g ≠ N + 1 := fun g hg => by have := (h4r.lt g hg).1; omega
        refine ⟨hk46, hS2, (Value.slice a4 n4 c4), ⟨b4.far (p := ⟨N + 1, 0, none⟩) (by simp) (Value.slice a4 n4 c4), s5, p4.set 0 (Value.slice a4 n4 c4), ?_, ?_, ?_⟩, k1.trans hk06, k2.trans hS0, hv4, ?_⟩
        · rw [ev, ← List.append_assoc]
          refine h4r.kept hgs ?_
          cases hu : (Value.slice a4 n4 c4).ownBlock with
          | none => exact .inl rfl
          | some g => exact .inr (fun e => hv4b g hu (by injection e))
        · exact (h26.low.grown hg4 (by have := h.b.lt; have := h6.1.size; omega) (fun k e => by have := hrow k e; omega)).setCell (p := ⟨N + 1, 0, none⟩) (by simp) (Value.slice a4 n4 c4)
        · rw [set_size]; have := hg4.size; have := h6.1.size; omega
        · rw [set_size]; have := hg4.size; have := h6.1.size; omega
      · go_simp
        refine gen_w2 (fun W => Below Wi.heap.size Wi W ∧ Own W Wi.heap.size 28 [.int .u64 (y1 : Int), .int .u64 (y2 : Int)]) ⟨((Below.refl _ Wi).drew.alloc (Nat.le_refl _) _), Own.new Wi.drew _ [.int .u64 (y1 : Int), .int .u64 (y2 : Int)]⟩ (fun W6 h6 => ?_)
        have h46 := h4.below h6.1 h4.lt
        have hs46 := h.s.below h6.1 h.s.lt
        refine hK.out _ _ ⟨(h6.1.cell (p := ⟨N + 1 + 1, 0, none⟩) h.s.lt).trans hs1, (h6.1.cell (p := ⟨B3, 0, none⟩) h4.lt).trans hy1, (h6.1.cell (p := ⟨B3, 1, none⟩) h4.lt).trans hy2⟩ (fun hq1 => ?_)
        clear hK K
        (try simp only [Act.put, List.getElem_toArray, List.getElem_cons_succ, List.getElem_cons_zero, List.setIfInBounds_toArray, List.set_cons_zero, List.set_cons_succ])
        have hp6 := (h6.1.cell (p := ⟨N + 1, 0, none⟩) h.p.lt).trans hp1
        refine wpAnyH_ready (rs := [4]) (by kernel_rfl) (by simp) (AllReadyH.cons rfl (fun K hK => ?_) AllReadyH.nil)
        go_simp
        refine hK.out _ _ hq1 (fun hq2 => ?_)
        clear hK K
        (try simp only [Act.put, List.getElem_toArray, List.getElem_cons_succ, List.getElem_cons_zero, List.setIfInBounds_toArray, List.set_cons_zero, List.set_cons_succ])
        refine wpAnyH_ready (rs := [7]) (by kernel_rfl) (by simp) (AllReadyH.cons rfl (fun K hK => ?_) AllReadyH.nil)
        have h26 := h.keep h6.1
        refine step_appS (by rfl) (.tmp 21) (.tmp 23) 40 (by rfl) (Q + 1 + 1) 28 zR 16 Try.underlying40 Try.infoR rfl _ (meetL (vals pre) B ++ vals ys) (by rfl) h26.r (some ⟨Wi.heap.size, 0, none⟩) W6.heap.size 1 1 [(y1, y2)] (by rfl) rfl (h6.2.ro _ h6.2.lt) (by omega) (by omega) h26.le ?_
        intro v4 w4 H4 hg4 hn4
        obtain ⟨n4, HN4⟩ : ∃ n4, Hid ((meetL (vals pre) B ++ vals ys ++ [(y1, y2)]).length = n4) := ⟨_, Lib.hid rfl⟩
        obtain ⟨a4, c4, rfl, -, -, -, -, -⟩ := H4.out.form
        rw [HN4.out] at H4 hn4 ⊢
        have hrow : ∀ g, v'.ownBlock = some g → Q + 1 + 1 ≤ g := fun g hg => (h.r.lt g hg).1
        have b4 := h26.b.grown hg4 (fun e => by have := hrow _ e.symm; omega)
        have s4 := h26.s.grown hg4 (fun e => by have := hrow _ e.symm; omega)
        have p4 := h26.p.grown hg4 (fun e => by have := hrow _ e.symm; omega)
        have y4 := h46.grown hg4 (fun e => hne e.symm)
        have hq4 : w4.cell? ⟨N + 1 + 1, 0, none⟩ = some (.pointer (some ⟨N + 1, 0, none⟩)) ∧ w4.cell? ⟨B3, 0, none⟩ = some (.int .u64 (y1 : Int)) ∧ w4.cell? ⟨B3, 1, none⟩ = some (.int .u64 (y2 : Int)) := ⟨by rw [s4.cell]; rfl, by rw [y4.cell]; rfl, by rw [y4.cell]; rfl⟩
        refine hK.out _ _ hq4 (fun hq3 => ?_)
        clear hK K
        (try simp only [Act.put, List.getElem_toArray, List.getElem_cons_succ, List.getElem_cons_zero, List.setIfInBounds_toArray, List.set_cons_zero, List.set_cons_succ])
        refine wpAnyH_take (i := 8) (v := ?_) rfl (by kernel_rfl) (by kernel_rfl) (by kernel_rfl) (fun _ _ _ h => h) (Or.inl ⟨by kernel_rfl, ?_⟩) hq3 ?_
        rotate_left
        · (intro w hSw; first | (go_simp; done) | (go_simp; with_reducible rfl))
        (try simp only [Act.put, List.getElem_toArray, List.getElem_cons_succ, List.getElem_cons_zero, List.setIfInBounds_toArray, List.set_cons_zero, List.set_cons_succ])
        refine wpAnyH_take (i := 9) (v := ?_) rfl (by kernel_rfl) (by kernel_rfl) (by kernel_rfl) (fun _ _ _ h => h) (Or.inl ⟨by kernel_rfl, ?_⟩) hq3 ?_
        rotate_left
        · (intro w hSw; first | (go_simp; done) | (go_simp; with_reducible rfl))
        (try simp only [Act.put, List.getElem_toArray, List.getElem_cons_succ, List.getElem_cons_zero, List.setIfInBounds_toArray, List.set_cons_zero, List.set_cons_succ])
        refine wpAnyH_ready (rs := [10]) (by kernel_rfl) (by simp) (AllReadyH.cons rfl (fun K hK => ?_) AllReadyH.nil)
        have hpc : w4.cell? ⟨N + 1, 0, none⟩ = some v' := by rw [p4.cell]; rfl
        have hpz : w4.frozen? ⟨N + 1, 0, none⟩ = false := p4.frozen 0
        go_simp
        have hB3N : B3 ≠ N + 1 := by omega
        have hgs := only_set (World.grownBy.refl w4 (some (N + 1))) 0 (Value.slice a4 n4 c4)
        have s5 := s4.far (p := ⟨N + 1, 0, none⟩) (by simp) (Value.slice a4 n4 c4)
        have y5 := y4.far (p := ⟨N + 1, 0, none⟩) hB3N (Value.slice a4 n4 c4)
        refine hK.out _ _ ⟨by rw [s5.cell]; rfl, by rw [y5.cell]; rfl, by rw [y5.cell]; rfl⟩ (fun hq5 => ?_)
        clear hK K
        (try simp only [Act.put, List.getElem_toArray, List.getElem_cons_succ, List.getElem_cons_zero, List.setIfInBounds_toArray, List.set_cons_zero, List.set_cons_succ])
        refine wpAnyH_done (by kernel_rfl) ?_ _
        have hv4 : ∀ g, (Value.slice a4 n4 c4).ownBlock = some g → g < M ∨ M + 1 + 1 ≤ g := fun g hg => by
          rcases hn4 with hn | hn
          · exact k3 g (by rw [← hn]; exact hg)
          · have := hn g hg; have := h6.1.size; exact .inr (by omega)
        have hk46 : KeepsFrom W1.heap.size Wi (w4.setCell ⟨N + 1, 0, none⟩ (Value.slice a4 n4 c4)) := (keepsFrom_below h6.1).trans ((keepsFrom_grown hg4 (fun g hg => by obtain ⟨cs, ho⟩ := h26.r.own_at2 hg; exact ⟨_, cs, ho⟩)).trans ((KeepsOthers.setCell _ _ _).from _))
        have hk06 : KeepsFrom W0.heap.size Wi (w4.setCell ⟨N + 1, 0, none⟩ (Value.slice a4 n4 c4)) := (keepsFrom_below h6.1).trans ((keepsFrom_grown hg4 (fun g hg => by obtain ⟨cs, ho⟩ := h26.r.own_at2 hg; exact ⟨_, cs, ho⟩)).trans ((KeepsOthers.setCell _ _ _).from _))
        have hQ2 := HQ0.out
        have hM2 := HM1.out
        have hle := h.le
        have hsame : ∀ FS : List Nat, (∀ k ∈ FS, k < Wi.heap.size) → (∀ k ∈ FS, k ≠ N + 1 ∧ ∀ g, v'.ownBlock = some g → k ≠ g) → Same FS Wi (w4.setCell ⟨N + 1, 0, none⟩ (Value.slice a4 n4 c4)) := fun FS h1 h2 =>
          (Same.low h6.1 h1).trans ((Same.grown hg4 (fun k hk => Nat.lt_of_lt_of_le (h1 k hk) h6.1.size) (fun k hk e => (h2 k hk).2 k e.symm rfl)).trans (Same.grown hgs (fun k hk => Nat.lt_of_lt_of_le (Nat.lt_of_lt_of_le (h1 k hk) h6.1.size) hg4.size) (fun k hk e => by injection e with e; exact (h2 k hk).1 e)))
        have hS2 : Same (M :: (M + 1) :: FSb) Wi (w4.setCell ⟨N + 1, 0, none⟩ (Value.slice a4 n4 c4)) := hsame _ (fun k hk => by have := HFB2.out k hk; omega) (fun k hk => by
          simp only [List.mem_cons] at hk
          rcases hk with rfl | rfl | hk
          · exact ⟨by omega, fun g hg e => by have := k3 g hg; omega⟩
          · exact ⟨by omega, fun g hg e => by have := k3 g hg; omega⟩
          · have := HFb.out k hk; exact ⟨by omega, fun g hg e => by have := hrow g hg; omega⟩)
        have hS0 : Same (Q :: (Q + 1) :: FSa) Wi (w4.setCell ⟨N + 1, 0, none⟩ (Value.slice a4 n4 c4)) := hsame _ (fun k hk => by have := HFB.out k hk; omega) (fun k hk => by
          simp only [List.mem_cons] at hk
          rcases hk with rfl | rfl | hk
          · exact ⟨by omega, fun g hg e => by have := hrow g hg; omega⟩
          · exact ⟨by omega, fun g hg e => by have := hrow g hg; omega⟩
          · have := HFa.out k hk; exact ⟨by omega, fun g hg e => by have := hrow g hg; omega⟩)
        have ev : vals (ys ++ [(⟨(y1, y2), hy⟩ : GR)]) = vals ys ++ [(y1, y2)] := by simp [vals]
        have h4r := H4.out
        have hv4b : ∀ g, (Value.slice a4 n4 c4).ownBlock = some g → g ≠ N + 1 := fun g hg => by have := (h4r.lt g hg).1; omega
        refine ⟨hk46, hS2, (Value.slice a4 n4 c4), ⟨b4.far (p := ⟨N + 1, 0, none⟩) (by simp) (Value.slice a4 n4 c4), s5, p4.set 0 (Value.slice a4 n4 c4), ?_, ?_, ?_⟩, k1.trans hk06, k2.trans hS0, hv4, ?_⟩
        · rw [ev, ← List.append_assoc]
          refine h4r.kept hgs ?_
          cases hu : (Value.slice a4 n4 c4).ownBlock with
          | none => exact .inl rfl
          | some g => exact .inr (fun e => hv4b g hu (by injection e))
        · exact (h26.low.grown hg4 (by have := h.b.lt; have := h6.1.size; omega) (fun k e => by have := hrow k e; omega)).setCell (p := ⟨N + 1, 0, none⟩) (by simp) (Value.slice a4 n4 c4)
        · rw [set_size]; have := hg4.size; have := h6.1.size; omega
        · rw [set_size]; have := hg4.size; have := h6.1.size; omega
    case idone =>
      rintro ys Wi hS ⟨v', h, k1, k2, k3, k4⟩
      gi_wp2_with fail
      refine ⟨k1, k2, v', ?_⟩
      have e : vals (pre ++ [(⟨(x1, x2), hx⟩ : GR)]) = vals pre ++ [(x1, x2)] := by simp [vals]
      rw [e, meetL_snoc, ← hS]
      exact h
    case istop => exact fun c pre W _ h => h.elim
  case done =>
    rintro D xs W hD hS ⟨v, h⟩ hK
    have hs1 := h.s.cell 0
    simp at hs1
    gi_wp2_with fail
    refine ⟨by simp, .inl ⟨_, _, rfl, run_takeDeferred hK, ?_⟩⟩
    have hx : meetL (vals xs) B = meetL A B := by rw [hS, HW.out]
    rw [hx] at h
    have h2 := h.own (B := N) (grownBy_putObj' W D (.deferred none)) (fun r e => by cases e; exact ⟨by have := HQ0.out; omega, _, hK, rfl⟩) (Nat.le_refl _)
    have hm := meetL_ok HX.out.1 HX.out.2.1
    have hml := meetL_len A B
    have hmm : A.length * B.length ≤ 1000 * 1000 := Nat.mul_le_mul hla hlb
    have hr := h2.r.base (base' := 0) (Nat.zero_le _)
    refine ⟨_, results_tmp rfl _ _ _, N + 1, v, rfl, ⟨⟨h2.p, hr, hm.1, ?_, by omega⟩, by rw [HN.out]; omega, fun g hg => ?_⟩, by rw [HN.out]; exact h2.low⟩
    · exact bound_of_mem hm.1 (fun n hn => by rw [hm.2, Bool.and_eq_true] at hn; exact hn.1) HX.out.2.2.1
    · have := (h2.r.lt g hg).1
      rw [HN.out]; omega
  case stop => exact fun D c pre W _ _ h _ => h.elim
end Go.Proofs.Ytoadbkiklabceaa
