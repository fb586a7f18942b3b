/-
  Laws for the body of a range over a function: operations and regions in a round, by the walk outside of rounds. No claim of their own.
-/
import Derived.Test.YtihbinphmlgjoaaGreatGa12
import Derived.OrdersIn
import Derived.OrdersHeld
namespace Go.Proofs.YtihbinphmlgjoaaGreat
open Go.RowKit Go.Shelf Go.Deep
set_option linter.unusedVariables false
set_option linter.unusedSimpArgs false
attribute [local go_sem] Oper.semAt_some

section
variable {P : Program}
/-- an operation in a round, where nothing is deferred -/
theorem roundWp {l n : Nat} {o : Oper} {a : Act} {w : World} {K K' : Act → World → Prop} {Q : Exit → Act → World → Prop} (hd : ∀ c, o.op ≠ .defer c) (hK : ∀ a w, K a w → K' a w) (h : o.wp P a w K Q) : o.wpIn (Fence.wide.inRound l) n P a w K' Q := by
  refine ⟨fun _ _ => trivial, ?_⟩
  rw [Oper.semAt_eq _ _ _ hd]
  unfold Oper.wp at h
  generalize (execOp a.eval o).run P w = r at *
  cases r with
  | ok x w' =>
    cases x <;> simp only [Oper.upon] at h <;> simp only [Oper.uponIn]
    case value => exact hK _ _ h
    case skip => exact hK _ _ h
    case defer => exact hK _ _ h
    case enter f args =>
      refine ⟨(fun e => by cases e), CallsIn.inRound l (callsIn_wide.2 (h.mono fun e w'' he => ?_))⟩
      cases e <;> first | exact hK _ _ he | exact he
    case row row args =>
      refine ⟨(fun e => by cases e), fun c cs _ => ?_⟩
      obtain ⟨v, w'', hv, hs⟩ := h c cs
      exact ⟨v, w'', hK _ _ hv, stepsIn_wide.2 hs⟩
  | halt x w' => cases x <;> simp only [Oper.upon] at h <;> first | exact h | exact h.elim
/-- one operation of a region in a round that draws its order: by the walk outside of rounds, where nothing in it is deferred and the caller's word lets nothing out -/
theorem roundOp {l n : Nat} {ops : Array Oper} {Q : Exit → Act → World → Prop} {K K' : Act → World → Prop} {i : Nat} {a : Act} {w : World} (hout : ¬ LetsOut Q) (hd : ∀ (i : Nat) (o : Oper), ops[i]? = some o → ∀ c, o.op ≠ .defer c)
    (hK : ∀ a w, K a w → K' a w) (h : wpOp P ops Q i K a w) : wpOpIn (Fence.wide.inRound l) n P ops Q i K' a w := by
  unfold wpOp at h
  unfold wpOpIn
  cases ho : ops[i]? with
  | none => simp only [ho] at h; exact hK _ _ h
  | some o =>
    simp only [ho] at h
    dsimp only
    split
    · rename_i hw
      simp only [hw, if_true] at h
      exact roundWp (hd i o ho) hK (h.resolve_right (fun x => hout x.2))
    · rename_i hw
      simp only [hw, if_false, Bool.false_eq_true] at h
      exact ⟨fun _ _ => trivial, hK _ _ h⟩
theorem roundAny {l n : Nat} {ops : Array Oper} {Q : Exit → Act → World → Prop} {md : Region.Mode} (hout : ¬ LetsOut Q) (hd : ∀ (i : Nat) (o : Oper), ops[i]? = some o → ∀ c, o.op ≠ .defer c) :
    ∀ (fuel : Nat) (listed : Array Bool) (a : Act) (w : World), wpAny P md ops Q fuel listed a w → wpAnyIn (Fence.wide.inRound l) n P md ops Q fuel listed a w
  | 0, _, _, _, h => h
  | fuel + 1, _, _, _, h => ⟨h.1, fun i hi => roundOp hout hd (fun a w => roundAny hout hd fuel _ a w) (h.2 i hi)⟩
/-- no operation is deferred -/
def noDefer (ops : Array Oper) : Bool := ops.all fun o => match o.op with | .defer _ => false | _ => true
theorem noDefer_spec {ops : Array Oper} (h : noDefer ops = true) : ∀ (i : Nat) (o : Oper), ops[i]? = some o → ∀ c, o.op ≠ .defer c := by
  intro i o ho c e
  unfold noDefer at h
  rw [Array.all_eq_true] at h
  obtain ⟨hi, he⟩ := Array.getElem?_eq_some_iff.1 ho
  have := h i hi
  rw [he, e] at this
  simp at this
/-- a region that draws, in a round: by the walk that holds S -/
theorem round_region {l n id : Nat} {ops : Array Oper} {Q : Exit → Act → World → Prop} {a : Act} {w : World} (S : World → Prop) (hm : P.follows .mixedOrders = true) (hout : ¬ LetsOut Q) (hd : noDefer ops = true)
    (h : wpAnyH P .any ops Q S ops.size (Array.replicate ops.size false) a w.drew) : (Code.region id ops true).wpIn (Fence.wide.inRound l) n P Q a w :=
  wpIn_region_any hm (roundAny hout (noDefer_spec hd) _ _ _ _ (wpAny_of_held _ _ _ _ h))
/-- an operation of a list in a round -/
theorem round_one {l n : Nat} {ops : Array Oper} {Q : Exit → Act → World → Prop} {rest : List Oper} {o : Oper} {a : Act} {w : World} (hgd : o.guard = none) (hd : ∀ c, o.op ≠ .defer c)
    (h : ∀ K : Act → World → Prop, (∀ a w, wpListIn (Fence.wide.inRound l) n P ops Q rest a w → K a w) → o.wp P a w K Q) : wpListIn (Fence.wide.inRound l) n P ops Q (o :: rest) a w :=
  wpListIn_plain hgd fun K hK => roundWp hd (fun _ _ h => h) (h K hK)
end
section
variable {l n : Nat} {w : World} {ops : Array Oper} {rest : List Oper} {o : Oper} {a : Act} {Q : Exit → Act → World → Prop}
theorem round_alloc37 (ho : o.op = .alloc 53) (hgd : o.guard = none)
    (h : wpListIn (Fence.wide.inRound l) n Tryz.prog ops Q rest (a.put o.dst (.pointer (some ⟨w.heap.size, 0, none⟩))) (w.alloc (.cells (u8s zsec).toArray 53))) : wpListIn (Fence.wide.inRound l) n Tryz.prog ops Q (o :: rest) a w :=
  round_one hgd (by rw [ho]; intro c e; cases e) fun K hK => by
    unfold Oper.wp execOp
    simp only [ho, Sem.run_bind]
    simp [Instr.alloc, zero37 w, newVar, newRow, sv, Value.cells]
    exact hK _ _ h
theorem round_laid {W : World} (x y : Operand) (ho : o.op = .store 53 x y) (hgd : o.guard = none) (S : Sec) (hW : W = w.alloc (.cells (u8s zsec).toArray 53)) (hx : a.eval x = .pointer (some ⟨w.heap.size, 0, none⟩)) (hy : a.eval y = sv S) (hS : S.length = 64)
    (h : ∀ w', w'.rangeAt w.heap.size 0 (u8s S) → Chg [] w w' → wpListIn (Fence.wide.inRound l) n Tryz.prog ops Q rest (a.put o.dst undef) w') : wpListIn (Fence.wide.inRound l) n Tryz.prog ops Q (o :: rest) a W := by
  subst hW
  refine round_one hgd (by rw [ho]; intro c e; cases e) fun K hK => ?_
  refine wp_store_mid _ x y ho w.heap.size 0 (u8s S).toArray hx hy (by simpa [hS] using there_box w zsec 53 zsec_len) (by simpa [hS] using info37) (all_oneCell_toArray (u8s_one S)) (hK _ _ (h _ ?_ ?_))
  · simpa using World.rangeAt_setCells_same _ _ _ _ (by rw [u8s_length, hS]; exact there_box w zsec _ zsec_len)
  · simpa using ((Chg.refl [] w).alloc _).setCells (Or.inr (Nat.le_refl _)) _ _
end
/-- a walk that does not panic -/
def NoPanic (Q : Exit → Act → World → Prop) : Exit → Act → World → Prop
  | .panic _, _, _ => False
  | e, a, w => Q e a w
theorem wp_noPanic {P : Program} {c : Code} {Q : Exit → Act → World → Prop} {a : Act} {w : World} (h : c.wp P (NoPanic Q) a w) : c.wp P Q a w :=
  Code.wp_mono (fun e a w h => by cases e <;> first | exact h | exact h.elim) h
/-- a world is told by what it has -/
theorem gen_w2 {M : Act → World → Prop} {A : Act} {X : World} (P : World → Prop) (hP : P X) (h : ∀ W, P W → M A W) : M A X := h X hP
theorem wpList_laid {w W : World} {ops : Array Oper} {rest : List Oper} {o : Oper} {a : Act} {Q : Exit → Act → World → Prop} (hgd : o.guard = none) (x y : Operand) (ho : o.op = .store 53 x y) (S : Sec) (hW : W = w.alloc (.cells (u8s zsec).toArray 53)) (hx : a.eval x = .pointer (some ⟨w.heap.size, 0, none⟩)) (hy : a.eval y = sv S) (hS : S.length = 64)
    (h : ∀ w', w'.rangeAt w.heap.size 0 (u8s S) → Chg [] w w' → wpList Tryz.prog ops Q rest (a.put o.dst undef) w') : wpList Tryz.prog ops Q (o :: rest) a W := by
  subst hW
  refine wpList_store37 hgd x y ho w.heap.size 0 S hx hy (there_box w zsec _ zsec_len) hS (h _ ?_ ?_)
  · exact World.rangeAt_setCells_same _ _ _ _ (by rw [u8s_length, hS]; exact there_box w zsec _ zsec_len)
  · exact ((Chg.refl [] w).alloc _).setCells (Or.inr (Nat.le_refl _)) _ _
theorem step_appK {P : Program} {w : World} {ops : Array Oper} {o : Oper} {a : Act} {K : Act → World → Prop} {Q : Exit → Act → World → Prop} {E : Prop} (hgd : o.guard = none) (s x : Operand) (t : TypeId)
    (ho : o.op = .call { callee := .builtin .append, args := #[s, x], argTypes := #[t, t] })
    (e : TypeId) (z : Value) (bytes : Nat) (ht : P.underlying t = some (.slice e)) (hinfo : (P.info? e).map (fun i => (i.zero, i.size, i.bytes)) = some (some z, 1, bytes)) (hzs : z.cells.size = 1)
    (v : Value) (xs : List Value) (hs : a.eval s = v) (hown : Lst w 0 e v xs)
    (A : Option Addr) (B m c : Nat) (news : List Value) (hx : a.eval x = .slice A m c) (hm : news.length = m) (hro : Ro w B A news) (h1 : ∀ u ∈ news, u.oneCell' = true)
    (hlen : (xs.length + m) * bytes ≤ 140737488355328) (hlen2 : xs.length + m ≤ 140737488355328)
    (h : ∀ v' w', Hid (AppK w w' e v v' xs news) → K (a.put o.dst v') w') :
    if Region.wanted o (yielded ops a.tmps) = true then Oper.wp P o a w K Q else E := by
  have hw : Region.wanted o (yielded ops a.tmps) = true := by simp [Region.wanted, hgd]
  rw [if_pos hw]
  exact wp_appK s x t ho e z bytes ht hinfo hzs v xs hs hown A B m c news hx hm hro h1 hlen hlen2 h
end Go.Proofs.YtihbinphmlgjoaaGreat
namespace Go.Proofs.YtihbinphmlgjoaaGreat
open Go.RowKit Go.Shelf Go.Deep
set_option linter.unusedVariables false
set_option linter.unusedSimpArgs false
attribute [local go_sem] Oper.semAt_some

theorem lst_kept {A B : World} {row : Option Nat} {base : Nat} {t : TypeId} {v : Value} {xs : List Value} (h : Lst A base t v xs) (hg : A.grownBy B row) (hr : ∀ r, row = some r → ∃ o : Obj, A.heap[r]? = some o ∧ o.isCells = false) : Lst B base t v xs := by
  refine h.kept hg ?_
  by_cases hv : v.ownBlock = none
  · exact .inl hv
  · refine .inr fun e => ?_
    obtain ⟨g, hgv⟩ := Option.ne_none_iff_exists'.1 hv
    obtain ⟨o, ho, hc⟩ := hr g (by rw [← e, hgv])
    rcases h.2 with ⟨rfl, _⟩ | ⟨g1, c1, r1, rfl, _, h1, _⟩
    · simp [Value.ownBlock] at hgv
    · simp only [Value.ownBlock, Option.some.injEq] at hgv
      subst hgv
      rw [h1] at ho
      cases ho
      cases hc
theorem chg_row {w X Y : World} {row : Option Nat} {B : Nat} (hb : Chg [] w X) (hg : X.grownBy Y row) (hr : ∀ r, row = some r → B ≤ r ∧ ∃ o : Obj, X.heap[r]? = some o ∧ o.isCells = false) (hB : w.heap.size ≤ B) : Chg [] w Y :=
  hb.grown hg fun k e => .inr (Nat.le_trans hB (hr k e).1)
theorem same_chg {FS l : List Nat} {a b : World} (h : Chg l a b) (hF : ∀ k ∈ FS, k < a.heap.size ∧ k ∉ l) : Same FS a b := ⟨h.size, fun k hk => h.block k (hF k hk).1 (hF k hk).2⟩
theorem keepsFrom_chg {B : Nat} {l : List Nat} {W W' : World} (h : Chg l W W') (hl : ∀ k ∈ l, k < W.heap.size → ∃ c t m, W.heap[k]? = some (.cells c t m)) : KeepsFrom B W W' :=
  ⟨h.size, fun k o hk h0 ho => by
    refine (h.block k (Array.getElem?_eq_some_iff.1 h0).1 (fun hm => ?_)).trans h0
    obtain ⟨c, t, mm, hc⟩ := hl k hm (Array.getElem?_eq_some_iff.1 h0).1
    rw [h0] at hc
    cases hc
    cases ho⟩
/-- sectors of a list, as bytes -/
def catP (R : Nat → Sec) (f : Nat) (ks : List Nat) : List UInt8 := ks.flatMap fun k => R (f + k)
theorem catP_snoc (R : Nat → Sec) (f : Nat) (ks : List Nat) (k : Nat) : catP R f (ks ++ [k]) = catP R f ks ++ R (f + k) := by simp [catP]
theorem catP_len {R : Nat → Sec} (hR : ∀ i, (R i).length = 64) (f : Nat) (ks : List Nat) : (catP R f ks).length = ks.length * 64 := by
  induction ks with
  | nil => rfl
  | cons k ks ih =>
    have e : catP R f (k :: ks) = R (f + k) ++ catP R f ks := rfl
    rw [e, List.length_append, ih, hR, List.length_cons]; omega
theorem catP_range (R : Nat → Sec) (f : Nat) : ∀ n, catP R f (List.range' 0 n) = cat R f n
  | 0 => rfl
  | n + 1 => by rw [range_snoc, catP_snoc, catP_range R f n, Nat.zero_add]; rfl
/-- reading under way -/
structure RdAt (w W : World) (b0 b1 b2 b3 top q : Nat) (R : Nat → Sec) (f : Nat) (ks : List Nat) : Prop where
  o0 : Own W b0 83 [.pointer (some ⟨q, 0, none⟩)]
  o1 : Own W b1 44 [.slice none 0 0]
  o2 : Own W b2 25 [.int .i64 0]
  o3 : ∃ v, Own W b3 44 [v] ∧ Lst W 0 5 v (u8s (catP R f ks)) ∧ ∀ g ∈ bl v, top ≤ g
  chg : Chg [] w W
  size : top ≤ W.heap.size
theorem RdAt.kept {w X Y : World} {b0 b1 b2 b3 top q : Nat} {R : Nat → Sec} {f : Nat} {ks : List Nat} {row : Option Nat} (h : RdAt w X b0 b1 b2 b3 top q R f ks) (ht : w.heap.size ≤ top) (hg : X.grownBy Y row) (hr : ∀ r, row = some r → top ≤ r ∧ ∃ o : Obj, X.heap[r]? = some o ∧ o.isCells = false) : RdAt w Y b0 b1 b2 b3 top q R f ks := by
  obtain ⟨v, h3, h4, h5⟩ := h.o3
  have hr2 := fun r e => (hr r e).2
  exact ⟨own_kept h.o0 hg hr2, own_kept h.o1 hg hr2, own_kept h.o2 hg hr2, ⟨v, own_kept h3 hg hr2, lst_kept h4 hg hr2, h5⟩, chg_row h.chg hg hr ht, Nat.le_trans h.size hg.size⟩
theorem RdAt.more {w X Y : World} {b0 b1 b2 b3 top q : Nat} {R : Nat → Sec} {f : Nat} {ks : List Nat} (h : RdAt w X b0 b1 b2 b3 top q R f ks) (hc : Chg [] X Y) : RdAt w Y b0 b1 b2 b3 top q R f ks := by
  obtain ⟨v, h3, h4, h5⟩ := h.o3
  exact ⟨h.o0.chg hc (by simp), h.o1.chg hc (by simp), h.o2.chg hc (by simp), ⟨v, h3.chg hc (by simp), h4.kept0 hc, h5⟩, h.chg.trans hc, Nat.le_trans h.size hc.size⟩
theorem bl_cut (a : Option Addr) (N k c : Nat) : bl (.slice a k c) = bl (.slice a N c) := by cases a <;> rfl
theorem Lst.cut {w : World} {base : Nat} {e : TypeId} {a : Option Addr} {N c k : Nat} {xs : List Value} (h : Lst w base e (.slice a N c) xs) (hk : k ≤ N) (hN : xs.length = N) : Lst w base e (.slice a k c) (xs.take k) := by
  have hl : (xs.take k).length = k := by rw [List.length_take]; omega
  unfold Lst at *
  rw [hl]
  rw [hN] at h
  refine ⟨by rw [hl]; omega, ?_⟩
  rcases h.2 with ⟨h0, h1⟩ | ⟨g, cap, cur, h0, hb, hg, hnc, hcm, hcs, htake⟩
  · injection h0 with h2 h3 h4
    subst h2 h3 h4
    obtain rfl : k = 0 := by omega
    exact .inl ⟨rfl, rfl⟩
  · injection h0 with h2 h3 h4
    subst h2 h4
    refine .inr ⟨g, c, cur, rfl, hb, hg, by omega, hcm, hcs, ?_⟩
    rw [← htake, List.take_take]
    congr 1
    omega
/-- what read tells -/
def ReadT (w : World) (bs : List UInt8) (e : Ending) (w' : World) : Prop :=
  ∃ a c, e = .returned (.tuple #[.slice a bs.length c, .int .i64 0]) ∧ Lst w' 0 5 (.slice a bs.length c) (u8s bs) ∧ (∀ g ∈ bl (.slice a bs.length c), w.heap.size ≤ g) ∧ Chg [] w w'
set_option maxRecDepth 100000 in
set_option maxHeartbeats 2000000 in
theorem read_tape (w : World) {q p g b n : Nat} {F : Nat → Sec} {m : Nat → Option Sec} (hq : w.cell? ⟨q, 0, none⟩ = some (.pointer (some ⟨p, 0, none⟩))) (hd : Dsk w p g b n F m) (h k : Nat) (hh : h ≤ 1) (hk : k ≤ hsec n * 64) :
    Calls Tryz.prog 62 #[.pointer (some ⟨q, 0, none⟩), .int .i64 (h : Int), .int .i64 (k : Int)] w (ReadT w ((cat (now F m) (1 + h * hsec n) (ceilS k)).take k)) := by
  have hn := hd.top
  have hs : hsec n ≤ 512 := by unfold hsec; omega
  have hs2 : hsec n * 64 ≤ 1000000 := by omega
  have HQ := Lib.hid hq
  have HD := Lib.hid hd
  clear hq hd
  refine (callsIn_wide (n := 5)).1 ?_
  refine callsIn_of_wp_marks Tryz.func62 rfl trivial ?_ rfl
  simp only [Tryz.ntmps62, List.size_toArray, List.length_cons, List.length_nil, Nat.reduceAdd, Nat.reduceSub, Array.replicate_succ, Array.replicate_zero, List.push_toArray, List.append_toArray, List.nil_append, List.cons_append]
  obtain ⟨W4, HW4⟩ : ∃ W4, Hid (((((w.alloc (.cells #[.pointer (some ⟨q, 0, none⟩)] 83)).alloc (.cells #[.slice none 0 0] 44)).alloc (.cells #[.int .i64 0] 25)).alloc (.cells #[.slice none 0 0] 44)) = W4) := ⟨_, Lib.hid rfl⟩
  have hC4 : Chg [] w W4 := by rw [← HW4.out]; exact ((((Chg.refl [] w).alloc _).alloc _).alloc _).alloc _
  have hs4 : W4.heap.size = w.heap.size + 4 := by rw [← HW4.out]; simp
  have ho0 : Own W4 w.heap.size 83 [.pointer (some ⟨q, 0, none⟩)] := by
    rw [← HW4.out]; exact (((Own.new w 83 [.pointer (some ⟨q, 0, none⟩)]).alloc _).alloc _).alloc _
  have ho1 : Own W4 (w.heap.size + 1) 44 [.slice none 0 0] := by
    rw [← HW4.out]
    have := ((Own.new (w.alloc (.cells #[.pointer (some ⟨q, 0, none⟩)] 83)) 44 [.slice none 0 0]).alloc (.cells #[.int .i64 0] 25)).alloc (.cells #[.slice none 0 0] 44)
    rwa [World.size_alloc] at this
  have ho2 : Own W4 (w.heap.size + 1 + 1) 25 [.int .i64 0] := by
    rw [← HW4.out]
    have := (Own.new ((w.alloc (.cells #[.pointer (some ⟨q, 0, none⟩)] 83)).alloc (.cells #[.slice none 0 0] 44)) 25 [.int .i64 0]).alloc (.cells #[.slice none 0 0] 44)
    rwa [World.size_alloc, World.size_alloc] at this
  have ho3 : Own W4 (w.heap.size + 1 + 1 + 1) 44 [.slice none 0 0] := by
    rw [← HW4.out]
    have := Own.new (((w.alloc (.cells #[.pointer (some ⟨q, 0, none⟩)] 83)).alloc (.cells #[.slice none 0 0] 44)).alloc (.cells #[.int .i64 0] 25)) 44 [.slice none 0 0]
    rwa [World.size_alloc, World.size_alloc, World.size_alloc] at this
  have HSE := Lib.hid (sectors_any W4 (hC4.cell HQ.out (by simp)) (HD.out.kept hC4) h 0 k hh (by omega) (by omega))
  obtain ⟨f, HF⟩ : ∃ f, Hid (1 + h * hsec n = f) := ⟨_, Lib.hid rfl⟩
  have hf2 : f ≤ 2000 := by
    rw [← HF.out]
    have : h * hsec n ≤ 1 * 512 := Nat.mul_le_mul hh hs
    omega
  rw [HF.out] at HSE ⊢
  have HS4 := Lib.hid hs4
  have HC4 := Lib.hid hC4
  have H0 := Lib.hid (And.intro ho0 (And.intro ho1 (And.intro ho2 ho3)))
  clear hC4 hs4 ho0 ho1 ho2 ho3
  gi_wp2_with fail
  simp only [HW4.out]
  refine ⟨trivial, ?_⟩
  refine (callsIn_wide.2 HSE.out).mono ?_
  rintro e w1 ⟨rfl, hw1⟩
  unfold sectorsV
  have hs1 : w1.heap.size = W4.heap.size + 3 := by rw [hw1]; simp [sectorsW]
  have hC1 : Chg [] W4 w1 := by rw [hw1]; exact (((Chg.refl [] W4).alloc _).alloc _).alloc _
  have hb0 : Own w1 W4.heap.size 3 [.int .i64 ((0 : Nat) : Int)] := by
    rw [hw1]; exact ((Own.new W4 3 [.int .i64 ((0 : Nat) : Int)]).alloc _).alloc _
  have hb1 : Own w1 (W4.heap.size + 1) 3 [.int .i64 (k : Int)] := by
    rw [hw1]; have := (Own.new (W4.alloc (.cells #[.int .i64 ((0 : Nat) : Int)] 3)) 3 [.int .i64 (k : Int)]).alloc (.cells #[.int .i64 (f : Int)] 3); rwa [World.size_alloc] at this
  have hb2 : Own w1 (W4.heap.size + 2) 3 [.int .i64 (f : Int)] := by
    rw [hw1]; have := Own.new ((W4.alloc (.cells #[.int .i64 ((0 : Nat) : Int)] 3)).alloc (.cells #[.int .i64 (k : Int)] 3)) 3 [.int .i64 (f : Int)]; rwa [World.size_alloc, World.size_alloc] at this
  have hseq := sect_stops 4 W4.heap.size (W4.heap.size + 1) (W4.heap.size + 2) f 0 k w1 hb0 hb1 hb2 (by omega) (by omega) (by omega) (Same [W4.heap.size, W4.heap.size + 1, W4.heap.size + 2]) (fun _ _ h => h)
  have hFB : ∀ x ∈ [W4.heap.size, W4.heap.size + 1, W4.heap.size + 2], x < w1.heap.size ∧ w.heap.size + 4 ≤ x := by
    intro x hx
    have := HS4.out
    simp only [List.mem_cons, List.not_mem_nil, or_false] at hx
    omega
  have hR0 : RdAt w w1 w.heap.size (w.heap.size + 1) (w.heap.size + 1 + 1) (w.heap.size + 1 + 1 + 1) w1.heap.size q (now F m) f [] :=
    ⟨H0.out.1.chg hC1 (by simp), H0.out.2.1.chg hC1 (by simp), H0.out.2.2.1.chg hC1 (by simp), ⟨_, H0.out.2.2.2.chg hC1 (by simp), Lst.nil _ _ _, by intro g hg; simp [mem_bl, Value.ownBlock] at hg⟩, HC4.out.trans hC1, Nat.le_refl _⟩
  have HSEQ := Lib.hid hseq
  have HFB := Lib.hid hFB
  have HS1 := Lib.hid hs1
  have HR0 := Lib.hid hR0
  have HB1 := Lib.hid (HC4.out.trans hC1).size
  clear hseq hFB hs1 hw1 hR0 hb0 hb1 hb2 hC1
  gi_wp2_with fail
  refine wpIn_rangeFunc_ownH rfl (by omega) (gf := 149) (lb := #[.pointer (some ⟨W4.heap.size, 0, none⟩), .pointer (some ⟨W4.heap.size + 1, 0, none⟩), .pointer (some ⟨W4.heap.size + 2, 0, none⟩)]) rfl trivial (enters_of Tryz.func149 (by kernel_rfl) rfl) HSEQ.out
    (fun h k => h.trans k) (same_put (fun x hx => (HFB.out x hx).1)) (Below.refl _ _) (fun _ => rfl)
    (fun xs W => RdAt w W w.heap.size (w.heap.size + 1) (w.heap.size + 1 + 1) (w.heap.size + 1 + 1 + 1) w1.heap.size q (now F m) f (valS xs)) (fun _ _ _ => False) ?hI ?hIx ?h0
    (fun x a' W => a' = { tmps := #[.pointer (some ⟨q, 0, none⟩), .int .i64 (h : Int), .int .i64 (k : Int), .pointer (some ⟨w.heap.size, 0, none⟩), undef, undef, .pointer (some ⟨w.heap.size + 1, 0, none⟩), .pointer (some ⟨w.heap.size + 1 + 1, 0, none⟩), .pointer (some ⟨w.heap.size + 1 + 1 + 1, 0, none⟩), .int .i64 ((f : Int) + (x.1 : Int)), undef, undef, .pointer (some ⟨q, 0, none⟩), .int .i64 (h : Int), .int .i64 (k : Int), .func (.func 149) #[] #[.pointer (some ⟨W4.heap.size, 0, none⟩), .pointer (some ⟨W4.heap.size + 1, 0, none⟩), .pointer (some ⟨W4.heap.size + 2, 0, none⟩)], .int .i64 ((f : Int) + (x.1 : Int)), .int .i64 ((x.1 : Int) * 64), undef, undef, undef, undef, undef, undef, undef, undef, undef, undef, undef, undef, undef, undef, undef, undef, undef, undef], defers := [] }) ?hAx ?assign ?body ?done ?stop
  case hI =>
    rintro xs X Y row h1 hg hr
    exact h1.kept HB1.out hg hr
  case hIx => exact fun _ _ _ _ _ h _ _ => h.elim
  case h0 => exact HR0.out
  case hAx => exact fun x a' => ownFrom_pure _ _
  case assign =>
    rintro l pre x W K h1 hK
    unfold encS
    have HK := Lib.hid hK
    clear hK
    gi_wp2_with fail
    exact HK.out _ _ (keepsFrom_below (Below.refl _ _)) (Same.refl _ _) h1 rfl
  case body =>
    rintro l pre x a' W hl hlr h1 rfl hlt
    obtain ⟨v, h3, h4, h5⟩ := h1.o3
    obtain ⟨a, c, rfl, -, -, -⟩ := h4.form
    rw [u8s_length] at h3 h4 h5
    have hlenR : ∀ i, (now F m i).length = 64 := HD.out.lenN
    have hbl : (catP (now F m) f (valS pre)).length ≤ 100000 := by
      rw [catP_len hlenR]
      have h6 : secN 0 k ≤ 1000 := by unfold secN; omega
      have h7 : (valS pre).length = pre.length := by simp [valS]
      omega
    obtain ⟨N, HN⟩ : ∃ N, Hid ((catP (now F m) f (valS pre)).length = N) := ⟨_, Lib.hid rfl⟩
    rw [HN.out] at h3 h4 h5 hbl
    have hx := x.2
    have hxn : f + x.1 < n := by
      rw [← HF.out]
      unfold ceilS at hx
      have h6 : x.1 < hsec n := by omega
      have h7 : h * hsec n ≤ 1 * hsec n := Nat.mul_le_mul hh (Nat.le_refl _)
      have h8 := HD.out.one
      unfold hsec at *
      omega
    have hdW := HD.out.kept h1.chg
    have hrd := read_ok W hdW (f + x.1) hxn
    rw [show ((f + x.1 : Nat) : Int) = (f : Int) + (x.1 : Int) by omega] at hrd
    obtain ⟨S, HSS⟩ : ∃ S, Hid (now F m (f + x.1) = S) := ⟨_, Lib.hid rfl⟩
    have hS64 : S.length = 64 := by rw [← HSS.out]; exact hlenR _
    rw [HSS.out] at hrd
    have HRD := Lib.hid hrd
    have HH1 := Lib.hid h1
    have H3 := Lib.hid h3
    have H4 := Lib.hid h4
    have H5 := Lib.hid h5
    have HPO := Lib.hid (show catP (now F m) f (valS (pre ++ [x])) = catP (now F m) f (valS pre) ++ S by rw [valS_snoc, catP_snoc, HSS.out])
    have c0 := h1.o0.cell 0
    have cq := h1.chg.cell HQ.out (by simp)
    simp at c0
    have hmx : Tryz.prog.follows .mixedOrders = true := by kernel_rfl
    clear hrd h1 h3 h4 h5 hdW hlenR hx
    gi_wp2_with fail
    refine ⟨trivial, ?_⟩
    refine (CallsIn.inRound l (callsIn_wide.2 HRD.out)).mono ?_
    rintro e w2 ⟨rfl, hc2⟩
    gi_wp2_with (first
      | (refine round_alloc37 rfl rfl ?_)
      | (refine round_laid _ _ rfl rfl S rfl rfl rfl hS64 ?_; intro w3 hr3 hc3)
      | fail)
    have hc03 : Chg [] W w3 := hc2.trans hc3
    have hW3 := HH1.out.more hc03
    have h33 := H3.out.chg hc03 (by simp)
    have h43 := H4.out.kept0 hc03
    have hb3 := h33.cell 0
    simp at hb3
    have hlt3 : w2.heap.size < w3.heap.size := by
      obtain ⟨u, hu⟩ := List.exists_mem_of_length_pos (show 0 < (u8s S).length by rw [u8s_length]; omega)
      obtain ⟨i, hi, he⟩ := List.getElem_of_mem hu
      exact World.block_lt_of_cell? _ _ (hr3 i _ (List.getElem?_eq_getElem hi))
    have hroS : Ro w3.drew w3.heap.size (some ⟨w2.heap.size, 0, none⟩) (u8s S) := .inr ⟨w2.heap.size, 0, rfl, hlt3, fun i hi => by
      have := hr3 i _ (List.getElem?_eq_getElem hi)
      rw [List.getD_eq_getElem?_getD, List.getElem?_eq_getElem hi]
      exact this⟩
    have hne : w.heap.size + 1 + 1 + 1 ∉ bl (.slice a N c) := fun hx => by
      have h6 := H5.out _ hx
      have h7 := HS1.out
      have h8 := HS4.out
      omega
    have HW3 := Lib.hid hW3
    have HX := Lib.hid (And.intro h33 (And.intro h43 (And.intro hroS hne)))
    have HC3 := Lib.hid hc03
    clear hr3 hc2 hc3 hW3 h33 h43 hroS hne hc03 c0 cq
    refine round_region (l := l) (fun _ => True) hmx ?_ (by kernel_rfl) ?_
    · rintro ⟨_, _, hh⟩; exact hh
    have hHeld : True := trivial
    refine wpAnyH_take (i := 1) (v := ?_) rfl (by kernel_rfl) (by kernel_rfl) (by kernel_rfl) (fun _ _ _ h => h) (Or.inl ⟨by kernel_rfl, ?_⟩) hHeld ?_
    rotate_left
    · (intro w hSw; first | (go_simp; done) | (go_simp; with_reducible rfl))
    (try simp only [Act.put, List.getElem_toArray, List.getElem_cons_succ, List.getElem_cons_zero, List.setIfInBounds_toArray, List.set_cons_zero, List.set_cons_succ])
    refine wpAnyH_ready (rs := [0]) (by kernel_rfl) (by simp) (AllReadyH.cons rfl (fun K hK => ?_) AllReadyH.nil)
    have hH := hHeld
    (go_simp; skip)
    refine hK.out _ _ (by exact trivial) (fun hHq1 => ?_)
    clear hK K hH 
    (try simp only [Act.put, List.getElem_toArray, List.getElem_cons_succ, List.getElem_cons_zero, List.setIfInBounds_toArray, List.set_cons_zero, List.set_cons_succ])
    refine wpAnyH_ready (rs := [2]) (by kernel_rfl) (by simp) (AllReadyH.cons rfl (fun K hK => ?_) AllReadyH.nil)
    have hH := hHq1
    (refine step_appK (by rfl) (.tmp 30) (.tmp 31) 44 (by rfl) 5 (.int .u8 0) 1 Tryz.underlying44 infoU8 rfl (.slice a N c) (u8s (catP (now F m) f (valS pre))) (by rfl) (show Lst w3.drew 0 5 (.slice a N c) (u8s (catP (now F m) f (valS pre))) from HX.out.2.1) (some ⟨w2.heap.size, 0, none⟩) w3.heap.size 64 64 (u8s S) (by rfl) (by rw [u8s_length, hS64]) HX.out.2.2.1 (u8s_one S) (by rw [u8s_length, HN.out]; omega) (by rw [u8s_length, HN.out]; omega) ?_; intro v5 w5 K5)
    refine hK.out _ _ (by exact trivial) (fun hHq2 => ?_)
    clear hK K hH hHq1
    (obtain ⟨a5, n5, c5, rfl⟩ := K5.out.lst.shape; have ho5 := Own.chg (a := w3.drew) HX.out.1 K5.out.chg HX.out.2.2.2; have hb5 := ho5.cell 0; have hf5 := ho5.frozen 0; simp at hb5)
    (try simp only [Act.put, List.getElem_toArray, List.getElem_cons_succ, List.getElem_cons_zero, List.setIfInBounds_toArray, List.set_cons_zero, List.set_cons_succ])
    refine wpAnyH_ready (rs := [3]) (by kernel_rfl) (by simp) (AllReadyH.cons rfl (fun K hK => ?_) AllReadyH.nil)
    have hH := hHq2
    (go_simp; skip)
    refine hK.out _ _ (by exact trivial) (fun hHq3 => ?_)
    clear hK K hH hHq2
    (try simp only [Act.put, List.getElem_toArray, List.getElem_cons_succ, List.getElem_cons_zero, List.setIfInBounds_toArray, List.set_cons_zero, List.set_cons_succ])
    refine wpAnyH_done (by kernel_rfl) ?_ _
    have hEnd := hHq3
    have hC5 : Chg (bl (.slice a N c)) W w5 := ((HC3.out.drew).mono (by simp)).trans K5.out.chg
    have hCW : Chg (bl (.slice a N c) ++ [w.heap.size + 1 + 1 + 1]) W (w5.setCell ⟨w.heap.size + 1 + 1 + 1, 0, none⟩ (.slice a5 n5 c5)) := (hC5.mono (fun x hx => .inl (by simp [hx]))).setCell (by simp) _
    have hsz := HH1.out.size
    have hs1 := HS1.out
    have hs4 := HS4.out
    have hl5 : ∀ g ∈ bl (.slice a5 n5 c5), w1.heap.size ≤ g := fun g hg => by
      rcases K5.out.bl g hg with h6 | h6
      · exact H5.out g h6
      · have := HC3.out.size
        have h7 : w3.drew.heap.size = w3.heap.size := rfl
        omega
    have hlow : ∀ y, y < w1.heap.size → y ∉ bl (.slice a N c) := fun y hy hm => by have := H5.out y hm; omega
    refine ⟨keepsFrom_chg hCW (fun y hy hlt => ?_), same_chg hCW (fun y hy => ?_), ?_⟩
    · rcases List.mem_append.1 hy with hy | hy
      · obtain ⟨cc, hcc⟩ := H4.out.typ (mem_bl.1 hy)
        exact ⟨_, _, _, hcc⟩
      · simp at hy
        subst hy
        exact ⟨_, _, _, H3.out⟩
    · have h6 := HFB.out y hy
      refine ⟨by omega, fun hm => ?_⟩
      rcases List.mem_append.1 hm with hm | hm
      · exact hlow y h6.1 hm
      · simp at hm
        omega
    · have hl3 : ∀ g, g < w1.heap.size → g ≠ w.heap.size + 1 + 1 + 1 → g ∉ bl (.slice a N c) ++ [w.heap.size + 1 + 1 + 1] := fun g h6 h7 hm => by
        rcases List.mem_append.1 hm with hm | hm
        · exact hlow g h6 hm
        · simp at hm; exact h7 hm
      have hchg : Chg [] w (w5.setCell ⟨w.heap.size + 1 + 1 + 1, 0, none⟩ (.slice a5 n5 c5)) := HH1.out.chg.then hCW (fun y hy => .inr (by
        rcases List.mem_append.1 hy with hy | hy
        · have := H5.out y hy; have := HB1.out; omega
        · simp at hy; omega))
      refine ⟨HH1.out.o0.chg hCW (hl3 _ (by omega) (by omega)), HH1.out.o1.chg hCW (hl3 _ (by omega) (by omega)), HH1.out.o2.chg hCW (hl3 _ (by omega) (by omega)), ⟨_, ho5.set 0 _, ?_, hl5⟩, hchg, ?_⟩
      · rw [HPO.out]
        have h6 := K5.out.lst
        rw [show u8s (catP (now F m) f (valS pre)) ++ u8s S = u8s (catP (now F m) f (valS pre) ++ S) by simp [u8s]] at h6
        exact h6.chg (l := [w.heap.size + 1 + 1 + 1]) ((Chg.refl _ _).setCell (by simp) _) (fun g hg hm => by
          have := hl5 g (mem_bl.2 hg)
          simp at hm
          omega)
      · exact Nat.le_trans hsz hCW.size
  case done =>
    rintro D xs W hD hS h1 hK
    obtain ⟨v, h3, h4, h5⟩ := h1.o3
    have hcat : catP (now F m) f (valS xs) = cat (now F m) f (ceilS k) := by
      rw [hS, Nat.zero_div, show secN 0 k = ceilS k by unfold secN ceilS; omega]
      exact catP_range _ _ _
    rw [hcat] at h4
    have hlen : (cat (now F m) f (ceilS k)).length = ceilS k * 64 := cat_len HD.out.lenN _ _
    have hle : k ≤ (cat (now F m) f (ceilS k)).length := by rw [hlen]; unfold ceilS; omega
    obtain ⟨a, c, rfl, -, hcap, hnone⟩ := h4.form
    rw [u8s_length] at h3 h4 h5 hcap
    obtain ⟨N, HN⟩ : ∃ N, Hid ((cat (now F m) f (ceilS k)).length = N) := ⟨_, Lib.hid rfl⟩
    rw [HN.out] at h3 h4 h5 hcap hle
    have c3 := h3.cell 0
    have c1 := h1.o1.cell 0
    have c2 := h1.o2.cell 0
    have f1 := h1.o1.frozen 0
    have f2 := h1.o2.frozen 0
    simp at c1 c2 c3
    have H1 := Lib.hid h1
    have H4 := Lib.hid h4
    have H5 := Lib.hid h5
    have HK := Lib.hid hK
    have hkc : (k : Int) ≤ (c : Int) := by omega
    have hk0 : (0 : Int) ≤ (k : Int) := by omega
    clear h1 h3 h4 h5 hK hS hcat hlen hnone
    gi_wp2_with fail
    have hs1 := HS1.out
    have hs4 := HS4.out
    have hK2 : ((W.setCell ⟨w.heap.size + 1, 0, none⟩ (.slice a k c)).setCell ⟨w.heap.size + 1 + 1, 0, none⟩ (.int .i64 0)).heap[D]? = some (.deferred (some [])) := by
      rw [Below.heap_setCell _ _ _ _ (by simp; omega), Below.heap_setCell _ _ _ _ (by simp; omega)]
      exact HK.out
    refine ⟨by simp, .inl ⟨_, _, rfl, run_takeDeferred hK2, ?_⟩⟩
    have ho1 := (H1.out.o1.set 0 (.slice a k c)).far (p := ⟨w.heap.size + 1 + 1, 0, none⟩) (by simp) (.int .i64 0)
    have ho2 := (H1.out.o2.far (p := ⟨w.heap.size + 1, 0, none⟩) (by simp) (.slice a k c)).set 0 (.int .i64 0)
    have hg : ((W.setCell ⟨w.heap.size + 1, 0, none⟩ (.slice a k c)).setCell ⟨w.heap.size + 1 + 1, 0, none⟩ (.int .i64 0)).grownBy (((W.setCell ⟨w.heap.size + 1, 0, none⟩ (.slice a k c)).setCell ⟨w.heap.size + 1 + 1, 0, none⟩ (.int .i64 0)).putObj D (.deferred none)) (some D) := grownBy_putObj' _ D (.deferred none)
    have ho1' := ho1.grown hg (by simp; omega)
    have ho2' := ho2.grown hg (by simp; omega)
    have hCW : Chg [w.heap.size + 1, w.heap.size + 1 + 1] W ((W.setCell ⟨w.heap.size + 1, 0, none⟩ (.slice a k c)).setCell ⟨w.heap.size + 1 + 1, 0, none⟩ (.int .i64 0)) := ((Chg.refl _ W).setCell (by simp) _).setCell (by simp) _
    have hCD := H1.out.chg.then hCW (fun y hy => .inr (by simp at hy; omega))
    have hCE := hCD.grown hg (fun y hy => by injection hy with hy; subst hy; right; have := HB1.out; omega)
    have hl4 := (H4.out.cut hle (by rw [u8s_length, HN.out])).chg hCW (fun g hg hm => by
      have := H5.out g (by rw [bl_cut a k N c]; exact mem_bl.2 hg)
      simp at hm
      omega)
    have hl5 := lst_kept hl4 hg (fun r hr => by injection hr with hr; subst hr; exact ⟨_, hK2, rfl⟩)
    generalize (((W.setCell ⟨w.heap.size + 1, 0, none⟩ (.slice a k c)).setCell ⟨w.heap.size + 1 + 1, 0, none⟩ (.int .i64 0)).putObj D (.deferred none)) = WZ at ho1' ho2' hl5 hCE ⊢
    have d1 := ho1'.cell 0
    have d2 := ho2'.cell 0
    simp at d1 d2
    have hbk : ((cat (now F m) f (ceilS k)).take k).length = k := by rw [List.length_take, HN.out]; omega
    refine ⟨.tuple #[.slice a k c, .int .i64 0], by simp [results, Tryz.results62, go_sem, d1, d2], ?_⟩
    refine ⟨a, c, by rw [hbk], ?_, ?_, hCE⟩
    · rw [hbk]
      have e : (u8s (cat (now F m) f (ceilS k))).take k = u8s ((cat (now F m) f (ceilS k)).take k) := by simp [u8s, List.map_take]
      rw [← e]
      exact hl5
    · rw [hbk]
      intro g hg
      have h6 := H5.out g (by rw [bl_cut a k N c]; exact hg)
      have := HB1.out
      omega
  case stop => exact fun D c pre W _ _ h _ => h.elim
end Go.Proofs.YtihbinphmlgjoaaGreat
