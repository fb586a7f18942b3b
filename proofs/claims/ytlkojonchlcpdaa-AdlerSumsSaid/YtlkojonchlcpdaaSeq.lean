/-
  Words of this seat: a range over a function whose iterator writes cells of its own (of one type) between two rounds. The contract of such an iterator (Gives), and the law for the caller (wp_gives). Plain lemmas, no claim of their own.
-/
import Derived.Test.YtlkojonchlcpdaaBase
import Derived.RangeFuncNested
import Derived.RangeFuncBound
import Derived.RangeFuncCalls
import Derived.RangeFuncLeaves
import Derived.Shelf.Abstract
import Derived.OrdersIn
import Derived.OrdersHeld
namespace Go.Proofs.Ytlkojonchlcpdaa
open Go.RowKit Go.Shelf

/-- a step of the iterator's, as the caller sees it: new blocks; of what there was one block at most has turned, at B or above: no cells, or cells of type t -/
def Turn (B : Nat) (t : TypeId) (X Y : World) : Prop :=
  ∃ row, X.grownBy Y row ∧ ∀ r, row = some r → B ≤ r ∧ ∃ o : Obj, X.heap[r]? = some o ∧ (o.isCells = false ∨ ∃ cs fr, o = .cells cs t fr)
/-- what is said of a world bears such steps -/
def Bears (B : Nat) (t : TypeId) (J : World → Prop) : Prop := ∀ X Y, J X → Turn B t X Y → J Y

theorem Turn.more {B B' : Nat} {t : TypeId} {X Y : World} (h : Turn B' t X Y) (hB : B ≤ B') : Turn B t X Y := by
  obtain ⟨row, hg, hr⟩ := h
  exact ⟨row, hg, fun r e => ⟨Nat.le_trans hB (hr r e).1, (hr r e).2⟩⟩
theorem Turn.alloc (B : Nat) (t : TypeId) (X : World) (o : Obj) : Turn B t X (X.alloc o) := ⟨none, World.grownBy_alloc X o none, fun r e => by cases e⟩
theorem Turn.put (t : TypeId) {X : World} {B l : Nat} {o : Obj} (o' : Obj) (hl : X.heap[l]? = some o) (ho : o.isCells = false) (hB : B ≤ l) : Turn B t X (X.putObj l o') :=
  ⟨some l, grownBy_putObj' X l o', fun r e => by cases e; exact ⟨hB, o, hl, .inl ho⟩⟩
theorem Turn.grow {B : Nat} {t : TypeId} {X Y : World} (h : X.grownBy Y none) : Turn B t X Y := ⟨none, h, fun r e => by cases e⟩
theorem Turn.of_below {B : Nat} {t : TypeId} {X Y : World} (h : Below X.heap.size X Y) : Turn B t X Y := Turn.grow ⟨h.os, h.tape, h.output, h.size, fun k hk _ => h.block k hk⟩
theorem Turn.set {B g : Nat} {t : TypeId} {X : World} {cs : List Value} (h : Own X g t cs) (hB : B ≤ g) (i : Nat) (u : Value) : Turn B t X (X.setCell ⟨g, i, none⟩ u) :=
  ⟨some g, only_set (World.grownBy.refl X _) i u, fun r e => by cases e; exact ⟨hB, _, h, .inr ⟨_, _, rfl⟩⟩⟩
theorem Turn.size {B : Nat} {t : TypeId} {X Y : World} (h : Turn B t X Y) : X.heap.size ≤ Y.heap.size := by obtain ⟨row, hg, _⟩ := h; exact hg.size
/-- a block of cells of another type, or below B, lies as it lay -/
theorem Turn.own {B g : Nat} {t t' : TypeId} {X Y : World} {cs : List Value} (h : Turn B t X Y) (ho : Own X g t' cs) (hg : g < B ∨ t' ≠ t) : Own Y g t' cs := by
  obtain ⟨row, hgr, hr⟩ := h
  refine ho.grown hgr fun e => ?_
  obtain ⟨h1, o, h2, h3⟩ := hr g e.symm
  rw [show X.heap[g]? = _ from ho] at h2
  cases h2
  rcases h3 with h3 | ⟨c2, fr, h3⟩
  · cases h3
  · rcases hg with hg | hg
    · omega
    · injection h3 with _ h3; exact hg h3
theorem Turn.below {B : Nat} {t : TypeId} {X Y Z : World} {n₀ : Nat} (h : Turn B t Y Z) (hb : Below n₀ X Y) (hn : n₀ ≤ B) (hX : n₀ ≤ X.heap.size) : Below n₀ X Z := by
  obtain ⟨row, hgr, hr⟩ := h
  exact hb.grown hgr (Nat.le_trans hX hb.size) fun k e => Nat.le_trans hn (hr k e).1

section
variable {P : Program} {α : Type}

/-- THE ITERATOR's CONTRACT: it hands over values x, encs x, one round each; G: what is known of the next one when pre has come; S: what is known of all that has come when it has ended (true: it ran out; false: a round has said 'no more'); K: what a round that goes on must keep; J: the caller's word -/
def Gives (P : Program) (g : FuncId) (lb : Array Value) (t : TypeId) (encs : α → Array Value) (K : World → World → Prop) (G : List α → α → Prop) (S : Bool → List α → Prop) (w : World) : Prop :=
  ∀ (n l : Nat) (J : Bool → List α → World → Prop) (W : World), Below w.heap.size w W → (∀ b xs, Bears W.heap.size t (J b xs)) →
    (∀ pre x W1, J true pre W1 → G pre x → YieldAt Fence.wide n P l (encs x) W1 fun e W' => ∃ b, e = .returned (.bool b) ∧ J b (pre ++ [x]) W' ∧ (b = true → K W1 W')) →
    J true [] W →
    CallsIn Fence.wide n P g (#[.func (.yield l) #[] #[]] ++ lb) W fun e W' => (∃ v, e = .returned v) ∧ ∃ b xs, S b xs ∧ J b xs W'

/-- the jump by which a body is left: none where it goes on -/
def leftBy : Exit → Option (Option Code)
  | .normal => some none
  | .ret => some (some .ret)
  | .exit id => some (some (.exit id))
  | .goto t => some (some (.goto t))
  | _ => none

/-- how a body ends: the record of the loop (no cells, at B or above) lies as it lay; what the iterator wants kept is kept where it goes on; the caller's word, by the jump -/
def Ends (B : Nat) (K : World → World → Prop) (I : Option Code → List α → World → Prop) (xs : List α) (W : World) (e : Exit) (_ : Act) (W' : World) : Prop :=
  ∃ c, leftBy e = some c ∧ KeepsFrom B W W' ∧ (c = none → K W W') ∧ I c xs W'

set_option maxHeartbeats 1000000 in
/-- THE CALLER's LAW -/
theorem wp_gives {g : Operand} {ps : Array Tmp} {assign body : Code} {Q : Exit → Act → World → Prop} {a : Act} {w : World} {n : Nat}
    {gf : Nat} {lb : Array Value} (hg : a.eval g = .func (.func gf) #[] lb) (eg : ∀ args w, (callFunc gf args).run P w = .ok (.enter gf args) w)
    {t : TypeId} {encs : α → Array Value} {K : World → World → Prop} {G : List α → α → Prop} {S : Bool → List α → Prop} {w0 : World} (hseq : Gives P gf lb t encs K G S w0) (hb0 : Below w0.heap.size w0 w) (hps : ∀ x, (encs x).size = ps.size)
    (hKt : ∀ A B C, K A B → K B C → K A C) (hKb : ∀ (W : World) (l : Nat) (o o' : Obj), w.heap.size ≤ l → W.heap[l]? = some o → o.isCells = false → K W (W.putObj l o'))
    (I : Option Code → List α → World → Prop) (hI : ∀ c xs, Bears w.heap.size t (I c xs)) (h0 : I none [] w)
    (M : List α → α → Act → World → Prop) (hM : ∀ pre x a' (X : World) (l : Nat) (o o' : Obj), M pre x a' X → w.heap.size ≤ l → X.heap[l]? = some o → o.isCells = false → M pre x a' (X.putObj l o'))
    (hassign : ∀ (l : Nat) (pre : List α) (x : α) (W : World), I none pre W → G pre x →
      assign.wpIn (Fence.wide.inRound l) n P (Exit.then (fun a' W' => KeepsFrom w.heap.size W W' ∧ K W W' ∧ M pre x a' W') (fun _ _ _ => False)) { tmps := (ps.zip (encs x)).foldl (fun t (p, v) => t.setIfInBounds p v) a.tmps, defers := [] } W)
    (hbody : ∀ (l : Nat) (pre : List α) (x : α) (a' : Act) (W : World), G pre x → M pre x a' W → body.wpIn (Fence.wide.inRound l) n P (Ends w.heap.size K I (pre ++ [x]) W) a' W)
    (hend : ∀ (D : Nat) (c : Option Code) (xs : List α) (W : World), w.heap.size ≤ D → S c.isNone xs → I c xs W → W.heap[D]? = some (.deferred (some [])) →
      (match c with
       | none => Q .normal { a with defers := { target := .collected D, args := #[] } :: a.defers } W
       | some c => c.wpIn Fence.wide n P Q { a with defers := { target := .collected D, args := #[] } :: a.defers } W)) :
    (Code.rangeFunc g ps assign body).wpIn Fence.wide n P Q a w := by
  refine wpIn_rangeFunc fun fn hfn => ?_
  -- the two blocks that the machine lays: D for deferred calls, R the record
  let D := w.heap.size
  let R := w.heap.size + 1
  let rc (st : LoopState) (pe : Option Code) : Loop := { state := st, pending := pe, fn, tmps := a.tmps, params := ps, assign, body, defers := D }
  let books (st : LoopState) (pe : Option Code) (W : World) : Prop := W.heap[R]? = some (.loop (rc st pe)) ∧ W.heap[D]? = some (.deferred (some []))
  obtain ⟨W1, hW1⟩ : ∃ W1, W1 = (w.alloc (.deferred (some []))).alloc (.loop (rc .ready none)) := ⟨_, rfl⟩
  have hbk1 : books .ready none W1 := by
    constructor
    · have := World.alloc_heap_new (w.alloc (.deferred (some []))) (.loop (rc .ready none))
      rw [World.size_alloc] at this
      rw [hW1]; exact this
    · rw [hW1]; exact (Below.heap_alloc _ _ _ (by simp [D])).trans (World.alloc_heap_new w _)
  have hw1 : Below w.heap.size w W1 := by rw [hW1]; exact ((Below.refl _ w).alloc (Nat.le_refl _) _).alloc (by simp) _
  have hs1 : W1.heap.size = w.heap.size + 2 := by rw [hW1]; simp
  -- the books bear the iterator's steps
  have bear : ∀ st pe, Bears W1.heap.size t (books st pe) := by
    rintro st pe X Y ⟨k1, k2⟩ ⟨row, hgr, hr⟩
    have far : ∀ j, j < w.heap.size + 2 → some j ≠ row := fun j hj e => by have := (hr j e.symm).1; omega
    exact ⟨(hgr.block R (Array.getElem?_eq_some_iff.1 k1).1 (far _ (by simp [R]))).trans k1, (hgr.block D (Array.getElem?_eq_some_iff.1 k2).1 (far _ (by simp [D]))).trans k2⟩
  have hDR : D ≠ R := by simp [D, R]
  -- the record is turned: cells and D are as they were
  have turnR : ∀ {st pe} {W : World}, books st pe W → ∀ st' pe', books st' pe' (W.putObj R (.loop (rc st' pe'))) ∧ Turn w.heap.size t W (W.putObj R (.loop (rc st' pe'))) ∧ K W (W.putObj R (.loop (rc st' pe'))) := by
    rintro st pe W ⟨k1, k2⟩ st' pe'
    exact ⟨⟨World.putObj_heap_same (Array.getElem?_eq_some_iff.1 k1).1, (World.putObj_heap_other hDR).trans k2⟩, Turn.put t _ k1 rfl (by simp [R]), hKb W R _ _ (by simp [R]) k1 rfl⟩
  have keep : ∀ {st pe} {W W' : World}, books st pe W → KeepsFrom w.heap.size W W' → books st pe W' := fun ⟨k1, k2⟩ hk =>
    ⟨hk.same _ _ (by simp [R]) k1 rfl, hk.same _ _ (by simp [D]) k2 rfl⟩
  refine ⟨R, [{ target := .collected D, args := #[] }], W1, { target := .fn (.func gf) lb, args := #[.func (.yield R) #[] #[]] }, W1, gf, #[.func (.yield R) #[] #[]] ++ lb, W1, ?_, ?_, (fun _ _ => trivial), ?_, (fun h => by cases h), ?_⟩
  · rw [hW1]; exact run_enterLoop_outer _ _ _ _ _
  · simp only [resolve, hg]; simp [go_sem]
  · simp [invoke, go_sem, eg]
  refine callsIn_wide.2 (callsIn_wide.1 ((hseq n R (fun b xs W => ∃ c : Option Code, c.isNone = b ∧ I c xs W ∧ books (if b then .ready else .done) c W) W1 (hb0.trans (hw1.mono hb0.size)) ?_ ?_ ?_).mono ?_))
  · rintro b xs X Y ⟨c, hc, hi, hk⟩ hT
    exact ⟨c, hc, hI c xs X Y hi (hT.more (by omega)), bear _ _ X Y hk hT⟩
  · rintro pre x W ⟨c, hc, hi, hk⟩ hG
    obtain rfl : c = none := by simpa using hc
    have hy := run_yield (P := P) (args := encs x) hk.1 (hps x)
    have hr0 : RoundIn Fence.wide n P R fn ((ps.zip (encs x)).foldl (fun t (p, v) => t.setIfInBounds p v) a.tmps) assign body W (fun e W' => ∃ b, e = .returned (.bool b) ∧ (∃ c : Option Code, c.isNone = b ∧ I c (pre ++ [x]) W' ∧ books (if b then .ready else .done) c W') ∧ (b = true → K W W')) := by
      refine roundIn_of_wpIn hfn (wpIn_mono (hassign R pre x W hi hG) ?_)
      rintro e a' W2 hp
      cases e with
      | normal =>
        obtain ⟨hk2, hK2, hm2⟩ := hp
        have b2 := keep hk hk2
        obtain ⟨b3, t3, k3⟩ := turnR b2 .busy none
        refine ⟨_, run_beginRound b2.1 rfl, wpIn_mono (hbody R pre x a' _ hG (hM pre x a' _ _ _ _ hm2 (by simp [R]) b2.1 rfl)) ?_⟩
        rintro e a3 W4 ⟨c, hc, hk4, hK4, hi4⟩
        have b4 := keep b3 hk4
        obtain ⟨b5, t5, k5⟩ := turnR b4 (if c.isNone then .ready else .done) c
        have fin : ∃ v W5, (Instr.endRound R c).run P W4 = .ok v W5 ∧ ∃ b, Ending.returned v = .returned (.bool b) ∧ (∃ c : Option Code, c.isNone = b ∧ I c (pre ++ [x]) W5 ∧ books (if b then .ready else .done) c W5) ∧ (b = true → K W W5) :=
          ⟨_, _, run_endRound c b4.1, c.isNone, rfl, ⟨c, rfl, hI c _ _ _ hi4 t5, b5⟩, fun hb => hKt _ _ _ hK2 (hKt _ _ _ k3 (hKt _ _ _ (hK4 (by simpa using hb)) k5))⟩
        cases e <;> simp only [leftBy] at hc <;> first | (cases hc; exact fin) | cases hc
      | _ => exact hp.elim
    exact ⟨fn, _, assign, body, hy, hr0⟩
  · refine ⟨none, rfl, ?_, hbk1⟩
    rw [hW1]
    exact hI none [] _ _ (hI none [] _ _ h0 (Turn.alloc _ _ _ _)) (Turn.alloc _ _ _ _)
  · rintro e W2 ⟨⟨v, rfl⟩, b, xs, hS, c, rfl, hi, hk⟩
    obtain ⟨b5, t5, k5⟩ := turnR hk .exhausted c
    exact ⟨c, _, run_endLoop hk.1 (by cases c <;> simp [rc]), hend D c xs _ (Nat.le_refl _) hS (hI c xs _ _ hi t5) b5.2⟩

theorem assign_by {c : Code} {F : Fence} {n : Nat} {a : Act} {w : World} {R : Act → World → Prop} (h : ∀ K : Act → World → Prop, (∀ a' W', R a' W' → K a' W') → c.wpIn F n P (Exit.then K (fun _ _ _ => False)) a w) : c.wpIn F n P (Exit.then R (fun _ _ _ => False)) a w := h R (fun _ _ h => h)

/-- one operation of a region in a round that draws its order: by the walk outside of rounds, where nothing in it is deferred and the caller's word lets nothing out -/
theorem roundOp {l n : Nat} {ops : Array Oper} {Q : Exit → Act → World → Prop} {K K' : Act → World → Prop} {i : Nat} {a : Act} {w : World} (hout : ¬ LetsOut Q) (hd : ∀ (i : Nat) (o : Oper), ops[i]? = some o → ∀ c, o.op ≠ .defer c)
    (hK : ∀ a w, K a w → K' a w) (h : wpOp P ops Q i K a w) : wpOpIn (Fence.wide.inRound l) n P ops Q i K' a w := by
  unfold wpOp at h
  unfold wpOpIn
  cases ho : ops[i]? with
  | none => simp only [ho] at h; exact hK _ _ h
  | some o =>
    simp only [ho] at h
    dsimp only
    split
    · rename_i hw
      simp only [hw, if_true] at h
      have h := h.resolve_right (fun x => hout x.2)
      refine ⟨fun _ _ => trivial, ?_⟩
      rw [Oper.semAt_eq _ _ _ (hd i o ho)]
      unfold Oper.wp at h
      generalize (execOp a.eval o).run P w = r at *
      cases r with
      | ok x w' =>
        cases x <;> simp only [Oper.upon] at h <;> simp only [Oper.uponIn]
        case value => exact hK _ _ h
        case skip => exact hK _ _ h
        case defer => exact hK _ _ h
        case enter f args =>
          refine ⟨(fun e => by cases e), CallsIn.inRound l (callsIn_wide.2 (h.mono fun e w'' he => ?_))⟩
          cases e <;> first | exact hK _ _ he | exact he
        case row row args =>
          refine ⟨(fun e => by cases e), fun c cs _ => ?_⟩
          obtain ⟨v, w'', hv, hs⟩ := h c cs
          exact ⟨v, w'', hK _ _ hv, stepsIn_wide.2 hs⟩
      | halt x w' => cases x <;> simp only [Oper.upon] at h <;> first | exact h | exact h.elim
    · rename_i hw
      simp only [hw, if_false, Bool.false_eq_true] at h
      exact ⟨fun _ _ => trivial, hK _ _ h⟩
theorem roundAny {l n : Nat} {ops : Array Oper} {Q : Exit → Act → World → Prop} {md : Region.Mode} (hout : ¬ LetsOut Q) (hd : ∀ (i : Nat) (o : Oper), ops[i]? = some o → ∀ c, o.op ≠ .defer c) :
    ∀ (fuel : Nat) (listed : Array Bool) (a : Act) (w : World), wpAny P md ops Q fuel listed a w → wpAnyIn (Fence.wide.inRound l) n P md ops Q fuel listed a w
  | 0, _, _, _, h => h
  | fuel + 1, _, _, _, h => ⟨h.1, fun i hi => roundOp hout hd (fun a w => roundAny hout hd fuel _ a w) (h.2 i hi)⟩
/-- no operation is deferred -/
def noDefer (ops : Array Oper) : Bool := ops.all fun o => match o.op with | .defer _ => false | _ => true
theorem noDefer_spec {ops : Array Oper} (h : noDefer ops = true) : ∀ (i : Nat) (o : Oper), ops[i]? = some o → ∀ c, o.op ≠ .defer c := by
  intro i o ho c e
  unfold noDefer at h
  rw [Array.all_eq_true] at h
  obtain ⟨hi, he⟩ := Array.getElem?_eq_some_iff.1 ho
  have := h i hi
  rw [he, e] at this
  simp at this
/-- a region that draws, in a round: by the walk that holds S -/
theorem round_region {l n id : Nat} {ops : Array Oper} {Q : Exit → Act → World → Prop} {a : Act} {w : World} (S : World → Prop) (hm : P.follows .mixedOrders = true) (hout : ¬ LetsOut Q) (hd : noDefer ops = true)
    (h : wpAnyH P .any ops Q S ops.size (Array.replicate ops.size false) a w.drew) : (Code.region id ops true).wpIn (Fence.wide.inRound l) n P Q a w :=
  wpIn_region_any hm (roundAny hout (noDefer_spec hd) _ _ _ _ (wpAny_of_held _ _ _ _ h))
end
end Go.Proofs.Ytlkojonchlcpdaa
