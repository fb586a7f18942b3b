/-
  Contract of package tape's sectors: the iterator over the sectors that hold a half's bytes. No claim of its own.
-/
import Derived.Test.YtmpajlpemabniaaGreatTpH
import Derived.RangeFuncNested
import Derived.RangeFuncBound
import Derived.RangeFuncCalls
import Derived.RangeFuncLeaves
import Derived.Shelf.Abstract
import Derived.Shelf.RegionOpen
import Derived.WalkKit
import Derived.OwnWalkIn
import Derived.TacticsInMore
import Derived.LoopNIn
import Derived.LoopIn
import Derived.OrdersIn
import Derived.OrdersHeld
namespace Go.Proofs.YtmpajlpemabniaaGreat
open Go.RowKit Go.Shelf Go.Deep
set_option linter.unusedVariables false
set_option linter.unusedSimpArgs false
attribute [local go_sem] Oper.semAt_some

/-- how many sectors -/
def secN (fr to_ : Nat) : Nat := (to_ + 63) / 64 - fr / 64
/-- how many sectors hold so many bytes -/
def ceilS (to_ : Nat) : Nat := (to_ + 63) / 64
abbrev SN (to_ : Nat) := {k : Nat // k < ceilS to_}
def encS (f to_ : Nat) (k : SN to_) : Array Value := #[.int .i64 (((f + k.1 : Nat)) : Int), .int .i64 ((k.1 * 64 : Nat) : Int)]
def valS {to_ : Nat} (xs : List (SN to_)) : List Nat := xs.map (·.1)
theorem secN_lt (fr to_ j : Nat) : j < secN fr to_ ↔ (fr / 64 + j) * 64 < to_ := by unfold secN; omega
theorem valS_snoc {to_ : Nat} (xs : List (SN to_)) (x : SN to_) : valS (xs ++ [x]) = valS xs ++ [x.1] := by simp [valS]
theorem range_snoc (q j : Nat) : List.range' q (j + 1) = List.range' q j ++ [q + j] := by rw [List.range'_concat]; simp
set_option maxRecDepth 100000 in
set_option maxHeartbeats 2000000 in
theorem sect_stops (n bf bt bi f fr to_ : Nat) (w : World) (hf : Own w bf 3 [.int .i64 (fr : Int)]) (ht : Own w bt 3 [.int .i64 (to_ : Int)]) (hi : Own w bi 3 [.int .i64 (f : Int)]) (hfr : fr ≤ 1000000) (hto : to_ ≤ 1000000) (hff : f ≤ 1000000)
    (Kp : World → World → Prop) (hK : ∀ W W', Kp W W' → Same [bf, bt, bi] W W') :
    SeqStopsK Fence.wide n Tryz.prog 194 #[.pointer (some ⟨bf, 0, none⟩), .pointer (some ⟨bt, 0, none⟩), .pointer (some ⟨bi, 0, none⟩)] (encS f to_) Kp (fun xs => valS xs = List.range' (fr / 64) (secN fr to_)) (fun _ => True) (secN fr to_) w := by
  intro l J Jx W hW hJ hJx hY h0
  have hfW := hf.below hW hf.lt
  have htW := ht.below hW ht.lt
  have hiW := hi.below hW hi.lt
  obtain ⟨q, HQ⟩ : ∃ q, Hid (fr / 64 = q) := ⟨_, Lib.hid rfl⟩
  obtain ⟨m, HM⟩ : ∃ m, Hid (secN fr to_ = m) := ⟨_, Lib.hid rfl⟩
  rw [HQ.out, HM.out]
  rw [HM.out] at hY
  have c1 := hfW.cell 0
  simp at c1
  have hq : (fr : Int) / 64 = (q : Int) := by rw [← HQ.out]; omega
  have hqm : q ≤ 1000000 := by rw [← HQ.out]; omega
  have HF := Lib.hid hfW
  have HT := Lib.hid htW
  have HI := Lib.hid hiW
  clear hf ht hi hfW htW hiW
  refine callsIn_of_wp Tryz.func194 rfl trivial ?_ rfl
  simp only [Tryz.ntmps194, List.size_toArray, List.length_cons, List.length_nil, Nat.reduceAdd, Nat.reduceSub, Array.replicate_succ, Array.replicate_zero, List.push_toArray, List.append_toArray, List.nil_append, List.cons_append]
  gi_wp2_with fail
  gi_loopw [5] (fun i wr => ∃ (j : Nat) (pre : List (SN to_)), i = .int .i64 ((q + j : Nat) : Int) ∧ j ≤ m ∧ valS pre = List.range' q j ∧ J pre wr ∧ Same [bf, bt, bi] W wr) (fun i _ => q + m - (intOf i).toNat)
  case atStart => exact ⟨0, [], rfl, Nat.zero_le _, rfl, h0, Same.refl _ _⟩
  case round =>
    obtain ⟨j, pre, rfl, hj, hpre, hjj, hS⟩ := hrel
    have c2 := (HT.out.same hS (by simp)).cell 0
    have c3 := (HI.out.same hS (by simp)).cell 0
    simp at c2 c3
    have HS := Lib.hid hS
    have hmb : m ≤ 1000000 := by rw [← HM.out]; unfold secN; omega
    obtain ⟨k, HK⟩ : ∃ k, Hid (q + j = k) := ⟨_, Lib.hid rfl⟩
    rw [HK.out]
    have hkb : k ≤ 2000000 := by rw [← HK.out]; omega
    have hpl : pre.length = j := by have := congrArg List.length hpre; simpa [valS] using this
    have HPL := Lib.hid hpl
    have HPR := Lib.hid hpre
    clear hpl hpre hS
    by_cases hlt : j < m
    · have hk : k * 64 < to_ := by rw [← HK.out, ← HQ.out]; exact (secN_lt fr to_ j).1 (by rw [HM.out]; exact hlt)
      have hd : decide ((k : Int) * 64 < (to_ : Int)) = true := by simp; omega
      have hkc : k < ceilS to_ := by unfold ceilS; omega
      obtain ⟨fn, tmps, assign, body, hyy, hR⟩ := hY pre ⟨k, hkc⟩ _ hjj (by rw [HPL.out]; exact hlt)
      dsimp only [encS] at hyy
      rw [show ((f + k : Nat) : Int) = (f : Int) + (k : Int) by omega, show ((k * 64 : Nat) : Int) = (k : Int) * 64 by omega] at hyy
      have HPO := Lib.hid (show valS (pre ++ [⟨k, hkc⟩]) = List.range' q (j + 1) by rw [valS_snoc, HPR.out, range_snoc, HK.out])
      generalize (⟨k, hkc⟩ : SN to_) = x at hR HPO
      clear hY
      gi_wp2_with fail
      refine ⟨(fun h => by cases h), (roundIn_any hR).mono ?_⟩
      rintro e W5 (⟨rfl, hj5, hk5⟩ | ⟨rfl, hjx5⟩)
      · gi_wp2_with fail
        go_roundw
        case rel => exact ⟨j + 1, pre ++ [x], by have := HK.out; congr 1; omega, hlt, HPO.out, hj5, HS.out.trans (hK _ _ hk5)⟩
        case measure => have := HK.out; simp [intOf]; omega
      · gi_wp2_with fail
        refine bodyPost_ret (results_none rfl _ _ _) rfl ?_
        exact ⟨⟨_, rfl⟩, .inr ⟨pre ++ [x], trivial, hjx5⟩⟩
    · have hk : ¬ k * 64 < to_ := by rw [← HK.out, ← HQ.out]; exact fun h => hlt (by rw [← HM.out]; exact (secN_lt fr to_ j).2 h)
      have hd : decide ((k : Int) * 64 < (to_ : Int)) = false := by simp; omega
      have hjm : j = m := by omega
      have HJM := Lib.hid hjm
      clear hjm hY
      gi_wp2_with fail
      go_end0
      exact ⟨⟨_, rfl⟩, .inl ⟨pre, by rw [HPR.out, HJM.out], hjj⟩⟩
/-- sectors: the iterator, and its three variables -/
theorem halfSectors_any (w : World) {q p g b n : Nat} {F : Nat → Sec} {m : Nat → Option Sec} (hq : w.cell? ⟨q, 0, none⟩ = some (.pointer (some ⟨p, 0, none⟩))) (hd : Dsk w p g b n F m) :
    Calls Tryz.prog 133 #[.pointer (some ⟨q, 0, none⟩)] w fun e w' => e = .returned (.int .i64 ((hsec n : Nat) : Int)) ∧ w = w' := by
  have h1 := hd.one
  have h2 := hd.top
  have HL := Lib.hid (len_ok w hd)
  have e1 : ((n : Int) - 1) / 2 = ((hsec n : Nat) : Int) := by unfold hsec; omega
  obtain ⟨s, HS⟩ : ∃ s, Hid (hsec n = s) := ⟨_, Lib.hid rfl⟩
  rw [HS.out] at e1 ⊢
  have hn1 : (1 : Int) ≤ (n : Int) := by omega
  have E1 := Lib.hid e1
  clear hd e1
  go_enter Tryz.func133, Tryz.ntmps133
  go_wp2_with (first | (go_at_call 76; refine HL.out.mono ?_; rintro e w' ⟨rfl, rfl⟩) | fail)
  go_ret
  exact ⟨ret_int E1.out, rfl⟩
theorem halfSize_any (w : World) {q p g b n : Nat} {F : Nat → Sec} {m : Nat → Option Sec} (hq : w.cell? ⟨q, 0, none⟩ = some (.pointer (some ⟨p, 0, none⟩))) (hd : Dsk w p g b n F m) :
    Calls Tryz.prog 78 #[.pointer (some ⟨q, 0, none⟩)] w fun e w' => e = .returned (.int .i64 ((hsec n * 64 : Nat) : Int)) ∧ w = w' := by
  have h2 := hd.top
  have HL := Lib.hid (halfSectors_any w hq hd)
  have hs : hsec n ≤ 1024 := by unfold hsec; omega
  obtain ⟨s, HS⟩ : ∃ s, Hid (hsec n = s) := ⟨_, Lib.hid rfl⟩
  rw [HS.out] at HL hs ⊢
  clear hd hq
  go_enter Tryz.func78, Tryz.ntmps78
  go_wp2_with (first | (go_at_call 133; refine HL.out.mono ?_; rintro e w' ⟨rfl, rfl⟩) | fail)
  go_ret
  exact ⟨ret_int (by omega), rfl⟩
def sectorsV (w : World) : Value := .func (.func 194) #[] #[.pointer (some ⟨w.heap.size, 0, none⟩), .pointer (some ⟨w.heap.size + 1, 0, none⟩), .pointer (some ⟨w.heap.size + 2, 0, none⟩)]
def sectorsW (w : World) (f fr to_ : Nat) : World := ((w.alloc (.cells #[.int .i64 (fr : Int)] 3)).alloc (.cells #[.int .i64 (to_ : Int)] 3)).alloc (.cells #[.int .i64 (f : Int)] 3)
theorem sectors_any (w : World) {q p g b n : Nat} {F : Nat → Sec} {m : Nat → Option Sec} (hq : w.cell? ⟨q, 0, none⟩ = some (.pointer (some ⟨p, 0, none⟩))) (hd : Dsk w p g b n F m) (h fr to_ : Nat) (hh : h ≤ 1) (hfr : fr ≤ 1000000) (hto : to_ ≤ 1000000) :
    Calls Tryz.prog 134 #[.pointer (some ⟨q, 0, none⟩), .int .i64 (h : Int), .int .i64 (fr : Int), .int .i64 (to_ : Int)] w fun e w' => e = .returned (sectorsV w) ∧ w' = sectorsW w (1 + h * hsec n) fr to_ := by
  have h2 := hd.top
  have hC : Chg [] w ((w.alloc (.cells #[.int .i64 (fr : Int)] 3)).alloc (.cells #[.int .i64 (to_ : Int)] 3)) := ((Chg.refl [] w).alloc _).alloc _
  have HL := Lib.hid (halfSectors_any _ (hC.cell hq (by simp)) (hd.kept hC))
  have hs : hsec n ≤ 1024 := by unfold hsec; omega
  obtain ⟨s, HS⟩ : ∃ s, Hid (hsec n = s) := ⟨_, Lib.hid rfl⟩
  rw [HS.out] at HL hs ⊢
  clear hd hq hC
  obtain ⟨f, HF⟩ : ∃ f : Nat, Hid (1 + h * s = f) := ⟨_, Lib.hid rfl⟩
  rw [HF.out]
  have e1 : (h : Int) * (s : Int) = ((f : Int) - 1) := by rw [← HF.out]; simp; omega
  have E2 := Lib.hid (show (1 : Int) + ((f : Int) - 1) = (f : Int) by omega)
  have hf1 : 1 ≤ f := by rw [← HF.out]; omega
  have hf2 : f ≤ 2000 := by
    rw [← HF.out]
    have : h * s ≤ 1 * 1024 := Nat.mul_le_mul hh hs
    omega
  go_enter Tryz.func134, Tryz.ntmps134
  go_wp2_with (first | (go_at_call 133; refine HL.out.mono ?_; rintro e w' ⟨rfl, rfl⟩) | fail)
  go_ret
  exact ⟨rfl, by rw [E2.out]; rfl⟩
end Go.Proofs.YtmpajlpemabniaaGreat
namespace Go.Proofs.YtmpajlpemabniaaGreat
open Go.RowKit Go.Shelf Go.Deep
set_option linter.unusedVariables false
set_option linter.unusedSimpArgs false
attribute [local go_sem] Oper.semAt_some

section
variable {P : Program}
/-- an operation in a round, where nothing is deferred -/
theorem roundWp {l n : Nat} {o : Oper} {a : Act} {w : World} {K K' : Act → World → Prop} {Q : Exit → Act → World → Prop} (hd : ∀ c, o.op ≠ .defer c) (hK : ∀ a w, K a w → K' a w) (h : o.wp P a w K Q) : o.wpIn (Fence.wide.inRound l) n P a w K' Q := by
  refine ⟨fun _ _ => trivial, ?_⟩
  rw [Oper.semAt_eq _ _ _ hd]
  unfold Oper.wp at h
  generalize (execOp a.eval o).run P w = r at *
  cases r with
  | ok x w' =>
    cases x <;> simp only [Oper.upon] at h <;> simp only [Oper.uponIn]
    case value => exact hK _ _ h
    case skip => exact hK _ _ h
    case defer => exact hK _ _ h
    case enter f args =>
      refine ⟨(fun e => by cases e), CallsIn.inRound l (callsIn_wide.2 (h.mono fun e w'' he => ?_))⟩
      cases e <;> first | exact hK _ _ he | exact he
    case row row args =>
      refine ⟨(fun e => by cases e), fun c cs _ => ?_⟩
      obtain ⟨v, w'', hv, hs⟩ := h c cs
      exact ⟨v, w'', hK _ _ hv, stepsIn_wide.2 hs⟩
  | halt x w' => cases x <;> simp only [Oper.upon] at h <;> first | exact h | exact h.elim
/-- one operation of a region in a round that draws its order: by the walk outside of rounds, where nothing in it is deferred and the caller's word lets nothing out -/
theorem roundOp {l n : Nat} {ops : Array Oper} {Q : Exit → Act → World → Prop} {K K' : Act → World → Prop} {i : Nat} {a : Act} {w : World} (hout : ¬ LetsOut Q) (hd : ∀ (i : Nat) (o : Oper), ops[i]? = some o → ∀ c, o.op ≠ .defer c)
    (hK : ∀ a w, K a w → K' a w) (h : wpOp P ops Q i K a w) : wpOpIn (Fence.wide.inRound l) n P ops Q i K' a w := by
  unfold wpOp at h
  unfold wpOpIn
  cases ho : ops[i]? with
  | none => simp only [ho] at h; exact hK _ _ h
  | some o =>
    simp only [ho] at h
    dsimp only
    split
    · rename_i hw
      simp only [hw, if_true] at h
      exact roundWp (hd i o ho) hK (h.resolve_right (fun x => hout x.2))
    · rename_i hw
      simp only [hw, if_false, Bool.false_eq_true] at h
      exact ⟨fun _ _ => trivial, hK _ _ h⟩
theorem roundAny {l n : Nat} {ops : Array Oper} {Q : Exit → Act → World → Prop} {md : Region.Mode} (hout : ¬ LetsOut Q) (hd : ∀ (i : Nat) (o : Oper), ops[i]? = some o → ∀ c, o.op ≠ .defer c) :
    ∀ (fuel : Nat) (listed : Array Bool) (a : Act) (w : World), wpAny P md ops Q fuel listed a w → wpAnyIn (Fence.wide.inRound l) n P md ops Q fuel listed a w
  | 0, _, _, _, h => h
  | fuel + 1, _, _, _, h => ⟨h.1, fun i hi => roundOp hout hd (fun a w => roundAny hout hd fuel _ a w) (h.2 i hi)⟩
/-- no operation is deferred -/
def noDefer (ops : Array Oper) : Bool := ops.all fun o => match o.op with | .defer _ => false | _ => true
theorem noDefer_spec {ops : Array Oper} (h : noDefer ops = true) : ∀ (i : Nat) (o : Oper), ops[i]? = some o → ∀ c, o.op ≠ .defer c := by
  intro i o ho c e
  unfold noDefer at h
  rw [Array.all_eq_true] at h
  obtain ⟨hi, he⟩ := Array.getElem?_eq_some_iff.1 ho
  have := h i hi
  rw [he, e] at this
  simp at this
/-- a region that draws, in a round: by the walk that holds S -/
theorem round_region {l n id : Nat} {ops : Array Oper} {Q : Exit → Act → World → Prop} {a : Act} {w : World} (S : World → Prop) (hm : P.follows .mixedOrders = true) (hout : ¬ LetsOut Q) (hd : noDefer ops = true)
    (h : wpAnyH P .any ops Q S ops.size (Array.replicate ops.size false) a w.drew) : (Code.region id ops true).wpIn (Fence.wide.inRound l) n P Q a w :=
  wpIn_region_any hm (roundAny hout (noDefer_spec hd) _ _ _ _ (wpAny_of_held _ _ _ _ h))
/-- an operation of a list in a round -/
theorem round_one {l n : Nat} {ops : Array Oper} {Q : Exit → Act → World → Prop} {rest : List Oper} {o : Oper} {a : Act} {w : World} (hgd : o.guard = none) (hd : ∀ c, o.op ≠ .defer c)
    (h : ∀ K : Act → World → Prop, (∀ a w, wpListIn (Fence.wide.inRound l) n P ops Q rest a w → K a w) → o.wp P a w K Q) : wpListIn (Fence.wide.inRound l) n P ops Q (o :: rest) a w :=
  wpListIn_plain hgd fun K hK => roundWp hd (fun _ _ h => h) (h K hK)
end
section
variable {l n : Nat} {w : World} {ops : Array Oper} {rest : List Oper} {o : Oper} {a : Act} {Q : Exit → Act → World → Prop}
theorem round_alloc37 (ho : o.op = .alloc 59) (hgd : o.guard = none)
    (h : wpListIn (Fence.wide.inRound l) n Tryz.prog ops Q rest (a.put o.dst (.pointer (some ⟨w.heap.size, 0, none⟩))) (w.alloc (.cells (u8s zsec).toArray 59))) : wpListIn (Fence.wide.inRound l) n Tryz.prog ops Q (o :: rest) a w :=
  round_one hgd (by rw [ho]; intro c e; cases e) fun K hK => by
    unfold Oper.wp execOp
    simp only [ho, Sem.run_bind]
    simp [Instr.alloc, zero37 w, newVar, newRow, sv, Value.cells]
    exact hK _ _ h
theorem round_laid {W : World} (x y : Operand) (ho : o.op = .store 59 x y) (hgd : o.guard = none) (S : Sec) (hW : W = w.alloc (.cells (u8s zsec).toArray 59)) (hx : a.eval x = .pointer (some ⟨w.heap.size, 0, none⟩)) (hy : a.eval y = sv S) (hS : S.length = 64)
    (h : ∀ w', w'.rangeAt w.heap.size 0 (u8s S) → Chg [] w w' → wpListIn (Fence.wide.inRound l) n Tryz.prog ops Q rest (a.put o.dst undef) w') : wpListIn (Fence.wide.inRound l) n Tryz.prog ops Q (o :: rest) a W := by
  subst hW
  refine round_one hgd (by rw [ho]; intro c e; cases e) fun K hK => ?_
  refine wp_store_mid _ x y ho w.heap.size 0 (u8s S).toArray hx hy (by simpa [hS] using there_box w zsec 59 zsec_len) (by simpa [hS] using info37) (all_oneCell_toArray (u8s_one S)) (hK _ _ (h _ ?_ ?_))
  · simpa using World.rangeAt_setCells_same _ _ _ _ (by rw [u8s_length, hS]; exact there_box w zsec _ zsec_len)
  · simpa using ((Chg.refl [] w).alloc _).setCells (Or.inr (Nat.le_refl _)) _ _
end
/-- a walk that does not panic -/
def NoPanic (Q : Exit → Act → World → Prop) : Exit → Act → World → Prop
  | .panic _, _, _ => False
  | e, a, w => Q e a w
theorem wp_noPanic {P : Program} {c : Code} {Q : Exit → Act → World → Prop} {a : Act} {w : World} (h : c.wp P (NoPanic Q) a w) : c.wp P Q a w :=
  Code.wp_mono (fun e a w h => by cases e <;> first | exact h | exact h.elim) h
/-- a world is told by what it has -/
theorem gen_w2 {M : Act → World → Prop} {A : Act} {X : World} (P : World → Prop) (hP : P X) (h : ∀ W, P W → M A W) : M A X := h X hP
theorem wpList_laid {w W : World} {ops : Array Oper} {rest : List Oper} {o : Oper} {a : Act} {Q : Exit → Act → World → Prop} (hgd : o.guard = none) (x y : Operand) (ho : o.op = .store 59 x y) (S : Sec) (hW : W = w.alloc (.cells (u8s zsec).toArray 59)) (hx : a.eval x = .pointer (some ⟨w.heap.size, 0, none⟩)) (hy : a.eval y = sv S) (hS : S.length = 64)
    (h : ∀ w', w'.rangeAt w.heap.size 0 (u8s S) → Chg [] w w' → wpList Tryz.prog ops Q rest (a.put o.dst undef) w') : wpList Tryz.prog ops Q (o :: rest) a W := by
  subst hW
  refine wpList_store37 hgd x y ho w.heap.size 0 S hx hy (there_box w zsec _ zsec_len) hS (h _ ?_ ?_)
  · exact World.rangeAt_setCells_same _ _ _ _ (by rw [u8s_length, hS]; exact there_box w zsec _ zsec_len)
  · exact ((Chg.refl [] w).alloc _).setCells (Or.inr (Nat.le_refl _)) _ _
theorem step_appK {P : Program} {w : World} {ops : Array Oper} {o : Oper} {a : Act} {K : Act → World → Prop} {Q : Exit → Act → World → Prop} {E : Prop} (hgd : o.guard = none) (s x : Operand) (t : TypeId)
    (ho : o.op = .call { callee := .builtin .append, args := #[s, x], argTypes := #[t, t] })
    (e : TypeId) (z : Value) (bytes : Nat) (ht : P.underlying t = some (.slice e)) (hinfo : (P.info? e).map (fun i => (i.zero, i.size, i.bytes)) = some (some z, 1, bytes)) (hzs : z.cells.size = 1)
    (v : Value) (xs : List Value) (hs : a.eval s = v) (hown : Lst w 0 e v xs)
    (A : Option Addr) (B m c : Nat) (news : List Value) (hx : a.eval x = .slice A m c) (hm : news.length = m) (hro : Ro w B A news) (h1 : ∀ u ∈ news, u.oneCell' = true)
    (hlen : (xs.length + m) * bytes ≤ 140737488355328) (hlen2 : xs.length + m ≤ 140737488355328)
    (h : ∀ v' w', Hid (AppK w w' e v v' xs news) → K (a.put o.dst v') w') :
    if Region.wanted o (yielded ops a.tmps) = true then Oper.wp P o a w K Q else E := by
  have hw : Region.wanted o (yielded ops a.tmps) = true := by simp [Region.wanted, hgd]
  rw [if_pos hw]
  exact wp_appK s x t ho e z bytes ht hinfo hzs v xs hs hown A B m c news hx hm hro h1 hlen hlen2 h
end Go.Proofs.YtmpajlpemabniaaGreat
