/-
  Contract of package tape's sectors: the iterator over the sectors that hold a half's bytes. No claim of its own.
-/
import Derived.Test.YtdiemejdbakffaaGreatTpH
import Derived.RangeFuncNested
import Derived.RangeFuncBound
import Derived.RangeFuncCalls
import Derived.RangeFuncLeaves
import Derived.Shelf.Abstract
import Derived.Shelf.RegionOpen
import Derived.WalkKit
import Derived.OwnWalkIn
import Derived.TacticsInMore
import Derived.LoopNIn
import Derived.LoopIn
namespace Go.Proofs.YtdiemejdbakffaaGreat
open Go.RowKit Go.Shelf Go.Deep
set_option linter.unusedVariables false
set_option linter.unusedSimpArgs false
attribute [local go_sem] Oper.semAt_some

theorem roundIn_any {P : Program} {n m l : Nat} {f : FuncId} {tmps : Array Value} {assign body : Code} {w : World} {R : Ending → World → Prop} (h : RoundIn Fence.wide n P l f tmps assign body w R) : RoundIn Fence.wide m P l f tmps assign body w R :=
  ⟨h.1, fun c cs _ => h.2 c cs (room_wide _)⟩
/-- the blocks of FS lie as they lay -/
def Same (FS : List Nat) (a w : World) : Prop := a.heap.size ≤ w.heap.size ∧ ∀ k ∈ FS, w.heap[k]? = a.heap[k]?
theorem Same.refl (FS : List Nat) (a : World) : Same FS a a := ⟨Nat.le_refl _, fun _ _ => rfl⟩
theorem Same.trans {FS : List Nat} {a b c : World} (h : Same FS a b) (k : Same FS b c) : Same FS a c := ⟨Nat.le_trans h.1 k.1, fun i hi => (k.2 i hi).trans (h.2 i hi)⟩
theorem Same.low {FS : List Nat} {a b : World} (h : Below a.heap.size a b) (hF : ∀ k ∈ FS, k < a.heap.size) : Same FS a b := ⟨h.size, fun k hk => h.block k (hF k hk)⟩
theorem Own.same {FS : List Nat} {a w : World} {g : Nat} {t : TypeId} {cs : List Value} (ho : Own a g t cs) (h : Same FS a w) (hg : g ∈ FS) : Own w g t cs := (h.2 g hg).trans ho
theorem Below.grow0 {a b : World} (h : Below a.heap.size a b) : a.grownBy b none := ⟨h.os, h.tape, h.output, h.size, fun k hk _ => h.block k hk⟩
/-- how many sectors -/
def secN (fr to_ : Nat) : Nat := (to_ + 63) / 64 - fr / 64
/-- how many sectors hold so many bytes -/
def ceilS (to_ : Nat) : Nat := (to_ + 63) / 64
abbrev SN (to_ : Nat) := {k : Nat // k < ceilS to_}
def encS (f to_ : Nat) (k : SN to_) : Array Value := #[.int .i64 (((f + k.1 : Nat)) : Int), .int .i64 ((k.1 * 64 : Nat) : Int)]
def valS {to_ : Nat} (xs : List (SN to_)) : List Nat := xs.map (·.1)
theorem secN_lt (fr to_ j : Nat) : j < secN fr to_ ↔ (fr / 64 + j) * 64 < to_ := by unfold secN; omega
theorem valS_snoc {to_ : Nat} (xs : List (SN to_)) (x : SN to_) : valS (xs ++ [x]) = valS xs ++ [x.1] := by simp [valS]
theorem range_snoc (q j : Nat) : List.range' q (j + 1) = List.range' q j ++ [q + j] := by rw [List.range'_concat]; simp
set_option maxRecDepth 100000 in
set_option maxHeartbeats 2000000 in
theorem sect_stops (n bf bt bi f fr to_ : Nat) (w : World) (hf : Own w bf 3 [.int .i64 (fr : Int)]) (ht : Own w bt 3 [.int .i64 (to_ : Int)]) (hi : Own w bi 3 [.int .i64 (f : Int)]) (hfr : fr ≤ 1000000) (hto : to_ ≤ 1000000) (hff : f ≤ 1000000)
    (Kp : World → World → Prop) (hK : ∀ W W', Kp W W' → Same [bf, bt, bi] W W') :
    SeqStopsK Fence.wide n Tryz.prog 74 #[.pointer (some ⟨bf, 0, none⟩), .pointer (some ⟨bt, 0, none⟩), .pointer (some ⟨bi, 0, none⟩)] (encS f to_) Kp (fun xs => valS xs = List.range' (fr / 64) (secN fr to_)) (fun _ => True) (secN fr to_) w := by
  intro l J Jx W hW hJ hJx hY h0
  have hfW := hf.below hW hf.lt
  have htW := ht.below hW ht.lt
  have hiW := hi.below hW hi.lt
  obtain ⟨q, HQ⟩ : ∃ q, Hid (fr / 64 = q) := ⟨_, Lib.hid rfl⟩
  obtain ⟨m, HM⟩ : ∃ m, Hid (secN fr to_ = m) := ⟨_, Lib.hid rfl⟩
  rw [HQ.out, HM.out]
  rw [HM.out] at hY
  have c1 := hfW.cell 0
  simp at c1
  have hq : (fr : Int) / 64 = (q : Int) := by rw [← HQ.out]; omega
  have hqm : q ≤ 1000000 := by rw [← HQ.out]; omega
  have HF := Lib.hid hfW
  have HT := Lib.hid htW
  have HI := Lib.hid hiW
  clear hf ht hi hfW htW hiW
  refine callsIn_of_wp Tryz.func74 rfl trivial ?_ rfl
  simp only [Tryz.ntmps74, List.size_toArray, List.length_cons, List.length_nil, Nat.reduceAdd, Nat.reduceSub, Array.replicate_succ, Array.replicate_zero, List.push_toArray, List.append_toArray, List.nil_append, List.cons_append]
  gi_wp2_with fail
  gi_loopw [5] (fun i wr => ∃ (j : Nat) (pre : List (SN to_)), i = .int .i64 ((q + j : Nat) : Int) ∧ j ≤ m ∧ valS pre = List.range' q j ∧ J pre wr ∧ Same [bf, bt, bi] W wr) (fun i _ => q + m - (intOf i).toNat)
  case atStart => exact ⟨0, [], rfl, Nat.zero_le _, rfl, h0, Same.refl _ _⟩
  case round =>
    obtain ⟨j, pre, rfl, hj, hpre, hjj, hS⟩ := hrel
    have c2 := (HT.out.same hS (by simp)).cell 0
    have c3 := (HI.out.same hS (by simp)).cell 0
    simp at c2 c3
    have HS := Lib.hid hS
    have hmb : m ≤ 1000000 := by rw [← HM.out]; unfold secN; omega
    obtain ⟨k, HK⟩ : ∃ k, Hid (q + j = k) := ⟨_, Lib.hid rfl⟩
    rw [HK.out]
    have hkb : k ≤ 2000000 := by rw [← HK.out]; omega
    have hpl : pre.length = j := by have := congrArg List.length hpre; simpa [valS] using this
    have HPL := Lib.hid hpl
    have HPR := Lib.hid hpre
    clear hpl hpre hS
    by_cases hlt : j < m
    · have hk : k * 64 < to_ := by rw [← HK.out, ← HQ.out]; exact (secN_lt fr to_ j).1 (by rw [HM.out]; exact hlt)
      have hd : decide ((k : Int) * 64 < (to_ : Int)) = true := by simp; omega
      have hkc : k < ceilS to_ := by unfold ceilS; omega
      obtain ⟨fn, tmps, assign, body, hyy, hR⟩ := hY pre ⟨k, hkc⟩ _ hjj (by rw [HPL.out]; exact hlt)
      dsimp only [encS] at hyy
      rw [show ((f + k : Nat) : Int) = (f : Int) + (k : Int) by omega, show ((k * 64 : Nat) : Int) = (k : Int) * 64 by omega] at hyy
      have HPO := Lib.hid (show valS (pre ++ [⟨k, hkc⟩]) = List.range' q (j + 1) by rw [valS_snoc, HPR.out, range_snoc, HK.out])
      generalize (⟨k, hkc⟩ : SN to_) = x at hR HPO
      clear hY
      gi_wp2_with fail
      refine ⟨(fun h => by cases h), (roundIn_any hR).mono ?_⟩
      rintro e W5 (⟨rfl, hj5, hk5⟩ | ⟨rfl, hjx5⟩)
      · gi_wp2_with fail
        go_roundw
        case rel => exact ⟨j + 1, pre ++ [x], by have := HK.out; congr 1; omega, hlt, HPO.out, hj5, HS.out.trans (hK _ _ hk5)⟩
        case measure => have := HK.out; simp [intOf]; omega
      · gi_wp2_with fail
        refine bodyPost_ret (results_none rfl _ _ _) rfl ?_
        exact ⟨⟨_, rfl⟩, .inr ⟨pre ++ [x], trivial, hjx5⟩⟩
    · have hk : ¬ k * 64 < to_ := by rw [← HK.out, ← HQ.out]; exact fun h => hlt (by rw [← HM.out]; exact (secN_lt fr to_ j).2 h)
      have hd : decide ((k : Int) * 64 < (to_ : Int)) = false := by simp; omega
      have hjm : j = m := by omega
      have HJM := Lib.hid hjm
      clear hjm hY
      gi_wp2_with fail
      go_end0
      exact ⟨⟨_, rfl⟩, .inl ⟨pre, by rw [HPR.out, HJM.out], hjj⟩⟩
/-- sectors: the iterator, and its three variables -/
theorem halfSectors_any (w : World) {q p g b n : Nat} {F : Nat → Sec} {m : Nat → Option Sec} (hq : w.cell? ⟨q, 0, none⟩ = some (.pointer (some ⟨p, 0, none⟩))) (hd : Dsk w p g b n F m) :
    Calls Tryz.prog 60 #[.pointer (some ⟨q, 0, none⟩)] w fun e w' => e = .returned (.int .i64 ((hsec n : Nat) : Int)) ∧ w = w' := by
  have h1 := hd.one
  have h2 := hd.top
  have HL := Lib.hid (len_ok w hd)
  have e1 : ((n : Int) - 1) / 2 = ((hsec n : Nat) : Int) := by unfold hsec; omega
  obtain ⟨s, HS⟩ : ∃ s, Hid (hsec n = s) := ⟨_, Lib.hid rfl⟩
  rw [HS.out] at e1 ⊢
  have hn1 : (1 : Int) ≤ (n : Int) := by omega
  have E1 := Lib.hid e1
  clear hd e1
  go_enter Tryz.func60, Tryz.ntmps60
  go_wp2_with (first | (go_at_call 26; refine HL.out.mono ?_; rintro e w' ⟨rfl, rfl⟩) | fail)
  go_ret
  exact ⟨ret_int E1.out, rfl⟩
theorem halfSize_any (w : World) {q p g b n : Nat} {F : Nat → Sec} {m : Nat → Option Sec} (hq : w.cell? ⟨q, 0, none⟩ = some (.pointer (some ⟨p, 0, none⟩))) (hd : Dsk w p g b n F m) :
    Calls Tryz.prog 28 #[.pointer (some ⟨q, 0, none⟩)] w fun e w' => e = .returned (.int .i64 ((hsec n * 64 : Nat) : Int)) ∧ w = w' := by
  have h2 := hd.top
  have HL := Lib.hid (halfSectors_any w hq hd)
  have hs : hsec n ≤ 1024 := by unfold hsec; omega
  obtain ⟨s, HS⟩ : ∃ s, Hid (hsec n = s) := ⟨_, Lib.hid rfl⟩
  rw [HS.out] at HL hs ⊢
  clear hd hq
  go_enter Tryz.func28, Tryz.ntmps28
  go_wp2_with (first | (go_at_call 60; refine HL.out.mono ?_; rintro e w' ⟨rfl, rfl⟩) | fail)
  go_ret
  exact ⟨ret_int (by omega), rfl⟩
def sectorsV (w : World) : Value := .func (.func 74) #[] #[.pointer (some ⟨w.heap.size, 0, none⟩), .pointer (some ⟨w.heap.size + 1, 0, none⟩), .pointer (some ⟨w.heap.size + 2, 0, none⟩)]
def sectorsW (w : World) (f fr to_ : Nat) : World := ((w.alloc (.cells #[.int .i64 (fr : Int)] 3)).alloc (.cells #[.int .i64 (to_ : Int)] 3)).alloc (.cells #[.int .i64 (f : Int)] 3)
theorem sectors_any (w : World) {q p g b n : Nat} {F : Nat → Sec} {m : Nat → Option Sec} (hq : w.cell? ⟨q, 0, none⟩ = some (.pointer (some ⟨p, 0, none⟩))) (hd : Dsk w p g b n F m) (h fr to_ : Nat) (hh : h ≤ 1) (hfr : fr ≤ 1000000) (hto : to_ ≤ 1000000) :
    Calls Tryz.prog 61 #[.pointer (some ⟨q, 0, none⟩), .int .i64 (h : Int), .int .i64 (fr : Int), .int .i64 (to_ : Int)] w fun e w' => e = .returned (sectorsV w) ∧ w' = sectorsW w (1 + h * hsec n) fr to_ := by
  have h2 := hd.top
  have hC : Chg [] w ((w.alloc (.cells #[.int .i64 (fr : Int)] 3)).alloc (.cells #[.int .i64 (to_ : Int)] 3)) := ((Chg.refl [] w).alloc _).alloc _
  have HL := Lib.hid (halfSectors_any _ (hC.cell hq (by simp)) (hd.kept hC))
  have hs : hsec n ≤ 1024 := by unfold hsec; omega
  obtain ⟨s, HS⟩ : ∃ s, Hid (hsec n = s) := ⟨_, Lib.hid rfl⟩
  rw [HS.out] at HL hs ⊢
  clear hd hq hC
  obtain ⟨f, HF⟩ : ∃ f : Nat, Hid (1 + h * s = f) := ⟨_, Lib.hid rfl⟩
  rw [HF.out]
  have e1 : (h : Int) * (s : Int) = ((f : Int) - 1) := by rw [← HF.out]; simp; omega
  have E2 := Lib.hid (show (1 : Int) + ((f : Int) - 1) = (f : Int) by omega)
  have hf1 : 1 ≤ f := by rw [← HF.out]; omega
  have hf2 : f ≤ 2000 := by
    rw [← HF.out]
    have : h * s ≤ 1 * 1024 := Nat.mul_le_mul hh hs
    omega
  go_enter Tryz.func61, Tryz.ntmps61
  go_wp2_with (first | (go_at_call 60; refine HL.out.mono ?_; rintro e w' ⟨rfl, rfl⟩) | fail)
  go_ret
  exact ⟨rfl, by rw [E2.out]; rfl⟩
end Go.Proofs.YtdiemejdbakffaaGreat
