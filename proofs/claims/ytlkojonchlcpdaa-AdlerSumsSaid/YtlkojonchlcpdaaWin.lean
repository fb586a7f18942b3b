/-
  Package adler's windows: the iterator's contract, for every loop body that keeps the iterator's own cells. No condition but the ranges that each theorem names.
-/
import Derived.Test.YtlkojonchlcpdaaAdB
import Derived.Test.YtlkojonchlcpdaaSeq
import Derived.OwnWalkIn
import Derived.TacticsInMore
import Derived.LoopNIn
import Derived.LoopIn
import Derived.Shelf.RegionOpen
namespace Go.Proofs.Ytlkojonchlcpdaa
open Go.RowKit Go.Shelf
attribute [local go_sem] Oper.semAt_some

/-- the sum of window number k of n bytes -/
def winS (bs : List UInt8) (n k : Nat) : Nat := sumN ((bs.drop k).take n)
theorem winS_lt (bs : List UInt8) (n k : Nat) : winS bs n k < 4294967296 := moreN_lt _ _
theorem win_cons (bs : List UInt8) (n k : Nat) (h : k < bs.length) : (bs.drop k).take (n + 1) = bs.getD k 0 :: (bs.drop (k + 1)).take n := by
  rw [List.drop_eq_getElem_cons h, List.take_succ_cons]
  simp [List.getD, h]
theorem win_snoc (bs : List UInt8) (n k : Nat) (h : k + n < bs.length) : (bs.drop k).take (n + 1) = (bs.drop k).take n ++ [bs.getD (k + n) 0] := by
  rw [take_snoc (bs.drop k) n (by rw [List.length_drop]; omega)]
  simp [List.getD]
theorem winS_roll (bs : List UInt8) (n k : Nat) (h : k + n < bs.length) : rollN (winS bs n k) (n : Int) (bs.getD k 0).toNat (bs.getD (k + n) 0).toNat = winS bs n (k + 1) := by
  unfold winS
  cases n with
  | zero =>
    simp only [List.take_zero, Nat.add_zero]
    have e : sumN [] = 1 := by rw [sumN_eq]; simp [wB, sumB]
    rw [e]
    unfold rollN rollA rollB
    have hx := (bs.getD k 0).toNat_lt
    generalize (bs.getD k 0).toNat = x at *
    simp
  | succ n =>
    have hl : ((bs.drop (k + 1)).take n).length = n := by rw [List.length_take, List.length_drop]; omega
    rw [win_cons bs n k (by omega), win_snoc bs n (k + 1) (by omega), show k + 1 + n = k + (n + 1) by omega]
    exact rollN_sum _ _ _ _ (by rw [hl]; omega)
theorem winS_halves (bs : List UInt8) (n k : Nat) (h : k + n < bs.length) :
    rollA ((winS bs n k % 65536 : Nat) : Int) ((bs.getD k 0).toNat : Int) ((bs.getD (k + n) 0).toNat : Int) = ((winS bs n (k + 1) % 65536 : Nat) : Int) ∧
    rollB ((winS bs n k % 65536 : Nat) : Int) ((winS bs n k / 65536 : Nat) : Int) (max (n : Int) 0 % 65521) ((bs.getD k 0).toNat : Int) ((bs.getD (k + n) 0).toNat : Int) = ((winS bs n (k + 1) / 65536 : Nat) : Int) := by
  have e := winS_roll bs n k h
  have h1 := rollA_bd ((winS bs n k % 65536 : Nat) : Int) ((bs.getD k 0).toNat : Int) ((bs.getD (k + n) 0).toNat : Int)
  have h2 := rollB_bd ((winS bs n k % 65536 : Nat) : Int) ((winS bs n k / 65536 : Nat) : Int) (max (n : Int) 0 % 65521) ((bs.getD k 0).toNat : Int) ((bs.getD (k + n) 0).toNat : Int)
  unfold rollN at e
  constructor <;> omega

/-- what a round must keep: all below n₀; and each block of cells of the types T -/
def Kept (n₀ : Nat) (T : List TypeId) (W W' : World) : Prop := Below n₀ W W' ∧ ∀ g t cs, t ∈ T → Own W g t cs → Own W' g t cs
theorem Kept.trans {n₀ : Nat} {T : List TypeId} {A B C : World} (h : Kept n₀ T A B) (k : Kept n₀ T B C) : Kept n₀ T A C :=
  ⟨h.1.trans k.1, fun g t cs ht ho => k.2 g t cs ht (h.2 g t cs ht ho)⟩
theorem Kept.put {n₀ : Nat} {T : List TypeId} {W : World} {l : Nat} {o o' : Obj} (hn : n₀ ≤ l) (hl : W.heap[l]? = some o) (ho : o.isCells = false) : Kept n₀ T W (W.putObj l o') :=
  ⟨(Below.refl n₀ W).grown (grownBy_putObj' W l o') (by have := (Array.getElem?_eq_some_iff.1 hl).1; omega) (fun k e => by cases e; omega),
   fun g t cs _ hw => hw.grown (grownBy_putObj' W l o') (fun e => by
     injection e with e
     subst e
     rw [show W.heap[g]? = _ from hw] at hl
     cases hl
     cases ho)⟩
theorem Kept.refl (n₀ : Nat) (T : List TypeId) (W : World) : Kept n₀ T W W := ⟨Below.refl _ _, fun _ _ _ _ h => h⟩
theorem Kept.alloc (n₀ : Nat) (T : List TypeId) (W : World) (o : Obj) (h : n₀ ≤ W.heap.size) : Kept n₀ T W (W.alloc o) := ⟨(Below.refl _ _).alloc h _, fun _ _ _ _ h => h.alloc o⟩

def winTypes : List TypeId := [43, 22, 3]
def winEncs (bs : List UInt8) (n : Nat) (k : Nat) : Array Value := #[.int .i64 (k : Int), .agg #[.int .i64 ((winS bs n k % 65536 : Nat) : Int), .int .i64 ((winS bs n k / 65536 : Nat) : Int)]]

theorem roundIn_any {P : Program} {n m l : Nat} {f : FuncId} {tmps : Array Value} {assign body : Code} {w : World} {R : Ending → World → Prop} (h : RoundIn Fence.wide n P l f tmps assign body w R) : RoundIn Fence.wide m P l f tmps assign body w R :=
  ⟨h.1, fun c cs _ => h.2 c cs (room_wide _)⟩

set_option maxRecDepth 100000 in
set_option maxHeartbeats 2000000 in
theorem windows1_in (bs : List UInt8) (n len : Nat) (A : Option Addr) (c n₀ l m gn gb : Nat) (W : World) (hlen : bs.length = len) (hn : n ≤ len) (hcap : len ≤ c) (hmax : c ≤ 9223372036854775807) (hnil : A = none → c = 0) (hro : Ro W n₀ A (u8s bs)) (hn0 : n₀ ≤ W.heap.size)
    (hgn : Own W gn 3 [.int .i64 (n : Int)]) (hgb : Own W gb 22 [.slice A len c])
    (J : Bool → List Nat → World → Prop) (hJ : ∀ b xs, Bears W.heap.size 43 (J b xs))
    (hY : ∀ pre k W1, J true pre W1 → (k = pre.length ∧ k + n ≤ len) → YieldAt Fence.wide m Try.prog l (winEncs bs n k) W1 fun e W' => ∃ b, e = .returned (.bool b) ∧ J b (pre ++ [k]) W' ∧ (b = true → Kept n₀ winTypes W1 W'))
    (h0 : J true [] W) :
    CallsIn Fence.wide m Try.prog 31 #[.func (.yield l) #[] #[], .pointer (some ⟨gn, 0, none⟩), .pointer (some ⟨gb, 0, none⟩)] W fun e W' => (∃ v, e = .returned v) ∧ ∃ b xs, (∃ k, xs = List.range k ∧ k ≤ len - n + 1 ∧ (b = true → k = len - n + 1)) ∧ J b xs W' := by
  have hcn := hgn.cell 0
  have hcb := hgb.cell 0
  simp at hcn hcb
  have HL := Lib.hid hlen
  clear hlen
  refine callsIn_of_wp Try.func31 rfl trivial ?_ rfl
  simp only [Try.ntmps31, List.size_toArray, List.length_cons, List.length_nil, Nat.reduceAdd, Nat.reduceSub, Array.replicate_succ, Array.replicate_zero, List.push_toArray, List.append_toArray, List.nil_append, List.cons_append]
  have hnn : (n : Int) ≤ (len : Int) := by omega
  have hdn : decide ((n : Int) < 0) = false := decide_eq_false (by omega)
  have hdl : decide (len < n) = false := decide_eq_false (by omega)
  gi_wp2_with fail
  refine ⟨trivial, (fun h => by cases h), ?_⟩
  refine (callsIn_wide.2 (sum_any (bs.take n) n A c W (by rw [List.length_take]; have := HL.out; omega) (by have := (hro.take n).mono hn0; rwa [show (u8s bs).take n = u8s (bs.take n) by simp [u8s, List.map_take]] at this) (by omega))).mono ?_
  rintro e w1 ⟨rfl, hb1⟩
  have e0 : sumN (bs.take n) = winS bs n 0 := by simp [winS]
  rw [e0]
  have hlt0 := winS_lt bs n 0
  obtain ⟨x, y, hx, hy, hxy⟩ : ∃ x y, winS bs n 0 % 65536 = x ∧ winS bs n 0 / 65536 = y ∧ winS bs n 0 = 65536 * y + x := ⟨_, _, rfl, rfl, by omega⟩
  have HX := Lib.hid (And.intro hx hy)
  have hsp := fun w => split_is (winS bs n 0) x y w hxy (by omega) (by omega)
  have HSP := Lib.hid hsp
  clear hx hy hxy hsp e0
  generalize hs0 : winS bs n 0 = s0 at HSP ⊢
  clear hs0
  gi_wp2_with fail
  refine ⟨trivial, (fun h => by cases h), ?_⟩
  refine (callsIn_wide.2 (HSP.out w1)).mono ?_
  rintro e w2 ⟨rfl, hb2⟩
  have hb12 := hb1.trans (hb2.mono hb1.size)
  clear hb1 hb2 HSP
  gi_wp2_with fail
  have hWH : W.heap.size ≤ w2.heap.size := hb12.size
  gi_loopw [5] (fun i wr => ∃ k : Nat, i = .int .i64 (k : Int) ∧ k + n ≤ len ∧ J true (List.range k) wr ∧ Own wr w2.heap.size 43 [.int .i64 ((winS bs n k % 65536 : Nat) : Int), .int .i64 ((winS bs n k / 65536 : Nat) : Int)] ∧ Own wr gn 3 [.int .i64 (n : Int)] ∧ Own wr gb 22 [.slice A len c] ∧ Below n₀ W wr)
    (fun i _ => len - (intOf i).toNat)
  case atStart =>
    refine ⟨0, rfl, by omega, ?_, ?_, ?_, ?_, ?_⟩
    · exact hJ _ _ _ _ (hJ _ _ _ _ h0 (Turn.of_below hb12)) (Turn.alloc _ _ _ _)
    · rw [HX.out.1, HX.out.2]; exact Own.new w2 _ _
    · exact (hgn.below hb12 hgn.lt).alloc _
    · exact (hgb.below hb12 hgb.lt).alloc _
    · exact (hb12.mono hn0).alloc (by omega) _
  case round =>
    obtain ⟨k, rfl, hk, hj, hoH, hon, hob, hbel⟩ := hrel
    obtain ⟨fn, tmps, assign, body, hy, hR⟩ := hY (List.range k) k wr hj ⟨by simp, hk⟩
    unfold winEncs at hy
    have hstep := winS_halves bs n k
    obtain ⟨p, q, hp, hq⟩ : ∃ p q, winS bs n k % 65536 = p ∧ winS bs n k / 65536 = q := ⟨_, _, rfl, rfl⟩
    have hlt := winS_lt bs n k
    have hp1 : p < 65536 := by omega
    have hq1 : q < 65536 := by omega
    rw [hp, hq] at hoH hy hstep
    clear hlt hp hq
    have HS := Lib.hid hstep
    clear hstep
    have hcH := hoH.cell 0
    have hcH1 := hoH.cell 1
    have hcn := hon.cell 0
    have hcb := hob.cell 0
    simp at hcH hcH1 hcn hcb
    gi_wp2_with fail
    refine ⟨(fun h => by cases h), (roundIn_any hR).mono ?_⟩
    rintro e W3 ⟨b, rfl, hj3, hk3⟩
    cases b with
    | false =>
      gi_wp2_with fail
      go_end0
      exact ⟨⟨_, rfl⟩, false, List.range k ++ [k], ⟨k + 1, List.range_succ.symm, by omega, by simp⟩, hj3⟩
    | true =>
      have hk4 := hk3 rfl
      have hoH3 := hk4.2 _ _ _ (by simp [winTypes]) hoH
      have hon3 := hk4.2 _ _ _ (by simp [winTypes]) hon
      have hob3 := hk4.2 _ _ _ (by simp [winTypes]) hob
      have hbel3 := hbel.trans hk4.1
      have hdH := hoH3.cell 0
      have hdH1 := hoH3.cell 1
      have hfH := hoH3.frozen 0
      have hfH1 := hoH3.frozen 1
      have hdn := hon3.cell 0
      have hdb := hob3.cell 0
      simp at hdH hdH1 hdn hdb
      clear hcH hcH1 hcn hcb hR hk3
      by_cases hlt : k + n < len
      · have hlt' : (k : Int) < (len : Int) - (n : Int) := by omega
        obtain ⟨b0, off, rfl, hb0, hc⟩ := (hro.below hbel3 (Nat.le_refl _)).u8 (by have := HL.out; omega)
        have hcell := hc k (by have := HL.out; omega)
        have hcell2 := hc (k + n) (by have := HL.out; omega)
        clear hc
        have HST := Lib.hid (HS.out (by have := HL.out; omega))
        generalize bs.getD k 0 = z1 at hcell HST
        generalize bs.getD (k + n) 0 = z2 at hcell2 HST
        have hz1 := z1.toNat_lt
        have hz2 := z2.toNat_lt
        gi_wp2_with fail
        refine wpIn_wide.2 ?_
        refine wp_region_still_tail 12 (by kernel_rfl) (by kernel_rfl) ?_
        simp only [List.take_succ_cons, List.take_zero, List.drop_succ_cons, List.drop_zero]
        change wpStill _ _ W3.drew (fun a1 => wpList _ _ _ _ a1 W3.drew) _ _
        have hi0 : (0 : Int) ≤ (k : Int) := by omega
        have hi1 : (k : Int) < (len : Int) := by omega
        have hi2 : (0 : Int) ≤ (k : Int) + (n : Int) := by omega
        have hi3 : (k : Int) + (n : Int) < (len : Int) := by omega
        have hi4 : ((k : Int) + (n : Int)).toNat = k + n := by omega
        have hi5 : IntKind.i64.wrap ((k : Int) + (n : Int)) = (k : Int) + (n : Int) := IntWalk.i64_in _ (by omega)
        repeat still_step
        refine wpStill_nil ?_
        clear hi0 hi1 hi2 hi3 hi4 hi5
        obtain ⟨p2, q2, hp2, hq2⟩ : ∃ p2 q2, winS bs n (k + 1) % 65536 = p2 ∧ winS bs n (k + 1) / 65536 = q2 := ⟨_, _, rfl, rfl⟩
        have hrol := fun w => rolled_any p q n z1.toNat z2.toNat w hp1 hq1 (by omega) (by omega) (by omega) (by omega)
        rw [HST.out.1, HST.out.2, hp2, hq2] at hrol
        have HR := Lib.hid hrol
        have HP := Lib.hid (And.intro hp2 hq2)
        clear hrol hp2 hq2 HST
        go_wp2_with fail
        refine (HR.out _).mono ?_
        rintro e w5 ⟨rfl, hb5⟩
        have hb35 : Below W3.heap.size W3 w5 := (Below.refl _ W3).drew.trans hb5
        have hs3 := hoH3.lt
        have hoH5 := hoH3.below hb35 hs3
        have hon5 := hon3.below hb35 hon3.lt
        have hob5 := hob3.below hb35 hob3.lt
        have hj5 := hJ _ _ _ _ hj3 (Turn.of_below hb35)
        have hfn : gn ≠ w2.heap.size := by have := hgn.lt; omega
        have hfb : gb ≠ w2.heap.size := by have := hgb.lt; omega
        have heH := hoH5.cell 0
        have heH1 := hoH5.cell 1
        have hfH5 := hoH5.frozen 0
        have hfH51 := hoH5.frozen 1
        simp at heH heH1
        clear hfH hfH1 hdH hdH1
        go_wp2_with fail
        gi_wp2_with fail
        go_roundw
        case rel =>
          refine ⟨k + 1, by go_num, by omega, ?_, ?_, (hon5.far (p := ⟨w2.heap.size, 0, none⟩) hfn _).far (p := ⟨w2.heap.size, 1, none⟩) hfn _, (hob5.far (p := ⟨w2.heap.size, 0, none⟩) hfb _).far (p := ⟨w2.heap.size, 1, none⟩) hfb _, ?_⟩
          · rw [List.range_succ]
            exact hJ _ _ _ _ (hJ _ _ _ _ hj5 (Turn.set hoH5 hWH 0 _)) (Turn.set (hoH5.set 0 _) hWH 1 _)
          · rw [HP.out.1, HP.out.2]
            exact (hoH5.set 0 (.int .i64 (p2 : Int))).set 1 (.int .i64 (q2 : Int))
          · exact ((hbel3.trans (hb35.mono (by have := hbel3.size; omega))).setCell (p := ⟨w2.heap.size, 0, none⟩) (by show n₀ ≤ w2.heap.size; omega) _).setCell (p := ⟨w2.heap.size, 1, none⟩) (by show n₀ ≤ w2.heap.size; omega) _
        case measure => simp [intOf]; omega
      · have hlt' : ¬ (k : Int) < (len : Int) - (n : Int) := by omega
        gi_wp2_with fail
        go_end0
        exact ⟨⟨_, rfl⟩, true, List.range k ++ [k], ⟨k + 1, List.range_succ.symm, by omega, fun _ => by omega⟩, hj3⟩
end Go.Proofs.Ytlkojonchlcpdaa
