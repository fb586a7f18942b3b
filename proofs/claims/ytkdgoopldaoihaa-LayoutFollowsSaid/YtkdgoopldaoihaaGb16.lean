/-
  slices.Grow of nothing, slices.Concat of chains, by their contracts. No claim of its own.
-/
import Derived.Test.YtkdgoopldaoihaaGb2
import Derived.Lib.AppendZerosOnto
import Derived.Test.YtkdgoopldaoihaaGb5
import Derived.Shelf.SlGeneric
import Derived.Shelf.SlicesE.Clone
import Derived.Shelf.SlicesE.Compact
import Derived.Shelf.SlicesE.Index
import Derived.Shelf.SlicesE.DeleteFunc
import Derived.Shelf.SortM.Plain
import Derived.Test.YtkdgoopldaoihaaRows
import Derived.Sort.OwnSortedInts
import Derived.Test.YtkdgoopldaoihaaGb6
import Derived.Deep.RegionHeld3
import Derived.Test.YtkdgoopldaoihaaGb12
namespace Go.Proofs.Ytkdgoopldaoihaa
open Go.RowKit Go.Deep Go.Shelf
set_option linter.unusedVariables false
set_option linter.unusedSimpArgs false

theorem i64s_one (bs : List Int) : ∀ v ∈ i64s bs, v.oneCell' = true := by
  intro v hv
  simp only [i64s, List.mem_map] at hv
  obtain ⟨x, _, rfl⟩ := hv
  rfl
theorem growI_zeros (w : World) (k : Nat) (hk : 0 < k) (hk2 : k ≤ 4000000) :
    ∃ (G : Nat) (W1 : World) (cur1 : List Value), k ≤ G ∧ G ≤ maxLen ∧ cur1.length = G ∧ Own W1 w.heap.size 3 cur1 ∧ (∀ row, w.grownBy W1 row) ∧
      ∀ ty, (Builtin.append_ #[36, 3] ty #[.slice none 0 0, .int .i64 (k : Nat)]).run Try.prog w = .ok (.slice (some ⟨w.heap.size, 0, none⟩) k G) W1 := by
  obtain ⟨i0, hi0, hzz⟩ := Option.map_eq_some_iff.1 Try.info_i64
  simp only [Prod.mk.injEq] at hzz
  obtain ⟨hz0, hzs, hzb⟩ := hzz
  have hold : (Builtin.firstCells i0.size 0 (.slice none 0 0)).run Try.prog w.drew = .ok (([] : List Value)).toArray w.drew := by
    simp [Builtin.firstCells]
  have hrun := fun ty => Lib.run_append_grow_zeros w 36 3 ty 3 i0 _ .i64 .i64 Try.underlying36 Try.underlying3 hi0 hz0 none 0 0 [] hold k hk (by omega) (by omega) (by omega) (by rw [hzb]; omega) (by rw [hzb]; exact growslice_fits (by omega) (by omega))
  simp only [Nat.zero_add] at hrun
  refine ⟨_, _, (Builtin.zeroCells (Value.int .i64 0).cells k).toList ++ (Builtin.zeroCells (Value.int .i64 0).cells (grownCap w k 0 3 - k)).toList, grownCap_ge w _ _ _, grownCap_le_maxLen w _ _ _ (by unfold maxLen; omega), ?_, ?_, ?_, hrun⟩
  · have := grownCap_ge w k 0 3
    simp only [List.length_append, Array.length_toList, size_zeroCells, show (Value.int .i64 0).cells.size = 1 from rfl]
    omega
  · have := heap_alloc_new w.drew (.cells (([] : List Value).toArray ++ Builtin.zeroCells (Value.int .i64 0).cells k ++ Builtin.zeroCells (Value.int .i64 0).cells (grownCap w k 0 3 - k)) 3)
    unfold Own
    refine this.trans ?_
    have e : ∀ (a : List Value) (b c : Array Value), a.toArray ++ b ++ c = (a ++ b.toList ++ c.toList).toArray := fun a b c => Array.ext' (by simp)
    rw [e, List.nil_append]
  · exact fun row => ⟨rfl, rfl, rfl, by simp, fun j hj _ => Below.heap_alloc w.drew _ j hj⟩
set_option maxHeartbeats 1000000 in
set_option maxRecDepth 1000000 in
theorem growI_any (w : World) (n : Nat) (hn : n ≤ 4000000) :
    Calls Try.prog 57 #[.slice none 0 0, .int .i64 n] w fun e w' => ∃ v, e = .returned v ∧ Lst w' w.heap.size 3 v [] ∧ Below w.heap.size w w' := by
  rcases Nat.eq_zero_or_pos n with h0 | h0
  · subst h0
    go_enter Try.func57, Try.ntmps57
    go_wp2_with fail
    go_ret
    exact ⟨_, rfl, Lst.nil _ _ _, Below.refl _ _⟩
  · obtain ⟨G, W1, cur1, hG1, hG2, hl1, ho1, hgr, hrun⟩ := growI_zeros w n h0 hn
    have hd : decide (0 < n) = true := by simpa using h0
    have hd2 : ¬ ((n : Int) < 0) := by omega
    have hn0 : (0 : Int) ≤ (n : Int) := by omega
    have hn1 : (n : Int) ≤ 4000000 := by omega
    have hb : Below w.heap.size w W1 := ⟨(hgr none).os, (hgr none).tape, (hgr none).output, (hgr none).size, fun b hb => (hgr none).block b hb (by simp)⟩
    have HL := Lib.hid (show Lst W1 w.heap.size 3 (.slice (some ⟨w.heap.size, 0, none⟩) 0 G) [] from ⟨by simp, .inr ⟨w.heap.size, G, cur1.toArray, rfl, Nat.le_refl _, ho1, by simp, hG2, by simp [hl1], by simp⟩⟩)
    have HB := Lib.hid hb
    have hG63 : G ≤ 9223372036854775807 := by unfold maxLen at hG2; omega
    clear hgr ho1 hl1 hb
    go_enter Try.func57, Try.ntmps57
    go_wp2_with (at_builtin; refine Lib.wpList_append_run _ rfl _ _ _ _ rfl _ _ rfl rfl _ _ (hrun _) ?_)
    go_ret
    exact ⟨_, rfl, HL.out, HB.out⟩

theorem flat_take {L : List ChT} {k : Nat} (h : k < L.length) : ((chx L).take (k + 1)).flatten = ((chx L).take k).flatten ++ (ct L k).u := by
  rw [cx_take (by simpa using h), cx_chx]; simp
theorem flat_len {L : List ChT} (h : ∀ c ∈ L, c.u.length ≤ 1000) (k : Nat) (hk : k ≤ L.length) : ((chx L).take k).flatten.length ≤ k * 1000 := by
  induction k with
  | zero => simp
  | succ k ih =>
    rw [flat_take (by omega), List.length_append]
    have := ih (by omega)
    have := h _ (ct_mem (L := L) (i := k) (by omega))
    omega
set_option maxHeartbeats 1000000 in
theorem concat_any (L : List ChT) (a : Option Addr) (c B : Nat) (w : World) (hro : Ro w B a (chv L)) (hin : ChIn w B L) (hB : B ≤ w.heap.size) (hl : L.length ≤ 1000) (hf : ∀ c ∈ L, c.u.length ≤ 1000) :
    Calls Try.prog 36 #[.slice a L.length c] w fun e w' => ∃ v, e = .returned v ∧ Lst w' w.heap.size 3 v (i64s (chx L).flatten) ∧ Below w.heap.size w w' := by
  have HIN := Lib.hid hin
  have HRO := Lib.hid hro
  have HF := Lib.hid hf
  have HS := Lib.hid hB
  have HT : Hid ((chx L).take L.length = chx L) := Lib.hid (List.take_of_length_le (by simp))
  rw [← HT.out]
  generalize hN : L.length = n at *
  have HN := Lib.hid hN
  have HFL : Hid (∀ k, k ≤ n → ((chx L).take k).flatten.length ≤ k * 1000) := Lib.hid (fun k hk => flat_len HF.out k (by rw [HN.out]; exact hk))
  have HG := Lib.hid (fun (W : World) (s : Nat) hs => growI_any W s hs)
  have hn1 : (n : Int) ≤ 1000 := by omega
  clear hro hin hf hN hB HT
  go_enter Try.func36, Try.ntmps36
  go_wp2_with fail
  go_loopw [3, 11] (fun x i wr => ∃ k : Nat, k ≤ n ∧ i = .int .i64 (k : Int) ∧ x = .int .i64 (((chx L).take k).flatten.length : Nat) ∧ Hid (Below w.heap.size w wr)) (fun _ i _ => n - (intOf i).toNat)
  case atStart => exact ⟨0, Nat.zero_le _, rfl, by simp, Lib.hid (Below.refl _ _)⟩
  case round =>
    obtain ⟨k, hk, rfl, rfl, HBk⟩ := hrel
    by_cases hlt : k < n
    · have hkL : k < L.length := by rw [HN.out]; exact hlt
      obtain ⟨b, off, rfl, hb, hc⟩ := (HRO.out.below HBk.out HS.out).ch (show 0 < L.length by omega)
      have e1 := hc k hkL
      clear hc
      have hk0 : (0 : Int) ≤ (k : Int) := by omega
      have hk1 : (k : Int) < (n : Int) := by omega
      have hq1 : (ct L k).u.length ≤ 1000 := HF.out _ (ct_mem hkL)
      have hq2 := HFL.out k hk
      have HL : Hid (((chx L).take (k + 1)).flatten.length = ((chx L).take k).flatten.length + (ct L k).u.length) := Lib.hid (by rw [flat_take hkL, List.length_append])
      generalize (ct L k).a = x2 at *
      generalize (ct L k).u.length = x3 at *
      generalize (ct L k).c = x4 at *
      generalize ((chx L).take k).flatten.length = x5 at *
      have hs1 : (0 : Int) ≤ (x5 : Int) + (x3 : Int) := by omega
      have hs2 : (x5 : Int) + (x3 : Int) ≤ 2000000 := by omega
      have hs3 : decide ((x5 : Int) + (x3 : Int) < 0) = false := by simp; omega
      clear hq1 hq2
      go_wp2_with fail
      go_roundw
      case rel => exact ⟨k + 1, by omega, by go_num, by rw [HL.out]; go_num, HBk⟩
      case measure => simp [intOf]; omega
    · obtain rfl : k = n := by omega
      have hq2 := HFL.out k (Nat.le_refl _)
      obtain ⟨s, HSS⟩ : ∃ s, Hid (((chx L).take k).flatten.length = s) := ⟨_, Lib.hid rfl⟩
      rw [HSS.out] at hq2 ⊢
      have HG2 := Lib.hid (HG.out wr s (by omega))
      clear hq2
      rename World => wq
      go_wp2_with fail
      refine HG2.out.mono ?_
      rintro e w1 ⟨v1, rfl, hl1, hb1⟩
      have HL1 := Lib.hid (hl1.base (base' := w.heap.size) HBk.out.size)
      have HB1 := Lib.hid (HBk.out.trans (hb1.mono HBk.out.size))
      clear hl1 hb1
      go_wp2_with fail
      go_loopw [6, 27] (fun x i wr => ∃ j : Nat, j ≤ k ∧ i = .int .i64 (j : Int) ∧ Hid (Lst wr w.heap.size 3 x (i64s ((chx L).take j).flatten)) ∧ Hid (Below w.heap.size w wr)) (fun _ i _ => k - (intOf i).toNat)
      case atStart => exact ⟨0, Nat.zero_le _, rfl, by simpa [i64s] using HL1, HB1⟩
      case round =>
        rename_i hjj
        obtain ⟨j, hj, rfl, HLj, HBj⟩ := hrel
        by_cases hlt : j < k
        · have hkL : j < L.length := by rw [HN.out]; exact hlt
          obtain ⟨b, off, rfl, hb, hc⟩ := (HRO.out.below HBj.out HS.out).ch (show 0 < L.length by omega)
          have e1 := hc j hkL
          clear hc
          have hk0 : (0 : Int) ≤ (j : Int) := by omega
          have hk1 : (j : Int) < (k : Int) := by omega
          have HR := Lib.hid ((HIN.out _ (ct_mem hkL)).below HBj.out HS.out)
          have HQ1 : Hid ((ct L j).u.length ≤ 1000) := Lib.hid (HF.out _ (ct_mem hkL))
          have HQ2 := Lib.hid (HFL.out j hj)
          have HL : Hid (((chx L).take (j + 1)).flatten = ((chx L).take j).flatten ++ (ct L j).u) := Lib.hid (flat_take hkL)
          generalize (ct L j).u = xs at *
          generalize (ct L j).a = x2 at *
          generalize (ct L j).c = x4 at *
          generalize ((chx L).take j).flatten = ys at *
          obtain ⟨x3, hx3⟩ : ∃ x3, xs.length = x3 := ⟨_, rfl⟩
          rw [hx3] at e1
          have HX3 := Lib.hid hx3
          clear hx3
          go_wp2_with (at_builtin; refine wpList_appB rfl (.tmp 31) (.tmp 32) 36 rfl w.heap.size 3 (.int .i64 0) 8 Try.underlying36 Try.info_i64 rfl _ (i64s ys) rfl HLj.out x2 B x3 x4 (i64s xs) rfl (by rw [i64s_length]; exact HX3.out) HR.out (i64s_one _) (by have := HQ1.out; have := HQ2.out; have := HX3.out; rw [i64s_length]; omega) (by have := HQ1.out; have := HQ2.out; have := HX3.out; rw [i64s_length]; omega) w.heap.size w HBj.out (Nat.le_refl _) HBj.out.size ?_)
          intro v' w3 hl hb3 hs3
          have HL3 : Hid (Lst w3 w.heap.size 3 v' (i64s (ys ++ xs))) := Lib.hid (by have e : i64s (ys ++ xs) = i64s ys ++ i64s xs := (by simp [i64s]); rw [e]; exact hl.out)
          have HB3 := Lib.hid hb3
          clear hl hb3 hs3
          go_wp2_with fail
          go_roundw
          case rel => exact ⟨j + 1, by omega, by go_num, by rw [HL.out]; exact HL3, HB3⟩
          case measure => simp [intOf]; omega
        · obtain rfl : j = k := by omega
          go_wp2_with fail
          go_ret
          exact ⟨_, rfl, HLj.out, HBj.out⟩
end Go.Proofs.Ytkdgoopldaoihaa
namespace Go.Proofs.Ytkdgoopldaoihaa
open Go.Shelf
def cloneI_ren : Go.Shelf.Ren := ⟨fun | 41 => 35 | n => n, fun | 22 => 36 | 23 => 3 | 4 => 4 | n => n, fun | n => n⟩
theorem cloneI : Go.Proofs.SlLaysE0.n41 Try.prog cloneI_ren := {
  mixed := by kernel_rfl
  f41 := ⟨Try.f35.name, by decide, Try.func35.trans (congrArg some (by kernel_rfl))⟩
  t4 := Try.underlying4
  a4 := Try.isAgg4
  z4 := Try.sizeOf4
  v4 := Try.zeroValue4
  t22 := Try.underlying36
  a22 := Try.isAgg36
  z22 := Try.sizeOf36
  v22 := Try.zeroValue36 }
def cloneC_ren : Go.Shelf.Ren := ⟨fun | 41 => 92 | n => n, fun | 22 => 41 | 23 => 36 | 4 => 4 | n => n, fun | n => n⟩
theorem cloneC : Go.Proofs.SlLaysE0.n41 Try.prog cloneC_ren := {
  mixed := by kernel_rfl
  f41 := ⟨Try.f92.name, by decide, Try.func92.trans (congrArg some (by kernel_rfl))⟩
  t4 := Try.underlying4
  a4 := Try.isAgg4
  z4 := Try.sizeOf4
  v4 := Try.zeroValue4
  t22 := Try.underlying41
  a22 := Try.isAgg41
  z22 := Try.sizeOf41
  v22 := Try.zeroValue41 }
def sortI_ren : Go.Shelf.Ren := ⟨fun | 5 => 37 | 8 => 59 | 7 => 58 | 19 => 79 | 20 => 80 | 10 => 70 | 11 => 71 | 12 => 72 | 13 => 73 | 14 => 74 | 15 => 75 | 16 => 76 | 17 => 77 | 18 => 78 | 30 => 95 | 31 => 96 | 32 => 97 | 33 => 98 | 34 => 99 | 35 => 100 | 40 => 104 | n => n, fun | 23 => 36 | 25 => 3 | 3 => 3 | 32 => 100 | 22 => 36 | 0 => 0 | 44 => 119 | 46 => 22 | 4 => 4 | 36 => 112 | 35 => 111 | 41 => 84 | 5 => 5 | 9 => 9 | 53 => 132 | 57 => 135 | 63 => 140 | 64 => 141 | n => n, fun | n => n⟩
theorem sortI : Go.Proofs.SlLaysM.n5 Try.prog sortI_ren := {
  mixed := by kernel_rfl
  f5 := ⟨Try.f37.name, by decide, Try.func37.trans (congrArg some (by kernel_rfl))⟩
  f7 := ⟨Try.f58.name, by decide, Try.func58.trans (congrArg some (by kernel_rfl))⟩
  f8 := Try.func59.trans (congrArg some (by kernel_rfl))
  f10 := ⟨Try.f70.name, by decide, Try.func70.trans (congrArg some (by kernel_rfl))⟩
  f11 := ⟨Try.f71.name, by decide, Try.func71.trans (congrArg some (by kernel_rfl))⟩
  f12 := ⟨Try.f72.name, by decide, Try.func72.trans (congrArg some (by kernel_rfl))⟩
  f13 := ⟨Try.f73.name, by decide, Try.func73.trans (congrArg some (by kernel_rfl))⟩
  f14 := ⟨Try.f74.name, by decide, Try.func74.trans (congrArg some (by kernel_rfl))⟩
  f15 := ⟨Try.f75.name, by decide, Try.func75.trans (congrArg some (by kernel_rfl))⟩
  f16 := ⟨Try.f76.name, by decide, Try.func76.trans (congrArg some (by kernel_rfl))⟩
  f17 := ⟨Try.f77.name, by decide, Try.func77.trans (congrArg some (by kernel_rfl))⟩
  f18 := ⟨Try.f78.name, by decide, Try.func78.trans (congrArg some (by kernel_rfl))⟩
  f19 := Try.func79.trans (congrArg some (by kernel_rfl))
  f20 := Try.func80.trans (congrArg some (by kernel_rfl))
  f30 := ⟨Try.f95.name, by decide, Try.func95.trans (congrArg some (by kernel_rfl))⟩
  f31 := Try.func96.trans (congrArg some (by kernel_rfl))
  f32 := Try.func97.trans (congrArg some (by kernel_rfl))
  f33 := ⟨Try.f98.name, by decide, Try.func98.trans (congrArg some (by kernel_rfl))⟩
  f34 := ⟨Try.f99.name, by decide, Try.func99.trans (congrArg some (by kernel_rfl))⟩
  f35 := ⟨Try.f100.name, by decide, Try.func100.trans (congrArg some (by kernel_rfl))⟩
  f40 := ⟨Try.f104.name, by decide, Try.func104.trans (congrArg some (by kernel_rfl))⟩
  t0 := Try.underlying0
  a0 := Try.isAgg0
  z0 := Try.sizeOf0
  v0 := Try.zeroValue0
  t3 := Try.underlying3
  a3 := Try.isAgg3
  z3 := Try.sizeOf3
  v3 := Try.zeroValue3
  t4 := Try.underlying4
  a4 := Try.isAgg4
  z4 := Try.sizeOf4
  v4 := Try.zeroValue4
  t5 := Try.underlying5
  a5 := Try.isAgg5
  z5 := Try.sizeOf5
  v5 := Try.zeroValue5
  t9 := Try.underlying9
  a9 := Try.isAgg9
  z9 := Try.sizeOf9
  v9 := Try.zeroValue9
  t22 := Try.underlying36
  a22 := Try.isAgg36
  z22 := Try.sizeOf36
  v22 := Try.zeroValue36
  t23 := Try.underlying36
  a23 := Try.isAgg36
  z23 := Try.sizeOf36
  v23 := Try.zeroValue36
  t25 := Try.underlying3
  a25 := Try.isAgg3
  z25 := Try.sizeOf3
  v25 := Try.zeroValue3
  t32 := Try.underlying100
  a32 := Try.isAgg100
  z32 := Try.sizeOf100
  v32 := Try.zeroValue100
  t35 := Try.underlying111
  a35 := Try.isAgg111
  z35 := Try.sizeOf111
  v35 := Try.zeroValue111
  t36 := Try.underlying112
  a36 := Try.isAgg112
  z36 := Try.sizeOf112
  v36 := Try.zeroValue112
  t41 := Try.underlying84
  a41 := Try.isAgg84
  z41 := Try.sizeOf84
  v41 := Try.zeroValue84
  t44 := Try.underlying119
  a44 := Try.isAgg119
  z44 := Try.sizeOf119
  v44 := Try.zeroValue119
  t46 := Try.underlying22
  a46 := Try.isAgg22
  z46 := Try.sizeOf22
  v46 := Try.zeroValue22
  t53 := Try.underlying132
  a53 := Try.isAgg132
  z53 := Try.sizeOf132
  v53 := Try.zeroValue132
  t57 := Try.underlying135
  a57 := Try.isAgg135
  z57 := Try.sizeOf135
  v57 := Try.zeroValue135
  t63 := Try.underlying140
  a63 := Try.isAgg140
  z63 := Try.sizeOf140
  v63 := Try.zeroValue140
  t64 := Try.underlying141
  a64 := Try.isAgg141
  z64 := Try.sizeOf141
  v64 := Try.zeroValue141 }
def compI_ren : Go.Shelf.Ren := ⟨fun | 43 => 38 | n => n, fun | 22 => 36 | 23 => 3 | 3 => 3 | 4 => 4 | 0 => 0 | n => n, fun | n => n⟩
theorem compI : Go.Proofs.SlLaysE.n43 Try.prog compI_ren := {
  mixed := by kernel_rfl
  f43 := ⟨Try.f38.name, by decide, Try.func38.trans (congrArg some (by kernel_rfl))⟩
  t0 := Try.underlying0
  a0 := Try.isAgg0
  z0 := Try.sizeOf0
  v0 := Try.zeroValue0
  t3 := Try.underlying3
  a3 := Try.isAgg3
  z3 := Try.sizeOf3
  v3 := Try.zeroValue3
  t4 := Try.underlying4
  a4 := Try.isAgg4
  z4 := Try.sizeOf4
  v4 := Try.zeroValue4
  t22 := Try.underlying36
  a22 := Try.isAgg36
  z22 := Try.sizeOf36
  v22 := Try.zeroValue36
  a23 := Try.isAgg3
  z23 := Try.sizeOf3 }
def contI_ren : Go.Shelf.Ren := ⟨fun | 31 => 91 | 29 => 103 | n => n, fun | 22 => 36 | 23 => 3 | 4 => 4 | 3 => 3 | 0 => 0 | n => n, fun | n => n⟩
theorem contI : Go.Proofs.SlLaysE.n31 Try.prog contI_ren := {
  mixed := by kernel_rfl
  f29 := ⟨Try.f103.name, by decide, Try.func103.trans (congrArg some (by kernel_rfl))⟩
  f31 := ⟨Try.f91.name, by decide, Try.func91.trans (congrArg some (by kernel_rfl))⟩
  t0 := Try.underlying0
  a0 := Try.isAgg0
  z0 := Try.sizeOf0
  v0 := Try.zeroValue0
  t3 := Try.underlying3
  a3 := Try.isAgg3
  z3 := Try.sizeOf3
  v3 := Try.zeroValue3
  t4 := Try.underlying4
  a4 := Try.isAgg4
  z4 := Try.sizeOf4
  v4 := Try.zeroValue4
  t22 := Try.underlying36
  a22 := Try.isAgg36
  z22 := Try.sizeOf36
  v22 := Try.zeroValue36
  a23 := Try.isAgg3
  z23 := Try.sizeOf3 }
def delI_ren : Go.Shelf.Ren := ⟨fun | 10 => 89 | 6 => 102 | n => n, fun | 22 => 36 | 23 => 3 | 25 => 69 | 3 => 3 | 4 => 4 | 0 => 0 | n => n, fun | n => n⟩
theorem delI : Go.Proofs.SlLaysH.n10 Try.prog delI_ren := {
  mixed := by kernel_rfl
  f6 := ⟨Try.f102.name, by decide, Try.func102.trans (congrArg some (by kernel_rfl))⟩
  f10 := ⟨Try.f89.name, by decide, Try.func89.trans (congrArg some (by kernel_rfl))⟩
  t0 := Try.underlying0
  a0 := Try.isAgg0
  z0 := Try.sizeOf0
  v0 := Try.zeroValue0
  t3 := Try.underlying3
  a3 := Try.isAgg3
  z3 := Try.sizeOf3
  v3 := Try.zeroValue3
  t4 := Try.underlying4
  a4 := Try.isAgg4
  z4 := Try.sizeOf4
  v4 := Try.zeroValue4
  t22 := Try.underlying36
  a22 := Try.isAgg36
  z22 := Try.sizeOf36
  v22 := Try.zeroValue36
  a23 := Try.isAgg3
  z23 := Try.sizeOf3
  t25 := Try.underlying69
  a25 := Try.isAgg69
  z25 := Try.sizeOf69
  v25 := Try.zeroValue69 }
end Go.Proofs.Ytkdgoopldaoihaa
namespace Go.Proofs.Ytkdgoopldaoihaa
open Go.RowKit Go.Deep Go.Shelf Go.Lib Go.Sort
set_option linter.unusedVariables false
set_option linter.unusedSimpArgs false


theorem oneInt : OneCell (Value.int .i64) := by
  first | exact OneCell.int .i64 | exact OneCell.int | exact ⟨fun _ => rfl, fun _ => rfl⟩ | exact ⟨fun _ => rfl⟩ | (intro x; rfl)
theorem clone_int (a : Option Addr) (c B : Nat) (L : List Int) (w : World) (hro : Ro w B a (i64s L)) (h0 : 0 < L.length) (hl : L.length ≤ 1000000) :
    Calls Try.prog 35 #[.slice a L.length c] w fun e w' => ∃ v, e = .returned v ∧ Lst w' w.heap.size 3 v (i64s L) ∧ Below w.heap.size w w' := by
  obtain ⟨i, hi, hz⟩ := Option.map_eq_some_iff.1 Try.info_i64
  simp only [Prod.mk.injEq] at hz
  obtain ⟨b, off, rfl, hb, hc⟩ := hro.i64 h0
  refine (AnyE.slices_Clone cloneI i (.int .i64 0) 1 8 hi hz.1 hz.2.1 hz.2.2 rfl (by omega) (fun w => Try.sizeOf3 w) b off L.length c (i64s L) w (by simp) (by unfold maxLen; omega) (by omega) (fun j u hj => ?_) (i64s_one L)).mono ?_
  · have hj' : j < L.length := by simpa using (List.getElem?_eq_some_iff.1 hj).1
    rw [hc j hj', ← i64s_getD L j hj']
    simp [List.getD, hj]
  · rintro e w' ⟨v, rfl, h1, _, h2⟩
    refine ⟨v, rfl, ?_, h2⟩
    unfold Lst
    rw [i64s_length]
    exact h1
theorem Lst.int {w : World} {base : Nat} {v : Value} {L : List Int} (h : Lst w base 3 v (i64s L)) (h0 : 0 < L.length) :
    ∃ g cap cur, v = .slice (some ⟨g, 0, none⟩) L.length cap ∧ base ≤ g ∧ w.heap[g]? = some (.cells cur 3 (0, 0)) ∧ L.length ≤ cap ∧ cap ≤ maxLen ∧ cur.size = cap * 1 ∧ cur.toList.take L.length = L.map (Value.int .i64) := by
  rcases h.2 with ⟨_, hn⟩ | ⟨g, cap, cur, h1, h2, h3, h4, h5, h6, h7⟩
  · simp at hn; subst hn; simp at h0
  · rw [i64s_length] at h1 h4 h7
    exact ⟨g, cap, cur, h1, h2, h3, h4, h5, h6, by simpa [i64s] using h7⟩
theorem grown_below2 {base : Nat} {w w' : World} {g : Nat} (hg : w.grownBy w' (some g)) (h1 : base ≤ g) (h2 : base ≤ w.heap.size) : Below base w w' := below_only (Below.refl _ _) hg h1 h2
/-- a row of numbers behind some library function that wrote it whole -/
theorem Lst.wrote {w : World} {base g cap n : Nat} {os : Array Obj} {cur : Array Value} {d ts : List Int} (hbase : base ≤ g) (hb : w.heap[g]? = some (.cells cur 3 (0, 0))) (hd : d.length ≤ cap) (h2 : cap ≤ maxLen) (h3 : cur.size = cap * 1) (ht : d.take ts.length = ts) :
    Lst (grow (putRow (Value.int .i64) (Sort.ahead w n) g 0 d.toArray) os) base 3 (.slice (some ⟨g, 0, none⟩) ts.length cap) (i64s ts) := by
  have hlen : ts.length ≤ d.length := by have := congrArg List.length ht; rw [List.length_take] at this; omega
  unfold Lst
  rw [i64s_length]
  refine ⟨by simp, .inr ⟨g, cap, _, rfl, hbase, heap_sortedI _ hb, by omega, h2, by simp [putCells, h3], ?_⟩⟩
  have h := take_putCellsI cur d (by omega)
  rw [Nat.mul_one]
  have h' := congrArg (List.take ts.length) h
  rw [List.take_take, Nat.min_eq_left hlen, ← List.map_take, ht] at h'
  exact h'
theorem sort_int (v : Value) (base : Nat) (L : List Int) (w : World) (h : Lst w base 3 v (i64s L)) (h0 : 0 < L.length) (hl : L.length ≤ 1000000) (hb : base ≤ w.heap.size) :
    Calls Try.prog 37 #[v] w fun e w' => e = .returned (.tuple #[]) ∧ Lst w' base 3 v (i64s (L.mergeSort fun x y => decide (x ≤ y))) ∧ Below base w w' := by
  obtain ⟨g, cap, cur, rfl, g1, g2, g3, g4, g5, g6⟩ := h.int h0
  have hg : g < w.heap.size := (Array.getElem?_eq_some_iff.1 g2).1
  refine (AnyM.slices_Sort_int sortI g 0 cap L w (holds_of_blockI g2 g6) hg (by omega)).mono ?_
  rintro e w' ⟨rfl, n, os, rfl⟩
  refine ⟨rfl, ?_, grown_below2 (grownBy_sortedI _) g1 hb⟩
  have hlen : (L.mergeSort fun x y => decide (x ≤ y)).length = L.length := List.length_mergeSort L
  have := Lst.wrote (os := os) (n := n) (d := L.mergeSort fun x y => decide (x ≤ y)) (ts := L.mergeSort fun x y => decide (x ≤ y)) g1 g2 (by omega) g4 g5 (List.take_of_length_le (Nat.le_refl _))
  rwa [hlen] at this
theorem compact_int (v : Value) (base : Nat) (L : List Int) (w : World) (h : Lst w base 3 v (i64s L)) (h0 : 0 < L.length) (hl : L.length ≤ 1000000) (hb : base ≤ w.heap.size) :
    Calls Try.prog 38 #[v] w fun e w' => ∃ v', e = .returned v' ∧ Lst w' base 3 v' (i64s (compactUpTo L.toArray L.length)) ∧ Below base w w' := by
  obtain ⟨g, cap, cur, rfl, g1, g2, g3, g4, g5, g6⟩ := h.int h0
  have hg : g < w.heap.size := (Array.getElem?_eq_some_iff.1 g2).1
  have := AnyE.slices_Compact compI (Value.int .i64) oneInt (EqlAt.intD Try.prog _ .i64) (NeqAt.intD Try.prog _ .i64) 0 (fun w => by first | exact Try.zeroValue3 w | rfl) g 0 cap L.toArray w (holds_of_blockI g2 g6) (by simp; omega) (by simpa using g3)
  rw [List.size_toArray] at this
  refine this.mono ?_
  rintro e w' ⟨rfl, n, rfl⟩
  have hle : (compactUpTo L.toArray L.length).length ≤ L.length := by
    unfold compactUpTo
    rw [List.length_map]
    exact Nat.le_trans (List.length_filter_le _ _) (by simp)
  refine ⟨_, rfl, ?_, ?_⟩
  · have := Lst.wrote (os := #[]) (n := n) (d := compactUpTo L.toArray L.length ++ List.replicate (L.length - (compactUpTo L.toArray L.length).length) 0) (ts := compactUpTo L.toArray L.length) g1 g2 (by simp; omega) g4 g5 (by simp)
    rw [grow_empty] at this
    exact this
  · have := grownBy_sortedI (w := w) (g := g) (n := n) (os := #[]) (compactUpTo L.toArray L.length ++ List.replicate (L.length - (compactUpTo L.toArray L.length).length) 0).toArray
    rw [grow_empty] at this
    exact grown_below2 this g1 hb
theorem contains_any (a : Option Addr) (c B : Nat) (L : List Int) (x : Int) (w : World) (hro : Ro w B a (i64s L)) (hl : L.length ≤ 1000000) :
    Calls Try.prog 91 #[.slice a L.length c, .int .i64 x] w fun e w' => e = .returned (.bool (decide (x ∈ L))) ∧ w' = w := by
  rcases Nat.eq_zero_or_pos L.length with h0 | h0
  · have : L = [] := List.eq_nil_of_length_eq_zero h0
    subst this
    exact AnyE.slices_Contains_empty contI a c (.int .i64 x) w
  · obtain ⟨b, off, rfl, hb, hc⟩ := hro.i64 h0
    refine (AnyE.slices_Contains contI (Value.int .i64) (fun x y => decide (x = y)) (EqlAt.intD Try.prog _ .i64) b off L.length c L x w (Nat.le_refl _) (by omega) (fun j hj => ?_)).mono ?_
    · rw [hc j hj]
      simp [List.getD, hj]
    · rintro e w' ⟨rfl, rfl⟩
      refine ⟨?_, rfl⟩
      congr 2
      rw [List.take_of_length_le (Nat.le_refl _), Bool.eq_iff_iff]
      simp
theorem delete_int (v : Value) (base : Nat) (L : List Int) (p : Int → Bool) (g : Nat) (lb : Array Value) (eg : ∀ args w, (callFunc g args).run Try.prog w = .ok (.enter g args) w) (w : World) (h : Lst w base 3 v (i64s L)) (h0 : 0 < L.length) (hl : L.length ≤ 1000000) (hb : base ≤ w.heap.size)
    (hp : ∀ (W : World) (x : Int), Below base w W → Calls Try.prog g (#[.int .i64 x] ++ lb) W fun e w' => e = .returned (.bool (p x)) ∧ w' = W) :
    Calls Try.prog 89 #[v, .func (.func g) #[] lb] w fun e w' => ∃ v', e = .returned v' ∧ Lst w' base 3 v' (i64s (L.filter fun x => !p x)) ∧ Below base w w' ∧ (∃ a c, v' = .slice a (L.filter fun x => !p x).length c ∧ L.length ≤ c) := by
  obtain ⟨gb, cap, cur, rfl, g1, g2, g3, g4, g5, g6⟩ := h.int h0
  have hg : gb < w.heap.size := (Array.getElem?_eq_some_iff.1 g2).1
  have := AnyE.slices_DeleteFunc delI (Value.int .i64) oneInt p g lb eg 0 (fun w => by first | exact Try.zeroValue3 w | rfl) gb 0 cap L.toArray w (fun W x hbw => (hp W x (hbw.mono hb)).mono (by rintro e w' ⟨rfl, rfl⟩; exact ⟨rfl, 0, rfl⟩)) (fun n os dk x hdk => (hp _ x (grown_below2 (grownBy_sortedI _) g1 hb)).mono (by rintro e w' ⟨rfl, rfl⟩; exact ⟨rfl, 0, rfl⟩)) (holds_of_blockI g2 g6) (by simp; omega) (by simpa using g3)
  rw [List.size_toArray] at this
  refine this.mono ?_
  simp only
  rintro e w' ⟨rfl, n, rfl⟩
  have hle : (L.filter fun x => !p x).length ≤ L.length := List.length_filter_le _ _
  refine ⟨_, rfl, ?_, ?_, _, _, rfl, g3⟩
  · have := Lst.wrote (os := #[]) (n := n) (d := (L.filter fun x => !p x) ++ List.replicate (L.length - (L.filter fun x => !p x).length) 0) (ts := L.filter fun x => !p x) g1 g2 (by simp; omega) g4 g5 (by simp)
    rw [grow_empty] at this
    exact this
  · have := grownBy_sortedI (w := w) (g := gb) (n := n) (os := #[]) ((L.filter fun x => !p x) ++ List.replicate (L.length - (L.filter fun x => !p x).length) 0).toArray
    rw [grow_empty] at this
    exact grown_below2 this g1 hb
theorem allEq_int (xs ys : List Int) : Lib.allEq (fun x y => decide (x = y)) xs ys = decide (xs = ys) := by
  induction xs generalizing ys with
  | nil => cases ys <;> simp [Lib.allEq]
  | cons x xs ih =>
    cases ys with
    | nil => simp [Lib.allEq]
    | cons y ys => simp [Lib.allEq, ih]
end Go.Proofs.Ytkdgoopldaoihaa
namespace Go.Proofs.Ytkdgoopldaoihaa
open Go.RowKit Go.Deep Go.Shelf
set_option linter.unusedVariables false
set_option linter.unusedSimpArgs false

/-- the chain of an address; none: [] -/
def chainOf (x : Ly) (a : Nat) : List Int := if lright x = true ∧ a < 1048576 then cx (sx x.s (segN x a)).2 ((a - (sx x.s (segN x a)).1) % (sx x.s (segN x a)).2.length) else []
theorem ch_small {L : List (List Int)} (h : chOk L = true) {i : Nat} (hi : i < L.length) : 1 ≤ (cx L i).length ∧ (cx L i).length ≤ 4 := (chOk_iff.1 h).2.1 _ (cx_mem hi)
set_option maxHeartbeats 2000000 in
theorem chain_any (A : LyT) (B : Nat) (a : Nat) (w : World) (h : LyIn w B A) (hB : B ≤ w.heap.size) (hf : SgFit A.sg) :
    Calls Try.prog 13 #[A.val, .int .u64 (a : Int)] w fun e w' => ∃ v, e = .returned v ∧ Lst w' w.heap.size 3 v (i64s (chainOf A.x a)) ∧ Below w.heap.size w w' := by
  obtain ⟨W, HWW⟩ : ∃ W, Hid (w.alloc (.cells #[.int .u64 (A.e : Int), .slice A.a A.sg.length A.c, .int .i64 A.q] 25) = W) := ⟨_, Lib.hid rfl⟩
  have hWb : Below w.heap.size w W := by rw [← HWW.out]; exact (Below.refl _ _).alloc (Nat.le_refl _) _
  have hws : W.heap.size = w.heap.size + 1 := by rw [← HWW.out]; simp
  have hR := segment_any A B a W (h.below hWb hB) (by omega) hf
  have o1 : Own W w.heap.size 25 [.int .u64 (A.e : Int), .slice A.a A.sg.length A.c, .int .i64 A.q] := by rw [← HWW.out]; exact Own.new w _ _
  have HI := Lib.hid h
  have HB := Lib.hid hWb
  have HO := Lib.hid o1
  have HS := Lib.hid hB
  have HF := Lib.hid hf
  have hz := o1.lt
  have c0 := o1.cell 0
  have c1 := o1.cell 1
  have c2 := o1.cell 2
  simp at c0 c1 c2
  clear hWb o1 h hB hf hws
  unfold segI at hR
  unfold chainOf
  by_cases hc : lright A.x = true ∧ a < 1048576
  · rw [if_pos hc] at hR ⊢
    have HR := Lib.hid hR
    clear hR
    obtain ⟨g1, g2, g3⟩ := segN_is hc.1 a
    have hok := ((sgOk_iff.1 (lright_iff.1 hc.1).2.2).2.2.1 _ g1).2
    have hn4 := (sgOk_iff.1 (lright_iff.1 hc.1).2.2).1
    have hc2 := hc.2
    clear g3 hc
    generalize segN A.x a = i at *
    have hs : sx A.x.s i = (st A.sg i).x := sx_sgx A.sg i
    rw [hs] at g2 hok ⊢
    have hiL : i < A.sg.length := by simpa [LyT.x] using g1
    have hsn : A.sg.length ≤ 4 := by have := hn4.2; simpa [LyT.x] using this
    have hin := HI.out.2 _ (st_mem hiL)
    have hcl := (chOk_iff.1 hok).1
    simp only [SgT.x, chx_length] at g2 hcl ⊢
    have hokc : ∀ j, j < (st A.sg i).ch.length → 1 ≤ (ct (st A.sg i).ch j).u.length ∧ (ct (st A.sg i).ch j).u.length ≤ 4 := fun j hj => by
      have := ch_small hok (i := j) (by simpa [SgT.x] using hj)
      simpa [SgT.x, cx_chx] using this
    obtain ⟨b, off, ea, hb, hcs⟩ := HI.out.1.sg (by omega)
    obtain ⟨s1, s2⟩ := hcs i hiL
    clear hcs hok hs g1 hn4
    obtain ⟨ep, sa, c, L, q⟩ := A
    simp only [LyT.val] at *
    subst ea
    have HHB := Lib.hid hb
    have HL : Hid (L.length ≤ 4 ∧ i < L.length) := Lib.hid ⟨hsn, hiL⟩
    have hi1 : (i : Int) < (L.length : Int) := by omega
    have hi0 : ¬ ((i : Int) < 0) := by omega
    generalize L.length = n at *
    generalize st L i = sg at *
    obtain ⟨f, ca, cc, M⟩ := sg
    simp only at s1 s2 hokc hcl g2 hin ⊢
    obtain ⟨b2, off2, ea2, hb2, hcs2⟩ := hin.1.ch (by omega)
    obtain ⟨j, hj⟩ : ∃ j, (a - f) % M.length = j := ⟨_, rfl⟩
    have hjl : j < M.length := by rw [← hj]; exact Nat.mod_lt _ (by omega)
    have s3 := hcs2 j hjl
    have hok := hokc j hjl
    rw [hj, cx_chx]
    have hU := hin.2 _ (ct_mem hjl)
    clear hcs2 hokc
    subst ea2
    obtain ⟨d, hd⟩ : ∃ d, a - f = d := ⟨_, rfl⟩
    rw [hd] at hj
    have e1 : (a : Int) - (f : Int) = (d : Int) := by omega
    have e2 : (d : Int) % (M.length : Int) = (j : Int) := by omega
    have hjl2 : (j : Int) < (M.length : Int) := by omega
    have hm0 : (1 : Int) ≤ (M.length : Int) := by omega
    have hm4 : (M.length : Int) ≤ 4 := by omega
    have e3 : Int.tmod (d : Int) (M.length : Int) = (j : Int) := by rw [Int.tmod_eq_emod_of_nonneg (by omega)]; exact e2
    have e4 : IntKind.u64.wrap (d : Int) = (d : Int) := wrap_u64_nat _ (by omega)
    have e5 : IntKind.u64.wrap (M.length : Int) = (M.length : Int) := wrap_u64_nat _ (by omega)
    have e6 : ¬ (M.length = 0) := by omega
    clear e2
    have HJ : Hid (j < M.length) := Lib.hid hjl
    generalize M.length = m at *
    generalize (ct M j) = y at *
    obtain ⟨ua, uc, us⟩ := y
    simp only at s3 hok hU ⊢
    have HC := Lib.hid (fun (W : World) (hb : Below B w W) => clone_int ua uc B us W (hU.below hb (Nat.le_refl _)) (by omega) (by omega))
    have HBB : Hid (∀ W, Below w.heap.size w W → Below B w W) := Lib.hid (fun W h => h.mono HS.out)
    generalize us.length = un at *
    have H3 := Lib.hid s3
    have HB2 := Lib.hid (Nat.lt_of_lt_of_le hb2 HS.out)
    have HGB := Lib.hid (Nat.lt_of_lt_of_le HHB.out HS.out)
    clear hok hU hin hb2 hj hd hsn hiL hcl g2 hc2 hb hjl
    go_enter Try.func13, Try.ntmps13
    go_upto_region 1 with fail
    rw [HWW.out]
    go_wp2_with fail
    refine HR.out.mono ?_
    rintro e w1 ⟨rfl, hb⟩
    have hbw := HB.out.trans (hb.mono HB.out.size)
    have HBw := Lib.hid hbw
    have HO2 := Lib.hid (HO.out.below hb HO.out.lt)
    have d0 := HO2.out.cell 0
    have d1 := HO2.out.cell 1
    have d2 := HO2.out.cell 2
    have hz1 := HO2.out.lt
    simp at d0 d1 d2
    have t1 := cell_keep hbw s1 HGB.out
    have t2 := cell_keep hbw s2 HGB.out
    clear hb hbw s1 s2 s3 c0 c1 c2
    go_wp2_with fail
    have o5 := Own.new w1 49 [.int .u64 (f : Int), .slice (some ⟨b2, off2, none⟩) m cc]
    have hS0 : Below w.heap.size w (w1.alloc (.cells #[.int .u64 (f : Int), .slice (some ⟨b2, off2, none⟩) m cc] 49)) := HBw.out.alloc HBw.out.size _
    have HSS : Hid (Below w.heap.size w (w1.alloc (.cells #[.int .u64 (f : Int), .slice (some ⟨b2, off2, none⟩) m cc] 49)).drew ∧ (w1.alloc (.cells #[.int .u64 (f : Int), .slice (some ⟨b2, off2, none⟩) m cc] 49)).drew.cell? ⟨w1.heap.size, 0, none⟩ = some (.int .u64 (f : Int)) ∧ (w1.alloc (.cells #[.int .u64 (f : Int), .slice (some ⟨b2, off2, none⟩) m cc] 49)).drew.cell? ⟨w1.heap.size, 1, none⟩ = some (.slice (some ⟨b2, off2, none⟩) m cc) ∧ (w1.alloc (.cells #[.int .u64 (f : Int), .slice (some ⟨b2, off2, none⟩) m cc] 49)).drew.cell? ⟨b2, off2 + j, none⟩ = some (.slice ua un uc)) :=
      Lib.hid ⟨hS0.drew, by simp, by simp, cell_keep hS0.drew H3.out HB2.out⟩
    have HW1 : Hid (w1.heap.size < (w1.alloc (.cells #[.int .u64 (f : Int), .slice (some ⟨b2, off2, none⟩) m cc] 49)).drew.heap.size) := Lib.hid (by simp)
    clear o5 hS0
    generalize (w1.alloc (.cells #[.int .u64 (f : Int), .slice (some ⟨b2, off2, none⟩) m cc] 49)) = w5 at *
    clear d0 d1 d2 t1 t2
    refine wp_region_held_drew (S := (fun W => Below w.heap.size w W ∧ W.cell? ⟨w1.heap.size, 0, none⟩ = some (.int .u64 (f : Int)) ∧ W.cell? ⟨w1.heap.size, 1, none⟩ = some (.slice (some ⟨b2, off2, none⟩) m cc) ∧ W.cell? ⟨b2, off2 + j, none⟩ = some (.slice ua un uc))) (by kernel_rfl) HSS.out (fun hHeld => ?_)
    refine wpAnyH_take (i := 0) (v := ?_) rfl (by kernel_rfl) (by kernel_rfl) (by kernel_rfl) (fun _ _ _ h => h) (Or.inl ⟨by kernel_rfl, ?_⟩) hHeld ?_
    rotate_left
    · (intro w hSw; first | (go_simp; done) | (go_simp; with_reducible rfl))
    (try simp only [Act.put, List.getElem_toArray, List.getElem_cons_succ, List.getElem_cons_zero, List.setIfInBounds_toArray, List.set_cons_zero, List.set_cons_succ])
    refine wpAnyH_take (i := 1) (v := ?_) rfl (by kernel_rfl) (by kernel_rfl) (by kernel_rfl) (fun _ _ _ h => h) (Or.inl ⟨by kernel_rfl, ?_⟩) hHeld ?_
    rotate_left
    · (intro w hSw; first | (go_simp; done) | (go_simp; with_reducible rfl))
    (try simp only [Act.put, List.getElem_toArray, List.getElem_cons_succ, List.getElem_cons_zero, List.setIfInBounds_toArray, List.set_cons_zero, List.set_cons_succ])
    refine wpAnyH_take (i := 2) (v := ?_) rfl (by kernel_rfl) (by kernel_rfl) (by kernel_rfl) (fun _ _ _ h => h) (Or.inl ⟨by kernel_rfl, ?_⟩) hHeld ?_
    rotate_left
    · (intro w hSw; first | (go_simp; done) | (go_simp; with_reducible rfl))
    (try simp only [Act.put, List.getElem_toArray, List.getElem_cons_succ, List.getElem_cons_zero, List.setIfInBounds_toArray, List.set_cons_zero, List.set_cons_succ])
    refine wpAnyH_take (i := 3) (v := ?_) rfl (by kernel_rfl) (by kernel_rfl) (by kernel_rfl) (fun _ _ _ h => h) (Or.inl ⟨by kernel_rfl, ?_⟩) hHeld ?_
    rotate_left
    · (intro w hSw; first | (go_simp; done) | (go_simp; with_reducible rfl))
    (try simp only [Act.put, List.getElem_toArray, List.getElem_cons_succ, List.getElem_cons_zero, List.setIfInBounds_toArray, List.set_cons_zero, List.set_cons_succ])
    refine wpAnyH_take (i := 4) (v := ?_) rfl (by kernel_rfl) (by kernel_rfl) (by kernel_rfl) (fun _ _ _ h => h) (Or.inl ⟨by kernel_rfl, ?_⟩) hHeld ?_
    rotate_left
    · (intro w hSw; first | (go_simp; done) | (go_simp; with_reducible rfl))
    (try simp only [Act.put, List.getElem_toArray, List.getElem_cons_succ, List.getElem_cons_zero, List.setIfInBounds_toArray, List.set_cons_zero, List.set_cons_succ])
    refine wpAnyH_take (i := 5) (v := ?_) rfl (by kernel_rfl) (by kernel_rfl) (by kernel_rfl) (fun _ _ _ h => h) (Or.inl ⟨by kernel_rfl, ?_⟩) hHeld ?_
    rotate_left
    · (intro w hSw; first | (go_simp; done) | (go_simp; with_reducible rfl))
    (try simp only [Act.put, List.getElem_toArray, List.getElem_cons_succ, List.getElem_cons_zero, List.setIfInBounds_toArray, List.set_cons_zero, List.set_cons_succ])
    refine wpAnyH_take (i := 6) (v := ?_) rfl (by kernel_rfl) (by kernel_rfl) (by kernel_rfl) (fun _ _ _ h => h) (Or.inl ⟨by kernel_rfl, ?_⟩) hHeld ?_
    rotate_left
    · (intro w hSw; first | (go_simp; done) | (go_simp; with_reducible rfl))
    (try simp only [Act.put, List.getElem_toArray, List.getElem_cons_succ, List.getElem_cons_zero, List.setIfInBounds_toArray, List.set_cons_zero, List.set_cons_succ])
    refine wpAnyH_take (i := 7) (v := ?_) rfl (by kernel_rfl) (by kernel_rfl) (by kernel_rfl) (fun _ _ _ h => h) (Or.inl ⟨by kernel_rfl, ?_⟩) hHeld ?_
    rotate_left
    · (intro w hSw; first | (go_simp; done) | (go_simp; with_reducible rfl))
    (try simp only [Act.put, List.getElem_toArray, List.getElem_cons_succ, List.getElem_cons_zero, List.setIfInBounds_toArray, List.set_cons_zero, List.set_cons_succ])
    refine wpAnyH_take (i := 8) (v := ?_) rfl (by kernel_rfl) (by kernel_rfl) (by kernel_rfl) (fun _ _ _ h => h) (Or.inl ⟨by kernel_rfl, ?_⟩) hHeld ?_
    rotate_left
    · (intro w hSw; first | (go_simp; done) | (go_simp; with_reducible rfl))
    (try simp only [Act.put, List.getElem_toArray, List.getElem_cons_succ, List.getElem_cons_zero, List.setIfInBounds_toArray, List.set_cons_zero, List.set_cons_succ])
    refine wpAnyH_take (i := 9) (v := ?_) rfl (by kernel_rfl) (by kernel_rfl) (by kernel_rfl) (fun _ _ _ h => h) (Or.inl ⟨by kernel_rfl, ?_⟩) hHeld ?_
    rotate_left
    · (intro w hSw; first | (go_simp; done) | (go_simp; with_reducible rfl))
    (try simp only [Act.put, List.getElem_toArray, List.getElem_cons_succ, List.getElem_cons_zero, List.setIfInBounds_toArray, List.set_cons_zero, List.set_cons_succ])
    refine wpAnyH_take (i := 10) (v := ?_) rfl (by kernel_rfl) (by kernel_rfl) (by kernel_rfl) (fun _ _ _ h => h) (Or.inl ⟨by kernel_rfl, ?_⟩) hHeld ?_
    rotate_left
    · (intro w hSw; first | (go_simp; done) | (go_simp; with_reducible rfl))
    (try simp only [Act.put, List.getElem_toArray, List.getElem_cons_succ, List.getElem_cons_zero, List.setIfInBounds_toArray, List.set_cons_zero, List.set_cons_succ])
    refine wpAnyH_take (i := 11) (v := ?_) rfl (by kernel_rfl) (by kernel_rfl) (by kernel_rfl) (fun _ _ _ h => h) (Or.inl ⟨by kernel_rfl, ?_⟩) hHeld ?_
    rotate_left
    · (intro w hSw; first | (go_simp; done) | (go_simp; with_reducible rfl))
    (try simp only [Act.put, List.getElem_toArray, List.getElem_cons_succ, List.getElem_cons_zero, List.setIfInBounds_toArray, List.set_cons_zero, List.set_cons_succ])
    refine wpAnyH_take (i := 12) (v := ?_) rfl (by kernel_rfl) (by kernel_rfl) (by kernel_rfl) (fun _ _ _ h => h) (Or.inl ⟨by kernel_rfl, ?_⟩) hHeld ?_
    rotate_left
    · (intro w hSw; first | (go_simp; done) | (go_simp; with_reducible rfl))
    (try simp only [Act.put, List.getElem_toArray, List.getElem_cons_succ, List.getElem_cons_zero, List.setIfInBounds_toArray, List.set_cons_zero, List.set_cons_succ])
    refine wpAnyH_ready (rs := [13]) (by kernel_rfl) (by simp) (AllReadyH.cons rfl (fun K hK => ?_) AllReadyH.nil)
    have hH := hHeld
    (go_simp; go_at_call 35; refine (HC.out _ (HBB.out _ hH.1)).mono ?_; rintro e w6 ⟨v, rfl, hl6, hb6⟩; have HL6 := Lib.hid (hl6.base (base' := w.heap.size) hH.1.size))
    refine hK.out _ _ (by exact ⟨hH.1.trans (hb6.mono hH.1.size), cell_keep hb6 hH.2.1 (World.block_lt_of_cell? _ _ hH.2.1), cell_keep hb6 hH.2.2.1 (World.block_lt_of_cell? _ _ hH.2.2.1), cell_keep hb6 hH.2.2.2 (World.block_lt_of_cell? _ _ hH.2.2.2)⟩) (fun hHq1 => ?_)
    clear hK K hH 
    (try simp only [Act.put, List.getElem_toArray, List.getElem_cons_succ, List.getElem_cons_zero, List.setIfInBounds_toArray, List.set_cons_zero, List.set_cons_succ])
    refine wpAnyH_take (i := 14) (v := ?_) rfl (by kernel_rfl) (by kernel_rfl) (by kernel_rfl) (fun _ _ _ h => h) (Or.inl ⟨by kernel_rfl, ?_⟩) hHq1 ?_
    rotate_left
    · (intro w hSw; first | (go_simp; done) | (go_simp; with_reducible rfl))
    (try simp only [Act.put, List.getElem_toArray, List.getElem_cons_succ, List.getElem_cons_zero, List.setIfInBounds_toArray, List.set_cons_zero, List.set_cons_succ])
    refine wpAnyH_done (by kernel_rfl) ?_ _
    have hEnd := hHq1
    have HE := Lib.hid hEnd.1
    clear hHeld hEnd hl6 hb6
    go_wp2_with fail
    go_ret
    exact ⟨_, rfl, HL6.out, HE.out⟩
  · rw [if_neg hc] at hR ⊢
    have HR := Lib.hid hR
    clear hR hc
    obtain ⟨ep, sa, c, L, q⟩ := A
    simp only [LyT.val] at *
    generalize L.length = n at *
    go_enter Try.func13, Try.ntmps13
    go_upto_region 1 with fail
    rw [HWW.out]
    go_wp2_with fail
    refine HR.out.mono ?_
    rintro e w' ⟨rfl, hb⟩
    have H2 := Lib.hid (HB.out.trans (hb.mono HB.out.size))
    clear hb
    go_wp2_with fail
    go_ret
    exact ⟨_, rfl, Lst.nil _ _ _, H2.out⟩
end Go.Proofs.Ytkdgoopldaoihaa
namespace Go.Proofs.Ytkdgoopldaoihaa
open Go.RowKit Go.Deep Go.Shelf
set_option linter.unusedVariables false
set_option linter.unusedSimpArgs false

theorem segN_eqD {x : Ly} (h : lright x = true) (a k : Nat) (hk : k < x.s.length) (h1 : (sx x.s k).1 ≤ a) (h2 : ∀ j, k < j → j < x.s.length → a < (sx x.s j).1) : segN x a = k := by
  obtain ⟨g1, g2, g3⟩ := segN_is h a
  rcases Nat.lt_trichotomy (segN x a) k with h3 | h3 | h3
  · have := g3 k h3 hk; omega
  · exact h3
  · have := h2 _ h3 g1; omega
theorem seg_up {x : Ly} (h : lright x = true) {a k : Nat} (hk : k + 1 < x.s.length) (h1 : a < (sx x.s (k + 1)).1) : ∀ j, k < j → j < x.s.length → a < (sx x.s j).1 := by
  have ho := (sgOk_iff.1 (lright_iff.1 h).2.2).2.2.2
  intro j hj hl
  obtain ⟨d, rfl⟩ : ∃ d, j = k + 1 + d := ⟨j - (k + 1), by omega⟩
  clear hj
  induction d with
  | zero => exact h1
  | succ d ih =>
    have g1 := ih (by omega)
    have g2 := ho (k + 1 + d) (by omega)
    have e : k + 1 + (d + 1) = k + 1 + d + 1 := by omega
    rw [e]
    omega
set_option maxHeartbeats 4000000 in
set_option maxRecDepth 100000 in
theorem dsegment_any (A : LyT) (B : Nat) (a : Nat) (w : World) (h : LyIn w B A) (hB : B ≤ w.heap.size) (hf : SgFit A.sg) :
    Calls Try.prog 20 #[A.val, .int .u64 (a : Int)] w fun e w' => e = .returned (.int .i64 (segI A.x a)) ∧ Below w.heap.size w w' := by
  obtain ⟨W, HWW⟩ : ∃ W, Hid (w.alloc (.cells #[.int .u64 (A.e : Int), .slice A.a A.sg.length A.c, .int .i64 A.q] 25) = W) := ⟨_, Lib.hid rfl⟩
  have hWb : Below w.heap.size w W := by rw [← HWW.out]; exact (Below.refl _ _).alloc (Nat.le_refl _) _
  have HR := Lib.hid (dlright_any A B W (h.below hWb hB) (Nat.le_trans hB hWb.size) hf)
  have HO : Hid (Own W w.heap.size 25 [.int .u64 (A.e : Int), .slice A.a A.sg.length A.c, .int .i64 A.q]) := Lib.hid (by rw [← HWW.out]; exact Own.new w _ _)
  have HXS : Hid (A.x.s = sgx A.sg) := Lib.hid rfl
  have HIN := Lib.hid (And.intro h hB)
  have HB := Lib.hid hWb
  obtain ⟨x, hx⟩ : ∃ x, A.x = x := ⟨_, rfl⟩
  rw [hx] at HR HXS ⊢
  obtain ⟨ep, sa, c, L, q⟩ := A
  simp only [LyT.val] at *
  have HXL : Hid (x.s.length = L.length) := Lib.hid (by rw [HXS.out, sgx_length])
  obtain ⟨n, hn⟩ : ∃ n, L.length = n := ⟨_, rfl⟩
  have HN := Lib.hid hn
  rw [hn] at HO HWW HXL HR ⊢
  obtain ⟨r, hr⟩ : ∃ r, lright x = r := ⟨_, rfl⟩
  have HRR := Lib.hid hr
  rw [hr] at HR
  obtain ⟨v, hv⟩ : ∃ v, segI x a = v := ⟨_, rfl⟩
  have HSI : Hid (v = if r = true ∧ a < 1048576 then (segN x a : Int) else -1) := Lib.hid (by rw [← hv]; unfold segI; rw [hr])
  rw [hv]
  clear hWb h hB hf hx hn hr hv
  have c0 := HO.out.cell 0
  have c1 := HO.out.cell 1
  have c2 := HO.out.cell 2
  have hz := HO.out.lt
  simp at c0 c1 c2
  go_enter Try.func20, Try.ntmps20
  go_upto_region 1 with fail
  rw [HWW.out]
  cases r with
  | false =>
    have hv2 : v = -1 := by rw [HSI.out, if_neg (by simp)]
    subst hv2
    clear HSI
    go_wp2_with fail
    refine HR.out.mono ?_
    rintro e w1 ⟨rfl, hb⟩
    have HB1 := Lib.hid (HB.out.trans (hb.low.mono HB.out.size))
    clear hb
    go_wp2_with fail
    go_ret
    exact ⟨rfl, HB1.out⟩
  | true =>
    by_cases ha : a < 1048576
    · have ea : decide ((1048576 : Int) ≤ (a : Int)) = false := decide_eq_false (by omega)
      have HA := Lib.hid ha
      clear ha
      go_wp2_with fail
      refine HR.out.mono ?_
      rintro e w1 ⟨rfl, hb⟩
      have HC1 := Lib.hid hb
      have HB1 := Lib.hid (HB.out.trans (hb.low.mono HB.out.size))
      have HO1 := Lib.hid (HO.out.chg hb (by simp))
      have HN4 := Lib.hid (sgOk_iff.1 (lright_iff.1 HRR.out).2.2)
      have hn4 : n ≤ 4 := by have := HN4.out.1; rw [HXL.out] at this; exact this.2
      have hn1 : 1 ≤ n := by have := HN4.out.1; rw [HXL.out] at this; exact this.1
      clear hb c0 c1 c2 hz
      go_wp2_with fail
      clear ea
      go_loopw [6] (fun i wr => ∃ k : Nat, k < n ∧ i = .int .i64 (k : Int) ∧ Hid ((sx x.s k).1 ≤ a) ∧ Hid (Chg [] W wr) ∧ Hid (Own wr w.heap.size 25 [.int .u64 (ep : Int), .slice sa n c, .int .i64 q])) (fun i _ => n - (intOf i).toNat)
      case atStart => exact ⟨0, Nat.lt_of_lt_of_le Nat.zero_lt_one hn1, rfl, Lib.hid (by rw [HN4.out.2.1]; exact Nat.zero_le _), HC1, HO1⟩
      case round =>
        obtain ⟨k, hk, rfl, HU, HC6, HO6⟩ := hrel
        rename World => w6
        have HB6 := Lib.hid (HB.out.trans (HC6.out.low.mono HB.out.size))
        have d1 := HO6.out.cell 1
        have hz1 := HO6.out.lt
        simp at d1
        obtain ⟨qq, hq⟩ : ∃ qq, k + 1 = qq := ⟨_, rfl⟩
        have HQ := Lib.hid hq
        have k5 : (k : Int) + 1 = (qq : Int) := by omega
        have K6 : Hid (IntKind.i64.wrap ((k : Int) + 1) = (qq : Int)) := Lib.hid (by rw [IntWalk.i64_in _ (by omega)]; omega)
        have K7 : Hid (wrap64 ((k : Int) + 1) = (qq : Int)) := Lib.hid (by unfold wrap64; omega)
        have hk0 : (0 : Int) ≤ (qq : Int) := by omega
        by_cases hlt : qq < n
        · have hkL : qq < L.length := by rw [HN.out]; exact hlt
          have HB7 : Below B w w6 := HB6.out.mono HIN.out.2
          obtain ⟨bb, oo, rfl, _, hc⟩ := (HIN.out.1.1.below HB7 (Nat.le_refl _)).sg (show 0 < L.length by omega)
          obtain ⟨e3, _⟩ := hc qq hkL
          have HSF : Hid ((sx x.s qq).1 = (st L qq).f) := Lib.hid (by rw [HXS.out, sx_sgx]; rfl)
          have hk1 : (qq : Int) < (n : Int) := by omega
          have HLT := Lib.hid hlt
          generalize (st L qq).f = f1 at *
          clear hc hkL
          by_cases hle : f1 ≤ a
          · have q1 : decide ((f1 : Int) ≤ (a : Int)) = true := decide_eq_true (by omega)
            have q2 : decide (f1 ≤ a) = true := decide_eq_true hle
            have HLE := Lib.hid hle
            clear hle hlt hq HB7
            have k6 := K6.out
            have k7 := K7.out
            go_wp2_with fail
            clear k6 k7
            go_roundw
            case rel => exact ⟨qq, HLT.out, by go_num, Lib.hid (by rw [HSF.out]; exact HLE.out), HC6, HO6⟩
            case measure => have := HLT.out; simp [intOf]; omega
          · have q1 : decide ((f1 : Int) ≤ (a : Int)) = false := decide_eq_false (by omega)
            have q2 : decide (f1 ≤ a) = false := decide_eq_false hle
            have HLE := Lib.hid hle
            clear hle hlt hq HB7
            have k6 := K6.out
            have k7 := K7.out
            go_wp2_with fail
            go_ret
            refine ⟨?_, HB6.out⟩
            rw [HSI.out, if_pos ⟨by trivial, HA.out⟩, segN_eqD HRR.out a k (by rw [HXL.out]; exact hk) HU.out (seg_up HRR.out (by rw [HXL.out, HQ.out]; exact HLT.out) (by rw [HQ.out, HSF.out]; have := HLE.out; omega))]
            rfl
        · have hk1 : decide ((qq : Int) < (n : Int)) = false := decide_eq_false (by omega)
          clear hq
          have k6 := K6.out
          have k7 := K7.out
          go_wp2_with fail
          go_ret
          refine ⟨?_, HB6.out⟩
          rw [HSI.out, if_pos ⟨by trivial, HA.out⟩, segN_eqD HRR.out a k (by rw [HXL.out]; exact hk) HU.out (fun j h1 h2 => by rw [HXL.out] at h2; have := HQ.out; omega)]
          rfl
    · have ea : decide ((1048576 : Int) ≤ (a : Int)) = true := decide_eq_true (by omega)
      have HA := Lib.hid ha
      clear ha
      go_wp2_with fail
      refine HR.out.mono ?_
      rintro e w1 ⟨rfl, hb⟩
      have HB1 := Lib.hid (HB.out.trans (hb.low.mono HB.out.size))
      clear hb
      go_wp2_with fail
      go_ret
      refine ⟨?_, HB1.out⟩
      rw [HSI.out, if_neg (fun h => HA.out h.2)]
      rfl
set_option maxHeartbeats 4000000 in
set_option maxRecDepth 100000 in
theorem dchain_any (A : LyT) (B : Nat) (a : Nat) (w : World) (h : LyIn w B A) (hB : B ≤ w.heap.size) (hf : SgFit A.sg) :
    Calls Try.prog 14 #[A.val, .int .u64 (a : Int)] w fun e w' => ∃ a' c', e = .returned (.slice a' (chainOf A.x a).length c') ∧ Ro w' w'.heap.size a' (i64s (chainOf A.x a)) ∧ Below w.heap.size w w' := by
  obtain ⟨W, HWW⟩ : ∃ W, Hid (w.alloc (.cells #[.int .u64 (A.e : Int), .slice A.a A.sg.length A.c, .int .i64 A.q] 25) = W) := ⟨_, Lib.hid rfl⟩
  have hWb : Below w.heap.size w W := by rw [← HWW.out]; exact (Below.refl _ _).alloc (Nat.le_refl _) _
  have hws : W.heap.size = w.heap.size + 1 := by rw [← HWW.out]; simp
  have hR := dsegment_any A B a W (h.below hWb hB) (by omega) hf
  have o1 : Own W w.heap.size 25 [.int .u64 (A.e : Int), .slice A.a A.sg.length A.c, .int .i64 A.q] := by rw [← HWW.out]; exact Own.new w _ _
  have HI := Lib.hid h
  have HB := Lib.hid hWb
  have HO := Lib.hid o1
  have HS := Lib.hid hB
  have HF := Lib.hid hf
  have hz := o1.lt
  have c0 := o1.cell 0
  have c1 := o1.cell 1
  have c2 := o1.cell 2
  simp at c0 c1 c2
  clear hWb o1 h hB hf hws
  unfold segI at hR
  unfold chainOf
  by_cases hc : lright A.x = true ∧ a < 1048576
  · rw [if_pos hc] at hR ⊢
    have HR := Lib.hid hR
    clear hR
    obtain ⟨g1, g2, g3⟩ := segN_is hc.1 a
    have hok := ((sgOk_iff.1 (lright_iff.1 hc.1).2.2).2.2.1 _ g1).2
    have hn4 := (sgOk_iff.1 (lright_iff.1 hc.1).2.2).1
    have hc2 := hc.2
    clear g3 hc
    generalize segN A.x a = i at *
    have hs : sx A.x.s i = (st A.sg i).x := sx_sgx A.sg i
    rw [hs] at g2 hok ⊢
    have hiL : i < A.sg.length := by simpa [LyT.x] using g1
    have hsn : A.sg.length ≤ 4 := by have := hn4.2; simpa [LyT.x] using this
    have hin := HI.out.2 _ (st_mem hiL)
    have hcl := (chOk_iff.1 hok).1
    simp only [SgT.x, chx_length] at g2 hcl ⊢
    have hokc : ∀ j, j < (st A.sg i).ch.length → 1 ≤ (ct (st A.sg i).ch j).u.length ∧ (ct (st A.sg i).ch j).u.length ≤ 4 := fun j hj => by
      have := ch_small hok (i := j) (by simpa [SgT.x] using hj)
      simpa [SgT.x, cx_chx] using this
    obtain ⟨b, off, ea, hb, hcs⟩ := HI.out.1.sg (by omega)
    obtain ⟨s1, s2⟩ := hcs i hiL
    clear hcs hok hs g1 hn4
    obtain ⟨ep, sa, c, L, q⟩ := A
    simp only [LyT.val] at *
    subst ea
    have HHB := Lib.hid hb
    have HL : Hid (L.length ≤ 4 ∧ i < L.length) := Lib.hid ⟨hsn, hiL⟩
    have hi1 : (i : Int) < (L.length : Int) := by omega
    have hi0 : ¬ ((i : Int) < 0) := by omega
    generalize L.length = n at *
    generalize st L i = sg at *
    obtain ⟨f, ca, cc, M⟩ := sg
    simp only at s1 s2 hokc hcl g2 hin ⊢
    obtain ⟨b2, off2, ea2, hb2, hcs2⟩ := hin.1.ch (by omega)
    obtain ⟨j, hj⟩ : ∃ j, (a - f) % M.length = j := ⟨_, rfl⟩
    have hjl : j < M.length := by rw [← hj]; exact Nat.mod_lt _ (by omega)
    have s3 := hcs2 j hjl
    have hok := hokc j hjl
    rw [hj, cx_chx]
    have hU := hin.2 _ (ct_mem hjl)
    clear hcs2 hokc
    subst ea2
    obtain ⟨d, hd⟩ : ∃ d, a - f = d := ⟨_, rfl⟩
    rw [hd] at hj
    have e1 : (a : Int) - (f : Int) = (d : Int) := by omega
    have e2 : (d : Int) % (M.length : Int) = (j : Int) := by omega
    have hjl2 : (j : Int) < (M.length : Int) := by omega
    have hm0 : (1 : Int) ≤ (M.length : Int) := by omega
    have hm4 : (M.length : Int) ≤ 4 := by omega
    have e3 : Int.tmod (d : Int) (M.length : Int) = (j : Int) := by rw [Int.tmod_eq_emod_of_nonneg (by omega)]; exact e2
    have e4 : IntKind.u64.wrap (d : Int) = (d : Int) := wrap_u64_nat _ (by omega)
    have e5 : IntKind.u64.wrap (M.length : Int) = (M.length : Int) := wrap_u64_nat _ (by omega)
    have e6 : ¬ (M.length = 0) := by omega
    clear e2
    have HJ : Hid (j < M.length) := Lib.hid hjl
    generalize M.length = m at *
    generalize (ct M j) = y at *
    obtain ⟨ua, uc, us⟩ := y
    simp only at s3 hok hU ⊢
    have HUU := Lib.hid hU
    have HBB : Hid (∀ W, Below w.heap.size w W → Below B w W) := Lib.hid (fun W h => h.mono HS.out)
    generalize us.length = un at *
    have H3 := Lib.hid s3
    have HB2 := Lib.hid (Nat.lt_of_lt_of_le hb2 HS.out)
    have HGB := Lib.hid (Nat.lt_of_lt_of_le HHB.out HS.out)
    clear hok hU hin hb2 hj hd hsn hiL hcl g2 hc2 hb hjl
    go_enter Try.func14, Try.ntmps14
    go_upto_region 1 with fail
    rw [HWW.out]
    go_wp2_with fail
    refine HR.out.mono ?_
    rintro e w1 ⟨rfl, hb⟩
    have hbw := HB.out.trans (hb.mono HB.out.size)
    have HBw := Lib.hid hbw
    have HO2 := Lib.hid (HO.out.below hb HO.out.lt)
    have d0 := HO2.out.cell 0
    have d1 := HO2.out.cell 1
    have d2 := HO2.out.cell 2
    have hz1 := HO2.out.lt
    simp at d0 d1 d2
    have t1 := cell_keep hbw s1 HGB.out
    have t2 := cell_keep hbw s2 HGB.out
    clear hb hbw s1 s2 s3 c0 c1 c2
    go_wp2_with fail
    have o5 := Own.new w1 49 [.int .u64 (f : Int), .slice (some ⟨b2, off2, none⟩) m cc]
    have hS0 : Below w.heap.size w (w1.alloc (.cells #[.int .u64 (f : Int), .slice (some ⟨b2, off2, none⟩) m cc] 49)) := HBw.out.alloc HBw.out.size _
    have HS0 := Lib.hid hS0
    have t3 := cell_keep hS0 H3.out HB2.out
    have u0 : (w1.alloc (.cells #[.int .u64 (f : Int), .slice (some ⟨b2, off2, none⟩) m cc] 49)).cell? ⟨w1.heap.size, 0, none⟩ = some (.int .u64 (f : Int)) := by simp
    have u1 : (w1.alloc (.cells #[.int .u64 (f : Int), .slice (some ⟨b2, off2, none⟩) m cc] 49)).cell? ⟨w1.heap.size, 1, none⟩ = some (.slice (some ⟨b2, off2, none⟩) m cc) := by simp
    have hz5 := o5.lt
    have HUW : Hid (Ro (w1.alloc (.cells #[.int .u64 (f : Int), .slice (some ⟨b2, off2, none⟩) m cc] 49)) B ua (i64s us)) := Lib.hid (HUU.out.below (HBB.out _ hS0) (Nat.le_refl _))
    have HBB2 : Hid (B ≤ (w1.alloc (.cells #[.int .u64 (f : Int), .slice (some ⟨b2, off2, none⟩) m cc] 49)).heap.size) := Lib.hid (Nat.le_trans HS.out hS0.size)
    clear o5 hS0 d0 d1 d2 t1 t2
    generalize (w1.alloc (.cells #[.int .u64 (f : Int), .slice (some ⟨b2, off2, none⟩) m cc] 49)) = w5 at *
    go_quiet (fail)
    go_wp2_with fail
    go_ret
    refine ⟨ua, uc, rfl, ?_, ?_⟩
    · exact (HUW.out.mono HBB2.out)
    · exact (Qt.drewN _ _).below HS0.out
  · rw [if_neg hc] at hR ⊢
    have HR := Lib.hid hR
    clear hR hc
    obtain ⟨ep, sa, c, L, q⟩ := A
    simp only [LyT.val] at *
    generalize L.length = n at *
    go_enter Try.func14, Try.ntmps14
    go_upto_region 1 with fail
    rw [HWW.out]
    go_wp2_with fail
    refine HR.out.mono ?_
    rintro e w' ⟨rfl, hb⟩
    have H2 := Lib.hid (HB.out.trans (hb.mono HB.out.size))
    clear hb
    go_wp2_with fail
    go_ret
    exact ⟨none, 0, rfl, Ro.nil _ _ _, H2.out⟩
end Go.Proofs.Ytkdgoopldaoihaa
