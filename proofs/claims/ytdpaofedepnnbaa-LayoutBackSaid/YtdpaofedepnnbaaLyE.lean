/-
  slices.Grow of nothing, slices.Concat of chains, by their contracts. No claim of its own.
-/
import Derived.Test.YtdpaofedepnnbaaLyB
import Derived.Lib.AppendZerosOnto
import Derived.Test.YtdpaofedepnnbaaCeW
namespace Go.Proofs.Ytdpaofedepnnbaa
open Go.RowKit Go.Deep Go.Shelf
set_option linter.unusedVariables false
set_option linter.unusedSimpArgs false

theorem i64s_one (bs : List Int) : ∀ v ∈ i64s bs, v.oneCell' = true := by
  intro v hv
  simp only [i64s, List.mem_map] at hv
  obtain ⟨x, _, rfl⟩ := hv
  rfl
theorem growI_zeros (w : World) (k : Nat) (hk : 0 < k) (hk2 : k ≤ 4000000) :
    ∃ (G : Nat) (W1 : World) (cur1 : List Value), k ≤ G ∧ G ≤ maxLen ∧ cur1.length = G ∧ Own W1 w.heap.size 3 cur1 ∧ (∀ row, w.grownBy W1 row) ∧
      ∀ ty, (Builtin.append_ #[36, 3] ty #[.slice none 0 0, .int .i64 (k : Nat)]).run Try.prog w = .ok (.slice (some ⟨w.heap.size, 0, none⟩) k G) W1 := by
  obtain ⟨i0, hi0, hzz⟩ := Option.map_eq_some_iff.1 Try.info_i64
  simp only [Prod.mk.injEq] at hzz
  obtain ⟨hz0, hzs, hzb⟩ := hzz
  have hold : (Builtin.firstCells i0.size 0 (.slice none 0 0)).run Try.prog w.drew = .ok (([] : List Value)).toArray w.drew := by
    simp [Builtin.firstCells]
  have hrun := fun ty => Lib.run_append_grow_zeros w 36 3 ty 3 i0 _ .i64 .i64 Try.underlying36 Try.underlying3 hi0 hz0 none 0 0 [] hold k hk (by omega) (by omega) (by omega) (by rw [hzb]; omega) (by rw [hzb]; exact growslice_fits (by omega) (by omega))
  simp only [Nat.zero_add] at hrun
  refine ⟨_, _, (Builtin.zeroCells (Value.int .i64 0).cells k).toList ++ (Builtin.zeroCells (Value.int .i64 0).cells (grownCap w k 0 3 - k)).toList, grownCap_ge w _ _ _, grownCap_le_maxLen w _ _ _ (by unfold maxLen; omega), ?_, ?_, ?_, hrun⟩
  · have := grownCap_ge w k 0 3
    simp only [List.length_append, Array.length_toList, size_zeroCells, show (Value.int .i64 0).cells.size = 1 from rfl]
    omega
  · have := heap_alloc_new w.drew (.cells (([] : List Value).toArray ++ Builtin.zeroCells (Value.int .i64 0).cells k ++ Builtin.zeroCells (Value.int .i64 0).cells (grownCap w k 0 3 - k)) 3)
    unfold Own
    refine this.trans ?_
    have e : ∀ (a : List Value) (b c : Array Value), a.toArray ++ b ++ c = (a ++ b.toList ++ c.toList).toArray := fun a b c => Array.ext' (by simp)
    rw [e, List.nil_append]
  · exact fun row => ⟨rfl, rfl, rfl, by simp, fun j hj _ => Below.heap_alloc w.drew _ j hj⟩
set_option maxHeartbeats 1000000 in
set_option maxRecDepth 1000000 in
theorem growI_any (w : World) (n : Nat) (hn : n ≤ 4000000) :
    Calls Try.prog 95 #[.slice none 0 0, .int .i64 n] w fun e w' => ∃ v, e = .returned v ∧ Lst w' w.heap.size 3 v [] ∧ Below w.heap.size w w' := by
  rcases Nat.eq_zero_or_pos n with h0 | h0
  · subst h0
    go_enter Try.func95, Try.ntmps95
    go_wp2_with fail
    go_ret
    exact ⟨_, rfl, Lst.nil _ _ _, Below.refl _ _⟩
  · obtain ⟨G, W1, cur1, hG1, hG2, hl1, ho1, hgr, hrun⟩ := growI_zeros w n h0 hn
    have hd : decide (0 < n) = true := by simpa using h0
    have hd2 : ¬ ((n : Int) < 0) := by omega
    have hn0 : (0 : Int) ≤ (n : Int) := by omega
    have hn1 : (n : Int) ≤ 4000000 := by omega
    have hb : Below w.heap.size w W1 := ⟨(hgr none).os, (hgr none).tape, (hgr none).output, (hgr none).size, fun b hb => (hgr none).block b hb (by simp)⟩
    have HL := Lib.hid (show Lst W1 w.heap.size 3 (.slice (some ⟨w.heap.size, 0, none⟩) 0 G) [] from ⟨by simp, .inr ⟨w.heap.size, G, cur1.toArray, rfl, Nat.le_refl _, ho1, by simp, hG2, by simp [hl1], by simp⟩⟩)
    have HB := Lib.hid hb
    have hG63 : G ≤ 9223372036854775807 := by unfold maxLen at hG2; omega
    clear hgr ho1 hl1 hb
    go_enter Try.func95, Try.ntmps95
    go_wp2_with (at_builtin; refine Lib.wpList_append_run _ rfl _ _ _ _ rfl _ _ rfl rfl _ _ (hrun _) ?_)
    go_ret
    exact ⟨_, rfl, HL.out, HB.out⟩

theorem flat_take {L : List ChT} {k : Nat} (h : k < L.length) : ((chx L).take (k + 1)).flatten = ((chx L).take k).flatten ++ (ct L k).u := by
  rw [cx_take (by simpa using h), cx_chx]; simp
theorem flat_len {L : List ChT} (h : ∀ c ∈ L, c.u.length ≤ 1000) (k : Nat) (hk : k ≤ L.length) : ((chx L).take k).flatten.length ≤ k * 1000 := by
  induction k with
  | zero => simp
  | succ k ih =>
    rw [flat_take (by omega), List.length_append]
    have := ih (by omega)
    have := h _ (ct_mem (L := L) (i := k) (by omega))
    omega
set_option maxHeartbeats 1000000 in
theorem concat_any (L : List ChT) (a : Option Addr) (c B : Nat) (w : World) (hro : Ro w B a (chv L)) (hin : ChIn w B L) (hB : B ≤ w.heap.size) (hl : L.length ≤ 1000) (hf : ∀ c ∈ L, c.u.length ≤ 1000) :
    Calls Try.prog 49 #[.slice a L.length c] w fun e w' => ∃ v, e = .returned v ∧ Lst w' w.heap.size 3 v (i64s (chx L).flatten) ∧ Below w.heap.size w w' := by
  have HIN := Lib.hid hin
  have HRO := Lib.hid hro
  have HF := Lib.hid hf
  have HS := Lib.hid hB
  have HT : Hid ((chx L).take L.length = chx L) := Lib.hid (List.take_of_length_le (by simp))
  rw [← HT.out]
  generalize hN : L.length = n at *
  have HN := Lib.hid hN
  have HFL : Hid (∀ k, k ≤ n → ((chx L).take k).flatten.length ≤ k * 1000) := Lib.hid (fun k hk => flat_len HF.out k (by rw [HN.out]; exact hk))
  have HG := Lib.hid (fun (W : World) (s : Nat) hs => growI_any W s hs)
  have hn1 : (n : Int) ≤ 1000 := by omega
  clear hro hin hf hN hB HT
  go_enter Try.func49, Try.ntmps49
  go_wp2_with fail
  go_loopw [3, 11] (fun x i wr => ∃ k : Nat, k ≤ n ∧ i = .int .i64 (k : Int) ∧ x = .int .i64 (((chx L).take k).flatten.length : Nat) ∧ Hid (Below w.heap.size w wr)) (fun _ i _ => n - (intOf i).toNat)
  case atStart => exact ⟨0, Nat.zero_le _, rfl, by simp, Lib.hid (Below.refl _ _)⟩
  case round =>
    obtain ⟨k, hk, rfl, rfl, HBk⟩ := hrel
    by_cases hlt : k < n
    · have hkL : k < L.length := by rw [HN.out]; exact hlt
      obtain ⟨b, off, rfl, hb, hc⟩ := (HRO.out.below HBk.out HS.out).ch (show 0 < L.length by omega)
      have e1 := hc k hkL
      clear hc
      have hk0 : (0 : Int) ≤ (k : Int) := by omega
      have hk1 : (k : Int) < (n : Int) := by omega
      have hq1 : (ct L k).u.length ≤ 1000 := HF.out _ (ct_mem hkL)
      have hq2 := HFL.out k hk
      have HL : Hid (((chx L).take (k + 1)).flatten.length = ((chx L).take k).flatten.length + (ct L k).u.length) := Lib.hid (by rw [flat_take hkL, List.length_append])
      generalize (ct L k).a = x2 at *
      generalize (ct L k).u.length = x3 at *
      generalize (ct L k).c = x4 at *
      generalize ((chx L).take k).flatten.length = x5 at *
      have hs1 : (0 : Int) ≤ (x5 : Int) + (x3 : Int) := by omega
      have hs2 : (x5 : Int) + (x3 : Int) ≤ 2000000 := by omega
      have hs3 : decide ((x5 : Int) + (x3 : Int) < 0) = false := by simp; omega
      clear hq1 hq2
      go_wp2_with fail
      go_roundw
      case rel => exact ⟨k + 1, by omega, by go_num, by rw [HL.out]; go_num, HBk⟩
      case measure => simp [intOf]; omega
    · obtain rfl : k = n := by omega
      have hq2 := HFL.out k (Nat.le_refl _)
      obtain ⟨s, HSS⟩ : ∃ s, Hid (((chx L).take k).flatten.length = s) := ⟨_, Lib.hid rfl⟩
      rw [HSS.out] at hq2 ⊢
      have HG2 := Lib.hid (HG.out wr s (by omega))
      clear hq2
      rename World => wq
      go_wp2_with fail
      refine HG2.out.mono ?_
      rintro e w1 ⟨v1, rfl, hl1, hb1⟩
      have HL1 := Lib.hid (hl1.base (base' := w.heap.size) HBk.out.size)
      have HB1 := Lib.hid (HBk.out.trans (hb1.mono HBk.out.size))
      clear hl1 hb1
      go_wp2_with fail
      go_loopw [6, 27] (fun x i wr => ∃ j : Nat, j ≤ k ∧ i = .int .i64 (j : Int) ∧ Hid (Lst wr w.heap.size 3 x (i64s ((chx L).take j).flatten)) ∧ Hid (Below w.heap.size w wr)) (fun _ i _ => k - (intOf i).toNat)
      case atStart => exact ⟨0, Nat.zero_le _, rfl, by simpa [i64s] using HL1, HB1⟩
      case round =>
        rename_i hjj
        obtain ⟨j, hj, rfl, HLj, HBj⟩ := hrel
        by_cases hlt : j < k
        · have hkL : j < L.length := by rw [HN.out]; exact hlt
          obtain ⟨b, off, rfl, hb, hc⟩ := (HRO.out.below HBj.out HS.out).ch (show 0 < L.length by omega)
          have e1 := hc j hkL
          clear hc
          have hk0 : (0 : Int) ≤ (j : Int) := by omega
          have hk1 : (j : Int) < (k : Int) := by omega
          have HR := Lib.hid ((HIN.out _ (ct_mem hkL)).below HBj.out HS.out)
          have HQ1 : Hid ((ct L j).u.length ≤ 1000) := Lib.hid (HF.out _ (ct_mem hkL))
          have HQ2 := Lib.hid (HFL.out j hj)
          have HL : Hid (((chx L).take (j + 1)).flatten = ((chx L).take j).flatten ++ (ct L j).u) := Lib.hid (flat_take hkL)
          generalize (ct L j).u = xs at *
          generalize (ct L j).a = x2 at *
          generalize (ct L j).c = x4 at *
          generalize ((chx L).take j).flatten = ys at *
          obtain ⟨x3, hx3⟩ : ∃ x3, xs.length = x3 := ⟨_, rfl⟩
          rw [hx3] at e1
          have HX3 := Lib.hid hx3
          clear hx3
          go_wp2_with (at_builtin; refine wpList_appB rfl (.tmp 31) (.tmp 32) 36 rfl w.heap.size 3 (.int .i64 0) 8 Try.underlying36 Try.info_i64 rfl _ (i64s ys) rfl HLj.out x2 B x3 x4 (i64s xs) rfl (by rw [i64s_length]; exact HX3.out) HR.out (i64s_one _) (by have := HQ1.out; have := HQ2.out; have := HX3.out; rw [i64s_length]; omega) (by have := HQ1.out; have := HQ2.out; have := HX3.out; rw [i64s_length]; omega) w.heap.size w HBj.out (Nat.le_refl _) HBj.out.size ?_)
          intro v' w3 hl hb3 hs3
          have HL3 : Hid (Lst w3 w.heap.size 3 v' (i64s (ys ++ xs))) := Lib.hid (by have e : i64s (ys ++ xs) = i64s ys ++ i64s xs := (by simp [i64s]); rw [e]; exact hl.out)
          have HB3 := Lib.hid hb3
          clear hl hb3 hs3
          go_wp2_with fail
          go_roundw
          case rel => exact ⟨j + 1, by omega, by go_num, by rw [HL.out]; exact HL3, HB3⟩
          case measure => simp [intOf]; omega
        · obtain rfl : j = k := by omega
          go_wp2_with fail
          go_ret
          exact ⟨_, rfl, HLj.out, HBj.out⟩
end Go.Proofs.Ytdpaofedepnnbaa
