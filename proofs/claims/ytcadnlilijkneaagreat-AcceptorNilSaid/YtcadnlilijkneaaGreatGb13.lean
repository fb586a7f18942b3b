/-
  Pack, Unpack of package bits by their contracts.
-/
import Derived.Test.YtcadnlilijkneaaGreatGb10
import Derived.Test.YtcadnlilijkneaaGreatGb11
namespace Go.Proofs.YtcadnlilijkneaaGreat
open Go.RowKit Go.Deep
set_option linter.unusedVariables false
set_option linter.unusedSimpArgs false

theorem lowest_fit (v n : Int) (w : World) (h0 : 0 ≤ n) (hn : n ≤ 64) (hv0 : 0 ≤ v) (hv : v < 2 ^ n.toNat) :
    Calls Tryz.prog 230 #[.int .u64 v, .int .i64 n] w fun e w' => e = .returned (.int .u64 v) ∧ w' = w := by
  refine (lowest_any v n w h0 hn).mono ?_
  rintro e w' ⟨rfl, rfl⟩
  exact ⟨ret_int (Int.emod_eq_of_lt hv0 hv), rfl⟩
set_option maxHeartbeats 1000000 in
theorem pack_yes (l : List Int) (vs : List Nat) (a a2 : Option Addr) (c c2 B : Nat) (w : World) (h : Ro w B a (i64s l)) (h2 : Ro w B a2 (u64s vs)) (hB : B ≤ w.heap.size) (hl : l.length ≤ 1000) (hok : PackOk l vs) :
    Calls Tryz.prog 206 #[.slice a l.length c, .slice a2 vs.length c2] w fun e w' => ∃ (g : Nat) (cs : List UInt8), e = .returned (.tuple #[.slice (some ⟨g, 0, none⟩) cs.length cs.length, .bool true]) ∧ w.heap.size ≤ g ∧ IsPack l vs cs ∧ Own w' g 5 (u8s cs) ∧ Below w.heap.size w w' := by
  obtain ⟨hsome, hlen, hfit⟩ := hok
  obtain ⟨t, ht⟩ := Option.isSome_iff_exists.1 hsome
  obtain ⟨hw, rfl⟩ := spanOf_some ht
  have hspan := span_any l a c B w h (by omega)
  rw [ht] at hspan
  simp only [Option.getD_some, Option.isSome_some] at hspan
  have hsum := nat_sum_le l hw
  have HT := Lib.hid ht; clear ht hsome
  have HLEN := Lib.hid hlen
  obtain ⟨L, hL⟩ : ∃ L, L = ((nat l).sum + 7) / 8 := ⟨_, rfl⟩
  have hbf : ∀ W : World, Calls Tryz.prog 182 #[.int .i64 ((nat l).sum : Nat)] W fun e w' => e = .returned (.int .i64 (L : Nat)) ∧ W = w' := fun W => by
    refine (bytesFor_any ((nat l).sum : Nat) W (by omega) (by omega)).mono ?_
    rintro e w' ⟨rfl, rfl⟩
    exact ⟨ret_int (by omega), rfl⟩
  have hmk := fun W => run_make_row' (P := Tryz.prog) 42 5 (.int .u8 0) 1 Tryz.underlying42 Tryz.info_u8 rfl .i64 .i64 L (by omega) (by omega) W
  have hLle : L ≤ 100000 := by omega
  have HL := Lib.hid hL
  clear hL
  obtain ⟨S, hS⟩ : ∃ S, S = (nat l).sum := ⟨_, rfl⟩
  rw [← hS] at hspan hbf hsum
  have HS := Lib.hid hS
  clear hS
  rw [← hlen]
  clear hlen
  go_enter Tryz.func206, Tryz.ntmps206
  go_wp2_with fail
  refine hspan.mono ?_
  rintro e w' ⟨rfl, rfl⟩
  clear hspan
  go_wp2_with fail
  go_loopw [30] (fun i wr => ∃ k : Nat, k ≤ l.length ∧ i = .int .i64 (k : Int) ∧ Qt w wr) (fun i _ => l.length - (intOf i).toNat)
  case atStart => exact ⟨0, by omega, by simp, Qt.refl _⟩
  case round =>
    obtain ⟨k, hk, rfl, hq⟩ := hrel
    have h0 := h
    have h20 := h2
    replace h := h.qt hq
    replace h2 := h2.qt hq
    by_cases hlt : k < l.length
    · obtain ⟨b, off, rfl, hb, hc⟩ := h.i64 (by omega)
      obtain ⟨b2, off2, rfl, hb2, hc2⟩ := h2.u64 (by have := HLEN.out; omega)
      have hcell := hc k hlt
      have hcell2 := hc2 k (by have := HLEN.out; omega)
      have hv := hfit k hlt
      have hn := hw k hlt
      clear hc hc2
      generalize l.getD k 0 = n at *
      generalize vs.getD k 0 = v at *
      obtain ⟨hn0, hn1⟩ := hn
      have hvi : (v : Int) < 2 ^ n.toNat := by
        have : ((v : Nat) : Int) < ((2 ^ n.toNat : Nat) : Int) := by omega
        simpa using this
      go_wp2_with fail
      go_quiet ((go_at_call 230; exact Calls.quiet_of_same (lowest_fit _ _ _ hn0 hn1 (by omega) hvi)))
      go_wp2_with fail
      go_roundw
      case rel => exact ⟨k + 1, by omega, by go_num, hq.add _⟩
      case measure => simp [intOf]; omega
    · rename World => w1
      have hb1 : Below w.heap.size w w1 := hq.below (Below.refl _ _)
      have hz1 := hq.size
      have HZ1 := Lib.hid hz1; clear hz1
      go_wp2_with (go_at_call 182; refine (hbf _).mono ?_; rintro e w' ⟨rfl, rfl⟩)
      go_loopw [11, 52] (fun x y wz => ∃ (j : Nat) (cs : List UInt8), j ≤ l.length ∧ y = .int .i64 (j : Int) ∧ x = .int .i64 (((nat l).take j).sum : Nat) ∧ Own wz w1.heap.size 5 (u8s cs) ∧ IsPackTo l vs cs j ∧ Below w.heap.size w wz) (fun _ y _ => l.length - (intOf y).toNat)
      case atStart => exact ⟨0, List.replicate L 0, by omega, by simp, by simp, own_made _ _, by rw [HL.out]; exact IsPackTo.start l vs, hb1.alloc hb1.size _⟩
      case round =>
        obtain ⟨j, cs, hj, rfl, rfl, hown, hto, hbz⟩ := hrel
        by_cases hlt2 : j < l.length
        · obtain ⟨b, off, rfl, hb, hc⟩ := (h0.below hbz hB).i64 (by omega)
          obtain ⟨b2, off2, rfl, hb2, hc2⟩ := (h20.below hbz hB).u64 (by have := HLEN.out; omega)
          have hcell := hc j hlt2
          have hcell2 := hc2 j (by have := HLEN.out; omega)
          have hn := hw j hlt2
          have hst := sum_take_nat (nat l) j (by simpa using hlt2)
          have hle := sum_take_le (nat l) (j + 1)
          have hstep := fun ds => hto.step (ds := ds) HLEN.out hlt2
          rw [nat_getD] at hst
          rw [← HS.out] at hle
          have hcl : cs.length = L := by rw [HL.out]; exact hto.1
          have hL' := HL.out
          rw [← HS.out] at hL'
          clear hc hc2
          generalize l.getD j 0 = n at *
          generalize vs.getD j 0 = v at *
          obtain ⟨hn0, hn1⟩ := hn
          obtain ⟨m, rfl⟩ := Int.eq_ofNat_of_zero_le hn0
          rw [Int.toNat_natCast] at hst hstep
          generalize ((nat l).take j).sum = x at *
          have hkn : x + m ≤ 8 * L := by omega
          clear hL'
          have HSTEP := Lib.hid hstep
          clear hstep hfit hw
          have HST := Lib.hid hst
          have HCL := Lib.hid hcl
          clear hst hle hcl
          go_wp2_with fail
          refine (store_len cs L w1.heap.size L x m v _ HCL.out hown (by omega) hkn (by omega)).mono ?_
          rintro e w3 ⟨rfl, ds, hput, hown3, hgr, hsz3⟩
          have HSZ := Lib.hid hsz3
          clear hsz3
          go_wp2_with fail
          go_roundw
          case rel => exact ⟨j + 1, ds, by omega, by go_num, by rw [HST.out]; go_num, hown3, HSTEP.out ds hput, below_only hbz hgr (by have := HZ1.out; omega) hbz.size⟩
          case measure => simp [intOf]; omega
        · have hjl : j = l.length := by omega
          have HJ := Lib.hid hjl
          clear hjl
          go_wp2_with fail
          go_ret2
          have hto' := hto
          rw [HJ.out] at hto'
          have hcl : cs.length = L := by rw [HL.out]; exact hto.1
          exact ⟨w1.heap.size, cs, by rw [hcl]; rfl, by have := HZ1.out; omega, hto'.stop HLEN.out, hown, hbz⟩

end Go.Proofs.YtcadnlilijkneaaGreat
