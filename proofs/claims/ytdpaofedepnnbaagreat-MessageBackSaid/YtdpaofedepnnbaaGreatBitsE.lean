/-
  Unpack of package bits by its contracts.
-/
import Derived.Test.YtdpaofedepnnbaaGreatBitsC
import Derived.Test.YtdpaofedepnnbaaGreatUnpMath
namespace Go.Proofs.YtdpaofedepnnbaaGreat
set_option linter.unusedVariables false
set_option linter.unusedSimpArgs false
open Go.RowKit Go.Deep

theorem Tryz.info_u64 : (Tryz.prog.info? 26).map (fun i => (i.zero, i.size, i.bytes)) = some (some (.int .u64 0), 1, 8) := by kernel_rfl
theorem made_u64s (n : Nat) : madeCells #[.int .u64 0] n = (u64s (List.replicate n 0)).toArray := by
  apply Array.ext
  · simp [size_madeCells, u64s]
  · intro i h1 h2
    simp [madeCells, u64s, Nat.mod_one]
theorem own_made64 (w : World) (n : Nat) : Own (w.alloc (.cells (madeCells #[.int .u64 0] n) 26)) w.heap.size 26 (u64s (List.replicate n 0)) := by
  rw [made_u64s]
  exact Own.new w 26 _

theorem load_len (bs : List UInt8) (len : Nat) (a : Option Addr) (c B : Nat) (k n : Int) (w : World) (hlen : bs.length = len) (h : Ro w B a (u8s bs)) (hk0 : 0 ≤ k) (hn0 : 0 ≤ n) (hn : n ≤ 64) (hk : k + n ≤ 8 * len) (hl : len ≤ 1000000) :
    Calls Tryz.prog 113 #[.slice a len c, .int .i64 k, .int .i64 n] w fun e w' => e = .returned (.int .u64 (num bs k.toNat n.toNat : Nat)) ∧ w = w' := by
  subst hlen
  obtain ⟨k, rfl⟩ := Int.eq_ofNat_of_zero_le hk0
  obtain ⟨n, rfl⟩ := Int.eq_ofNat_of_zero_le hn0
  exact load_any bs a c B k n w h (by omega) (by omega) hl

set_option maxHeartbeats 1000000 in
theorem unpack_yes (l : List Int) (bs : List UInt8) (a a2 : Option Addr) (c c2 B : Nat) (w : World) (h : Ro w B a (i64s l)) (h2 : Ro w B a2 (u8s bs)) (hB : B ≤ w.heap.size) (hl : l.length ≤ 1000) (hok : UnpOk l bs) :
    Calls Tryz.prog 130 #[.slice a l.length c, .slice a2 bs.length c2] w fun e w' => ∃ (g : Nat) (vs : List Nat), e = .returned (.tuple #[.slice (some ⟨g, 0, none⟩) l.length l.length, .bool true]) ∧ w.heap.size ≤ g ∧ IsUnp l bs vs ∧ Own w' g 26 (u64s vs) ∧ Below w.heap.size w w' := by
  obtain ⟨hsome, hlen, hz⟩ := hok
  obtain ⟨t, ht⟩ := Option.isSome_iff_exists.1 hsome
  obtain ⟨hw, rfl⟩ := spanOf_some ht
  have hspan := span_any l a c B w h (by omega)
  rw [ht] at hspan
  simp only [Option.getD_some, Option.isSome_some] at hspan
  have hsum := nat_sum_le l hw
  clear ht hsome
  have hmk := fun W => run_make_row' (P := Tryz.prog) 53 26 (.int .u64 0) 8 Tryz.underlying53 Tryz.info_u64 rfl .i64 .i64 l.length (by omega) (by omega) W
  obtain ⟨L, hL⟩ : ∃ L, L = bs.length := ⟨_, rfl⟩
  have hbf : ∀ W : World, Calls Tryz.prog 78 #[.int .i64 ((nat l).sum : Nat)] W fun e w' => e = .returned (.int .i64 (L : Nat)) ∧ W = w' := fun W => by
    refine (bytesFor_any ((nat l).sum : Nat) W (by omega) (by omega)).mono ?_
    rintro e w' ⟨rfl, rfl⟩
    exact ⟨ret_int (by omega), rfl⟩
  have hld : ∀ W : World, Ro W B a2 (u8s bs) → Calls Tryz.prog 113 #[.slice a2 L c2, .int .i64 ((nat l).sum : Nat), .int .i64 ((L : Int) * 8 - ((nat l).sum : Nat))] W fun e w' => e = .returned (.int .u64 0) ∧ W = w' := fun W hW => by
    have hl := load_len bs L a2 c2 B ((nat l).sum : Nat) ((L : Int) * 8 - ((nat l).sum : Nat)) W hL.symm hW (by omega) (by omega) (by omega) (by omega) (by omega)
    have e1 : ((L : Int) * 8 - ((nat l).sum : Nat)).toNat = 8 * bs.length - (nat l).sum := by omega
    rw [Int.toNat_natCast, e1, hz] at hl
    exact hl
  rw [← hL]
  obtain ⟨S, hS⟩ : ∃ S, S = (nat l).sum := ⟨_, rfl⟩
  rw [← hS] at hspan hbf hsum hld hlen
  have hSL : S ≤ 8 * L := by omega
  have hLle : L ≤ 100000 := by omega
  have HS := Lib.hid hS
  have HL := Lib.hid hL
  clear hS hL hlen hz
  go_enter Tryz.func130, Tryz.ntmps130
  go_wp2_with fail
  refine hspan.mono ?_
  rintro e w' ⟨rfl, rfl⟩
  clear hspan
  go_wp2_with fail
  refine (hbf _).mono ?_
  rintro e w' ⟨rfl, rfl⟩
  go_wp2_with fail
  refine (hld _ h2).mono ?_
  rintro e w' ⟨rfl, rfl⟩
  go_wp2_with fail
  go_loopw [9, 42] (fun x y wz => ∃ (j : Nat) (vs : List Nat), j ≤ l.length ∧ y = .int .i64 (j : Int) ∧ x = .int .i64 (((nat l).take j).sum : Nat) ∧ Own wz w.heap.size 26 (u64s vs) ∧ IsUnpTo l bs vs j ∧ Below w.heap.size w wz) (fun _ y _ => l.length - (intOf y).toNat)
  case atStart => exact ⟨0, List.replicate l.length 0, by omega, by simp, by simp, own_made64 _ _, ⟨by simp, by omega⟩, (Below.refl _ _).alloc (Nat.le_refl _) _⟩
  case round =>
    obtain ⟨j, vs, hj, rfl, rfl, hown, hto, hbz⟩ := hrel
    by_cases hlt2 : j < l.length
    · obtain ⟨b, off, rfl, hb, hc⟩ := (h.below hbz hB).i64 (by omega)
      have hro2 := h2.below hbz hB
      have hcell := hc j hlt2
      have hn := hw j hlt2
      have hst := sum_take_nat (nat l) j (by simpa using hlt2)
      have hle := sum_take_le (nat l) (j + 1)
      have hstep := hto.step hlt2
      have hvl := hto.1
      rw [nat_getD] at hst
      rw [← HS.out] at hle
      have hcell2 : wr.cell? ⟨w.heap.size, j, none⟩ = some (.int .u64 (vs.getD j 0 : Nat)) := by
        rw [hown.cell j]; simp [u64s, List.getD, show j < vs.length from by omega]
      have hfr := hown.frozen j
      clear hc
      generalize l.getD j 0 = n at *
      generalize vs.getD j 0 = v at *
      obtain ⟨hn0, hn1⟩ := hn
      obtain ⟨m, rfl⟩ := Int.eq_ofNat_of_zero_le hn0
      rw [Int.toNat_natCast] at hst hstep
      generalize ((nat l).take j).sum = x at *
      have hkn : x + m ≤ 8 * L := by omega
      have HST := Lib.hid hst
      have HSTEP := Lib.hid hstep
      have HVL := Lib.hid hvl
      have hset := fun u : Nat => hown.set j (.int .u64 (u : Int))
      have HSET := Lib.hid hset
      clear hst hle hstep hvl hset hw
      go_wp2_with fail
      refine (load_len bs L a2 c2 B x m wr HL.out.symm hro2 (by omega) (by omega) (by omega) (by omega) (by omega)).mono ?_
      rintro e w' ⟨rfl, rfl⟩
      rw [Int.toNat_natCast, Int.toNat_natCast]
      go_wp2_with fail
      go_roundw
      case rel => exact ⟨j + 1, vs.set j (num bs x m), by omega, by go_num, by rw [HST.out]; go_num, by have := HSET.out (num bs x m); unfold u64s at this ⊢; rw [List.map_set]; exact this, HSTEP.out, below_only hbz (only_set (only_refl _ _) _ _) (Nat.le_refl _) hbz.size⟩
      case measure => simp [intOf]; omega
    · have hjl : j = l.length := by omega
      have HJ := Lib.hid hjl
      clear hjl
      go_wp2_with fail
      go_ret2
      have hto' := hto
      rw [HJ.out] at hto'
      exact ⟨w.heap.size, vs, rfl, Nat.le_refl _, hto', hown, hbz⟩

set_option maxHeartbeats 1000000 in
theorem unpack_no (l : List Int) (bs : List UInt8) (a a2 : Option Addr) (c c2 B : Nat) (w : World) (h : Ro w B a (i64s l)) (h2 : Ro w B a2 (u8s bs)) (hl : l.length ≤ 1000) (hbl : bs.length ≤ 1000000) (hno : ¬ UnpOk l bs) :
    Calls Tryz.prog 130 #[.slice a l.length c, .slice a2 bs.length c2] w fun e w' => e = .returned (.tuple #[.slice none 0 0, .bool false]) ∧ Below w.heap.size w w' := by
  have hspan := span_any l a c B w h (by omega)
  rcases ht : spanOf l with _ | t
  · rw [ht] at hspan
    simp only [Option.getD_none, Option.isSome_none] at hspan
    clear ht
    go_enter Tryz.func130, Tryz.ntmps130
    go_wp2_with fail
    refine hspan.mono ?_
    rintro e w' ⟨rfl, rfl⟩
    clear hspan
    go_wp2_with fail
    go_ret2
    exact ⟨rfl, Below.refl _ _⟩
  rw [ht] at hspan
  simp only [Option.getD_some, Option.isSome_some] at hspan
  obtain ⟨hw, rfl⟩ := spanOf_some ht
  have hsum := nat_sum_le l hw
  obtain ⟨L, hL⟩ : ∃ L, L = ((nat l).sum + 7) / 8 := ⟨_, rfl⟩
  have hbf : ∀ W : World, Calls Tryz.prog 78 #[.int .i64 ((nat l).sum : Nat)] W fun e w' => e = .returned (.int .i64 (L : Nat)) ∧ W = w' := fun W => by
    refine (bytesFor_any ((nat l).sum : Nat) W (by omega) (by omega)).mono ?_
    rintro e w' ⟨rfl, rfl⟩
    exact ⟨ret_int (by omega), rfl⟩
  by_cases hlen : bs.length = L
  · have hz : num bs (nat l).sum (8 * bs.length - (nat l).sum) ≠ 0 := fun hh => hno ⟨by rw [ht]; rfl, hlen.trans hL, hh⟩
    obtain ⟨R, hR⟩ : ∃ R, R = num bs (nat l).sum (8 * bs.length - (nat l).sum) := ⟨_, rfl⟩
    have hld : ∀ W : World, Ro W B a2 (u8s bs) → Calls Tryz.prog 113 #[.slice a2 L c2, .int .i64 ((nat l).sum : Nat), .int .i64 ((L : Int) * 8 - ((nat l).sum : Nat))] W fun e w' => e = .returned (.int .u64 (R : Nat)) ∧ W = w' := fun W hW => by
      have hl := load_len bs L a2 c2 B ((nat l).sum : Nat) ((L : Int) * 8 - ((nat l).sum : Nat)) W hlen hW (by omega) (by omega) (by omega) (by omega) (by omega)
      have e1 : ((L : Int) * 8 - ((nat l).sum : Nat)).toNat = 8 * bs.length - (nat l).sum := by omega
      rw [Int.toNat_natCast, e1, ← hR] at hl
      exact hl
    have hne : ((R : Int) != 0) = true := by rw [bne_iff_ne]; omega
    rw [hlen]
    have hLle : L ≤ 100000 := by omega
    clear hL hlen ht hno hz hR
    generalize (nat l).sum = S at *
    go_enter Tryz.func130, Tryz.ntmps130
    go_wp2_with fail
    refine hspan.mono ?_
    rintro e w' ⟨rfl, rfl⟩
    clear hspan
    go_wp2_with fail
    refine (hbf _).mono ?_
    rintro e w' ⟨rfl, rfl⟩
    go_wp2_with fail
    refine (hld _ h2).mono ?_
    rintro e w' ⟨rfl, rfl⟩
    go_wp2_with fail
    go_ret2
    exact ⟨rfl, Below.refl _ _⟩
  · have hne : ((bs.length : Int) != (L : Int)) = true := by rw [bne_iff_ne]; omega
    clear hL hlen ht hno
    generalize (nat l).sum = S at *
    go_enter Tryz.func130, Tryz.ntmps130
    go_wp2_with fail
    refine hspan.mono ?_
    rintro e w' ⟨rfl, rfl⟩
    clear hspan
    go_wp2_with fail
    refine (hbf _).mono ?_
    rintro e w' ⟨rfl, rfl⟩
    go_wp2_with fail
    go_ret2
    exact ⟨rfl, Below.refl _ _⟩
end Go.Proofs.YtdpaofedepnnbaaGreat
