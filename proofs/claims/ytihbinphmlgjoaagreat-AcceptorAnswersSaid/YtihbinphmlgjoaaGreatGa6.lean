/-
  Unpack of package bits by its contracts.
-/
import Derived.Test.YtihbinphmlgjoaaGreatGa5
import Derived.Test.YtihbinphmlgjoaaGreatGa1
import Derived.Deep.RegionHeld3
import Derived.Shelf.Lay
import Derived.Deep.RegionLaw
namespace Go.Proofs.YtihbinphmlgjoaaGreat
open Go.RowKit Go.Deep
set_option linter.unusedVariables false
set_option linter.unusedSimpArgs false

theorem Tryz.info_u64 : (Tryz.prog.info? 37).map (fun i => (i.zero, i.size, i.bytes)) = some (some (.int .u64 0), 1, 8) := by kernel_rfl
theorem made_u64s (n : Nat) : madeCells #[.int .u64 0] n = (u64s (List.replicate n 0)).toArray := by
  apply Array.ext
  · simp [size_madeCells, u64s]
  · intro i h1 h2
    simp [madeCells, u64s, Nat.mod_one]
theorem own_made64 (w : World) (n : Nat) : Own (w.alloc (.cells (madeCells #[.int .u64 0] n) 37)) w.heap.size 37 (u64s (List.replicate n 0)) := by
  rw [made_u64s]
  exact Own.new w 37 _

theorem load_len (bs : List UInt8) (len : Nat) (a : Option Addr) (c B : Nat) (k n : Int) (w : World) (hlen : bs.length = len) (h : Ro w B a (u8s bs)) (hk0 : 0 ≤ k) (hn0 : 0 ≤ n) (hn : n ≤ 64) (hk : k + n ≤ 8 * len) (hl : len ≤ 1000000) :
    Calls Tryz.prog 114 #[.slice a len c, .int .i64 k, .int .i64 n] w fun e w' => e = .returned (.int .u64 (num bs k.toNat n.toNat : Nat)) ∧ w = w' := by
  subst hlen
  obtain ⟨k, rfl⟩ := Int.eq_ofNat_of_zero_le hk0
  obtain ⟨n, rfl⟩ := Int.eq_ofNat_of_zero_le hn0
  exact load_any bs a c B k n w h (by omega) (by omega) hl

set_option maxHeartbeats 1000000 in
theorem unpack_yes (l : List Int) (bs : List UInt8) (a a2 : Option Addr) (c c2 B : Nat) (w : World) (h : Ro w B a (i64s l)) (h2 : Ro w B a2 (u8s bs)) (hB : B ≤ w.heap.size) (hl : l.length ≤ 1000) (hok : UnpOk l bs) :
    Calls Tryz.prog 68 #[.slice a l.length c, .slice a2 bs.length c2] w fun e w' => ∃ (g : Nat) (vs : List Nat), e = .returned (.tuple #[.slice (some ⟨g, 0, none⟩) l.length l.length, .bool true]) ∧ w.heap.size ≤ g ∧ IsUnp l bs vs ∧ Own w' g 37 (u64s vs) ∧ Below w.heap.size w w' := by
  obtain ⟨hsome, hlen, hz⟩ := hok
  obtain ⟨t, ht⟩ := Option.isSome_iff_exists.1 hsome
  obtain ⟨hw, rfl⟩ := spanOf_some ht
  have hspan := span_any l a c B w h (by omega)
  rw [ht] at hspan
  simp only [Option.getD_some, Option.isSome_some] at hspan
  have hsum := nat_sum_le l hw
  clear ht hsome
  have hmk := fun W => run_make_row' (P := Tryz.prog) 73 37 (.int .u64 0) 8 Tryz.underlying73 Tryz.info_u64 rfl .i64 .i64 l.length (by omega) (by omega) W
  obtain ⟨L, hL⟩ : ∃ L, L = bs.length := ⟨_, rfl⟩
  have hbf : ∀ W : World, Calls Tryz.prog 113 #[.int .i64 ((nat l).sum : Nat)] W fun e w' => e = .returned (.int .i64 (L : Nat)) ∧ W = w' := fun W => by
    refine (bytesFor_any ((nat l).sum : Nat) W (by omega) (by omega)).mono ?_
    rintro e w' ⟨rfl, rfl⟩
    exact ⟨ret_int (by omega), rfl⟩
  have hld : ∀ W : World, Ro W B a2 (u8s bs) → Calls Tryz.prog 114 #[.slice a2 L c2, .int .i64 ((nat l).sum : Nat), .int .i64 ((L : Int) * 8 - ((nat l).sum : Nat))] W fun e w' => e = .returned (.int .u64 0) ∧ W = w' := fun W hW => by
    have hl := load_len bs L a2 c2 B ((nat l).sum : Nat) ((L : Int) * 8 - ((nat l).sum : Nat)) W hL.symm hW (by omega) (by omega) (by omega) (by omega) (by omega)
    have e1 : ((L : Int) * 8 - ((nat l).sum : Nat)).toNat = 8 * bs.length - (nat l).sum := by omega
    rw [Int.toNat_natCast, e1, hz] at hl
    exact hl
  rw [← hL]
  obtain ⟨S, hS⟩ : ∃ S, S = (nat l).sum := ⟨_, rfl⟩
  rw [← hS] at hspan hbf hsum hld hlen
  have hSL : S ≤ 8 * L := by omega
  have hLle : L ≤ 100000 := by omega
  have HS := Lib.hid hS
  have HL := Lib.hid hL
  clear hS hL hlen hz
  go_enter Tryz.func68, Tryz.ntmps68
  go_wp2_with fail
  refine hspan.mono ?_
  rintro e w' ⟨rfl, rfl⟩
  clear hspan
  go_wp2_with fail
  refine (hbf _).mono ?_
  rintro e w' ⟨rfl, rfl⟩
  go_wp2_with fail
  refine (hld _ h2).mono ?_
  rintro e w' ⟨rfl, rfl⟩
  go_wp2_with fail
  go_loopw [9, 42] (fun x y wz => ∃ (j : Nat) (vs : List Nat), j ≤ l.length ∧ y = .int .i64 (j : Int) ∧ x = .int .i64 (((nat l).take j).sum : Nat) ∧ Own wz w.heap.size 37 (u64s vs) ∧ IsUnpTo l bs vs j ∧ Below w.heap.size w wz) (fun _ y _ => l.length - (intOf y).toNat)
  case atStart => exact ⟨0, List.replicate l.length 0, by omega, by simp, by simp, own_made64 _ _, ⟨by simp, by omega⟩, (Below.refl _ _).alloc (Nat.le_refl _) _⟩
  case round =>
    obtain ⟨j, vs, hj, rfl, rfl, hown, hto, hbz⟩ := hrel
    by_cases hlt2 : j < l.length
    · obtain ⟨b, off, rfl, hb, hc⟩ := (h.below hbz hB).i64 (by omega)
      have hro2 := h2.below hbz hB
      have hcell := hc j hlt2
      have hn := hw j hlt2
      have hst := sum_take_nat (nat l) j (by simpa using hlt2)
      have hle := sum_take_le (nat l) (j + 1)
      have hstep := hto.step hlt2
      have hvl := hto.1
      rw [nat_getD] at hst
      rw [← HS.out] at hle
      have hcell2 : wr.cell? ⟨w.heap.size, j, none⟩ = some (.int .u64 (vs.getD j 0 : Nat)) := by
        rw [hown.cell j]; simp [u64s, List.getD, show j < vs.length from by omega]
      have hfr := hown.frozen j
      clear hc
      generalize l.getD j 0 = n at *
      generalize vs.getD j 0 = v at *
      obtain ⟨hn0, hn1⟩ := hn
      obtain ⟨m, rfl⟩ := Int.eq_ofNat_of_zero_le hn0
      rw [Int.toNat_natCast] at hst hstep
      generalize ((nat l).take j).sum = x at *
      have hkn : x + m ≤ 8 * L := by omega
      have HST := Lib.hid hst
      have HSTEP := Lib.hid hstep
      have HVL := Lib.hid hvl
      have hset := fun u : Nat => hown.set j (.int .u64 (u : Int))
      have HSET := Lib.hid hset
      clear hst hle hstep hvl hset hw
      go_wp2_with fail
      refine (load_len bs L a2 c2 B x m wr HL.out.symm hro2 (by omega) (by omega) (by omega) (by omega) (by omega)).mono ?_
      rintro e w' ⟨rfl, rfl⟩
      rw [Int.toNat_natCast, Int.toNat_natCast]
      go_wp2_with fail
      go_roundw
      case rel => exact ⟨j + 1, vs.set j (num bs x m), by omega, by go_num, by rw [HST.out]; go_num, by have := HSET.out (num bs x m); unfold u64s at this ⊢; rw [List.map_set]; exact this, HSTEP.out, below_only hbz (only_set (only_refl _ _) _ _) (Nat.le_refl _) hbz.size⟩
      case measure => simp [intOf]; omega
    · have hjl : j = l.length := by omega
      have HJ := Lib.hid hjl
      clear hjl
      go_wp2_with fail
      go_ret2
      have hto' := hto
      rw [HJ.out] at hto'
      exact ⟨w.heap.size, vs, rfl, Nat.le_refl _, hto', hown, hbz⟩

set_option maxHeartbeats 1000000 in
theorem unpack_no (l : List Int) (bs : List UInt8) (a a2 : Option Addr) (c c2 B : Nat) (w : World) (h : Ro w B a (i64s l)) (h2 : Ro w B a2 (u8s bs)) (hl : l.length ≤ 1000) (hbl : bs.length ≤ 1000000) (hno : ¬ UnpOk l bs) :
    Calls Tryz.prog 68 #[.slice a l.length c, .slice a2 bs.length c2] w fun e w' => e = .returned (.tuple #[.slice none 0 0, .bool false]) ∧ Below w.heap.size w w' := by
  have hspan := span_any l a c B w h (by omega)
  rcases ht : spanOf l with _ | t
  · rw [ht] at hspan
    simp only [Option.getD_none, Option.isSome_none] at hspan
    clear ht
    go_enter Tryz.func68, Tryz.ntmps68
    go_wp2_with fail
    refine hspan.mono ?_
    rintro e w' ⟨rfl, rfl⟩
    clear hspan
    go_wp2_with fail
    go_ret2
    exact ⟨rfl, Below.refl _ _⟩
  rw [ht] at hspan
  simp only [Option.getD_some, Option.isSome_some] at hspan
  obtain ⟨hw, rfl⟩ := spanOf_some ht
  have hsum := nat_sum_le l hw
  obtain ⟨L, hL⟩ : ∃ L, L = ((nat l).sum + 7) / 8 := ⟨_, rfl⟩
  have hbf : ∀ W : World, Calls Tryz.prog 113 #[.int .i64 ((nat l).sum : Nat)] W fun e w' => e = .returned (.int .i64 (L : Nat)) ∧ W = w' := fun W => by
    refine (bytesFor_any ((nat l).sum : Nat) W (by omega) (by omega)).mono ?_
    rintro e w' ⟨rfl, rfl⟩
    exact ⟨ret_int (by omega), rfl⟩
  by_cases hlen : bs.length = L
  · have hz : num bs (nat l).sum (8 * bs.length - (nat l).sum) ≠ 0 := fun hh => hno ⟨by rw [ht]; rfl, hlen.trans hL, hh⟩
    obtain ⟨R, hR⟩ : ∃ R, R = num bs (nat l).sum (8 * bs.length - (nat l).sum) := ⟨_, rfl⟩
    have hld : ∀ W : World, Ro W B a2 (u8s bs) → Calls Tryz.prog 114 #[.slice a2 L c2, .int .i64 ((nat l).sum : Nat), .int .i64 ((L : Int) * 8 - ((nat l).sum : Nat))] W fun e w' => e = .returned (.int .u64 (R : Nat)) ∧ W = w' := fun W hW => by
      have hl := load_len bs L a2 c2 B ((nat l).sum : Nat) ((L : Int) * 8 - ((nat l).sum : Nat)) W hlen hW (by omega) (by omega) (by omega) (by omega) (by omega)
      have e1 : ((L : Int) * 8 - ((nat l).sum : Nat)).toNat = 8 * bs.length - (nat l).sum := by omega
      rw [Int.toNat_natCast, e1, ← hR] at hl
      exact hl
    have hne : ((R : Int) != 0) = true := by rw [bne_iff_ne]; omega
    rw [hlen]
    have hLle : L ≤ 100000 := by omega
    clear hL hlen ht hno hz hR
    generalize (nat l).sum = S at *
    go_enter Tryz.func68, Tryz.ntmps68
    go_wp2_with fail
    refine hspan.mono ?_
    rintro e w' ⟨rfl, rfl⟩
    clear hspan
    go_wp2_with fail
    refine (hbf _).mono ?_
    rintro e w' ⟨rfl, rfl⟩
    go_wp2_with fail
    refine (hld _ h2).mono ?_
    rintro e w' ⟨rfl, rfl⟩
    go_wp2_with fail
    go_ret2
    exact ⟨rfl, Below.refl _ _⟩
  · have hne : ((bs.length : Int) != (L : Int)) = true := by rw [bne_iff_ne]; omega
    clear hL hlen ht hno
    generalize (nat l).sum = S at *
    go_enter Tryz.func68, Tryz.ntmps68
    go_wp2_with fail
    refine hspan.mono ?_
    rintro e w' ⟨rfl, rfl⟩
    clear hspan
    go_wp2_with fail
    refine (hbf _).mono ?_
    rintro e w' ⟨rfl, rfl⟩
    go_wp2_with fail
    go_ret2
    exact ⟨rfl, Below.refl _ _⟩
end Go.Proofs.YtihbinphmlgjoaaGreat
namespace Go.Proofs.YtihbinphmlgjoaaGreat
open Go.RowKit Go.Deep
set_option linter.unusedVariables false
set_option linter.unusedSimpArgs false

theorem lowest_fit (v n : Int) (w : World) (h0 : 0 ≤ n) (hn : n ≤ 64) (hv0 : 0 ≤ v) (hv : v < 2 ^ n.toNat) :
    Calls Tryz.prog 150 #[.int .u64 v, .int .i64 n] w fun e w' => e = .returned (.int .u64 v) ∧ w' = w := by
  refine (lowest_any v n w h0 hn).mono ?_
  rintro e w' ⟨rfl, rfl⟩
  exact ⟨ret_int (Int.emod_eq_of_lt hv0 hv), rfl⟩
theorem lowest_over (v n r : Int) (w : World) (h0 : 0 ≤ n) (hn : n ≤ 64) (hr : r = v % 2 ^ n.toNat) :
    Calls Tryz.prog 150 #[.int .u64 v, .int .i64 n] w fun e w' => e = .returned (.int .u64 r) ∧ w' = w := by
  refine (lowest_any v n w h0 hn).mono ?_
  rintro e w' ⟨rfl, rfl⟩
  exact ⟨ret_int hr.symm, rfl⟩

set_option maxHeartbeats 1000000 in
theorem pack_yes (l : List Int) (vs : List Nat) (a a2 : Option Addr) (c c2 B : Nat) (w : World) (h : Ro w B a (i64s l)) (h2 : Ro w B a2 (u64s vs)) (hB : B ≤ w.heap.size) (hl : l.length ≤ 1000) (hok : PackOk l vs) :
    Calls Tryz.prog 139 #[.slice a l.length c, .slice a2 vs.length c2] w fun e w' => ∃ (g : Nat) (cs : List UInt8), e = .returned (.tuple #[.slice (some ⟨g, 0, none⟩) cs.length cs.length, .bool true]) ∧ w.heap.size ≤ g ∧ IsPack l vs cs ∧ Own w' g 5 (u8s cs) ∧ Below w.heap.size w w' := by
  obtain ⟨hsome, hlen, hfit⟩ := hok
  obtain ⟨t, ht⟩ := Option.isSome_iff_exists.1 hsome
  obtain ⟨hw, rfl⟩ := spanOf_some ht
  have hspan := span_any l a c B w h (by omega)
  rw [ht] at hspan
  simp only [Option.getD_some, Option.isSome_some] at hspan
  have hsum := nat_sum_le l hw
  have HT := Lib.hid ht; clear ht hsome
  have HLEN := Lib.hid hlen
  obtain ⟨L, hL⟩ : ∃ L, L = ((nat l).sum + 7) / 8 := ⟨_, rfl⟩
  have hbf : ∀ W : World, Calls Tryz.prog 113 #[.int .i64 ((nat l).sum : Nat)] W fun e w' => e = .returned (.int .i64 (L : Nat)) ∧ W = w' := fun W => by
    refine (bytesFor_any ((nat l).sum : Nat) W (by omega) (by omega)).mono ?_
    rintro e w' ⟨rfl, rfl⟩
    exact ⟨ret_int (by omega), rfl⟩
  have hmk := fun W => run_make_row' (P := Tryz.prog) 44 5 (.int .u8 0) 1 Tryz.underlying44 Tryz.info_u8 rfl .i64 .i64 L (by omega) (by omega) W
  have hLle : L ≤ 100000 := by omega
  have HL := Lib.hid hL
  clear hL
  obtain ⟨S, hS⟩ : ∃ S, S = (nat l).sum := ⟨_, rfl⟩
  rw [← hS] at hspan hbf hsum
  have HS := Lib.hid hS
  clear hS
  rw [← hlen]
  clear hlen
  go_enter Tryz.func139, Tryz.ntmps139
  go_wp2_with fail
  refine hspan.mono ?_
  rintro e w' ⟨rfl, rfl⟩
  clear hspan
  go_wp2_with fail
  go_loopw [30] (fun i wr => ∃ k : Nat, k ≤ l.length ∧ i = .int .i64 (k : Int) ∧ Qt w wr) (fun i _ => l.length - (intOf i).toNat)
  case atStart => exact ⟨0, by omega, by simp, Qt.refl _⟩
  case round =>
    obtain ⟨k, hk, rfl, hq⟩ := hrel
    have h0 := h
    have h20 := h2
    replace h := h.qt hq
    replace h2 := h2.qt hq
    by_cases hlt : k < l.length
    · obtain ⟨b, off, rfl, hb, hc⟩ := h.i64 (by omega)
      obtain ⟨b2, off2, rfl, hb2, hc2⟩ := h2.u64 (by have := HLEN.out; omega)
      have hcell := hc k hlt
      have hcell2 := hc2 k (by have := HLEN.out; omega)
      have hv := hfit k hlt
      have hn := hw k hlt
      clear hc hc2
      generalize l.getD k 0 = n at *
      generalize vs.getD k 0 = v at *
      obtain ⟨hn0, hn1⟩ := hn
      have hvi : (v : Int) < 2 ^ n.toNat := by
        have : ((v : Nat) : Int) < ((2 ^ n.toNat : Nat) : Int) := by omega
        simpa using this
      go_wp2_with fail
      go_quiet ((go_at_call 150; exact Calls.quiet_of_same (lowest_fit _ _ _ hn0 hn1 (by omega) hvi)))
      go_wp2_with fail
      go_roundw
      case rel => exact ⟨k + 1, by omega, by go_num, hq.add _⟩
      case measure => simp [intOf]; omega
    · rename World => w1
      have hb1 : Below w.heap.size w w1 := hq.below (Below.refl _ _)
      have hz1 := hq.size
      have HZ1 := Lib.hid hz1; clear hz1
      go_wp2_with (go_at_call 113; refine (hbf _).mono ?_; rintro e w' ⟨rfl, rfl⟩)
      go_loopw [11, 52] (fun x y wz => ∃ (j : Nat) (cs : List UInt8), j ≤ l.length ∧ y = .int .i64 (j : Int) ∧ x = .int .i64 (((nat l).take j).sum : Nat) ∧ Own wz w1.heap.size 5 (u8s cs) ∧ IsPackTo l vs cs j ∧ Below w.heap.size w wz) (fun _ y _ => l.length - (intOf y).toNat)
      case atStart => exact ⟨0, List.replicate L 0, by omega, by simp, by simp, own_made _ _, by rw [HL.out]; exact IsPackTo.start l vs, hb1.alloc hb1.size _⟩
      case round =>
        obtain ⟨j, cs, hj, rfl, rfl, hown, hto, hbz⟩ := hrel
        by_cases hlt2 : j < l.length
        · obtain ⟨b, off, rfl, hb, hc⟩ := (h0.below hbz hB).i64 (by omega)
          obtain ⟨b2, off2, rfl, hb2, hc2⟩ := (h20.below hbz hB).u64 (by have := HLEN.out; omega)
          have hcell := hc j hlt2
          have hcell2 := hc2 j (by have := HLEN.out; omega)
          have hn := hw j hlt2
          have hst := sum_take_nat (nat l) j (by simpa using hlt2)
          have hle := sum_take_le (nat l) (j + 1)
          have hstep := fun ds => hto.step (ds := ds) HLEN.out hlt2
          rw [nat_getD] at hst
          rw [← HS.out] at hle
          have hcl : cs.length = L := by rw [HL.out]; exact hto.1
          have hL' := HL.out
          rw [← HS.out] at hL'
          clear hc hc2
          generalize l.getD j 0 = n at *
          generalize vs.getD j 0 = v at *
          obtain ⟨hn0, hn1⟩ := hn
          obtain ⟨m, rfl⟩ := Int.eq_ofNat_of_zero_le hn0
          rw [Int.toNat_natCast] at hst hstep
          generalize ((nat l).take j).sum = x at *
          have hkn : x + m ≤ 8 * L := by omega
          clear hL'
          have HSTEP := Lib.hid hstep
          clear hstep hfit hw
          have HST := Lib.hid hst
          have HCL := Lib.hid hcl
          clear hst hle hcl
          go_wp2_with fail
          refine (store_len cs L w1.heap.size L x m v _ HCL.out hown (by omega) hkn (by omega)).mono ?_
          rintro e w3 ⟨rfl, ds, hput, hown3, hgr, hsz3⟩
          have HSZ := Lib.hid hsz3
          clear hsz3
          go_wp2_with fail
          go_roundw
          case rel => exact ⟨j + 1, ds, by omega, by go_num, by rw [HST.out]; go_num, hown3, HSTEP.out ds hput, below_only hbz hgr (by have := HZ1.out; omega) hbz.size⟩
          case measure => simp [intOf]; omega
        · have hjl : j = l.length := by omega
          have HJ := Lib.hid hjl
          clear hjl
          go_wp2_with fail
          go_ret2
          have hto' := hto
          rw [HJ.out] at hto'
          have hcl : cs.length = L := by rw [HL.out]; exact hto.1
          exact ⟨w1.heap.size, cs, by rw [hcl]; rfl, by have := HZ1.out; omega, hto'.stop HLEN.out, hown, hbz⟩

set_option maxHeartbeats 1000000 in
theorem pack_no (l : List Int) (vs : List Nat) (a a2 : Option Addr) (c c2 B : Nat) (w : World) (h : Ro w B a (i64s l)) (h2 : Ro w B a2 (u64s vs)) (hl : l.length ≤ 1000) (hno : ¬ PackOk l vs) :
    Calls Tryz.prog 139 #[.slice a l.length c, .slice a2 vs.length c2] w fun e w' => e = .returned (.tuple #[.slice none 0 0, .bool false]) ∧ Below w.heap.size w w' := by
  have hspan := span_any l a c B w h (by omega)
  rcases ht : spanOf l with _ | t
  · rw [ht] at hspan
    simp only [Option.getD_none, Option.isSome_none] at hspan
    clear ht
    go_enter Tryz.func139, Tryz.ntmps139
    go_wp2_with fail
    refine hspan.mono ?_
    rintro e w' ⟨rfl, rfl⟩
    clear hspan
    go_wp2_with fail
    go_ret2
    exact ⟨rfl, Below.refl _ _⟩
  rw [ht] at hspan
  simp only [Option.getD_some, Option.isSome_some] at hspan
  obtain ⟨hw, _⟩ := spanOf_some ht
  by_cases hlen : l.length = vs.length
  · have hno2 : ¬ ∀ i, i < l.length → vs.getD i 0 < 2 ^ (l.getD i 0).toNat := fun hh => hno ⟨by rw [ht]; rfl, hlen, hh⟩
    clear ht
    have HLEN := Lib.hid hlen
    rw [← hlen]
    clear hlen
    go_enter Tryz.func139, Tryz.ntmps139
    go_wp2_with fail
    refine hspan.mono ?_
    rintro e w' ⟨rfl, rfl⟩
    clear hspan
    go_wp2_with fail
    go_loopw [30] (fun i wr => ∃ k : Nat, k ≤ l.length ∧ i = .int .i64 (k : Int) ∧ Qt w wr ∧ ∀ i, i < k → vs.getD i 0 < 2 ^ (l.getD i 0).toNat) (fun i _ => l.length - (intOf i).toNat)
    case atStart => exact ⟨0, by omega, by simp, Qt.refl _, by omega⟩
    case round =>
      obtain ⟨k, hk, rfl, hq, hfit⟩ := hrel
      by_cases hlt : k < l.length
      · obtain ⟨b, off, rfl, hb, hc⟩ := (h.qt hq).i64 (by omega)
        obtain ⟨b2, off2, rfl, hb2, hc2⟩ := (h2.qt hq).u64 (by have := HLEN.out; omega)
        have hcell := hc k hlt
        have hcell2 := hc2 k (by have := HLEN.out; omega)
        have hn := hw k hlt
        have hnext : vs.getD k 0 < 2 ^ (l.getD k 0).toNat → ∀ i, i < k + 1 → vs.getD i 0 < 2 ^ (l.getD i 0).toNat := fun hx i hi => by
          by_cases e : i = k
          · rw [e]; exact hx
          · exact hfit i (by omega)
        have HN := Lib.hid hnext
        clear hc hc2 hnext hfit
        generalize l.getD k 0 = n at *
        generalize vs.getD k 0 = v at *
        obtain ⟨hn0, hn1⟩ := hn
        by_cases hv : v < 2 ^ n.toNat
        · have hvi : (v : Int) < 2 ^ n.toNat := by
            have : ((v : Nat) : Int) < ((2 ^ n.toNat : Nat) : Int) := by omega
            simpa using this
          have HV := Lib.hid (HN.out hv)
          go_wp2_with fail
          go_quiet ((go_at_call 150; exact Calls.quiet_of_same (lowest_fit _ _ _ hn0 hn1 (by omega) hvi)))
          go_wp2_with fail
          go_roundw
          case rel => exact ⟨k + 1, by omega, by go_num, hq.add _, HV.out⟩
          case measure => simp [intOf]; omega
        · obtain ⟨r, hr⟩ : ∃ r, r = (v : Int) % 2 ^ n.toNat := ⟨_, rfl⟩
          have hne : ((v : Int) != r) = true := by
            have h0 : 0 < 2 ^ n.toNat := Nat.pow_pos (by omega)
            have h1 : v % 2 ^ n.toNat < 2 ^ n.toNat := Nat.mod_lt _ h0
            have h3 : r = ((v % 2 ^ n.toNat : Nat) : Int) := by rw [hr]; simp
            rw [bne_iff_ne, h3]
            omega
          have HR := Lib.hid hr
          clear hr
          go_wp2_with fail
          go_quiet ((go_at_call 150; exact Calls.quiet_of_same (lowest_over _ _ r _ hn0 hn1 HR.out)))
          go_wp2_with fail
          go_ret2
          exact ⟨rfl, (hq.add _).below (Below.refl _ _)⟩
      · exact absurd (fun i hi => hfit i (by omega)) hno2
  · have hne : ((l.length : Int) != (vs.length : Int)) = true := by rw [bne_iff_ne]; omega
    clear ht
    go_enter Tryz.func139, Tryz.ntmps139
    go_wp2_with fail
    refine hspan.mono ?_
    rintro e w' ⟨rfl, rfl⟩
    clear hspan
    go_wp2_with fail
    go_ret2
    exact ⟨rfl, Below.refl _ _⟩
end Go.Proofs.YtihbinphmlgjoaaGreat
namespace Go.Proofs.YtihbinphmlgjoaaGreat
open Go.RowKit Go.Deep
set_option linter.unusedVariables false
set_option linter.unusedSimpArgs false

theorem join_int (h l n : Nat) (hn : n ≤ 64) (hh : h * 2 ^ n < 18446744073709551616) (hl : l < 2 ^ n) :
    bits BinOp.or IntKind.u64 (IntKind.u64.wrap ((h : Int) * 2 ^ n)) (l : Int) = ((h * 2 ^ n + l : Nat) : Int) := by
  have e : ((h : Int) * 2 ^ n) = ((h * 2 ^ n : Nat) : Int) := by simp
  have h3 := pow_le_64 hn
  rw [e, wrap_u64_nat _ hh, u64_or_nat _ _ hh (by omega), nat_join n _ _ (Nat.mul_mod_left _ _) hl]

/-- what the encoding of data says ahead of the Backs, as one number -/
def headN (nbP nd : Nat) : Nat := (1 * 2 ^ 3 + nbP) * 2 ^ 7 + nd
/-- a Back as one number -/
def fieldN (b : Bk) : Nat := (b.1.toNat * 2 ^ 21 + min b.2.1 1048576) * 2 ^ 21 + min b.2.2 1048576
/-- an address out of its bits -/
def lst (a : Nat) : Nat := if a = 1048576 then 18446744073709551615 else a
/-- a Back out of its number -/
def backN (f : Nat) : Bk := (((f / 2 ^ 21 / 2 ^ 21 : Nat) : Int), lst (f / 2 ^ 21 % 2 ^ 21), lst (f % 2 ^ 21))

end Go.Proofs.YtihbinphmlgjoaaGreat
namespace Go.Proofs.YtihbinphmlgjoaaGreat
open Go.RowKit Go.Deep
set_option linter.unusedVariables false
set_option linter.unusedSimpArgs false

end Go.Proofs.YtihbinphmlgjoaaGreat
namespace Go.Proofs.YtihbinphmlgjoaaGreat
open Go.RowKit Go.Deep Go.Shelf
set_option linter.unusedVariables false
set_option linter.unusedSimpArgs false

/-- an address that may not come, the ones below m being free -/
def lbad (m x : Nat) : Bool := if x = 18446744073709551615 then false else decide (m ≤ x)
/-- what is free behind it -/
def nlim (x : Nat) : Nat := if x = 18446744073709551615 then 0 else x
/-- what is free ahead of the k-th -/
def lim (l : List Nat) (k : Nat) : Nat := if k = 0 then 1048576 else nlim (l.getD (k - 1) 0)
/-- may these be a Back's? -/
def lastOk (b : Bk) : Bool := !anyN (fun k => lbad (lim [b.2.1, b.2.2] k) ([b.2.1, b.2.2].getD k 0)) 2
theorem lastOk_iff {b : Bk} : lastOk b = true ↔ (b.2.1 = 18446744073709551615 ∨ b.2.1 < 1048576) ∧ (b.2.2 = 18446744073709551615 ∨ b.2.1 ≠ 18446744073709551615 ∧ b.2.2 < b.2.1) := by
  obtain ⟨s, p, q⟩ := b
  unfold lastOk
  rw [Bool.not_eq_true', anyN_false]
  constructor
  · intro h
    have h0 := h 0 (by omega)
    have h1 := h 1 (by omega)
    simp [lbad, lim, nlim] at h0 h1
    show (p = _ ∨ p < _) ∧ (q = _ ∨ p ≠ _ ∧ q < p)
    split at h1 <;> omega
  · intro h j hj
    replace h : (p = 18446744073709551615 ∨ p < 1048576) ∧ (q = 18446744073709551615 ∨ p ≠ 18446744073709551615 ∧ q < p) := h
    have hj' : j = 0 ∨ j = 1 := by omega
    rcases hj' with rfl | rfl
    · simp [lbad, lim]
      omega
    · simp [lbad, lim, nlim]
      split <;> omega
/-- the least stream that may come ahead of the k-th -/
def least (L : List Bk) (k : Nat) : Int := if k = 0 then 0 else wrap64 ((bk L (k - 1)).1 + 1)
/-- a Back that may not come -/
def bbad (m : Int) (b : Bk) : Bool := decide (b.1 < m) || decide (16 ≤ b.1) || !lastOk b
/-- may these be a cell's? -/
def backsOk (L : List Bk) : Bool := !anyN (fun k => bbad (least L k) (bk L k)) L.length
/-- is a cell valid? -/
def right (x : Ce) : Bool := if x.k = 2 then decide (x.d.length = 0 ∧ x.b.length = 0) else if x.k = 1 then decide (x.d.length ≤ 100 ∧ x.b.length ≤ 4) && backsOk x.b else false

end Go.Proofs.YtihbinphmlgjoaaGreat
namespace Go.Proofs.YtihbinphmlgjoaaGreat
open Go.RowKit Go.Deep
set_option linter.unusedVariables false
set_option linter.unusedSimpArgs false

theorem Tryz.info_i64 : (Tryz.prog.info? 3).map (fun i => (i.zero, i.size, i.bytes)) = some (some (.int .i64 0), 1, 8) := by kernel_rfl
theorem Tryz.size_i64 : (Tryz.prog.info? 3).map (·.size) = some 1 := by kernel_rfl
theorem made_i64s (n : Nat) : madeCells #[.int .i64 0] n = (i64s (List.replicate n 0)).toArray := by
  apply Array.ext
  · simp [size_madeCells, i64s]
  · intro i h1 h2
    simp [madeCells, i64s, Nat.mod_one]
theorem own_madei (w : World) (n : Nat) : Own (w.alloc (.cells (madeCells #[.int .i64 0] n) 3)) w.heap.size 3 (i64s (List.replicate n 0)) := by
  rw [made_i64s]
  exact Own.new w 3 _
theorem i64s_oneCell (bs : List Int) : ∀ v ∈ i64s bs, v.oneCell' = true := by
  intro v hv
  simp only [i64s, List.mem_map] at hv
  obtain ⟨x, _, rfl⟩ := hv
  rfl
/-- the row on the way: k of n are laid -/
def rpt (x : Int) (n k : Nat) : List Int := List.replicate k x ++ List.replicate (n - k) 0
theorem rpt_zero (x : Int) (n : Nat) : rpt x n 0 = List.replicate n 0 := by simp [rpt]
theorem rpt_full (x : Int) (n : Nat) : rpt x n n = List.replicate n x := by simp [rpt]
@[simp] theorem rpt_length (x : Int) (n k : Nat) (h : k ≤ n) : (rpt x n k).length = n := by simp [rpt]; omega
theorem rpt_step (x : Int) (n k m : Nat) (h : k + m ≤ n) : splice (i64s (rpt x n k)) k (i64s (List.replicate m x)) = i64s (rpt x n (k + m)) := by
  unfold splice rpt i64s
  simp only [List.map_append, List.map_replicate, List.length_replicate]
  rw [List.take_append_of_le_length (by simp), List.take_of_length_le (by simp), List.drop_append, List.drop_of_length_le (by simp)]
  simp only [List.length_replicate, List.drop_replicate, List.nil_append]
  rw [show n - k - (k + m - k) = n - (k + m) by omega, ← List.append_assoc, List.replicate_append_replicate]
theorem Own.lst {w : World} {g base : Nat} {e : TypeId} {xs : List Value} (h : Own w g e xs) (hb : base ≤ g) (n : Nat) (hn : xs.length = n) (hm : n ≤ maxLen) : Lst w base e (.slice (some ⟨g, 0, none⟩) n n) xs := by
  subst hn
  exact ⟨by simp, .inr ⟨g, xs.length, xs.toArray, rfl, hb, h, Nat.le_refl _, hm, by simp, by simp⟩⟩
/-- the widths of so many Backs, and of what is ahead -/
def wid (n : Nat) : List Int := 12 :: List.replicate n 46
end Go.Proofs.YtihbinphmlgjoaaGreat
